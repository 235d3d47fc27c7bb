/- Contracts of functions that the laws of this chapter call, packed. -/
import Derived.BigQuiet
import Derived.Deep.Cut
import Derived.Deep.CutRange
import Derived.Test.YtceiocdemhkcdaaLeastMath
import Derived.Test.YtceiocdemhkcdaaFrac
import Derived.Test.YtceiocdemhkcdaaRegion
import Derived.Test.YtceiocdemhkcdaaRgA
import Derived.Test.YtceiocdemhkcdaaItemDel
import Derived.Test.YtceiocdemhkcdaaOwnLow
import Derived.Test.YtceiocdemhkcdaaRegGreedy
import Derived.Deep.CutBlock
import Derived.Test.YtceiocdemhkcdaaRegFacts
namespace Go.Proofs.Ytceiocdemhkcdaa.num
set_option maxRecDepth 20000
open Go.RowKit
set_option linter.unusedVariables false
set_option linter.unusedSimpArgs false

/-- An item in a box of its own. -/
def ItX (w : World) (g : Nat) (t : It) : Prop := w.heap[g]? = some (.cells #[.int .i64 t.id, .slice t.A t.n t.c] 43 (0, 0))
theorem ItX.lt {w : World} {g : Nat} {t : It} (h : ItX w g t) : g < w.heap.size := (Array.getElem?_eq_some_iff.1 h).1
theorem ItX.below {w w' : World} {g : Nat} {t : It} (h : ItX w g t) (hb : Below w.heap.size w w') : ItX w' g t := (hb.block g h.lt).trans h
theorem ItX.new (w : World) (t : It) : ItX (w.alloc (.cells #[.int .i64 t.id, .slice t.A t.n t.c] 43)) w.heap.size t := heap_alloc_new w _
theorem ItX.set {w : World} {g : Nat} {t : It} (h : ItX w g t) (u : It) : ItX ((w.setCell ⟨g, 0, none⟩ (.int .i64 u.id)).setCell ⟨g, 1, none⟩ (.slice u.A u.n u.c)) g u := by
  have h := heap_setCell_same _ g 1 _ _ (.slice u.A u.n u.c) (heap_setCell_same w g 0 _ _ (.int .i64 u.id) h)
  unfold ItX
  simpa using h
theorem ItX.other {w : World} {g g' : Nat} {t : It} (h : ItX w g t) (hne : g' ≠ g) (u v : Value) : ItX ((w.setCell ⟨g', 0, none⟩ u).setCell ⟨g', 1, none⟩ v) g t := by
  unfold ItX
  rw [heap_setCell_other _ _ _ _ (fun e => hne e.symm), heap_setCell_other _ _ _ _ (fun e => hne e.symm)]
  exact h
theorem ItX.cells {w : World} {g : Nat} {t : It} (h : ItX w g t) : w.cell? ⟨g, 0, none⟩ = some (.int .i64 t.id) ∧ w.cell? ⟨g, 1, none⟩ = some (.slice t.A t.n t.c) ∧ w.frozen? ⟨g, 0, none⟩ = false ∧ w.frozen? ⟨g, 1, none⟩ = false := by
  unfold ItX at h
  refine ⟨?_, ?_, ?_, ?_⟩ <;> simp [World.cell?, World.frozen?, h]
theorem below_set2 {w w' : World} {B g : Nat} (h : Below B w w') (hg : B ≤ g) (u v : Value) : Below B w ((w'.setCell ⟨g, 0, none⟩ u).setCell ⟨g, 1, none⟩ v) := (h.setCell (p := ⟨g, 0, none⟩) hg u).setCell (p := ⟨g, 1, none⟩) hg v
theorem cell_set2 {w : World} {g g' o : Nat} {v : Value} (hne : g ≠ g') (h : w.cell? ⟨g', o, none⟩ = some v) (u1 u2 : Value) : ((w.setCell ⟨g, 0, none⟩ u1).setCell ⟨g, 1, none⟩ u2).cell? ⟨g', o, none⟩ = some v :=
  (World.cell?_setCell_far _ ⟨g, 1, none⟩ ⟨g', o, none⟩ _ hne).trans ((World.cell?_setCell_far _ ⟨g, 0, none⟩ ⟨g', o, none⟩ _ hne).trans h)
/-- What the walk of the rest leans on. -/
structure LtS (w : World) (its : List It) (fr : It → Fr) (g6 g7 k : Nat) (y : It) (wr : World) : Prop where
  best : bestF fr (its.take (k + 1)) = some y
  i : ItX wr g6 y
  f : FrB wr g7 (fr y)
  i0 : ItX wr w.heap.size ⟨0, none, 0, 0, []⟩
  f0 : FrB wr (w.heap.size + 1) ⟨0, 0⟩
  ne : g6 ≠ g7
  l6 : w.heap.size + 2 ≤ g6
  l7 : w.heap.size + 2 ≤ g7
  b : Below w.heap.size w wr
theorem LtS.step {w wr w' : World} {its : List It} {fr : It → Fr} {g6 g7 k : Nat} {y : It} (h : LtS w its fr g6 g7 k y wr) (hb : Below wr.heap.size wr w') : LtS w its fr g6 g7 k y w' :=
  ⟨h.best, h.i.below hb, h.f.below hb, h.i0.below hb, h.f0.below hb, h.ne, h.l6, h.l7, below_on h.b hb⟩
theorem LtS.put {w wr : World} {its : List It} {fr : It → Fr} {g6 g7 k : Nat} {y x : It} (h : LtS w its fr g6 g7 k y wr) (hb : bestF fr (its.take (k + 1 + 1)) = some x) :
    LtS w its fr g6 g7 (k + 1) x ((((wr.setCell ⟨g6, 0, none⟩ (.int .i64 x.id)).setCell ⟨g6, 1, none⟩ (.slice x.A x.n x.c)).setCell ⟨g7, 0, none⟩ (.int .i64 (fr x).num)).setCell ⟨g7, 1, none⟩ (.int .i64 (fr x).den)) := by
  have h6 := h.l6
  have h7 := h.l7
  exact ⟨hb, (h.i.set x).other (fun e => h.ne e.symm) _ _, (h.f.other h.ne _ _).set _ _, (h.i0.other (by omega) _ _).other (by omega) _ _, (h.f0.other (by omega) _ _).other (by omega) _ _, h.ne, h6, h7, below_set2 (below_set2 h.b (by omega) _ _) (by omega) _ _⟩
theorem LtS.keep {w wr : World} {its : List It} {fr : It → Fr} {g6 g7 k : Nat} {y : It} (h : LtS w its fr g6 g7 k y wr) (hb : bestF fr (its.take (k + 1 + 1)) = some y) : LtS w its fr g6 g7 (k + 1) y wr :=
  ⟨hb, h.i, h.f, h.i0, h.f0, h.ne, h.l6, h.l7, h.b⟩
set_option maxRecDepth 20000 in
set_option maxHeartbeats 6400000 in
theorem iLeastT (w : World) (A : Option Addr) (n c : Nat) (its : List It) (h : ReadG itCs 2 w w.heap.size A n its) (h0 : 0 < n) (hn : n ≤ 1048576) (hnc : n ≤ c) (hcm : c ≤ 9223372036854775807) (fn : Nat) (cb : Array Value) (eg : ∀ args w, (callFunc fn args).run Try.prog w = .ok (.enter fn args) w) (fr : It → Fr) (hsm : ∀ x ∈ its, (fr x).Small)
    (HC : ∀ W, Below w.heap.size w W → ∀ x ∈ its, Calls Try.prog fn (#[.agg #[.int .i64 x.id, .slice x.A x.n x.c]] ++ cb) W fun e w' => e = .returned (.agg #[.int .i64 (fr x).num, .int .i64 (fr x).den]) ∧ Below W.heap.size W w') :
    Calls Try.prog 58 #[.slice A n c, .func (.func fn) #[] cb] w fun e w' => (∃ x, bestF fr its = some x ∧ e = .returned (.tuple #[.agg #[.int .i64 x.id, .slice x.A x.n x.c], .agg #[.int .i64 (fr x).num, .int .i64 (fr x).den]])) ∧ Below w.heap.size w w' := by
  have HX := Lib.hid h
  have HF := Lib.hid HC
  have HSm := Lib.hid hsm
  have hl := h.len
  obtain ⟨b, off, x0, rfl, hb, hat0, hc0, hc1⟩ := it_at h (k := 0) h0
  rw [Nat.zero_mul, Nat.add_zero] at hc0 hc1
  have HA0 := Lib.hid hat0
  have HC0 : Hid (∀ W, Below w.heap.size w W → Calls Try.prog fn (#[.agg #[.int .i64 x0.id, .slice x0.A x0.n x0.c]] ++ cb) W fun e w' => e = .returned (.agg #[.int .i64 (fr x0).num, .int .i64 (fr x0).den]) ∧ Below W.heap.size W w') := Lib.hid fun W hW => HC W hW x0 (mem_of_at hat0)
  clear h HC hsm hat0
  obtain ⟨wR, hwR⟩ : ∃ wR, (w.alloc (.cells #[.int .i64 0, .slice none 0 0] 43)).alloc (.cells #[.int .i64 0, .int .i64 0] 63) = wR := ⟨_, rfl⟩
  have HBR : Hid (Below w.heap.size w wR) := Lib.hid (by rw [← hwR]; exact ((Below.refl _ w).alloc (Nat.le_refl _) _).alloc (by simp) _)
  have HI0 : Hid (ItX wR w.heap.size ⟨0, none, 0, 0, []⟩) := Lib.hid (by rw [← hwR]; exact (ItX.new w ⟨0, none, 0, 0, []⟩).below ((Below.refl _ _).alloc (Nat.le_refl _) _))
  have HF0 : Hid (FrB wR (w.heap.size + 1) ⟨0, 0⟩) := Lib.hid (by
    rw [← hwR]
    have h := FrB.new (w.alloc (.cells #[.int .i64 0, .slice none 0 0] 43)) ⟨0, 0⟩
    simpa only [World.size_alloc] using h)
  have f1 : wR.cell? ⟨b, off, none⟩ = some (.int .i64 x0.id) ∧ wR.cell? ⟨b, off + 1, none⟩ = some (.slice x0.A x0.n x0.c) := ⟨(HBR.out.cell (p := ⟨b, off, none⟩) hb).trans hc0, (HBR.out.cell (p := ⟨b, off + 1, none⟩) hb).trans hc1⟩
  have hbR : b < wR.heap.size := Nat.lt_of_lt_of_le hb HBR.out.size
  have hn0 : (0 : Int) < (n : Int) := by omega
  have HC1 := Lib.hid hc1
  clear hc0 hc1
  go_enter Try.func58, Try.ntmps58
  go_upto_region 1 with (fail)
  try rw [hwR]
  clear hwR
  go_cut [6, 7] from 11 to 18 (fun s6 s7 wx => ∃ g6 g7, s6 = .pointer (some ⟨g6, 0, none⟩) ∧ s7 = .pointer (some ⟨g7, 0, none⟩) ∧ ItX wx g6 x0 ∧ FrB wx g7 (fr x0) ∧ g6 ≠ g7 ∧ wR.heap.size ≤ g6 ∧ wR.heap.size ≤ g7 ∧ Below wR.heap.size wR wx)
  case first =>
    have hS0 : (fun w' => w'.cell? ⟨b, off, none⟩ = some (.int .i64 x0.id) ∧ w'.cell? ⟨b, off + 1, none⟩ = some (.slice x0.A x0.n x0.c)) wR.drew := f1
    refine wp_region_held (S := fun w' => w'.cell? ⟨b, off, none⟩ = some (.int .i64 x0.id) ∧ w'.cell? ⟨b, off + 1, none⟩ = some (.slice x0.A x0.n x0.c)) (by kernel_rfl) ?_
    change wpAnyH _ _ _ _ _ _ _ _ (World.drew _)
    have hBD0 : Below wR.heap.size wR wR.drew := (Below.refl _ wR).drew
    obtain ⟨wD, hwD⟩ : ∃ wD, World.drew wR = wD := ⟨_, rfl⟩
    rw [hwD] at hS0 ⊢
    have hBD : Below wR.heap.size wR wD := by rw [← hwD]; exact hBD0
    clear hwD hBD0
    refine takeY 11 (i := 0) (v := ?vx1) rfl rfl (by kernel_rfl) (by kernel_rfl) (by kernel_rfl) (fun _ _ _ h => h) (by kernel_rfl) ?yx1 hS0 ?_
    case yx1 =>
      intro w' hw'; (try dsimp only at hw'); obtain ⟨q1, q2⟩ := hw'; go_simp; try with_reducible rfl
    simp only [Act.put, List.setIfInBounds_toArray, List.set_cons_zero, List.set_cons_succ]
    refine takeY 12 (i := 1) (v := ?vx2) rfl rfl (by kernel_rfl) (by kernel_rfl) (by kernel_rfl) (fun _ _ _ h => h) (by kernel_rfl) ?yx2 hS0 ?_
    case yx2 =>
      intro w' hw'; (try dsimp only at hw'); obtain ⟨q1, q2⟩ := hw'; go_simp; try with_reducible rfl
    simp only [Act.put, List.setIfInBounds_toArray, List.set_cons_zero, List.set_cons_succ]
    refine takeY 13 (i := 2) (v := ?vx3) rfl rfl (by kernel_rfl) (by kernel_rfl) (by kernel_rfl) (fun _ _ _ h => h) (by kernel_rfl) ?yx3 hS0 ?_
    case yx3 =>
      intro w' hw'; (try dsimp only at hw'); obtain ⟨q1, q2⟩ := hw'; go_simp; try with_reducible rfl
    simp only [Act.put, List.setIfInBounds_toArray, List.set_cons_zero, List.set_cons_succ]
    refine takeY 14 (i := 3) (v := ?vx4) rfl rfl (by kernel_rfl) (by kernel_rfl) (by kernel_rfl) (fun _ _ _ h => h) (by kernel_rfl) ?yx4 hS0 ?_
    case yx4 =>
      intro w' hw'; (try dsimp only at hw'); obtain ⟨q1, q2⟩ := hw'; go_simp; try with_reducible rfl
    simp only [Act.put, List.setIfInBounds_toArray, List.set_cons_zero, List.set_cons_succ]
    refine takeY 15 (i := 4) (v := ?vx5) rfl rfl (by kernel_rfl) (by kernel_rfl) (by kernel_rfl) (fun _ _ _ h => h) (by kernel_rfl) ?yx5 hS0 ?_
    case yx5 =>
      intro w' hw'; (try dsimp only at hw'); obtain ⟨q1, q2⟩ := hw'; go_simp; try with_reducible rfl
    simp only [Act.put, List.setIfInBounds_toArray, List.set_cons_zero, List.set_cons_succ]
    refine takeY 16 (i := 5) (v := ?vx6) rfl rfl (by kernel_rfl) (by kernel_rfl) (by kernel_rfl) (fun _ _ _ h => h) (by kernel_rfl) ?yx6 hS0 ?_
    case yx6 =>
      intro w' hw'; (try dsimp only at hw'); obtain ⟨q1, q2⟩ := hw'; go_simp; try with_reducible rfl
    simp only [Act.put, List.setIfInBounds_toArray, List.set_cons_zero, List.set_cons_succ]
    refine takeY 17 (i := 6) (v := ?vx7) rfl rfl (by kernel_rfl) (by kernel_rfl) (by kernel_rfl) (fun _ _ _ h => h) (by kernel_rfl) ?yx7 hS0 ?_
    case yx7 =>
      intro w' hw'; (try dsimp only at hw'); obtain ⟨q1, q2⟩ := hw'; go_simp; try with_reducible rfl
    simp only [Act.put, List.setIfInBounds_toArray, List.set_cons_zero, List.set_cons_succ]
    refine wpAnyH_ready (rs := [7, 8, 9]) (by kernel_rfl) (by simp) ?_
    refine (AllReadyH.cons rfl (fun K hK => ?_) (AllReadyH.cons rfl (fun K hK => ?_) (AllReadyH.cons rfl (fun K hK => ?_) AllReadyH.nil)))
    · go_simp
      go_at_fn fn
      refine (HC0.out _ (below_on HBR.out hBD)).mono ?_
      rintro e w1 ⟨rfl, hb1⟩
      have hB1 : Below wR.heap.size wR w1 := below_on hBD hb1
      refine hK.out _ _ (⟨(hB1.cell (p := ⟨b, off, none⟩) hbR).trans f1.1, (hB1.cell (p := ⟨b, off + 1, none⟩) hbR).trans f1.2⟩) (fun hS1 => ?_)
      clear hK K
      try simp only [Act.put, List.setIfInBounds_toArray, List.set_cons_zero, List.set_cons_succ]
      clear hb1
      refine wpAnyH_ready (rs := [8, 9]) (by kernel_rfl) (by simp) ?_
      refine (AllReadyH.cons rfl (fun K hK => ?_) (AllReadyH.cons rfl (fun K hK => ?_) AllReadyH.nil))
      · go_simp
        refine hK.out _ _ (⟨((hB1.alloc hB1.size _).cell (p := ⟨b, off, none⟩) hbR).trans f1.1, ((hB1.alloc hB1.size _).cell (p := ⟨b, off + 1, none⟩) hbR).trans f1.2⟩) (fun hS2 => ?_)
        clear hK K
        try simp only [Act.put, List.setIfInBounds_toArray, List.set_cons_zero, List.set_cons_succ]
        obtain ⟨w2, hw2⟩ : ∃ w', World.alloc w1 (.cells #[.int .i64 0, .slice none 0 0] 43) = w' := ⟨_, rfl⟩
        have hB2 : Below wR.heap.size wR w2 := by rw [← hw2]; exact hB1.alloc hB1.size _
        have hb2 : Below w1.heap.size w1 w2 := by rw [← hw2]; exact (Below.refl _ _).alloc (Nat.le_refl _) _
        have hI2 : ItX w2 (w1.heap.size) ⟨0, none, 0, 0, []⟩ := by rw [← hw2]; exact ItX.new w1 ⟨0, none, 0, 0, []⟩
        try rw [hw2]
        try rw [hw2] at hS2
        clear hw2 hb2
        have hghI : wR.heap.size ≤ w1.heap.size := hB1.size
        refine wpAnyH_ready (rs := [9]) (by kernel_rfl) (by simp) ?_
        refine (AllReadyH.cons rfl (fun K hK => ?_) AllReadyH.nil)
        go_simp
        refine hK.out _ _ (⟨((hB2.alloc hB2.size _).cell (p := ⟨b, off, none⟩) hbR).trans f1.1, ((hB2.alloc hB2.size _).cell (p := ⟨b, off + 1, none⟩) hbR).trans f1.2⟩) (fun hS3 => ?_)
        clear hK K
        try simp only [Act.put, List.setIfInBounds_toArray, List.set_cons_zero, List.set_cons_succ]
        obtain ⟨w3, hw3⟩ : ∃ w', World.alloc w2 (.cells #[.int .i64 0, .int .i64 0] 63) = w' := ⟨_, rfl⟩
        have hB3 : Below wR.heap.size wR w3 := by rw [← hw3]; exact hB2.alloc hB2.size _
        have hb3 : Below w2.heap.size w2 w3 := by rw [← hw3]; exact (Below.refl _ _).alloc (Nat.le_refl _) _
        have hI3 := hI2.below hb3
        have hF3 : FrB w3 (w2.heap.size) ⟨0, 0⟩ := by rw [← hw3]; exact FrB.new w2 ⟨0, 0⟩
        try rw [hw3]
        try rw [hw3] at hS3
        clear hw3 hb3
        have hghF : wR.heap.size ≤ w2.heap.size := hB2.size
        have hne : w1.heap.size ≠ w2.heap.size := by have h1 := hI2.lt; omega
        obtain ⟨c0, c1, z0, z1⟩ := hI3.cells
        obtain ⟨c2, c3, z2, z3⟩ := hF3.cells
        have hne' : w2.heap.size ≠ w1.heap.size := fun e => hne e.symm
        refine wpAnyH_ready (rs := [10]) (by kernel_rfl) (by simp) ?_
        refine (AllReadyH.cons rfl (fun K hK => ?_) AllReadyH.nil)
        go_simp
        refine hK.out _ _ (⟨((below_set2 hB3 hghI _ _).cell (p := ⟨b, off, none⟩) hbR).trans f1.1, ((below_set2 hB3 hghI _ _).cell (p := ⟨b, off + 1, none⟩) hbR).trans f1.2⟩) (fun hS4 => ?_)
        clear hK K
        try simp only [Act.put, List.setIfInBounds_toArray, List.set_cons_zero, List.set_cons_succ]
        refine wpAnyH_ready (rs := [11]) (by kernel_rfl) (by simp) ?_
        refine (AllReadyH.cons rfl (fun K hK => ?_) AllReadyH.nil)
        go_simp
        refine hK.out _ _ (⟨((below_set2 (below_set2 hB3 hghI _ _) hghF _ _).cell (p := ⟨b, off, none⟩) hbR).trans f1.1, ((below_set2 (below_set2 hB3 hghI _ _) hghF _ _).cell (p := ⟨b, off + 1, none⟩) hbR).trans f1.2⟩) (fun hS5 => ?_)
        clear hK K
        try simp only [Act.put, List.setIfInBounds_toArray, List.set_cons_zero, List.set_cons_succ]
        refine wpAnyH_done (by kernel_rfl) ?_ _
        go_wp2
        go_meet
        exact ⟨w1.heap.size, w2.heap.size, rfl, rfl, (hI3.set x0).other hne' _ _, (hF3.other hne _ _).set _ _, hne, hghI, hghF, (below_set2 (below_set2 hB3 hghI _ _) hghF _ _)⟩
      · go_simp
        refine hK.out _ _ (⟨((hB1.alloc hB1.size _).cell (p := ⟨b, off, none⟩) hbR).trans f1.1, ((hB1.alloc hB1.size _).cell (p := ⟨b, off + 1, none⟩) hbR).trans f1.2⟩) (fun hS6 => ?_)
        clear hK K
        try simp only [Act.put, List.setIfInBounds_toArray, List.set_cons_zero, List.set_cons_succ]
        obtain ⟨w6, hw6⟩ : ∃ w', World.alloc w1 (.cells #[.int .i64 0, .int .i64 0] 63) = w' := ⟨_, rfl⟩
        have hB6 : Below wR.heap.size wR w6 := by rw [← hw6]; exact hB1.alloc hB1.size _
        have hb6 : Below w1.heap.size w1 w6 := by rw [← hw6]; exact (Below.refl _ _).alloc (Nat.le_refl _) _
        have hF6 : FrB w6 (w1.heap.size) ⟨0, 0⟩ := by rw [← hw6]; exact FrB.new w1 ⟨0, 0⟩
        try rw [hw6]
        try rw [hw6] at hS6
        clear hw6 hb6
        have hghF : wR.heap.size ≤ w1.heap.size := hB1.size
        refine wpAnyH_ready (rs := [8]) (by kernel_rfl) (by simp) ?_
        refine (AllReadyH.cons rfl (fun K hK => ?_) AllReadyH.nil)
        go_simp
        refine hK.out _ _ (⟨((hB6.alloc hB6.size _).cell (p := ⟨b, off, none⟩) hbR).trans f1.1, ((hB6.alloc hB6.size _).cell (p := ⟨b, off + 1, none⟩) hbR).trans f1.2⟩) (fun hS7 => ?_)
        clear hK K
        try simp only [Act.put, List.setIfInBounds_toArray, List.set_cons_zero, List.set_cons_succ]
        obtain ⟨w7, hw7⟩ : ∃ w', World.alloc w6 (.cells #[.int .i64 0, .slice none 0 0] 43) = w' := ⟨_, rfl⟩
        have hB7 : Below wR.heap.size wR w7 := by rw [← hw7]; exact hB6.alloc hB6.size _
        have hb7 : Below w6.heap.size w6 w7 := by rw [← hw7]; exact (Below.refl _ _).alloc (Nat.le_refl _) _
        have hF7 := hF6.below hb7
        have hI7 : ItX w7 (w6.heap.size) ⟨0, none, 0, 0, []⟩ := by rw [← hw7]; exact ItX.new w6 ⟨0, none, 0, 0, []⟩
        try rw [hw7]
        try rw [hw7] at hS7
        clear hw7 hb7
        have hghI : wR.heap.size ≤ w6.heap.size := hB6.size
        have hne : w6.heap.size ≠ w1.heap.size := by have h1 := hF6.lt; omega
        obtain ⟨c0, c1, z0, z1⟩ := hI7.cells
        obtain ⟨c2, c3, z2, z3⟩ := hF7.cells
        have hne' : w1.heap.size ≠ w6.heap.size := fun e => hne e.symm
        refine wpAnyH_ready (rs := [10]) (by kernel_rfl) (by simp) ?_
        refine (AllReadyH.cons rfl (fun K hK => ?_) AllReadyH.nil)
        go_simp
        refine hK.out _ _ (⟨((below_set2 hB7 hghI _ _).cell (p := ⟨b, off, none⟩) hbR).trans f1.1, ((below_set2 hB7 hghI _ _).cell (p := ⟨b, off + 1, none⟩) hbR).trans f1.2⟩) (fun hS8 => ?_)
        clear hK K
        try simp only [Act.put, List.setIfInBounds_toArray, List.set_cons_zero, List.set_cons_succ]
        refine wpAnyH_ready (rs := [11]) (by kernel_rfl) (by simp) ?_
        refine (AllReadyH.cons rfl (fun K hK => ?_) AllReadyH.nil)
        go_simp
        refine hK.out _ _ (⟨((below_set2 (below_set2 hB7 hghI _ _) hghF _ _).cell (p := ⟨b, off, none⟩) hbR).trans f1.1, ((below_set2 (below_set2 hB7 hghI _ _) hghF _ _).cell (p := ⟨b, off + 1, none⟩) hbR).trans f1.2⟩) (fun hS9 => ?_)
        clear hK K
        try simp only [Act.put, List.setIfInBounds_toArray, List.set_cons_zero, List.set_cons_succ]
        refine wpAnyH_done (by kernel_rfl) ?_ _
        go_wp2
        go_meet
        exact ⟨w6.heap.size, w1.heap.size, rfl, rfl, (hI7.set x0).other hne' _ _, (hF7.other hne _ _).set _ _, hne, hghI, hghF, (below_set2 (below_set2 hB7 hghI _ _) hghF _ _)⟩
    · go_simp
      refine hK.out _ _ (⟨((hBD.alloc hBD.size _).cell (p := ⟨b, off, none⟩) hbR).trans f1.1, ((hBD.alloc hBD.size _).cell (p := ⟨b, off + 1, none⟩) hbR).trans f1.2⟩) (fun hS10 => ?_)
      clear hK K
      try simp only [Act.put, List.setIfInBounds_toArray, List.set_cons_zero, List.set_cons_succ]
      obtain ⟨w10, hw10⟩ : ∃ w', World.alloc wD (.cells #[.int .i64 0, .slice none 0 0] 43) = w' := ⟨_, rfl⟩
      have hB10 : Below wR.heap.size wR w10 := by rw [← hw10]; exact hBD.alloc hBD.size _
      have hb10 : Below wD.heap.size wD w10 := by rw [← hw10]; exact (Below.refl _ _).alloc (Nat.le_refl _) _
      have hI10 : ItX w10 (wD.heap.size) ⟨0, none, 0, 0, []⟩ := by rw [← hw10]; exact ItX.new wD ⟨0, none, 0, 0, []⟩
      try rw [hw10]
      try rw [hw10] at hS10
      clear hw10 hb10
      have hghI : wR.heap.size ≤ wD.heap.size := hBD.size
      refine wpAnyH_ready (rs := [7, 9]) (by kernel_rfl) (by simp) ?_
      refine (AllReadyH.cons rfl (fun K hK => ?_) (AllReadyH.cons rfl (fun K hK => ?_) AllReadyH.nil))
      · go_simp
        go_at_fn fn
        refine (HC0.out _ (below_on HBR.out hB10)).mono ?_
        rintro e w11 ⟨rfl, hb11⟩
        have hB11 : Below wR.heap.size wR w11 := below_on hB10 hb11
        refine hK.out _ _ (⟨(hB11.cell (p := ⟨b, off, none⟩) hbR).trans f1.1, (hB11.cell (p := ⟨b, off + 1, none⟩) hbR).trans f1.2⟩) (fun hS11 => ?_)
        clear hK K
        try simp only [Act.put, List.setIfInBounds_toArray, List.set_cons_zero, List.set_cons_succ]
        have hI11 := hI10.below hb11
        clear hb11
        refine wpAnyH_ready (rs := [9]) (by kernel_rfl) (by simp) ?_
        refine (AllReadyH.cons rfl (fun K hK => ?_) AllReadyH.nil)
        go_simp
        refine hK.out _ _ (⟨((hB11.alloc hB11.size _).cell (p := ⟨b, off, none⟩) hbR).trans f1.1, ((hB11.alloc hB11.size _).cell (p := ⟨b, off + 1, none⟩) hbR).trans f1.2⟩) (fun hS12 => ?_)
        clear hK K
        try simp only [Act.put, List.setIfInBounds_toArray, List.set_cons_zero, List.set_cons_succ]
        obtain ⟨w12, hw12⟩ : ∃ w', World.alloc w11 (.cells #[.int .i64 0, .int .i64 0] 63) = w' := ⟨_, rfl⟩
        have hB12 : Below wR.heap.size wR w12 := by rw [← hw12]; exact hB11.alloc hB11.size _
        have hb12 : Below w11.heap.size w11 w12 := by rw [← hw12]; exact (Below.refl _ _).alloc (Nat.le_refl _) _
        have hI12 := hI11.below hb12
        have hF12 : FrB w12 (w11.heap.size) ⟨0, 0⟩ := by rw [← hw12]; exact FrB.new w11 ⟨0, 0⟩
        try rw [hw12]
        try rw [hw12] at hS12
        clear hw12 hb12
        have hghF : wR.heap.size ≤ w11.heap.size := hB11.size
        have hne : wD.heap.size ≠ w11.heap.size := by have h1 := hI11.lt; omega
        obtain ⟨c0, c1, z0, z1⟩ := hI12.cells
        obtain ⟨c2, c3, z2, z3⟩ := hF12.cells
        have hne' : w11.heap.size ≠ wD.heap.size := fun e => hne e.symm
        refine wpAnyH_ready (rs := [10]) (by kernel_rfl) (by simp) ?_
        refine (AllReadyH.cons rfl (fun K hK => ?_) AllReadyH.nil)
        go_simp
        refine hK.out _ _ (⟨((below_set2 hB12 hghI _ _).cell (p := ⟨b, off, none⟩) hbR).trans f1.1, ((below_set2 hB12 hghI _ _).cell (p := ⟨b, off + 1, none⟩) hbR).trans f1.2⟩) (fun hS13 => ?_)
        clear hK K
        try simp only [Act.put, List.setIfInBounds_toArray, List.set_cons_zero, List.set_cons_succ]
        refine wpAnyH_ready (rs := [11]) (by kernel_rfl) (by simp) ?_
        refine (AllReadyH.cons rfl (fun K hK => ?_) AllReadyH.nil)
        go_simp
        refine hK.out _ _ (⟨((below_set2 (below_set2 hB12 hghI _ _) hghF _ _).cell (p := ⟨b, off, none⟩) hbR).trans f1.1, ((below_set2 (below_set2 hB12 hghI _ _) hghF _ _).cell (p := ⟨b, off + 1, none⟩) hbR).trans f1.2⟩) (fun hS14 => ?_)
        clear hK K
        try simp only [Act.put, List.setIfInBounds_toArray, List.set_cons_zero, List.set_cons_succ]
        refine wpAnyH_done (by kernel_rfl) ?_ _
        go_wp2
        go_meet
        exact ⟨wD.heap.size, w11.heap.size, rfl, rfl, (hI12.set x0).other hne' _ _, (hF12.other hne _ _).set _ _, hne, hghI, hghF, (below_set2 (below_set2 hB12 hghI _ _) hghF _ _)⟩
      · go_simp
        refine hK.out _ _ (⟨((hB10.alloc hB10.size _).cell (p := ⟨b, off, none⟩) hbR).trans f1.1, ((hB10.alloc hB10.size _).cell (p := ⟨b, off + 1, none⟩) hbR).trans f1.2⟩) (fun hS15 => ?_)
        clear hK K
        try simp only [Act.put, List.setIfInBounds_toArray, List.set_cons_zero, List.set_cons_succ]
        obtain ⟨w15, hw15⟩ : ∃ w', World.alloc w10 (.cells #[.int .i64 0, .int .i64 0] 63) = w' := ⟨_, rfl⟩
        have hB15 : Below wR.heap.size wR w15 := by rw [← hw15]; exact hB10.alloc hB10.size _
        have hb15 : Below w10.heap.size w10 w15 := by rw [← hw15]; exact (Below.refl _ _).alloc (Nat.le_refl _) _
        have hI15 := hI10.below hb15
        have hF15 : FrB w15 (w10.heap.size) ⟨0, 0⟩ := by rw [← hw15]; exact FrB.new w10 ⟨0, 0⟩
        try rw [hw15]
        try rw [hw15] at hS15
        clear hw15 hb15
        have hghF : wR.heap.size ≤ w10.heap.size := hB10.size
        have hne : wD.heap.size ≠ w10.heap.size := by have h1 := hI10.lt; omega
        refine wpAnyH_ready (rs := [7]) (by kernel_rfl) (by simp) ?_
        refine (AllReadyH.cons rfl (fun K hK => ?_) AllReadyH.nil)
        go_simp
        go_at_fn fn
        refine (HC0.out _ (below_on HBR.out hB15)).mono ?_
        rintro e w16 ⟨rfl, hb16⟩
        have hB16 : Below wR.heap.size wR w16 := below_on hB15 hb16
        refine hK.out _ _ (⟨(hB16.cell (p := ⟨b, off, none⟩) hbR).trans f1.1, (hB16.cell (p := ⟨b, off + 1, none⟩) hbR).trans f1.2⟩) (fun hS16 => ?_)
        clear hK K
        try simp only [Act.put, List.setIfInBounds_toArray, List.set_cons_zero, List.set_cons_succ]
        have hI16 := hI15.below hb16
        have hF16 := hF15.below hb16
        clear hb16
        obtain ⟨c0, c1, z0, z1⟩ := hI16.cells
        obtain ⟨c2, c3, z2, z3⟩ := hF16.cells
        have hne' : w10.heap.size ≠ wD.heap.size := fun e => hne e.symm
        refine wpAnyH_ready (rs := [10]) (by kernel_rfl) (by simp) ?_
        refine (AllReadyH.cons rfl (fun K hK => ?_) AllReadyH.nil)
        go_simp
        refine hK.out _ _ (⟨((below_set2 hB16 hghI _ _).cell (p := ⟨b, off, none⟩) hbR).trans f1.1, ((below_set2 hB16 hghI _ _).cell (p := ⟨b, off + 1, none⟩) hbR).trans f1.2⟩) (fun hS17 => ?_)
        clear hK K
        try simp only [Act.put, List.setIfInBounds_toArray, List.set_cons_zero, List.set_cons_succ]
        refine wpAnyH_ready (rs := [11]) (by kernel_rfl) (by simp) ?_
        refine (AllReadyH.cons rfl (fun K hK => ?_) AllReadyH.nil)
        go_simp
        refine hK.out _ _ (⟨((below_set2 (below_set2 hB16 hghI _ _) hghF _ _).cell (p := ⟨b, off, none⟩) hbR).trans f1.1, ((below_set2 (below_set2 hB16 hghI _ _) hghF _ _).cell (p := ⟨b, off + 1, none⟩) hbR).trans f1.2⟩) (fun hS18 => ?_)
        clear hK K
        try simp only [Act.put, List.setIfInBounds_toArray, List.set_cons_zero, List.set_cons_succ]
        refine wpAnyH_done (by kernel_rfl) ?_ _
        go_wp2
        go_meet
        exact ⟨wD.heap.size, w10.heap.size, rfl, rfl, (hI16.set x0).other hne' _ _, (hF16.other hne _ _).set _ _, hne, hghI, hghF, (below_set2 (below_set2 hB16 hghI _ _) hghF _ _)⟩
    · go_simp
      refine hK.out _ _ (⟨((hBD.alloc hBD.size _).cell (p := ⟨b, off, none⟩) hbR).trans f1.1, ((hBD.alloc hBD.size _).cell (p := ⟨b, off + 1, none⟩) hbR).trans f1.2⟩) (fun hS19 => ?_)
      clear hK K
      try simp only [Act.put, List.setIfInBounds_toArray, List.set_cons_zero, List.set_cons_succ]
      obtain ⟨w19, hw19⟩ : ∃ w', World.alloc wD (.cells #[.int .i64 0, .int .i64 0] 63) = w' := ⟨_, rfl⟩
      have hB19 : Below wR.heap.size wR w19 := by rw [← hw19]; exact hBD.alloc hBD.size _
      have hb19 : Below wD.heap.size wD w19 := by rw [← hw19]; exact (Below.refl _ _).alloc (Nat.le_refl _) _
      have hF19 : FrB w19 (wD.heap.size) ⟨0, 0⟩ := by rw [← hw19]; exact FrB.new wD ⟨0, 0⟩
      try rw [hw19]
      try rw [hw19] at hS19
      clear hw19 hb19
      have hghF : wR.heap.size ≤ wD.heap.size := hBD.size
      refine wpAnyH_ready (rs := [7, 8]) (by kernel_rfl) (by simp) ?_
      refine (AllReadyH.cons rfl (fun K hK => ?_) (AllReadyH.cons rfl (fun K hK => ?_) AllReadyH.nil))
      · go_simp
        go_at_fn fn
        refine (HC0.out _ (below_on HBR.out hB19)).mono ?_
        rintro e w20 ⟨rfl, hb20⟩
        have hB20 : Below wR.heap.size wR w20 := below_on hB19 hb20
        refine hK.out _ _ (⟨(hB20.cell (p := ⟨b, off, none⟩) hbR).trans f1.1, (hB20.cell (p := ⟨b, off + 1, none⟩) hbR).trans f1.2⟩) (fun hS20 => ?_)
        clear hK K
        try simp only [Act.put, List.setIfInBounds_toArray, List.set_cons_zero, List.set_cons_succ]
        have hF20 := hF19.below hb20
        clear hb20
        refine wpAnyH_ready (rs := [8]) (by kernel_rfl) (by simp) ?_
        refine (AllReadyH.cons rfl (fun K hK => ?_) AllReadyH.nil)
        go_simp
        refine hK.out _ _ (⟨((hB20.alloc hB20.size _).cell (p := ⟨b, off, none⟩) hbR).trans f1.1, ((hB20.alloc hB20.size _).cell (p := ⟨b, off + 1, none⟩) hbR).trans f1.2⟩) (fun hS21 => ?_)
        clear hK K
        try simp only [Act.put, List.setIfInBounds_toArray, List.set_cons_zero, List.set_cons_succ]
        obtain ⟨w21, hw21⟩ : ∃ w', World.alloc w20 (.cells #[.int .i64 0, .slice none 0 0] 43) = w' := ⟨_, rfl⟩
        have hB21 : Below wR.heap.size wR w21 := by rw [← hw21]; exact hB20.alloc hB20.size _
        have hb21 : Below w20.heap.size w20 w21 := by rw [← hw21]; exact (Below.refl _ _).alloc (Nat.le_refl _) _
        have hF21 := hF20.below hb21
        have hI21 : ItX w21 (w20.heap.size) ⟨0, none, 0, 0, []⟩ := by rw [← hw21]; exact ItX.new w20 ⟨0, none, 0, 0, []⟩
        try rw [hw21]
        try rw [hw21] at hS21
        clear hw21 hb21
        have hghI : wR.heap.size ≤ w20.heap.size := hB20.size
        have hne : w20.heap.size ≠ wD.heap.size := by have h1 := hF20.lt; omega
        obtain ⟨c0, c1, z0, z1⟩ := hI21.cells
        obtain ⟨c2, c3, z2, z3⟩ := hF21.cells
        have hne' : wD.heap.size ≠ w20.heap.size := fun e => hne e.symm
        refine wpAnyH_ready (rs := [10]) (by kernel_rfl) (by simp) ?_
        refine (AllReadyH.cons rfl (fun K hK => ?_) AllReadyH.nil)
        go_simp
        refine hK.out _ _ (⟨((below_set2 hB21 hghI _ _).cell (p := ⟨b, off, none⟩) hbR).trans f1.1, ((below_set2 hB21 hghI _ _).cell (p := ⟨b, off + 1, none⟩) hbR).trans f1.2⟩) (fun hS22 => ?_)
        clear hK K
        try simp only [Act.put, List.setIfInBounds_toArray, List.set_cons_zero, List.set_cons_succ]
        refine wpAnyH_ready (rs := [11]) (by kernel_rfl) (by simp) ?_
        refine (AllReadyH.cons rfl (fun K hK => ?_) AllReadyH.nil)
        go_simp
        refine hK.out _ _ (⟨((below_set2 (below_set2 hB21 hghI _ _) hghF _ _).cell (p := ⟨b, off, none⟩) hbR).trans f1.1, ((below_set2 (below_set2 hB21 hghI _ _) hghF _ _).cell (p := ⟨b, off + 1, none⟩) hbR).trans f1.2⟩) (fun hS23 => ?_)
        clear hK K
        try simp only [Act.put, List.setIfInBounds_toArray, List.set_cons_zero, List.set_cons_succ]
        refine wpAnyH_done (by kernel_rfl) ?_ _
        go_wp2
        go_meet
        exact ⟨w20.heap.size, wD.heap.size, rfl, rfl, (hI21.set x0).other hne' _ _, (hF21.other hne _ _).set _ _, hne, hghI, hghF, (below_set2 (below_set2 hB21 hghI _ _) hghF _ _)⟩
      · go_simp
        refine hK.out _ _ (⟨((hB19.alloc hB19.size _).cell (p := ⟨b, off, none⟩) hbR).trans f1.1, ((hB19.alloc hB19.size _).cell (p := ⟨b, off + 1, none⟩) hbR).trans f1.2⟩) (fun hS24 => ?_)
        clear hK K
        try simp only [Act.put, List.setIfInBounds_toArray, List.set_cons_zero, List.set_cons_succ]
        obtain ⟨w24, hw24⟩ : ∃ w', World.alloc w19 (.cells #[.int .i64 0, .slice none 0 0] 43) = w' := ⟨_, rfl⟩
        have hB24 : Below wR.heap.size wR w24 := by rw [← hw24]; exact hB19.alloc hB19.size _
        have hb24 : Below w19.heap.size w19 w24 := by rw [← hw24]; exact (Below.refl _ _).alloc (Nat.le_refl _) _
        have hF24 := hF19.below hb24
        have hI24 : ItX w24 (w19.heap.size) ⟨0, none, 0, 0, []⟩ := by rw [← hw24]; exact ItX.new w19 ⟨0, none, 0, 0, []⟩
        try rw [hw24]
        try rw [hw24] at hS24
        clear hw24 hb24
        have hghI : wR.heap.size ≤ w19.heap.size := hB19.size
        have hne : w19.heap.size ≠ wD.heap.size := by have h1 := hF19.lt; omega
        refine wpAnyH_ready (rs := [7]) (by kernel_rfl) (by simp) ?_
        refine (AllReadyH.cons rfl (fun K hK => ?_) AllReadyH.nil)
        go_simp
        go_at_fn fn
        refine (HC0.out _ (below_on HBR.out hB24)).mono ?_
        rintro e w25 ⟨rfl, hb25⟩
        have hB25 : Below wR.heap.size wR w25 := below_on hB24 hb25
        refine hK.out _ _ (⟨(hB25.cell (p := ⟨b, off, none⟩) hbR).trans f1.1, (hB25.cell (p := ⟨b, off + 1, none⟩) hbR).trans f1.2⟩) (fun hS25 => ?_)
        clear hK K
        try simp only [Act.put, List.setIfInBounds_toArray, List.set_cons_zero, List.set_cons_succ]
        have hF25 := hF24.below hb25
        have hI25 := hI24.below hb25
        clear hb25
        obtain ⟨c0, c1, z0, z1⟩ := hI25.cells
        obtain ⟨c2, c3, z2, z3⟩ := hF25.cells
        have hne' : wD.heap.size ≠ w19.heap.size := fun e => hne e.symm
        refine wpAnyH_ready (rs := [10]) (by kernel_rfl) (by simp) ?_
        refine (AllReadyH.cons rfl (fun K hK => ?_) AllReadyH.nil)
        go_simp
        refine hK.out _ _ (⟨((below_set2 hB25 hghI _ _).cell (p := ⟨b, off, none⟩) hbR).trans f1.1, ((below_set2 hB25 hghI _ _).cell (p := ⟨b, off + 1, none⟩) hbR).trans f1.2⟩) (fun hS26 => ?_)
        clear hK K
        try simp only [Act.put, List.setIfInBounds_toArray, List.set_cons_zero, List.set_cons_succ]
        refine wpAnyH_ready (rs := [11]) (by kernel_rfl) (by simp) ?_
        refine (AllReadyH.cons rfl (fun K hK => ?_) AllReadyH.nil)
        go_simp
        refine hK.out _ _ (⟨((below_set2 (below_set2 hB25 hghI _ _) hghF _ _).cell (p := ⟨b, off, none⟩) hbR).trans f1.1, ((below_set2 (below_set2 hB25 hghI _ _) hghF _ _).cell (p := ⟨b, off + 1, none⟩) hbR).trans f1.2⟩) (fun hS27 => ?_)
        clear hK K
        try simp only [Act.put, List.setIfInBounds_toArray, List.set_cons_zero, List.set_cons_succ]
        refine wpAnyH_done (by kernel_rfl) ?_ _
        go_wp2
        go_meet
        exact ⟨w19.heap.size, wD.heap.size, rfl, rfl, (hI25.set x0).other hne' _ _, (hF25.other hne _ _).set _ _, hne, hghI, hghF, (below_set2 (below_set2 hB25 hghI _ _) hghF _ _)⟩
  case rest =>
  obtain ⟨g6, g7, rfl, rfl, hi6, hf7, hne, hg6, hg7, hb9⟩ := hcut
  rename World => w9
  have HSz : Hid (w.heap.size + 2 ≤ wR.heap.size) := Lib.hid (by have := HF0.out.lt; omega)
  have HSt : Hid (LtS w its fr g6 g7 0 x0 w9) := Lib.hid ⟨by rw [take_at HA0.out]; rfl, hi6, hf7, HI0.out.below hb9, HF0.out.below hb9, hne, Nat.le_trans HSz.out hg6, Nat.le_trans HSz.out hg7, below_on HBR.out hb9⟩
  have h1c : (1 : Int) ≤ (n : Int) := by omega
  have h1d : (n : Int) ≤ (c : Int) := by omega
  have h1e : (c : Int) ≤ 9223372036854775807 := by omega
  clear hi6 hf7 hne hg6 hg7 hb9 f1 hbR HF0 HI0 HC0 HBR HA0 HC1
  by_cases hcc : c = 1
  · obtain rfl : n = 1 := by omega
    subst hcc
    go_wp2
    go_loopw [22] (fun iv wr => iv = .int .i64 0 ∧ LtS w its fr g6 g7 0 x0 wr) (fun _ _ => 0)
    case atStart => exact ⟨rfl, HSt.out⟩
    case round =>
      obtain ⟨rfl, hst⟩ := hrel
      have HS := Lib.hid hst
      clear hst
      obtain ⟨y, hy⟩ : ∃ y, y = x0 := ⟨_, rfl⟩
      rw [← hy] at HS
      have HY2 : Hid (bestF fr its = some y) := Lib.hid (by have h1 := HS.out.best; rwa [take_all hl] at h1)
      clear hy
      obtain ⟨q0, q1, -, -⟩ := HS.out.i.cells
      obtain ⟨q2, q3, -, -⟩ := HS.out.f.cells
      obtain ⟨r0, r1, y0, y1⟩ := HS.out.i0.cells
      obtain ⟨r2, r3, y2, y3⟩ := HS.out.f0.cells
      have hl6 := HS.out.l6
      have hl7 := HS.out.l7
      go_upto_region 9 with (fail)
      have hS0 : (fun w' => w'.cell? ⟨g6, 0, none⟩ = some (.int .i64 y.id) ∧ w'.cell? ⟨g6, 1, none⟩ = some (.slice y.A y.n y.c) ∧ w'.cell? ⟨g7, 0, none⟩ = some (.int .i64 (fr y).num) ∧ w'.cell? ⟨g7, 1, none⟩ = some (.int .i64 (fr y).den)) wr.drew := ⟨q0, q1, q2, q3⟩
      refine wp_region_held (S := fun w' => w'.cell? ⟨g6, 0, none⟩ = some (.int .i64 y.id) ∧ w'.cell? ⟨g6, 1, none⟩ = some (.slice y.A y.n y.c) ∧ w'.cell? ⟨g7, 0, none⟩ = some (.int .i64 (fr y).num) ∧ w'.cell? ⟨g7, 1, none⟩ = some (.int .i64 (fr y).den)) (by kernel_rfl) ?_
      change wpAnyH _ _ _ _ _ _ _ _ (World.drew _)
      refine takeY 35 (i := 0) (v := ?vx10) rfl rfl (by kernel_rfl) (by kernel_rfl) (by kernel_rfl) (fun _ _ _ h => h) (by kernel_rfl) ?yx10 hS0 ?_
      case yx10 =>
        intro w' hw'; (try dsimp only at hw'); obtain ⟨q1, q2, q3, q4⟩ := hw'; go_simp; try with_reducible rfl
      simp only [Act.put, List.setIfInBounds_toArray, List.set_cons_zero, List.set_cons_succ]
      refine takeY 36 (i := 1) (v := ?vx11) rfl rfl (by kernel_rfl) (by kernel_rfl) (by kernel_rfl) (fun _ _ _ h => h) (by kernel_rfl) ?yx11 hS0 ?_
      case yx11 =>
        intro w' hw'; (try dsimp only at hw'); obtain ⟨q1, q2, q3, q4⟩ := hw'; go_simp; try with_reducible rfl
      simp only [Act.put, List.setIfInBounds_toArray, List.set_cons_zero, List.set_cons_succ]
      refine wpAnyH_ready (rs := [2]) (by kernel_rfl) (by simp) ?_
      refine (AllReadyH.cons rfl (fun K hK => ?_) AllReadyH.nil)
      go_simp
      refine hK.out _ _ (⟨cell_set2 (show w.heap.size ≠ g6 by omega) q0 _ _, cell_set2 (show w.heap.size ≠ g6 by omega) q1 _ _, cell_set2 (show w.heap.size ≠ g7 by omega) q2 _ _, cell_set2 (show w.heap.size ≠ g7 by omega) q3 _ _⟩) (fun hS1 => ?_)
      clear hK K
      try simp only [Act.put, List.setIfInBounds_toArray, List.set_cons_zero, List.set_cons_succ]
      refine wpAnyH_ready (rs := [3]) (by kernel_rfl) (by simp) ?_
      refine (AllReadyH.cons rfl (fun K hK => ?_) AllReadyH.nil)
      go_simp
      refine hK.out _ _ (⟨cell_set2 (show w.heap.size + 1 ≠ g6 by omega) (cell_set2 (show w.heap.size ≠ g6 by omega) q0 _ _) _ _, cell_set2 (show w.heap.size + 1 ≠ g6 by omega) (cell_set2 (show w.heap.size ≠ g6 by omega) q1 _ _) _ _, cell_set2 (show w.heap.size + 1 ≠ g7 by omega) (cell_set2 (show w.heap.size ≠ g7 by omega) q2 _ _) _ _, cell_set2 (show w.heap.size + 1 ≠ g7 by omega) (cell_set2 (show w.heap.size ≠ g7 by omega) q3 _ _) _ _⟩) (fun hS2 => ?_)
      clear hK K
      try simp only [Act.put, List.setIfInBounds_toArray, List.set_cons_zero, List.set_cons_succ]
      refine wpAnyH_done (by kernel_rfl) ?_ _
      go_wp2
      refine bodyPost_ret_by (results_rowsF rfl _ _ w.heap.size (w.heap.size + 1) 43 63 _ _ (0, 0) (0, 0) _ _ rfl rfl (((HS.out.step (Below.refl _ wr).drew).i0.set y).other (by omega) _ _) (((HS.out.step (Below.refl _ wr).drew).f0.other (by omega) _ _).set (fr y).num (fr y).den) Try.underlying43 rfl (by kernel_rfl) Try.underlying63 rfl (by kernel_rfl)) rfl ?_
      exact ⟨⟨y, HY2.out, rfl⟩, below_set2 (below_set2 HS.out.b.drew (Nat.le_refl _) _ _) (Nat.le_succ _) _ _⟩
  · have h1f : ¬ c = 1 := hcc
    have h1g : ((1 : Int) == (c : Int)) = false := by simp; omega
    go_wp2
    go_loopw [22] (fun iv wr => ∃ (k : Nat) (y : It), k + 1 ≤ n ∧ iv = .int .i64 k ∧ LtS w its fr g6 g7 k y wr) (fun iv _ => n - (intOf iv).toNat)
    case atStart => exact ⟨0, x0, by omega, rfl, HSt.out⟩
    case round =>
      obtain ⟨k, y, hk, rfl, hst⟩ := hrel
      have HS := Lib.hid hst
      have HYm : Hid (y ∈ its) := Lib.hid (List.mem_of_mem_take (bestF_mem _ _ hst.best))
      clear hst
      by_cases hlt : k + 1 < n
      · obtain ⟨b', off', x, hbo, -, hat, hd, hd'⟩ := it_at HX.out hlt
        obtain ⟨rfl, rfl⟩ : b = b' ∧ off = off' := by injection hbo with h; injection h with h2 h3; exact ⟨h2, h3⟩
        have f0 : wr.cell? ⟨b, off + 2 + k * 2, none⟩ = some (.int .i64 x.id) := by
          have e : off + 2 + k * 2 = off + (k + 1) * 2 := by omega
          rw [e]
          exact (HS.out.b.cell (p := ⟨b, off + (k + 1) * 2, none⟩) hb).trans hd
        have f0' : wr.cell? ⟨b, off + 2 + k * 2 + 1, none⟩ = some (.slice x.A x.n x.c) := by
          have e : off + 2 + k * 2 + 1 = off + (k + 1) * 2 + 1 := by omega
          rw [e]
          exact (HS.out.b.cell (p := ⟨b, off + (k + 1) * 2 + 1, none⟩) hb).trans hd'
        have HAt := Lib.hid hat
        have HXm : Hid (x ∈ its) := Lib.hid (mem_of_at hat)
        have hlt' : (k : Int) < ((n - 1 : Nat) : Int) := by omega
        have HCx : Hid (∀ W, Below w.heap.size w W → Calls Try.prog fn (#[.agg #[.int .i64 x.id, .slice x.A x.n x.c]] ++ cb) W fun e w' => e = .returned (.agg #[.int .i64 (fr x).num, .int .i64 (fr x).den]) ∧ Below W.heap.size W w') := Lib.hid fun W hW => HF.out W hW x HXm.out
        obtain ⟨wa, hwa⟩ : ∃ wa, wr.alloc (.cells #[.int .i64 x.id, .slice x.A x.n x.c] 43) = wa := ⟨_, rfl⟩
        have hba : Below wr.heap.size wr wa := by rw [← hwa]; exact (Below.refl _ wr).alloc (Nat.le_refl _) _
        have HSa := Lib.hid (HS.out.step hba)
        have HXa : Hid (ItX wa wr.heap.size x) := Lib.hid (by rw [← hwa]; exact ItX.new wr x)
        clear hbo hat hd hd' hba
        go_upto_region 5 with (fail)
        clear hwa f0 f0'
        obtain ⟨p0, p1, -, -⟩ := HXa.out.cells
        go_wp2_with fail
        refine (HCx.out _ HSa.out.b).mono ?_
        rintro e w2 ⟨rfl, hb2⟩
        obtain ⟨w3, hw3⟩ : ∃ w3, w2.alloc (.cells #[.int .i64 (fr x).num, .int .i64 (fr x).den] 63) = w3 := ⟨_, rfl⟩
        have hb3 : Below w2.heap.size w2 w3 := by rw [← hw3]; exact (Below.refl _ w2).alloc (Nat.le_refl _) _
        have HP3 : Hid (FrB w3 w2.heap.size (fr x)) := Lib.hid (by rw [← hw3]; exact FrB.new w2 (fr x))
        have HS3 := Lib.hid (HSa.out.step (below_on hb2 hb3))
        have HX3 := Lib.hid (HXa.out.below (below_on hb2 hb3))
        have HN1 : Hid (g6 < wr.heap.size ∧ g7 < wr.heap.size ∧ wr.heap.size < w2.heap.size) := Lib.hid ⟨HS.out.i.lt, HS.out.f.lt, Nat.lt_of_lt_of_le HXa.out.lt hb2.size⟩
        clear hb2 hb3 HCx p0 p1
        go_upto_region 6 with (fail)
        clear hw3
        obtain ⟨p0, p1, -, -⟩ := HP3.out.cells
        obtain ⟨q0, q1, -, -⟩ := HS3.out.f.cells
        go_wp2_with fail
        refine (less_c (fr x) (fr y) (HSm.out x HXm.out) (HSm.out y HYm.out) _).mono ?_
        rintro e w4 ⟨rfl, hb4⟩
        have HS4 := Lib.hid (HS3.out.step hb4)
        have HP4 := Lib.hid (HP3.out.below hb4)
        have HX4 := Lib.hid (HX3.out.below hb4)
        clear p0 p1 q0 q1 hb4
        obtain ⟨z, hz⟩ : ∃ z, (fr x).less (fr y) = z := ⟨_, rfl⟩
        rw [hz]
        have HZ := Lib.hid hz
        clear hz
        cases z
        · go_wp2
          go_roundw
          case rel => exact ⟨k + 1, y, by omega, by go_num, HS4.out.keep (by rw [take_at HAt.out]; exact bestF_no HS.out.best HZ.out)⟩
          case measure => simp [intOf]; omega
        · obtain ⟨p0, p1, -, -⟩ := HX4.out.cells
          obtain ⟨q0, q1, -, -⟩ := HP4.out.cells
          obtain ⟨r0, r1, y0, y1⟩ := HS4.out.i.cells
          obtain ⟨s0, s1, y2, y3⟩ := HS4.out.f.cells
          have hne1 : g6 ≠ wr.heap.size := by have := HN1.out; omega
          have hne2 : g6 ≠ w2.heap.size := by have := HN1.out; omega
          have hne3 : g7 ≠ wr.heap.size := by have := HN1.out; omega
          have hne4 : g7 ≠ w2.heap.size := by have := HN1.out; omega
          have hne5 := HS4.out.ne
          go_upto_region 7 with (fail)
          have hS0 : (fun w' => w'.cell? ⟨wr.heap.size, 0, none⟩ = some (.int .i64 x.id) ∧ w'.cell? ⟨wr.heap.size, 1, none⟩ = some (.slice x.A x.n x.c) ∧ w'.cell? ⟨w2.heap.size, 0, none⟩ = some (.int .i64 (fr x).num) ∧ w'.cell? ⟨w2.heap.size, 1, none⟩ = some (.int .i64 (fr x).den)) w4.drew := ⟨p0, p1, q0, q1⟩
          refine wp_region_held (S := fun w' => w'.cell? ⟨wr.heap.size, 0, none⟩ = some (.int .i64 x.id) ∧ w'.cell? ⟨wr.heap.size, 1, none⟩ = some (.slice x.A x.n x.c) ∧ w'.cell? ⟨w2.heap.size, 0, none⟩ = some (.int .i64 (fr x).num) ∧ w'.cell? ⟨w2.heap.size, 1, none⟩ = some (.int .i64 (fr x).den)) (by kernel_rfl) ?_
          change wpAnyH _ _ _ _ _ _ _ _ (World.drew _)
          refine takeY 32 (i := 0) (v := ?vx8) rfl rfl (by kernel_rfl) (by kernel_rfl) (by kernel_rfl) (fun _ _ _ h => h) (by kernel_rfl) ?yx8 hS0 ?_
          case yx8 =>
            intro w' hw'; (try dsimp only at hw'); obtain ⟨q1, q2, q3, q4⟩ := hw'; go_simp; try with_reducible rfl
          simp only [Act.put, List.setIfInBounds_toArray, List.set_cons_zero, List.set_cons_succ]
          refine takeY 33 (i := 1) (v := ?vx9) rfl rfl (by kernel_rfl) (by kernel_rfl) (by kernel_rfl) (fun _ _ _ h => h) (by kernel_rfl) ?yx9 hS0 ?_
          case yx9 =>
            intro w' hw'; (try dsimp only at hw'); obtain ⟨q1, q2, q3, q4⟩ := hw'; go_simp; try with_reducible rfl
          simp only [Act.put, List.setIfInBounds_toArray, List.set_cons_zero, List.set_cons_succ]
          refine wpAnyH_ready (rs := [2]) (by kernel_rfl) (by simp) ?_
          refine (AllReadyH.cons rfl (fun K hK => ?_) AllReadyH.nil)
          go_simp
          refine hK.out _ _ (⟨cell_set2 hne1 p0 _ _, cell_set2 hne1 p1 _ _, cell_set2 hne2 q0 _ _, cell_set2 hne2 q1 _ _⟩) (fun hS1 => ?_)
          clear hK K
          try simp only [Act.put, List.setIfInBounds_toArray, List.set_cons_zero, List.set_cons_succ]
          refine wpAnyH_ready (rs := [3]) (by kernel_rfl) (by simp) ?_
          refine (AllReadyH.cons rfl (fun K hK => ?_) AllReadyH.nil)
          go_simp
          refine hK.out _ _ (⟨cell_set2 hne3 (cell_set2 hne1 p0 _ _) _ _, cell_set2 hne3 (cell_set2 hne1 p1 _ _) _ _, cell_set2 hne4 (cell_set2 hne2 q0 _ _) _ _, cell_set2 hne4 (cell_set2 hne2 q1 _ _) _ _⟩) (fun hS2 => ?_)
          clear hK K
          try simp only [Act.put, List.setIfInBounds_toArray, List.set_cons_zero, List.set_cons_succ]
          refine wpAnyH_done (by kernel_rfl) ?_ _
          go_wp2
          go_roundw
          case rel => exact ⟨k + 1, x, by omega, by go_num, (HS4.out.step (Below.refl _ w4).drew).put (by rw [take_at HAt.out]; exact bestF_yes HS.out.best HZ.out)⟩
          case measure => simp [intOf]; omega
      · have hkn : k + 1 = n := by omega
        have hlt' : ¬ (k : Int) < ((n - 1 : Nat) : Int) := by omega
        have HY2 : Hid (bestF fr its = some y) := Lib.hid (by have h1 := HS.out.best; rwa [hkn, take_all hl] at h1)
        obtain ⟨q0, q1, -, -⟩ := HS.out.i.cells
        obtain ⟨q2, q3, -, -⟩ := HS.out.f.cells
        obtain ⟨r0, r1, y0, y1⟩ := HS.out.i0.cells
        obtain ⟨r2, r3, y2, y3⟩ := HS.out.f0.cells
        have hl6 := HS.out.l6
        have hl7 := HS.out.l7
        go_upto_region 9 with (fail)
        have hS0 : (fun w' => w'.cell? ⟨g6, 0, none⟩ = some (.int .i64 y.id) ∧ w'.cell? ⟨g6, 1, none⟩ = some (.slice y.A y.n y.c) ∧ w'.cell? ⟨g7, 0, none⟩ = some (.int .i64 (fr y).num) ∧ w'.cell? ⟨g7, 1, none⟩ = some (.int .i64 (fr y).den)) wr.drew := ⟨q0, q1, q2, q3⟩
        refine wp_region_held (S := fun w' => w'.cell? ⟨g6, 0, none⟩ = some (.int .i64 y.id) ∧ w'.cell? ⟨g6, 1, none⟩ = some (.slice y.A y.n y.c) ∧ w'.cell? ⟨g7, 0, none⟩ = some (.int .i64 (fr y).num) ∧ w'.cell? ⟨g7, 1, none⟩ = some (.int .i64 (fr y).den)) (by kernel_rfl) ?_
        change wpAnyH _ _ _ _ _ _ _ _ (World.drew _)
        refine takeY 35 (i := 0) (v := ?vx12) rfl rfl (by kernel_rfl) (by kernel_rfl) (by kernel_rfl) (fun _ _ _ h => h) (by kernel_rfl) ?yx12 hS0 ?_
        case yx12 =>
          intro w' hw'; (try dsimp only at hw'); obtain ⟨q1, q2, q3, q4⟩ := hw'; go_simp; try with_reducible rfl
        simp only [Act.put, List.setIfInBounds_toArray, List.set_cons_zero, List.set_cons_succ]
        refine takeY 36 (i := 1) (v := ?vx13) rfl rfl (by kernel_rfl) (by kernel_rfl) (by kernel_rfl) (fun _ _ _ h => h) (by kernel_rfl) ?yx13 hS0 ?_
        case yx13 =>
          intro w' hw'; (try dsimp only at hw'); obtain ⟨q1, q2, q3, q4⟩ := hw'; go_simp; try with_reducible rfl
        simp only [Act.put, List.setIfInBounds_toArray, List.set_cons_zero, List.set_cons_succ]
        refine wpAnyH_ready (rs := [2]) (by kernel_rfl) (by simp) ?_
        refine (AllReadyH.cons rfl (fun K hK => ?_) AllReadyH.nil)
        go_simp
        refine hK.out _ _ (⟨cell_set2 (show w.heap.size ≠ g6 by omega) q0 _ _, cell_set2 (show w.heap.size ≠ g6 by omega) q1 _ _, cell_set2 (show w.heap.size ≠ g7 by omega) q2 _ _, cell_set2 (show w.heap.size ≠ g7 by omega) q3 _ _⟩) (fun hS1 => ?_)
        clear hK K
        try simp only [Act.put, List.setIfInBounds_toArray, List.set_cons_zero, List.set_cons_succ]
        refine wpAnyH_ready (rs := [3]) (by kernel_rfl) (by simp) ?_
        refine (AllReadyH.cons rfl (fun K hK => ?_) AllReadyH.nil)
        go_simp
        refine hK.out _ _ (⟨cell_set2 (show w.heap.size + 1 ≠ g6 by omega) (cell_set2 (show w.heap.size ≠ g6 by omega) q0 _ _) _ _, cell_set2 (show w.heap.size + 1 ≠ g6 by omega) (cell_set2 (show w.heap.size ≠ g6 by omega) q1 _ _) _ _, cell_set2 (show w.heap.size + 1 ≠ g7 by omega) (cell_set2 (show w.heap.size ≠ g7 by omega) q2 _ _) _ _, cell_set2 (show w.heap.size + 1 ≠ g7 by omega) (cell_set2 (show w.heap.size ≠ g7 by omega) q3 _ _) _ _⟩) (fun hS2 => ?_)
        clear hK K
        try simp only [Act.put, List.setIfInBounds_toArray, List.set_cons_zero, List.set_cons_succ]
        refine wpAnyH_done (by kernel_rfl) ?_ _
        go_wp2
        refine bodyPost_ret_by (results_rowsF rfl _ _ w.heap.size (w.heap.size + 1) 43 63 _ _ (0, 0) (0, 0) _ _ rfl rfl (((HS.out.step (Below.refl _ wr).drew).i0.set y).other (by omega) _ _) (((HS.out.step (Below.refl _ wr).drew).f0.other (by omega) _ _).set (fr y).num (fr y).den) Try.underlying43 rfl (by kernel_rfl) Try.underlying63 rfl (by kernel_rfl)) rfl ?_
        exact ⟨⟨y, HY2.out, rfl⟩, below_set2 (below_set2 HS.out.b.drew (Nat.le_refl _) _ _) (Nat.le_succ _) _ _⟩
end Go.Proofs.Ytceiocdemhkcdaa.num
namespace Go.Proofs.Ytceiocdemhkcdaa.num
set_option maxRecDepth 20000
open Go.RowKit
set_option linter.unusedVariables false
set_option linter.unusedSimpArgs false

theorem ItX.read {w : World} {g : Nat} {t : It} (h : ItX w g t) : ReadG itCs 2 w w.heap.size (some ⟨g, 0, none⟩) 1 [t] := by
  refine ⟨rfl, fun k x hk => ?_⟩
  rcases k with _ | k
  · simp at hk
    subst hk
    refine ⟨g, 0, rfl, h.lt, fun j v hj => ?_⟩
    match j, hj with
    | 0, hj => obtain rfl := Option.some.inj hj; exact h.cells.1
    | 1, hj => obtain rfl := Option.some.inj hj; exact h.cells.2.1
    | j + 2, hj => simp [itCs] at hj
  · simp at hk
set_option maxRecDepth 20000 in
theorem taken_c (w : World) (x y : It) (g : Nat) (h : ItX w g y) :
    Calls Try.prog 61 #[x.val, .pointer (some ⟨g, 0, none⟩)] w fun e w' => e = .returned (.bool (decide (x.id = y.id))) ∧ Below w.heap.size w w' := by
  have hv : x.val = .agg #[.int .i64 x.id, .slice x.A x.n x.c] := rfl
  rw [hv]
  have HB0 : Hid (Below w.heap.size w (w.alloc (.cells #[.int .i64 x.id, .slice x.A x.n x.c] 43))) := Lib.hid ((Below.refl _ w).alloc (Nat.le_refl _) _)
  obtain ⟨w0, hw0⟩ : ∃ w0, w.alloc (.cells #[.int .i64 x.id, .slice x.A x.n x.c] 43) = w0 := ⟨_, rfl⟩
  rw [hw0] at HB0
  have HX0 : Hid (ItX w0 w.heap.size x) := Lib.hid (by rw [← hw0]; exact ItX.new w x)
  have HY0 := Lib.hid (h.below HB0.out)
  obtain ⟨z, hz⟩ : ∃ z, decide (x.id = y.id) = z := ⟨_, rfl⟩
  have hz2 : (x.id == y.id) = z := by rw [← hz]; rfl
  rw [hz]
  obtain ⟨p0, p1, -, -⟩ := HX0.out.cells
  obtain ⟨q0, q1, -, -⟩ := HY0.out.cells
  clear hv h hz
  go_enter Try.func61, Try.ntmps61
  go_upto_region 1 with (fail)
  clear hw0
  go_wp2
  go_ret
  exact ⟨rfl, HB0.out⟩
set_option maxRecDepth 20000 in
set_option maxHeartbeats 6400000 in
theorem more_c (w : World) (B : Nat) (A : Option Addr) (n c : Nat) (its : List It) (hi : Items w B A n its) (hB : B ≤ w.heap.size) (hn : n ≤ 1048576) (A5 : Option Addr) (n5 c5 : Nat) (cs : List It) (hcs : ReadG itCs 2 w w.heap.size A5 n5 cs) (hn5 : n5 ≤ 1000000) (hsub : ∀ u ∈ cs, u ∈ its) (x : It) (hx : x ∈ its) (g1 g2 : Nat) (h1 : SlB w g1 (.slice A n c)) (h2 : SlB w g2 (.slice A5 n5 c5)) (R : Rg) (hR : reg (its.map It.dat) ((cs ++ [x]).map It.dat) = R) :
    Calls Try.prog 59 #[x.val, .pointer (some ⟨g1, 0, none⟩), .pointer (some ⟨g2, 0, none⟩)] w fun e w' => e = .returned (.agg #[.int .i64 R.num, .int .i64 R.den]) ∧ Below w.heap.size w w' := by
  have hv : x.val = .agg #[.int .i64 x.id, .slice x.A x.n x.c] := rfl
  rw [hv]
  obtain ⟨wR, hwR⟩ : ∃ wR, (w.alloc (.cells #[.int .i64 x.id, .slice x.A x.n x.c] 43)).alloc (.cells #[.int .i64 0, .int .i64 0] 63) = wR := ⟨_, rfl⟩
  have hbR0 : Below w.heap.size w wR := by rw [← hwR]; exact ((Below.refl _ w).alloc (Nat.le_refl _) _).alloc (by simp) _
  have HBR := Lib.hid hbR0
  have HX0 : Hid (ItX wR w.heap.size x) := Lib.hid (by rw [← hwR]; exact (ItX.new w x).below ((Below.refl _ _).alloc (Nat.le_refl _) _))
  have HF0 : Hid (FrB wR (w.heap.size + 1) ⟨0, 0⟩) := Lib.hid (by
    rw [← hwR]
    have h := FrB.new (w.alloc (.cells #[.int .i64 x.id, .slice x.A x.n x.c] 43)) ⟨0, 0⟩
    simpa only [World.size_alloc] using h)
  have hiR := hi.below (hbR0.mono hB)
  have hBR := Nat.le_trans hB hbR0.size
  have HRd := Lib.hid ((hcs.below hbR0).more hbR0.size)
  obtain ⟨L, hL⟩ : ∃ L, cs ++ [x] = L := ⟨_, rfl⟩
  have hLs : ∀ u ∈ L, u ∈ its := fun u hu => by
    rw [← hL] at hu
    rcases List.mem_append.1 hu with h | h
    · exact hsub u h
    · obtain rfl := List.mem_singleton.1 h; exact hx
  have HIn : Hid (∀ W, Below wR.heap.size wR W → ∀ u ∈ L, Ints W W.heap.size u.A u.n u.xs) := Lib.hid fun W hW u hu => (hiR.all (hLs u hu)).more hBR |>.below hW |>.more hW.size
  have hLl : L.length ≤ 1048576 := by rw [← hL, List.length_append, hcs.len, List.length_singleton]; omega
  rw [hL] at hR
  have HGr : Hid (∀ W A4 c4, Below wR.heap.size wR W → Items W W.heap.size A4 L.length L → Calls Try.prog 37 #[.slice A n c, .slice A4 L.length c4] W fun e w' => (∃ v, e = .returned (.tuple #[.agg #[.int .i64 R.num, .int .i64 R.den], v]) ∧ OwnI w' W.heap.size v R.ws) ∧ Below W.heap.size W w') := Lib.hid fun W A4 c4 hW hI =>
    iGR W W.heap.size A A4 n L.length c c4 its L ((hiR.below (hW.mono hBR)).up (Nat.le_trans hBR hW.size)) hI (Nat.le_refl _) hn hLl (fun d hd => by
      obtain ⟨u, hu, rfl⟩ := List.mem_map.1 hd
      exact List.mem_map_of_mem (hLs u hu)) R hR
  have HCl : Hid (∀ W, Below wR.heap.size wR W → Calls Try.prog 57 #[.slice A5 n5 c5] W fun e w' => ∃ v, e = .returned v ∧ OwnTs w' W.heap.size v cs ∧ Below W.heap.size W w') := Lib.hid fun W hW => cloneT W W.heap.size A5 n5 c5 cs ((HRd.out.below hW).more hW.size) (Nat.le_refl _) (by omega)
  have hcl : cs.length ≤ 1000000 := by rw [hcs.len]; exact hn5
  have hs1 := h1.below hbR0
  have hs2 := h2.below hbR0
  have HLL := Lib.hid hL
  clear hi hcs hsub hx hR hLs hLl hiR hBR hbR0 h1 h2 hv hL
  obtain ⟨x0, x1, -, -⟩ := HX0.out.cells
  have hx0 := HX0.out.lt
  have f1 := hs1.2
  have f2 := hs2.2
  have hbg1 := hs1.1
  have hbg2 := hs2.1
  clear hs1 hs2
  go_enter Try.func59, Try.ntmps59
  go_upto_region 1 with (fail)
  try rw [hwR]
  clear hwR
  go_cut [5] from 6 to 16 (fun s5 wx => ∃ g, s5 = .pointer (some ⟨g, 0, none⟩) ∧ FrB wx g ⟨R.num, R.den⟩ ∧ wR.heap.size ≤ g ∧ Below wR.heap.size wR wx)
  case first =>
    have hS0 : (fun w' => w'.cell? ⟨g1, 0, none⟩ = some (.slice A n c) ∧ w'.cell? ⟨g2, 0, none⟩ = some (.slice A5 n5 c5) ∧ w'.cell? ⟨w.heap.size, 0, none⟩ = some (.int .i64 x.id) ∧ w'.cell? ⟨w.heap.size, 1, none⟩ = some (.slice x.A x.n x.c)) wR.drew := ⟨f1, f2, x0, x1⟩
    refine wp_region_held (S := fun w' => w'.cell? ⟨g1, 0, none⟩ = some (.slice A n c) ∧ w'.cell? ⟨g2, 0, none⟩ = some (.slice A5 n5 c5) ∧ w'.cell? ⟨w.heap.size, 0, none⟩ = some (.int .i64 x.id) ∧ w'.cell? ⟨w.heap.size, 1, none⟩ = some (.slice x.A x.n x.c)) (by kernel_rfl) ?_
    change wpAnyH _ _ _ _ _ _ _ _ (World.drew _)
    have hBD0 : Below wR.heap.size wR wR.drew := (Below.refl _ wR).drew
    obtain ⟨wD, hwD⟩ : ∃ wD, World.drew wR = wD := ⟨_, rfl⟩
    rw [hwD] at hS0 ⊢
    have hBD : Below wR.heap.size wR wD := by rw [← hwD]; exact hBD0
    clear hwD hBD0
    refine takeY 8 (i := 0) (v := ?vx1) rfl rfl (by kernel_rfl) (by kernel_rfl) (by kernel_rfl) (fun _ _ _ h => h) (by kernel_rfl) ?yx1 hS0 ?_
    case yx1 =>
      intro w' hw'; (try dsimp only at hw'); obtain ⟨q1, q2, q3, q4⟩ := hw'; go_simp; try with_reducible rfl
    simp only [Act.put, List.setIfInBounds_toArray, List.set_cons_zero, List.set_cons_succ]
    refine takeY 9 (i := 1) (v := ?vx2) rfl rfl (by kernel_rfl) (by kernel_rfl) (by kernel_rfl) (fun _ _ _ h => h) (by kernel_rfl) ?yx2 hS0 ?_
    case yx2 =>
      intro w' hw'; (try dsimp only at hw'); obtain ⟨q1, q2, q3, q4⟩ := hw'; go_simp; try with_reducible rfl
    simp only [Act.put, List.setIfInBounds_toArray, List.set_cons_zero, List.set_cons_succ]
    refine takeY 11 (i := 3) (v := ?vx3) rfl rfl (by kernel_rfl) (by kernel_rfl) (by kernel_rfl) (fun _ _ _ h => h) (by kernel_rfl) ?yx3 hS0 ?_
    case yx3 =>
      intro w' hw'; (try dsimp only at hw'); obtain ⟨q1, q2, q3, q4⟩ := hw'; go_simp; try with_reducible rfl
    simp only [Act.put, List.setIfInBounds_toArray, List.set_cons_zero, List.set_cons_succ]
    refine wpAnyH_ready (rs := [2, 4, 10]) (by kernel_rfl) (by simp) ?_
    refine (AllReadyH.cons rfl (fun K hK => ?_) (AllReadyH.cons rfl (fun K hK => ?_) (AllReadyH.cons rfl (fun K hK => ?_) AllReadyH.nil)))
    · go_simp
      go_at_call 57
      refine (HCl.out _ hBD).mono ?_
      rintro e w1 ⟨v, rfl, ho, hb1⟩
      have hB1 : Below wR.heap.size wR w1 := below_on hBD hb1
      refine hK.out _ _ (⟨(hB1.cell (p := ⟨g1, 0, none⟩) hbg1).trans f1, (hB1.cell (p := ⟨g2, 0, none⟩) hbg2).trans f2, (hB1.cell (p := ⟨w.heap.size, 0, none⟩) hx0).trans x0, (hB1.cell (p := ⟨w.heap.size, 1, none⟩) hx0).trans x1⟩) (fun hS1 => ?_)
      clear hK K
      try simp only [Act.put, List.setIfInBounds_toArray, List.set_cons_zero, List.set_cons_succ]
      have hV1 : OwnTs w1 wR.heap.size v cs := ho.low hBD.size
      clear hb1 ho
      refine wpAnyH_ready (rs := [4, 10]) (by kernel_rfl) (by simp) ?_
      refine (AllReadyH.cons rfl (fun K hK => ?_) (AllReadyH.cons rfl (fun K hK => ?_) AllReadyH.nil))
      · go_simp
        refine hK.out _ _ (⟨((hB1.alloc hB1.size _).cell (p := ⟨g1, 0, none⟩) hbg1).trans f1, ((hB1.alloc hB1.size _).cell (p := ⟨g2, 0, none⟩) hbg2).trans f2, ((hB1.alloc hB1.size _).cell (p := ⟨w.heap.size, 0, none⟩) hx0).trans x0, ((hB1.alloc hB1.size _).cell (p := ⟨w.heap.size, 1, none⟩) hx0).trans x1⟩) (fun hS2 => ?_)
        clear hK K
        try simp only [Act.put, List.setIfInBounds_toArray, List.set_cons_zero, List.set_cons_succ]
        obtain ⟨w2, hw2⟩ : ∃ w', World.alloc w1 (.cells #[.int .i64 x.id, .slice x.A x.n x.c] 43) = w' := ⟨_, rfl⟩
        have hB2 : Below wR.heap.size wR w2 := by rw [← hw2]; exact hB1.alloc hB1.size _
        have hb2 : Below w1.heap.size w1 w2 := by rw [← hw2]; exact (Below.refl _ _).alloc (Nat.le_refl _) _
        have hV2 := OwnG.below hV1 hb2
        have hE2 : ItX w2 (w1.heap.size) x := by rw [← hw2]; exact ItX.new w1 x
        try rw [hw2]
        try rw [hw2] at hS2
        clear hw2 hb2
        refine wpAnyH_ready (rs := [5, 10]) (by kernel_rfl) (by simp) ?_
        refine (AllReadyH.cons rfl (fun K hK => ?_) (AllReadyH.cons rfl (fun K hK => ?_) AllReadyH.nil))
        · obtain ⟨v6, w3, hr3, ho3, hg3, -⟩ := run_spreadG itCs_len itCs_one (ty := 24) (c := 1) Try.underlying24 info_item rfl (by decide) (by decide) hV2 hE2.read (by omega) hB2.size
          rw [HLL.out] at ho3
          obtain ⟨A4, c4, rfl, -, -⟩ := ho3.shape
          have hB3 : Below wR.heap.size wR w3 := hB2.grown hg3 hB2.size (fun k hk => hV2.lows k hk)
          refine step_run _ (by rfl) (.tmp 10) (.tmp 12) 24 (by rfl) _ _ (by rfl) (by rfl) hr3 ?_
          refine hK.out _ _ (⟨(hB3.cell (p := ⟨g1, 0, none⟩) hbg1).trans f1, (hB3.cell (p := ⟨g2, 0, none⟩) hbg2).trans f2, (hB3.cell (p := ⟨w.heap.size, 0, none⟩) hx0).trans x0, (hB3.cell (p := ⟨w.heap.size, 1, none⟩) hx0).trans x1⟩) (fun hS3 => ?_)
          clear hK K
          try simp only [Act.put, List.setIfInBounds_toArray, List.set_cons_zero, List.set_cons_succ]
          have hT3 : Items w3 w3.heap.size A4 L.length L := Items.ofr (ho3.read itCs_len) (HIn.out _ hB3)
          clear hr3 hg3 ho3
          refine wpAnyH_ready (rs := [6, 10]) (by kernel_rfl) (by simp) ?_
          refine (AllReadyH.cons rfl (fun K hK => ?_) (AllReadyH.cons rfl (fun K hK => ?_) AllReadyH.nil))
          · go_simp
            go_at_call 37
            refine (HGr.out _ _ _ hB3 hT3).mono ?_
            rintro e w4 ⟨⟨v5, rfl, ho⟩, hb4⟩
            have hB4 : Below wR.heap.size wR w4 := below_on hB3 hb4
            refine hK.out _ _ (⟨(hB4.cell (p := ⟨g1, 0, none⟩) hbg1).trans f1, (hB4.cell (p := ⟨g2, 0, none⟩) hbg2).trans f2, (hB4.cell (p := ⟨w.heap.size, 0, none⟩) hx0).trans x0, (hB4.cell (p := ⟨w.heap.size, 1, none⟩) hx0).trans x1⟩) (fun hS4 => ?_)
            clear hK K
            try simp only [Act.put, List.setIfInBounds_toArray, List.set_cons_zero, List.set_cons_succ]
            clear hb4 ho
            refine takeY 7 (i := 7) (v := ?vx4) rfl rfl (by kernel_rfl) (by kernel_rfl) (by kernel_rfl) (fun _ _ _ h => h) (by kernel_rfl) ?yx4 hS4 ?_
            case yx4 =>
              intro w' hw'; (try dsimp only at hw'); obtain ⟨q1, q2, q3, q4⟩ := hw'; go_simp; try with_reducible rfl
            simp only [Act.put, List.setIfInBounds_toArray, List.set_cons_zero, List.set_cons_succ]
            refine takeY 15 (i := 8) (v := ?vx5) rfl rfl (by kernel_rfl) (by kernel_rfl) (by kernel_rfl) (fun _ _ _ h => h) (by kernel_rfl) ?yx5 hS4 ?_
            case yx5 =>
              intro w' hw'; (try dsimp only at hw'); obtain ⟨q1, q2, q3, q4⟩ := hw'; go_simp; try with_reducible rfl
            simp only [Act.put, List.setIfInBounds_toArray, List.set_cons_zero, List.set_cons_succ]
            refine takeY 16 (i := 9) (v := ?vx6) rfl rfl (by kernel_rfl) (by kernel_rfl) (by kernel_rfl) (fun _ _ _ h => h) (by kernel_rfl) ?yx6 hS4 ?_
            case yx6 =>
              intro w' hw'; (try dsimp only at hw'); obtain ⟨q1, q2, q3, q4⟩ := hw'; go_simp; try with_reducible rfl
            simp only [Act.put, List.setIfInBounds_toArray, List.set_cons_zero, List.set_cons_succ]
            refine wpAnyH_ready (rs := [10]) (by kernel_rfl) (by simp) ?_
            refine (AllReadyH.cons rfl (fun K hK => ?_) AllReadyH.nil)
            go_simp
            refine hK.out _ _ (⟨((hB4.alloc hB4.size _).cell (p := ⟨g1, 0, none⟩) hbg1).trans f1, ((hB4.alloc hB4.size _).cell (p := ⟨g2, 0, none⟩) hbg2).trans f2, ((hB4.alloc hB4.size _).cell (p := ⟨w.heap.size, 0, none⟩) hx0).trans x0, ((hB4.alloc hB4.size _).cell (p := ⟨w.heap.size, 1, none⟩) hx0).trans x1⟩) (fun hS5 => ?_)
            clear hK K
            try simp only [Act.put, List.setIfInBounds_toArray, List.set_cons_zero, List.set_cons_succ]
            obtain ⟨w5, hw5⟩ : ∃ w', World.alloc w4 (.cells #[.int .i64 0, .int .i64 0] 63) = w' := ⟨_, rfl⟩
            have hB5 : Below wR.heap.size wR w5 := by rw [← hw5]; exact hB4.alloc hB4.size _
            have hb5 : Below w4.heap.size w4 w5 := by rw [← hw5]; exact (Below.refl _ _).alloc (Nat.le_refl _) _
            have hF5 : FrB w5 (w4.heap.size) ⟨0, 0⟩ := by rw [← hw5]; exact FrB.new w4 ⟨0, 0⟩
            try rw [hw5]
            try rw [hw5] at hS5
            clear hw5 hb5
            have hghF : wR.heap.size ≤ w4.heap.size := hB4.size
            obtain ⟨c0, c1, z0, z1⟩ := hF5.cells
            refine wpAnyH_ready (rs := [11]) (by kernel_rfl) (by simp) ?_
            refine (AllReadyH.cons rfl (fun K hK => ?_) AllReadyH.nil)
            go_simp
            refine hK.out _ _ (⟨((below_set2 hB5 hghF _ _).cell (p := ⟨g1, 0, none⟩) hbg1).trans f1, ((below_set2 hB5 hghF _ _).cell (p := ⟨g2, 0, none⟩) hbg2).trans f2, ((below_set2 hB5 hghF _ _).cell (p := ⟨w.heap.size, 0, none⟩) hx0).trans x0, ((below_set2 hB5 hghF _ _).cell (p := ⟨w.heap.size, 1, none⟩) hx0).trans x1⟩) (fun hS6 => ?_)
            clear hK K
            try simp only [Act.put, List.setIfInBounds_toArray, List.set_cons_zero, List.set_cons_succ]
            refine takeY 6 (i := 12) (v := ?vx7) rfl rfl (by kernel_rfl) (by kernel_rfl) (by kernel_rfl) (fun _ _ _ h => h) (by kernel_rfl) ?yx7 hS6 ?_
            case yx7 =>
              intro w' hw'; (try dsimp only at hw'); obtain ⟨q1, q2, q3, q4⟩ := hw'; go_simp; try with_reducible rfl
            simp only [Act.put, List.setIfInBounds_toArray, List.set_cons_zero, List.set_cons_succ]
            refine wpAnyH_done (by kernel_rfl) ?_ _
            go_wp2
            go_meet
            exact ⟨w4.heap.size, rfl, hF5.set _ _, hghF, (below_set2 hB5 hghF _ _)⟩
          · go_simp
            refine hK.out _ _ (⟨((hB3.alloc hB3.size _).cell (p := ⟨g1, 0, none⟩) hbg1).trans f1, ((hB3.alloc hB3.size _).cell (p := ⟨g2, 0, none⟩) hbg2).trans f2, ((hB3.alloc hB3.size _).cell (p := ⟨w.heap.size, 0, none⟩) hx0).trans x0, ((hB3.alloc hB3.size _).cell (p := ⟨w.heap.size, 1, none⟩) hx0).trans x1⟩) (fun hS7 => ?_)
            clear hK K
            try simp only [Act.put, List.setIfInBounds_toArray, List.set_cons_zero, List.set_cons_succ]
            obtain ⟨w7, hw7⟩ : ∃ w', World.alloc w3 (.cells #[.int .i64 0, .int .i64 0] 63) = w' := ⟨_, rfl⟩
            have hB7 : Below wR.heap.size wR w7 := by rw [← hw7]; exact hB3.alloc hB3.size _
            have hb7 : Below w3.heap.size w3 w7 := by rw [← hw7]; exact (Below.refl _ _).alloc (Nat.le_refl _) _
            have hT7 := Items.now hT3 hb7
            have hF7 : FrB w7 (w3.heap.size) ⟨0, 0⟩ := by rw [← hw7]; exact FrB.new w3 ⟨0, 0⟩
            try rw [hw7]
            try rw [hw7] at hS7
            clear hw7 hb7
            have hghF : wR.heap.size ≤ w3.heap.size := hB3.size
            refine wpAnyH_ready (rs := [6]) (by kernel_rfl) (by simp) ?_
            refine (AllReadyH.cons rfl (fun K hK => ?_) AllReadyH.nil)
            go_simp
            go_at_call 37
            refine (HGr.out _ _ _ hB7 hT7).mono ?_
            rintro e w8 ⟨⟨v5, rfl, ho⟩, hb8⟩
            have hB8 : Below wR.heap.size wR w8 := below_on hB7 hb8
            refine hK.out _ _ (⟨(hB8.cell (p := ⟨g1, 0, none⟩) hbg1).trans f1, (hB8.cell (p := ⟨g2, 0, none⟩) hbg2).trans f2, (hB8.cell (p := ⟨w.heap.size, 0, none⟩) hx0).trans x0, (hB8.cell (p := ⟨w.heap.size, 1, none⟩) hx0).trans x1⟩) (fun hS8 => ?_)
            clear hK K
            try simp only [Act.put, List.setIfInBounds_toArray, List.set_cons_zero, List.set_cons_succ]
            have hF8 := hF7.below hb8
            clear hb8 ho
            refine takeY 7 (i := 7) (v := ?vx8) rfl rfl (by kernel_rfl) (by kernel_rfl) (by kernel_rfl) (fun _ _ _ h => h) (by kernel_rfl) ?yx8 hS8 ?_
            case yx8 =>
              intro w' hw'; (try dsimp only at hw'); obtain ⟨q1, q2, q3, q4⟩ := hw'; go_simp; try with_reducible rfl
            simp only [Act.put, List.setIfInBounds_toArray, List.set_cons_zero, List.set_cons_succ]
            refine takeY 15 (i := 8) (v := ?vx9) rfl rfl (by kernel_rfl) (by kernel_rfl) (by kernel_rfl) (fun _ _ _ h => h) (by kernel_rfl) ?yx9 hS8 ?_
            case yx9 =>
              intro w' hw'; (try dsimp only at hw'); obtain ⟨q1, q2, q3, q4⟩ := hw'; go_simp; try with_reducible rfl
            simp only [Act.put, List.setIfInBounds_toArray, List.set_cons_zero, List.set_cons_succ]
            refine takeY 16 (i := 9) (v := ?vx10) rfl rfl (by kernel_rfl) (by kernel_rfl) (by kernel_rfl) (fun _ _ _ h => h) (by kernel_rfl) ?yx10 hS8 ?_
            case yx10 =>
              intro w' hw'; (try dsimp only at hw'); obtain ⟨q1, q2, q3, q4⟩ := hw'; go_simp; try with_reducible rfl
            simp only [Act.put, List.setIfInBounds_toArray, List.set_cons_zero, List.set_cons_succ]
            obtain ⟨c0, c1, z0, z1⟩ := hF8.cells
            refine wpAnyH_ready (rs := [11]) (by kernel_rfl) (by simp) ?_
            refine (AllReadyH.cons rfl (fun K hK => ?_) AllReadyH.nil)
            go_simp
            refine hK.out _ _ (⟨((below_set2 hB8 hghF _ _).cell (p := ⟨g1, 0, none⟩) hbg1).trans f1, ((below_set2 hB8 hghF _ _).cell (p := ⟨g2, 0, none⟩) hbg2).trans f2, ((below_set2 hB8 hghF _ _).cell (p := ⟨w.heap.size, 0, none⟩) hx0).trans x0, ((below_set2 hB8 hghF _ _).cell (p := ⟨w.heap.size, 1, none⟩) hx0).trans x1⟩) (fun hS9 => ?_)
            clear hK K
            try simp only [Act.put, List.setIfInBounds_toArray, List.set_cons_zero, List.set_cons_succ]
            refine takeY 6 (i := 12) (v := ?vx11) rfl rfl (by kernel_rfl) (by kernel_rfl) (by kernel_rfl) (fun _ _ _ h => h) (by kernel_rfl) ?yx11 hS9 ?_
            case yx11 =>
              intro w' hw'; (try dsimp only at hw'); obtain ⟨q1, q2, q3, q4⟩ := hw'; go_simp; try with_reducible rfl
            simp only [Act.put, List.setIfInBounds_toArray, List.set_cons_zero, List.set_cons_succ]
            refine wpAnyH_done (by kernel_rfl) ?_ _
            go_wp2
            go_meet
            exact ⟨w3.heap.size, rfl, hF8.set _ _, hghF, (below_set2 hB8 hghF _ _)⟩
        · go_simp
          refine hK.out _ _ (⟨((hB2.alloc hB2.size _).cell (p := ⟨g1, 0, none⟩) hbg1).trans f1, ((hB2.alloc hB2.size _).cell (p := ⟨g2, 0, none⟩) hbg2).trans f2, ((hB2.alloc hB2.size _).cell (p := ⟨w.heap.size, 0, none⟩) hx0).trans x0, ((hB2.alloc hB2.size _).cell (p := ⟨w.heap.size, 1, none⟩) hx0).trans x1⟩) (fun hS10 => ?_)
          clear hK K
          try simp only [Act.put, List.setIfInBounds_toArray, List.set_cons_zero, List.set_cons_succ]
          obtain ⟨w10, hw10⟩ : ∃ w', World.alloc w2 (.cells #[.int .i64 0, .int .i64 0] 63) = w' := ⟨_, rfl⟩
          have hB10 : Below wR.heap.size wR w10 := by rw [← hw10]; exact hB2.alloc hB2.size _
          have hb10 : Below w2.heap.size w2 w10 := by rw [← hw10]; exact (Below.refl _ _).alloc (Nat.le_refl _) _
          have hV10 := OwnG.below hV2 hb10
          have hE10 := hE2.below hb10
          have hF10 : FrB w10 (w2.heap.size) ⟨0, 0⟩ := by rw [← hw10]; exact FrB.new w2 ⟨0, 0⟩
          try rw [hw10]
          try rw [hw10] at hS10
          clear hw10 hb10
          have hghF : wR.heap.size ≤ w2.heap.size := hB2.size
          have hneV : ∀ k, v.ownBlock = some k → k ≠ w2.heap.size := fun k hk e => by have h1 := hV2.tops k hk; omega
          refine wpAnyH_ready (rs := [5]) (by kernel_rfl) (by simp) ?_
          refine (AllReadyH.cons rfl (fun K hK => ?_) AllReadyH.nil)
          obtain ⟨v6, w11, hr11, ho11, hg11, -⟩ := run_spreadG itCs_len itCs_one (ty := 24) (c := 1) Try.underlying24 info_item rfl (by decide) (by decide) hV10 hE10.read (by omega) hB10.size
          rw [HLL.out] at ho11
          obtain ⟨A4, c4, rfl, -, -⟩ := ho11.shape
          have hB11 : Below wR.heap.size wR w11 := hB10.grown hg11 hB10.size (fun k hk => hV10.lows k hk)
          have hF11 : FrB w11 (w2.heap.size) ⟨0, 0⟩ := (hg11.block _ hF10.lt (fun e => hneV _ e.symm rfl)).trans hF10
          refine step_run _ (by rfl) (.tmp 10) (.tmp 12) 24 (by rfl) _ _ (by rfl) (by rfl) hr11 ?_
          refine hK.out _ _ (⟨(hB11.cell (p := ⟨g1, 0, none⟩) hbg1).trans f1, (hB11.cell (p := ⟨g2, 0, none⟩) hbg2).trans f2, (hB11.cell (p := ⟨w.heap.size, 0, none⟩) hx0).trans x0, (hB11.cell (p := ⟨w.heap.size, 1, none⟩) hx0).trans x1⟩) (fun hS11 => ?_)
          clear hK K
          try simp only [Act.put, List.setIfInBounds_toArray, List.set_cons_zero, List.set_cons_succ]
          have hT11 : Items w11 w11.heap.size A4 L.length L := Items.ofr (ho11.read itCs_len) (HIn.out _ hB11)
          clear hr11 hg11 ho11
          refine wpAnyH_ready (rs := [6]) (by kernel_rfl) (by simp) ?_
          refine (AllReadyH.cons rfl (fun K hK => ?_) AllReadyH.nil)
          go_simp
          go_at_call 37
          refine (HGr.out _ _ _ hB11 hT11).mono ?_
          rintro e w12 ⟨⟨v5, rfl, ho⟩, hb12⟩
          have hB12 : Below wR.heap.size wR w12 := below_on hB11 hb12
          refine hK.out _ _ (⟨(hB12.cell (p := ⟨g1, 0, none⟩) hbg1).trans f1, (hB12.cell (p := ⟨g2, 0, none⟩) hbg2).trans f2, (hB12.cell (p := ⟨w.heap.size, 0, none⟩) hx0).trans x0, (hB12.cell (p := ⟨w.heap.size, 1, none⟩) hx0).trans x1⟩) (fun hS12 => ?_)
          clear hK K
          try simp only [Act.put, List.setIfInBounds_toArray, List.set_cons_zero, List.set_cons_succ]
          have hF12 := hF11.below hb12
          clear hb12 ho
          refine takeY 7 (i := 7) (v := ?vx12) rfl rfl (by kernel_rfl) (by kernel_rfl) (by kernel_rfl) (fun _ _ _ h => h) (by kernel_rfl) ?yx12 hS12 ?_
          case yx12 =>
            intro w' hw'; (try dsimp only at hw'); obtain ⟨q1, q2, q3, q4⟩ := hw'; go_simp; try with_reducible rfl
          simp only [Act.put, List.setIfInBounds_toArray, List.set_cons_zero, List.set_cons_succ]
          refine takeY 15 (i := 8) (v := ?vx13) rfl rfl (by kernel_rfl) (by kernel_rfl) (by kernel_rfl) (fun _ _ _ h => h) (by kernel_rfl) ?yx13 hS12 ?_
          case yx13 =>
            intro w' hw'; (try dsimp only at hw'); obtain ⟨q1, q2, q3, q4⟩ := hw'; go_simp; try with_reducible rfl
          simp only [Act.put, List.setIfInBounds_toArray, List.set_cons_zero, List.set_cons_succ]
          refine takeY 16 (i := 9) (v := ?vx14) rfl rfl (by kernel_rfl) (by kernel_rfl) (by kernel_rfl) (fun _ _ _ h => h) (by kernel_rfl) ?yx14 hS12 ?_
          case yx14 =>
            intro w' hw'; (try dsimp only at hw'); obtain ⟨q1, q2, q3, q4⟩ := hw'; go_simp; try with_reducible rfl
          simp only [Act.put, List.setIfInBounds_toArray, List.set_cons_zero, List.set_cons_succ]
          obtain ⟨c0, c1, z0, z1⟩ := hF12.cells
          refine wpAnyH_ready (rs := [11]) (by kernel_rfl) (by simp) ?_
          refine (AllReadyH.cons rfl (fun K hK => ?_) AllReadyH.nil)
          go_simp
          refine hK.out _ _ (⟨((below_set2 hB12 hghF _ _).cell (p := ⟨g1, 0, none⟩) hbg1).trans f1, ((below_set2 hB12 hghF _ _).cell (p := ⟨g2, 0, none⟩) hbg2).trans f2, ((below_set2 hB12 hghF _ _).cell (p := ⟨w.heap.size, 0, none⟩) hx0).trans x0, ((below_set2 hB12 hghF _ _).cell (p := ⟨w.heap.size, 1, none⟩) hx0).trans x1⟩) (fun hS13 => ?_)
          clear hK K
          try simp only [Act.put, List.setIfInBounds_toArray, List.set_cons_zero, List.set_cons_succ]
          refine takeY 6 (i := 12) (v := ?vx15) rfl rfl (by kernel_rfl) (by kernel_rfl) (by kernel_rfl) (fun _ _ _ h => h) (by kernel_rfl) ?yx15 hS13 ?_
          case yx15 =>
            intro w' hw'; (try dsimp only at hw'); obtain ⟨q1, q2, q3, q4⟩ := hw'; go_simp; try with_reducible rfl
          simp only [Act.put, List.setIfInBounds_toArray, List.set_cons_zero, List.set_cons_succ]
          refine wpAnyH_done (by kernel_rfl) ?_ _
          go_wp2
          go_meet
          exact ⟨w2.heap.size, rfl, hF12.set _ _, hghF, (below_set2 hB12 hghF _ _)⟩
      · go_simp
        refine hK.out _ _ (⟨((hB1.alloc hB1.size _).cell (p := ⟨g1, 0, none⟩) hbg1).trans f1, ((hB1.alloc hB1.size _).cell (p := ⟨g2, 0, none⟩) hbg2).trans f2, ((hB1.alloc hB1.size _).cell (p := ⟨w.heap.size, 0, none⟩) hx0).trans x0, ((hB1.alloc hB1.size _).cell (p := ⟨w.heap.size, 1, none⟩) hx0).trans x1⟩) (fun hS14 => ?_)
        clear hK K
        try simp only [Act.put, List.setIfInBounds_toArray, List.set_cons_zero, List.set_cons_succ]
        obtain ⟨w14, hw14⟩ : ∃ w', World.alloc w1 (.cells #[.int .i64 0, .int .i64 0] 63) = w' := ⟨_, rfl⟩
        have hB14 : Below wR.heap.size wR w14 := by rw [← hw14]; exact hB1.alloc hB1.size _
        have hb14 : Below w1.heap.size w1 w14 := by rw [← hw14]; exact (Below.refl _ _).alloc (Nat.le_refl _) _
        have hV14 := OwnG.below hV1 hb14
        have hF14 : FrB w14 (w1.heap.size) ⟨0, 0⟩ := by rw [← hw14]; exact FrB.new w1 ⟨0, 0⟩
        try rw [hw14]
        try rw [hw14] at hS14
        clear hw14 hb14
        have hghF : wR.heap.size ≤ w1.heap.size := hB1.size
        have hneV : ∀ k, v.ownBlock = some k → k ≠ w1.heap.size := fun k hk e => by have h1 := hV1.tops k hk; omega
        refine wpAnyH_ready (rs := [4]) (by kernel_rfl) (by simp) ?_
        refine (AllReadyH.cons rfl (fun K hK => ?_) AllReadyH.nil)
        go_simp
        refine hK.out _ _ (⟨((hB14.alloc hB14.size _).cell (p := ⟨g1, 0, none⟩) hbg1).trans f1, ((hB14.alloc hB14.size _).cell (p := ⟨g2, 0, none⟩) hbg2).trans f2, ((hB14.alloc hB14.size _).cell (p := ⟨w.heap.size, 0, none⟩) hx0).trans x0, ((hB14.alloc hB14.size _).cell (p := ⟨w.heap.size, 1, none⟩) hx0).trans x1⟩) (fun hS15 => ?_)
        clear hK K
        try simp only [Act.put, List.setIfInBounds_toArray, List.set_cons_zero, List.set_cons_succ]
        obtain ⟨w15, hw15⟩ : ∃ w', World.alloc w14 (.cells #[.int .i64 x.id, .slice x.A x.n x.c] 43) = w' := ⟨_, rfl⟩
        have hB15 : Below wR.heap.size wR w15 := by rw [← hw15]; exact hB14.alloc hB14.size _
        have hb15 : Below w14.heap.size w14 w15 := by rw [← hw15]; exact (Below.refl _ _).alloc (Nat.le_refl _) _
        have hV15 := OwnG.below hV14 hb15
        have hF15 := hF14.below hb15
        have hE15 : ItX w15 (w14.heap.size) x := by rw [← hw15]; exact ItX.new w14 x
        try rw [hw15]
        try rw [hw15] at hS15
        clear hw15 hb15
        refine wpAnyH_ready (rs := [5]) (by kernel_rfl) (by simp) ?_
        refine (AllReadyH.cons rfl (fun K hK => ?_) AllReadyH.nil)
        obtain ⟨v6, w16, hr16, ho16, hg16, -⟩ := run_spreadG itCs_len itCs_one (ty := 24) (c := 1) Try.underlying24 info_item rfl (by decide) (by decide) hV15 hE15.read (by omega) hB15.size
        rw [HLL.out] at ho16
        obtain ⟨A4, c4, rfl, -, -⟩ := ho16.shape
        have hB16 : Below wR.heap.size wR w16 := hB15.grown hg16 hB15.size (fun k hk => hV15.lows k hk)
        have hF16 : FrB w16 (w1.heap.size) ⟨0, 0⟩ := (hg16.block _ hF15.lt (fun e => hneV _ e.symm rfl)).trans hF15
        refine step_run _ (by rfl) (.tmp 10) (.tmp 12) 24 (by rfl) _ _ (by rfl) (by rfl) hr16 ?_
        refine hK.out _ _ (⟨(hB16.cell (p := ⟨g1, 0, none⟩) hbg1).trans f1, (hB16.cell (p := ⟨g2, 0, none⟩) hbg2).trans f2, (hB16.cell (p := ⟨w.heap.size, 0, none⟩) hx0).trans x0, (hB16.cell (p := ⟨w.heap.size, 1, none⟩) hx0).trans x1⟩) (fun hS16 => ?_)
        clear hK K
        try simp only [Act.put, List.setIfInBounds_toArray, List.set_cons_zero, List.set_cons_succ]
        have hT16 : Items w16 w16.heap.size A4 L.length L := Items.ofr (ho16.read itCs_len) (HIn.out _ hB16)
        clear hr16 hg16 ho16
        refine wpAnyH_ready (rs := [6]) (by kernel_rfl) (by simp) ?_
        refine (AllReadyH.cons rfl (fun K hK => ?_) AllReadyH.nil)
        go_simp
        go_at_call 37
        refine (HGr.out _ _ _ hB16 hT16).mono ?_
        rintro e w17 ⟨⟨v5, rfl, ho⟩, hb17⟩
        have hB17 : Below wR.heap.size wR w17 := below_on hB16 hb17
        refine hK.out _ _ (⟨(hB17.cell (p := ⟨g1, 0, none⟩) hbg1).trans f1, (hB17.cell (p := ⟨g2, 0, none⟩) hbg2).trans f2, (hB17.cell (p := ⟨w.heap.size, 0, none⟩) hx0).trans x0, (hB17.cell (p := ⟨w.heap.size, 1, none⟩) hx0).trans x1⟩) (fun hS17 => ?_)
        clear hK K
        try simp only [Act.put, List.setIfInBounds_toArray, List.set_cons_zero, List.set_cons_succ]
        have hF17 := hF16.below hb17
        clear hb17 ho
        refine takeY 7 (i := 7) (v := ?vx16) rfl rfl (by kernel_rfl) (by kernel_rfl) (by kernel_rfl) (fun _ _ _ h => h) (by kernel_rfl) ?yx16 hS17 ?_
        case yx16 =>
          intro w' hw'; (try dsimp only at hw'); obtain ⟨q1, q2, q3, q4⟩ := hw'; go_simp; try with_reducible rfl
        simp only [Act.put, List.setIfInBounds_toArray, List.set_cons_zero, List.set_cons_succ]
        refine takeY 15 (i := 8) (v := ?vx17) rfl rfl (by kernel_rfl) (by kernel_rfl) (by kernel_rfl) (fun _ _ _ h => h) (by kernel_rfl) ?yx17 hS17 ?_
        case yx17 =>
          intro w' hw'; (try dsimp only at hw'); obtain ⟨q1, q2, q3, q4⟩ := hw'; go_simp; try with_reducible rfl
        simp only [Act.put, List.setIfInBounds_toArray, List.set_cons_zero, List.set_cons_succ]
        refine takeY 16 (i := 9) (v := ?vx18) rfl rfl (by kernel_rfl) (by kernel_rfl) (by kernel_rfl) (fun _ _ _ h => h) (by kernel_rfl) ?yx18 hS17 ?_
        case yx18 =>
          intro w' hw'; (try dsimp only at hw'); obtain ⟨q1, q2, q3, q4⟩ := hw'; go_simp; try with_reducible rfl
        simp only [Act.put, List.setIfInBounds_toArray, List.set_cons_zero, List.set_cons_succ]
        obtain ⟨c0, c1, z0, z1⟩ := hF17.cells
        refine wpAnyH_ready (rs := [11]) (by kernel_rfl) (by simp) ?_
        refine (AllReadyH.cons rfl (fun K hK => ?_) AllReadyH.nil)
        go_simp
        refine hK.out _ _ (⟨((below_set2 hB17 hghF _ _).cell (p := ⟨g1, 0, none⟩) hbg1).trans f1, ((below_set2 hB17 hghF _ _).cell (p := ⟨g2, 0, none⟩) hbg2).trans f2, ((below_set2 hB17 hghF _ _).cell (p := ⟨w.heap.size, 0, none⟩) hx0).trans x0, ((below_set2 hB17 hghF _ _).cell (p := ⟨w.heap.size, 1, none⟩) hx0).trans x1⟩) (fun hS18 => ?_)
        clear hK K
        try simp only [Act.put, List.setIfInBounds_toArray, List.set_cons_zero, List.set_cons_succ]
        refine takeY 6 (i := 12) (v := ?vx19) rfl rfl (by kernel_rfl) (by kernel_rfl) (by kernel_rfl) (fun _ _ _ h => h) (by kernel_rfl) ?yx19 hS18 ?_
        case yx19 =>
          intro w' hw'; (try dsimp only at hw'); obtain ⟨q1, q2, q3, q4⟩ := hw'; go_simp; try with_reducible rfl
        simp only [Act.put, List.setIfInBounds_toArray, List.set_cons_zero, List.set_cons_succ]
        refine wpAnyH_done (by kernel_rfl) ?_ _
        go_wp2
        go_meet
        exact ⟨w1.heap.size, rfl, hF17.set _ _, hghF, (below_set2 hB17 hghF _ _)⟩
    · go_simp
      refine hK.out _ _ (⟨((hBD.alloc hBD.size _).cell (p := ⟨g1, 0, none⟩) hbg1).trans f1, ((hBD.alloc hBD.size _).cell (p := ⟨g2, 0, none⟩) hbg2).trans f2, ((hBD.alloc hBD.size _).cell (p := ⟨w.heap.size, 0, none⟩) hx0).trans x0, ((hBD.alloc hBD.size _).cell (p := ⟨w.heap.size, 1, none⟩) hx0).trans x1⟩) (fun hS19 => ?_)
      clear hK K
      try simp only [Act.put, List.setIfInBounds_toArray, List.set_cons_zero, List.set_cons_succ]
      obtain ⟨w19, hw19⟩ : ∃ w', World.alloc wD (.cells #[.int .i64 x.id, .slice x.A x.n x.c] 43) = w' := ⟨_, rfl⟩
      have hB19 : Below wR.heap.size wR w19 := by rw [← hw19]; exact hBD.alloc hBD.size _
      have hb19 : Below wD.heap.size wD w19 := by rw [← hw19]; exact (Below.refl _ _).alloc (Nat.le_refl _) _
      have hE19 : ItX w19 (wD.heap.size) x := by rw [← hw19]; exact ItX.new wD x
      try rw [hw19]
      try rw [hw19] at hS19
      clear hw19 hb19
      refine wpAnyH_ready (rs := [2, 10]) (by kernel_rfl) (by simp) ?_
      refine (AllReadyH.cons rfl (fun K hK => ?_) (AllReadyH.cons rfl (fun K hK => ?_) AllReadyH.nil))
      · go_simp
        go_at_call 57
        refine (HCl.out _ hB19).mono ?_
        rintro e w20 ⟨v, rfl, ho, hb20⟩
        have hB20 : Below wR.heap.size wR w20 := below_on hB19 hb20
        refine hK.out _ _ (⟨(hB20.cell (p := ⟨g1, 0, none⟩) hbg1).trans f1, (hB20.cell (p := ⟨g2, 0, none⟩) hbg2).trans f2, (hB20.cell (p := ⟨w.heap.size, 0, none⟩) hx0).trans x0, (hB20.cell (p := ⟨w.heap.size, 1, none⟩) hx0).trans x1⟩) (fun hS20 => ?_)
        clear hK K
        try simp only [Act.put, List.setIfInBounds_toArray, List.set_cons_zero, List.set_cons_succ]
        have hE20 := hE19.below hb20
        have hV20 : OwnTs w20 wR.heap.size v cs := ho.low hB19.size
        clear hb20 ho
        refine wpAnyH_ready (rs := [5, 10]) (by kernel_rfl) (by simp) ?_
        refine (AllReadyH.cons rfl (fun K hK => ?_) (AllReadyH.cons rfl (fun K hK => ?_) AllReadyH.nil))
        · obtain ⟨v6, w21, hr21, ho21, hg21, -⟩ := run_spreadG itCs_len itCs_one (ty := 24) (c := 1) Try.underlying24 info_item rfl (by decide) (by decide) hV20 hE20.read (by omega) hB20.size
          rw [HLL.out] at ho21
          obtain ⟨A4, c4, rfl, -, -⟩ := ho21.shape
          have hB21 : Below wR.heap.size wR w21 := hB20.grown hg21 hB20.size (fun k hk => hV20.lows k hk)
          refine step_run _ (by rfl) (.tmp 10) (.tmp 12) 24 (by rfl) _ _ (by rfl) (by rfl) hr21 ?_
          refine hK.out _ _ (⟨(hB21.cell (p := ⟨g1, 0, none⟩) hbg1).trans f1, (hB21.cell (p := ⟨g2, 0, none⟩) hbg2).trans f2, (hB21.cell (p := ⟨w.heap.size, 0, none⟩) hx0).trans x0, (hB21.cell (p := ⟨w.heap.size, 1, none⟩) hx0).trans x1⟩) (fun hS21 => ?_)
          clear hK K
          try simp only [Act.put, List.setIfInBounds_toArray, List.set_cons_zero, List.set_cons_succ]
          have hT21 : Items w21 w21.heap.size A4 L.length L := Items.ofr (ho21.read itCs_len) (HIn.out _ hB21)
          clear hr21 hg21 ho21
          refine wpAnyH_ready (rs := [6, 10]) (by kernel_rfl) (by simp) ?_
          refine (AllReadyH.cons rfl (fun K hK => ?_) (AllReadyH.cons rfl (fun K hK => ?_) AllReadyH.nil))
          · go_simp
            go_at_call 37
            refine (HGr.out _ _ _ hB21 hT21).mono ?_
            rintro e w22 ⟨⟨v5, rfl, ho⟩, hb22⟩
            have hB22 : Below wR.heap.size wR w22 := below_on hB21 hb22
            refine hK.out _ _ (⟨(hB22.cell (p := ⟨g1, 0, none⟩) hbg1).trans f1, (hB22.cell (p := ⟨g2, 0, none⟩) hbg2).trans f2, (hB22.cell (p := ⟨w.heap.size, 0, none⟩) hx0).trans x0, (hB22.cell (p := ⟨w.heap.size, 1, none⟩) hx0).trans x1⟩) (fun hS22 => ?_)
            clear hK K
            try simp only [Act.put, List.setIfInBounds_toArray, List.set_cons_zero, List.set_cons_succ]
            clear hb22 ho
            refine takeY 7 (i := 7) (v := ?vx20) rfl rfl (by kernel_rfl) (by kernel_rfl) (by kernel_rfl) (fun _ _ _ h => h) (by kernel_rfl) ?yx20 hS22 ?_
            case yx20 =>
              intro w' hw'; (try dsimp only at hw'); obtain ⟨q1, q2, q3, q4⟩ := hw'; go_simp; try with_reducible rfl
            simp only [Act.put, List.setIfInBounds_toArray, List.set_cons_zero, List.set_cons_succ]
            refine takeY 15 (i := 8) (v := ?vx21) rfl rfl (by kernel_rfl) (by kernel_rfl) (by kernel_rfl) (fun _ _ _ h => h) (by kernel_rfl) ?yx21 hS22 ?_
            case yx21 =>
              intro w' hw'; (try dsimp only at hw'); obtain ⟨q1, q2, q3, q4⟩ := hw'; go_simp; try with_reducible rfl
            simp only [Act.put, List.setIfInBounds_toArray, List.set_cons_zero, List.set_cons_succ]
            refine takeY 16 (i := 9) (v := ?vx22) rfl rfl (by kernel_rfl) (by kernel_rfl) (by kernel_rfl) (fun _ _ _ h => h) (by kernel_rfl) ?yx22 hS22 ?_
            case yx22 =>
              intro w' hw'; (try dsimp only at hw'); obtain ⟨q1, q2, q3, q4⟩ := hw'; go_simp; try with_reducible rfl
            simp only [Act.put, List.setIfInBounds_toArray, List.set_cons_zero, List.set_cons_succ]
            refine wpAnyH_ready (rs := [10]) (by kernel_rfl) (by simp) ?_
            refine (AllReadyH.cons rfl (fun K hK => ?_) AllReadyH.nil)
            go_simp
            refine hK.out _ _ (⟨((hB22.alloc hB22.size _).cell (p := ⟨g1, 0, none⟩) hbg1).trans f1, ((hB22.alloc hB22.size _).cell (p := ⟨g2, 0, none⟩) hbg2).trans f2, ((hB22.alloc hB22.size _).cell (p := ⟨w.heap.size, 0, none⟩) hx0).trans x0, ((hB22.alloc hB22.size _).cell (p := ⟨w.heap.size, 1, none⟩) hx0).trans x1⟩) (fun hS23 => ?_)
            clear hK K
            try simp only [Act.put, List.setIfInBounds_toArray, List.set_cons_zero, List.set_cons_succ]
            obtain ⟨w23, hw23⟩ : ∃ w', World.alloc w22 (.cells #[.int .i64 0, .int .i64 0] 63) = w' := ⟨_, rfl⟩
            have hB23 : Below wR.heap.size wR w23 := by rw [← hw23]; exact hB22.alloc hB22.size _
            have hb23 : Below w22.heap.size w22 w23 := by rw [← hw23]; exact (Below.refl _ _).alloc (Nat.le_refl _) _
            have hF23 : FrB w23 (w22.heap.size) ⟨0, 0⟩ := by rw [← hw23]; exact FrB.new w22 ⟨0, 0⟩
            try rw [hw23]
            try rw [hw23] at hS23
            clear hw23 hb23
            have hghF : wR.heap.size ≤ w22.heap.size := hB22.size
            obtain ⟨c0, c1, z0, z1⟩ := hF23.cells
            refine wpAnyH_ready (rs := [11]) (by kernel_rfl) (by simp) ?_
            refine (AllReadyH.cons rfl (fun K hK => ?_) AllReadyH.nil)
            go_simp
            refine hK.out _ _ (⟨((below_set2 hB23 hghF _ _).cell (p := ⟨g1, 0, none⟩) hbg1).trans f1, ((below_set2 hB23 hghF _ _).cell (p := ⟨g2, 0, none⟩) hbg2).trans f2, ((below_set2 hB23 hghF _ _).cell (p := ⟨w.heap.size, 0, none⟩) hx0).trans x0, ((below_set2 hB23 hghF _ _).cell (p := ⟨w.heap.size, 1, none⟩) hx0).trans x1⟩) (fun hS24 => ?_)
            clear hK K
            try simp only [Act.put, List.setIfInBounds_toArray, List.set_cons_zero, List.set_cons_succ]
            refine takeY 6 (i := 12) (v := ?vx23) rfl rfl (by kernel_rfl) (by kernel_rfl) (by kernel_rfl) (fun _ _ _ h => h) (by kernel_rfl) ?yx23 hS24 ?_
            case yx23 =>
              intro w' hw'; (try dsimp only at hw'); obtain ⟨q1, q2, q3, q4⟩ := hw'; go_simp; try with_reducible rfl
            simp only [Act.put, List.setIfInBounds_toArray, List.set_cons_zero, List.set_cons_succ]
            refine wpAnyH_done (by kernel_rfl) ?_ _
            go_wp2
            go_meet
            exact ⟨w22.heap.size, rfl, hF23.set _ _, hghF, (below_set2 hB23 hghF _ _)⟩
          · go_simp
            refine hK.out _ _ (⟨((hB21.alloc hB21.size _).cell (p := ⟨g1, 0, none⟩) hbg1).trans f1, ((hB21.alloc hB21.size _).cell (p := ⟨g2, 0, none⟩) hbg2).trans f2, ((hB21.alloc hB21.size _).cell (p := ⟨w.heap.size, 0, none⟩) hx0).trans x0, ((hB21.alloc hB21.size _).cell (p := ⟨w.heap.size, 1, none⟩) hx0).trans x1⟩) (fun hS25 => ?_)
            clear hK K
            try simp only [Act.put, List.setIfInBounds_toArray, List.set_cons_zero, List.set_cons_succ]
            obtain ⟨w25, hw25⟩ : ∃ w', World.alloc w21 (.cells #[.int .i64 0, .int .i64 0] 63) = w' := ⟨_, rfl⟩
            have hB25 : Below wR.heap.size wR w25 := by rw [← hw25]; exact hB21.alloc hB21.size _
            have hb25 : Below w21.heap.size w21 w25 := by rw [← hw25]; exact (Below.refl _ _).alloc (Nat.le_refl _) _
            have hT25 := Items.now hT21 hb25
            have hF25 : FrB w25 (w21.heap.size) ⟨0, 0⟩ := by rw [← hw25]; exact FrB.new w21 ⟨0, 0⟩
            try rw [hw25]
            try rw [hw25] at hS25
            clear hw25 hb25
            have hghF : wR.heap.size ≤ w21.heap.size := hB21.size
            refine wpAnyH_ready (rs := [6]) (by kernel_rfl) (by simp) ?_
            refine (AllReadyH.cons rfl (fun K hK => ?_) AllReadyH.nil)
            go_simp
            go_at_call 37
            refine (HGr.out _ _ _ hB25 hT25).mono ?_
            rintro e w26 ⟨⟨v5, rfl, ho⟩, hb26⟩
            have hB26 : Below wR.heap.size wR w26 := below_on hB25 hb26
            refine hK.out _ _ (⟨(hB26.cell (p := ⟨g1, 0, none⟩) hbg1).trans f1, (hB26.cell (p := ⟨g2, 0, none⟩) hbg2).trans f2, (hB26.cell (p := ⟨w.heap.size, 0, none⟩) hx0).trans x0, (hB26.cell (p := ⟨w.heap.size, 1, none⟩) hx0).trans x1⟩) (fun hS26 => ?_)
            clear hK K
            try simp only [Act.put, List.setIfInBounds_toArray, List.set_cons_zero, List.set_cons_succ]
            have hF26 := hF25.below hb26
            clear hb26 ho
            refine takeY 7 (i := 7) (v := ?vx24) rfl rfl (by kernel_rfl) (by kernel_rfl) (by kernel_rfl) (fun _ _ _ h => h) (by kernel_rfl) ?yx24 hS26 ?_
            case yx24 =>
              intro w' hw'; (try dsimp only at hw'); obtain ⟨q1, q2, q3, q4⟩ := hw'; go_simp; try with_reducible rfl
            simp only [Act.put, List.setIfInBounds_toArray, List.set_cons_zero, List.set_cons_succ]
            refine takeY 15 (i := 8) (v := ?vx25) rfl rfl (by kernel_rfl) (by kernel_rfl) (by kernel_rfl) (fun _ _ _ h => h) (by kernel_rfl) ?yx25 hS26 ?_
            case yx25 =>
              intro w' hw'; (try dsimp only at hw'); obtain ⟨q1, q2, q3, q4⟩ := hw'; go_simp; try with_reducible rfl
            simp only [Act.put, List.setIfInBounds_toArray, List.set_cons_zero, List.set_cons_succ]
            refine takeY 16 (i := 9) (v := ?vx26) rfl rfl (by kernel_rfl) (by kernel_rfl) (by kernel_rfl) (fun _ _ _ h => h) (by kernel_rfl) ?yx26 hS26 ?_
            case yx26 =>
              intro w' hw'; (try dsimp only at hw'); obtain ⟨q1, q2, q3, q4⟩ := hw'; go_simp; try with_reducible rfl
            simp only [Act.put, List.setIfInBounds_toArray, List.set_cons_zero, List.set_cons_succ]
            obtain ⟨c0, c1, z0, z1⟩ := hF26.cells
            refine wpAnyH_ready (rs := [11]) (by kernel_rfl) (by simp) ?_
            refine (AllReadyH.cons rfl (fun K hK => ?_) AllReadyH.nil)
            go_simp
            refine hK.out _ _ (⟨((below_set2 hB26 hghF _ _).cell (p := ⟨g1, 0, none⟩) hbg1).trans f1, ((below_set2 hB26 hghF _ _).cell (p := ⟨g2, 0, none⟩) hbg2).trans f2, ((below_set2 hB26 hghF _ _).cell (p := ⟨w.heap.size, 0, none⟩) hx0).trans x0, ((below_set2 hB26 hghF _ _).cell (p := ⟨w.heap.size, 1, none⟩) hx0).trans x1⟩) (fun hS27 => ?_)
            clear hK K
            try simp only [Act.put, List.setIfInBounds_toArray, List.set_cons_zero, List.set_cons_succ]
            refine takeY 6 (i := 12) (v := ?vx27) rfl rfl (by kernel_rfl) (by kernel_rfl) (by kernel_rfl) (fun _ _ _ h => h) (by kernel_rfl) ?yx27 hS27 ?_
            case yx27 =>
              intro w' hw'; (try dsimp only at hw'); obtain ⟨q1, q2, q3, q4⟩ := hw'; go_simp; try with_reducible rfl
            simp only [Act.put, List.setIfInBounds_toArray, List.set_cons_zero, List.set_cons_succ]
            refine wpAnyH_done (by kernel_rfl) ?_ _
            go_wp2
            go_meet
            exact ⟨w21.heap.size, rfl, hF26.set _ _, hghF, (below_set2 hB26 hghF _ _)⟩
        · go_simp
          refine hK.out _ _ (⟨((hB20.alloc hB20.size _).cell (p := ⟨g1, 0, none⟩) hbg1).trans f1, ((hB20.alloc hB20.size _).cell (p := ⟨g2, 0, none⟩) hbg2).trans f2, ((hB20.alloc hB20.size _).cell (p := ⟨w.heap.size, 0, none⟩) hx0).trans x0, ((hB20.alloc hB20.size _).cell (p := ⟨w.heap.size, 1, none⟩) hx0).trans x1⟩) (fun hS28 => ?_)
          clear hK K
          try simp only [Act.put, List.setIfInBounds_toArray, List.set_cons_zero, List.set_cons_succ]
          obtain ⟨w28, hw28⟩ : ∃ w', World.alloc w20 (.cells #[.int .i64 0, .int .i64 0] 63) = w' := ⟨_, rfl⟩
          have hB28 : Below wR.heap.size wR w28 := by rw [← hw28]; exact hB20.alloc hB20.size _
          have hb28 : Below w20.heap.size w20 w28 := by rw [← hw28]; exact (Below.refl _ _).alloc (Nat.le_refl _) _
          have hE28 := hE20.below hb28
          have hV28 := OwnG.below hV20 hb28
          have hF28 : FrB w28 (w20.heap.size) ⟨0, 0⟩ := by rw [← hw28]; exact FrB.new w20 ⟨0, 0⟩
          try rw [hw28]
          try rw [hw28] at hS28
          clear hw28 hb28
          have hghF : wR.heap.size ≤ w20.heap.size := hB20.size
          have hneV : ∀ k, v.ownBlock = some k → k ≠ w20.heap.size := fun k hk e => by have h1 := hV20.tops k hk; omega
          refine wpAnyH_ready (rs := [5]) (by kernel_rfl) (by simp) ?_
          refine (AllReadyH.cons rfl (fun K hK => ?_) AllReadyH.nil)
          obtain ⟨v6, w29, hr29, ho29, hg29, -⟩ := run_spreadG itCs_len itCs_one (ty := 24) (c := 1) Try.underlying24 info_item rfl (by decide) (by decide) hV28 hE28.read (by omega) hB28.size
          rw [HLL.out] at ho29
          obtain ⟨A4, c4, rfl, -, -⟩ := ho29.shape
          have hB29 : Below wR.heap.size wR w29 := hB28.grown hg29 hB28.size (fun k hk => hV28.lows k hk)
          have hF29 : FrB w29 (w20.heap.size) ⟨0, 0⟩ := (hg29.block _ hF28.lt (fun e => hneV _ e.symm rfl)).trans hF28
          refine step_run _ (by rfl) (.tmp 10) (.tmp 12) 24 (by rfl) _ _ (by rfl) (by rfl) hr29 ?_
          refine hK.out _ _ (⟨(hB29.cell (p := ⟨g1, 0, none⟩) hbg1).trans f1, (hB29.cell (p := ⟨g2, 0, none⟩) hbg2).trans f2, (hB29.cell (p := ⟨w.heap.size, 0, none⟩) hx0).trans x0, (hB29.cell (p := ⟨w.heap.size, 1, none⟩) hx0).trans x1⟩) (fun hS29 => ?_)
          clear hK K
          try simp only [Act.put, List.setIfInBounds_toArray, List.set_cons_zero, List.set_cons_succ]
          have hT29 : Items w29 w29.heap.size A4 L.length L := Items.ofr (ho29.read itCs_len) (HIn.out _ hB29)
          clear hr29 hg29 ho29
          refine wpAnyH_ready (rs := [6]) (by kernel_rfl) (by simp) ?_
          refine (AllReadyH.cons rfl (fun K hK => ?_) AllReadyH.nil)
          go_simp
          go_at_call 37
          refine (HGr.out _ _ _ hB29 hT29).mono ?_
          rintro e w30 ⟨⟨v5, rfl, ho⟩, hb30⟩
          have hB30 : Below wR.heap.size wR w30 := below_on hB29 hb30
          refine hK.out _ _ (⟨(hB30.cell (p := ⟨g1, 0, none⟩) hbg1).trans f1, (hB30.cell (p := ⟨g2, 0, none⟩) hbg2).trans f2, (hB30.cell (p := ⟨w.heap.size, 0, none⟩) hx0).trans x0, (hB30.cell (p := ⟨w.heap.size, 1, none⟩) hx0).trans x1⟩) (fun hS30 => ?_)
          clear hK K
          try simp only [Act.put, List.setIfInBounds_toArray, List.set_cons_zero, List.set_cons_succ]
          have hF30 := hF29.below hb30
          clear hb30 ho
          refine takeY 7 (i := 7) (v := ?vx28) rfl rfl (by kernel_rfl) (by kernel_rfl) (by kernel_rfl) (fun _ _ _ h => h) (by kernel_rfl) ?yx28 hS30 ?_
          case yx28 =>
            intro w' hw'; (try dsimp only at hw'); obtain ⟨q1, q2, q3, q4⟩ := hw'; go_simp; try with_reducible rfl
          simp only [Act.put, List.setIfInBounds_toArray, List.set_cons_zero, List.set_cons_succ]
          refine takeY 15 (i := 8) (v := ?vx29) rfl rfl (by kernel_rfl) (by kernel_rfl) (by kernel_rfl) (fun _ _ _ h => h) (by kernel_rfl) ?yx29 hS30 ?_
          case yx29 =>
            intro w' hw'; (try dsimp only at hw'); obtain ⟨q1, q2, q3, q4⟩ := hw'; go_simp; try with_reducible rfl
          simp only [Act.put, List.setIfInBounds_toArray, List.set_cons_zero, List.set_cons_succ]
          refine takeY 16 (i := 9) (v := ?vx30) rfl rfl (by kernel_rfl) (by kernel_rfl) (by kernel_rfl) (fun _ _ _ h => h) (by kernel_rfl) ?yx30 hS30 ?_
          case yx30 =>
            intro w' hw'; (try dsimp only at hw'); obtain ⟨q1, q2, q3, q4⟩ := hw'; go_simp; try with_reducible rfl
          simp only [Act.put, List.setIfInBounds_toArray, List.set_cons_zero, List.set_cons_succ]
          obtain ⟨c0, c1, z0, z1⟩ := hF30.cells
          refine wpAnyH_ready (rs := [11]) (by kernel_rfl) (by simp) ?_
          refine (AllReadyH.cons rfl (fun K hK => ?_) AllReadyH.nil)
          go_simp
          refine hK.out _ _ (⟨((below_set2 hB30 hghF _ _).cell (p := ⟨g1, 0, none⟩) hbg1).trans f1, ((below_set2 hB30 hghF _ _).cell (p := ⟨g2, 0, none⟩) hbg2).trans f2, ((below_set2 hB30 hghF _ _).cell (p := ⟨w.heap.size, 0, none⟩) hx0).trans x0, ((below_set2 hB30 hghF _ _).cell (p := ⟨w.heap.size, 1, none⟩) hx0).trans x1⟩) (fun hS31 => ?_)
          clear hK K
          try simp only [Act.put, List.setIfInBounds_toArray, List.set_cons_zero, List.set_cons_succ]
          refine takeY 6 (i := 12) (v := ?vx31) rfl rfl (by kernel_rfl) (by kernel_rfl) (by kernel_rfl) (fun _ _ _ h => h) (by kernel_rfl) ?yx31 hS31 ?_
          case yx31 =>
            intro w' hw'; (try dsimp only at hw'); obtain ⟨q1, q2, q3, q4⟩ := hw'; go_simp; try with_reducible rfl
          simp only [Act.put, List.setIfInBounds_toArray, List.set_cons_zero, List.set_cons_succ]
          refine wpAnyH_done (by kernel_rfl) ?_ _
          go_wp2
          go_meet
          exact ⟨w20.heap.size, rfl, hF30.set _ _, hghF, (below_set2 hB30 hghF _ _)⟩
      · go_simp
        refine hK.out _ _ (⟨((hB19.alloc hB19.size _).cell (p := ⟨g1, 0, none⟩) hbg1).trans f1, ((hB19.alloc hB19.size _).cell (p := ⟨g2, 0, none⟩) hbg2).trans f2, ((hB19.alloc hB19.size _).cell (p := ⟨w.heap.size, 0, none⟩) hx0).trans x0, ((hB19.alloc hB19.size _).cell (p := ⟨w.heap.size, 1, none⟩) hx0).trans x1⟩) (fun hS32 => ?_)
        clear hK K
        try simp only [Act.put, List.setIfInBounds_toArray, List.set_cons_zero, List.set_cons_succ]
        obtain ⟨w32, hw32⟩ : ∃ w', World.alloc w19 (.cells #[.int .i64 0, .int .i64 0] 63) = w' := ⟨_, rfl⟩
        have hB32 : Below wR.heap.size wR w32 := by rw [← hw32]; exact hB19.alloc hB19.size _
        have hb32 : Below w19.heap.size w19 w32 := by rw [← hw32]; exact (Below.refl _ _).alloc (Nat.le_refl _) _
        have hE32 := hE19.below hb32
        have hF32 : FrB w32 (w19.heap.size) ⟨0, 0⟩ := by rw [← hw32]; exact FrB.new w19 ⟨0, 0⟩
        try rw [hw32]
        try rw [hw32] at hS32
        clear hw32 hb32
        have hghF : wR.heap.size ≤ w19.heap.size := hB19.size
        refine wpAnyH_ready (rs := [2]) (by kernel_rfl) (by simp) ?_
        refine (AllReadyH.cons rfl (fun K hK => ?_) AllReadyH.nil)
        go_simp
        go_at_call 57
        refine (HCl.out _ hB32).mono ?_
        rintro e w33 ⟨v, rfl, ho, hb33⟩
        have hB33 : Below wR.heap.size wR w33 := below_on hB32 hb33
        refine hK.out _ _ (⟨(hB33.cell (p := ⟨g1, 0, none⟩) hbg1).trans f1, (hB33.cell (p := ⟨g2, 0, none⟩) hbg2).trans f2, (hB33.cell (p := ⟨w.heap.size, 0, none⟩) hx0).trans x0, (hB33.cell (p := ⟨w.heap.size, 1, none⟩) hx0).trans x1⟩) (fun hS33 => ?_)
        clear hK K
        try simp only [Act.put, List.setIfInBounds_toArray, List.set_cons_zero, List.set_cons_succ]
        have hE33 := hE32.below hb33
        have hF33 := hF32.below hb33
        have hV33 : OwnTs w33 wR.heap.size v cs := ho.low hB32.size
        have hneV : ∀ k, v.ownBlock = some k → k ≠ w19.heap.size := fun k hk e => by
          have h1 := ho.lows k hk
          have h2 := hF32.lt
          omega
        clear hb33 ho
        refine wpAnyH_ready (rs := [5]) (by kernel_rfl) (by simp) ?_
        refine (AllReadyH.cons rfl (fun K hK => ?_) AllReadyH.nil)
        obtain ⟨v6, w34, hr34, ho34, hg34, -⟩ := run_spreadG itCs_len itCs_one (ty := 24) (c := 1) Try.underlying24 info_item rfl (by decide) (by decide) hV33 hE33.read (by omega) hB33.size
        rw [HLL.out] at ho34
        obtain ⟨A4, c4, rfl, -, -⟩ := ho34.shape
        have hB34 : Below wR.heap.size wR w34 := hB33.grown hg34 hB33.size (fun k hk => hV33.lows k hk)
        have hF34 : FrB w34 (w19.heap.size) ⟨0, 0⟩ := (hg34.block _ hF33.lt (fun e => hneV _ e.symm rfl)).trans hF33
        refine step_run _ (by rfl) (.tmp 10) (.tmp 12) 24 (by rfl) _ _ (by rfl) (by rfl) hr34 ?_
        refine hK.out _ _ (⟨(hB34.cell (p := ⟨g1, 0, none⟩) hbg1).trans f1, (hB34.cell (p := ⟨g2, 0, none⟩) hbg2).trans f2, (hB34.cell (p := ⟨w.heap.size, 0, none⟩) hx0).trans x0, (hB34.cell (p := ⟨w.heap.size, 1, none⟩) hx0).trans x1⟩) (fun hS34 => ?_)
        clear hK K
        try simp only [Act.put, List.setIfInBounds_toArray, List.set_cons_zero, List.set_cons_succ]
        have hT34 : Items w34 w34.heap.size A4 L.length L := Items.ofr (ho34.read itCs_len) (HIn.out _ hB34)
        clear hr34 hg34 ho34
        refine wpAnyH_ready (rs := [6]) (by kernel_rfl) (by simp) ?_
        refine (AllReadyH.cons rfl (fun K hK => ?_) AllReadyH.nil)
        go_simp
        go_at_call 37
        refine (HGr.out _ _ _ hB34 hT34).mono ?_
        rintro e w35 ⟨⟨v5, rfl, ho⟩, hb35⟩
        have hB35 : Below wR.heap.size wR w35 := below_on hB34 hb35
        refine hK.out _ _ (⟨(hB35.cell (p := ⟨g1, 0, none⟩) hbg1).trans f1, (hB35.cell (p := ⟨g2, 0, none⟩) hbg2).trans f2, (hB35.cell (p := ⟨w.heap.size, 0, none⟩) hx0).trans x0, (hB35.cell (p := ⟨w.heap.size, 1, none⟩) hx0).trans x1⟩) (fun hS35 => ?_)
        clear hK K
        try simp only [Act.put, List.setIfInBounds_toArray, List.set_cons_zero, List.set_cons_succ]
        have hF35 := hF34.below hb35
        clear hb35 ho
        refine takeY 7 (i := 7) (v := ?vx32) rfl rfl (by kernel_rfl) (by kernel_rfl) (by kernel_rfl) (fun _ _ _ h => h) (by kernel_rfl) ?yx32 hS35 ?_
        case yx32 =>
          intro w' hw'; (try dsimp only at hw'); obtain ⟨q1, q2, q3, q4⟩ := hw'; go_simp; try with_reducible rfl
        simp only [Act.put, List.setIfInBounds_toArray, List.set_cons_zero, List.set_cons_succ]
        refine takeY 15 (i := 8) (v := ?vx33) rfl rfl (by kernel_rfl) (by kernel_rfl) (by kernel_rfl) (fun _ _ _ h => h) (by kernel_rfl) ?yx33 hS35 ?_
        case yx33 =>
          intro w' hw'; (try dsimp only at hw'); obtain ⟨q1, q2, q3, q4⟩ := hw'; go_simp; try with_reducible rfl
        simp only [Act.put, List.setIfInBounds_toArray, List.set_cons_zero, List.set_cons_succ]
        refine takeY 16 (i := 9) (v := ?vx34) rfl rfl (by kernel_rfl) (by kernel_rfl) (by kernel_rfl) (fun _ _ _ h => h) (by kernel_rfl) ?yx34 hS35 ?_
        case yx34 =>
          intro w' hw'; (try dsimp only at hw'); obtain ⟨q1, q2, q3, q4⟩ := hw'; go_simp; try with_reducible rfl
        simp only [Act.put, List.setIfInBounds_toArray, List.set_cons_zero, List.set_cons_succ]
        obtain ⟨c0, c1, z0, z1⟩ := hF35.cells
        refine wpAnyH_ready (rs := [11]) (by kernel_rfl) (by simp) ?_
        refine (AllReadyH.cons rfl (fun K hK => ?_) AllReadyH.nil)
        go_simp
        refine hK.out _ _ (⟨((below_set2 hB35 hghF _ _).cell (p := ⟨g1, 0, none⟩) hbg1).trans f1, ((below_set2 hB35 hghF _ _).cell (p := ⟨g2, 0, none⟩) hbg2).trans f2, ((below_set2 hB35 hghF _ _).cell (p := ⟨w.heap.size, 0, none⟩) hx0).trans x0, ((below_set2 hB35 hghF _ _).cell (p := ⟨w.heap.size, 1, none⟩) hx0).trans x1⟩) (fun hS36 => ?_)
        clear hK K
        try simp only [Act.put, List.setIfInBounds_toArray, List.set_cons_zero, List.set_cons_succ]
        refine takeY 6 (i := 12) (v := ?vx35) rfl rfl (by kernel_rfl) (by kernel_rfl) (by kernel_rfl) (fun _ _ _ h => h) (by kernel_rfl) ?yx35 hS36 ?_
        case yx35 =>
          intro w' hw'; (try dsimp only at hw'); obtain ⟨q1, q2, q3, q4⟩ := hw'; go_simp; try with_reducible rfl
        simp only [Act.put, List.setIfInBounds_toArray, List.set_cons_zero, List.set_cons_succ]
        refine wpAnyH_done (by kernel_rfl) ?_ _
        go_wp2
        go_meet
        exact ⟨w19.heap.size, rfl, hF35.set _ _, hghF, (below_set2 hB35 hghF _ _)⟩
    · go_simp
      refine hK.out _ _ (⟨((hBD.alloc hBD.size _).cell (p := ⟨g1, 0, none⟩) hbg1).trans f1, ((hBD.alloc hBD.size _).cell (p := ⟨g2, 0, none⟩) hbg2).trans f2, ((hBD.alloc hBD.size _).cell (p := ⟨w.heap.size, 0, none⟩) hx0).trans x0, ((hBD.alloc hBD.size _).cell (p := ⟨w.heap.size, 1, none⟩) hx0).trans x1⟩) (fun hS37 => ?_)
      clear hK K
      try simp only [Act.put, List.setIfInBounds_toArray, List.set_cons_zero, List.set_cons_succ]
      obtain ⟨w37, hw37⟩ : ∃ w', World.alloc wD (.cells #[.int .i64 0, .int .i64 0] 63) = w' := ⟨_, rfl⟩
      have hB37 : Below wR.heap.size wR w37 := by rw [← hw37]; exact hBD.alloc hBD.size _
      have hb37 : Below wD.heap.size wD w37 := by rw [← hw37]; exact (Below.refl _ _).alloc (Nat.le_refl _) _
      have hF37 : FrB w37 (wD.heap.size) ⟨0, 0⟩ := by rw [← hw37]; exact FrB.new wD ⟨0, 0⟩
      try rw [hw37]
      try rw [hw37] at hS37
      clear hw37 hb37
      have hghF : wR.heap.size ≤ wD.heap.size := hBD.size
      refine wpAnyH_ready (rs := [2, 4]) (by kernel_rfl) (by simp) ?_
      refine (AllReadyH.cons rfl (fun K hK => ?_) (AllReadyH.cons rfl (fun K hK => ?_) AllReadyH.nil))
      · go_simp
        go_at_call 57
        refine (HCl.out _ hB37).mono ?_
        rintro e w38 ⟨v, rfl, ho, hb38⟩
        have hB38 : Below wR.heap.size wR w38 := below_on hB37 hb38
        refine hK.out _ _ (⟨(hB38.cell (p := ⟨g1, 0, none⟩) hbg1).trans f1, (hB38.cell (p := ⟨g2, 0, none⟩) hbg2).trans f2, (hB38.cell (p := ⟨w.heap.size, 0, none⟩) hx0).trans x0, (hB38.cell (p := ⟨w.heap.size, 1, none⟩) hx0).trans x1⟩) (fun hS38 => ?_)
        clear hK K
        try simp only [Act.put, List.setIfInBounds_toArray, List.set_cons_zero, List.set_cons_succ]
        have hF38 := hF37.below hb38
        have hV38 : OwnTs w38 wR.heap.size v cs := ho.low hB37.size
        have hneV : ∀ k, v.ownBlock = some k → k ≠ wD.heap.size := fun k hk e => by
          have h1 := ho.lows k hk
          have h2 := hF37.lt
          omega
        clear hb38 ho
        refine wpAnyH_ready (rs := [4]) (by kernel_rfl) (by simp) ?_
        refine (AllReadyH.cons rfl (fun K hK => ?_) AllReadyH.nil)
        go_simp
        refine hK.out _ _ (⟨((hB38.alloc hB38.size _).cell (p := ⟨g1, 0, none⟩) hbg1).trans f1, ((hB38.alloc hB38.size _).cell (p := ⟨g2, 0, none⟩) hbg2).trans f2, ((hB38.alloc hB38.size _).cell (p := ⟨w.heap.size, 0, none⟩) hx0).trans x0, ((hB38.alloc hB38.size _).cell (p := ⟨w.heap.size, 1, none⟩) hx0).trans x1⟩) (fun hS39 => ?_)
        clear hK K
        try simp only [Act.put, List.setIfInBounds_toArray, List.set_cons_zero, List.set_cons_succ]
        obtain ⟨w39, hw39⟩ : ∃ w', World.alloc w38 (.cells #[.int .i64 x.id, .slice x.A x.n x.c] 43) = w' := ⟨_, rfl⟩
        have hB39 : Below wR.heap.size wR w39 := by rw [← hw39]; exact hB38.alloc hB38.size _
        have hb39 : Below w38.heap.size w38 w39 := by rw [← hw39]; exact (Below.refl _ _).alloc (Nat.le_refl _) _
        have hF39 := hF38.below hb39
        have hV39 := OwnG.below hV38 hb39
        have hE39 : ItX w39 (w38.heap.size) x := by rw [← hw39]; exact ItX.new w38 x
        try rw [hw39]
        try rw [hw39] at hS39
        clear hw39 hb39
        refine wpAnyH_ready (rs := [5]) (by kernel_rfl) (by simp) ?_
        refine (AllReadyH.cons rfl (fun K hK => ?_) AllReadyH.nil)
        obtain ⟨v6, w40, hr40, ho40, hg40, -⟩ := run_spreadG itCs_len itCs_one (ty := 24) (c := 1) Try.underlying24 info_item rfl (by decide) (by decide) hV39 hE39.read (by omega) hB39.size
        rw [HLL.out] at ho40
        obtain ⟨A4, c4, rfl, -, -⟩ := ho40.shape
        have hB40 : Below wR.heap.size wR w40 := hB39.grown hg40 hB39.size (fun k hk => hV39.lows k hk)
        have hF40 : FrB w40 (wD.heap.size) ⟨0, 0⟩ := (hg40.block _ hF39.lt (fun e => hneV _ e.symm rfl)).trans hF39
        refine step_run _ (by rfl) (.tmp 10) (.tmp 12) 24 (by rfl) _ _ (by rfl) (by rfl) hr40 ?_
        refine hK.out _ _ (⟨(hB40.cell (p := ⟨g1, 0, none⟩) hbg1).trans f1, (hB40.cell (p := ⟨g2, 0, none⟩) hbg2).trans f2, (hB40.cell (p := ⟨w.heap.size, 0, none⟩) hx0).trans x0, (hB40.cell (p := ⟨w.heap.size, 1, none⟩) hx0).trans x1⟩) (fun hS40 => ?_)
        clear hK K
        try simp only [Act.put, List.setIfInBounds_toArray, List.set_cons_zero, List.set_cons_succ]
        have hT40 : Items w40 w40.heap.size A4 L.length L := Items.ofr (ho40.read itCs_len) (HIn.out _ hB40)
        clear hr40 hg40 ho40
        refine wpAnyH_ready (rs := [6]) (by kernel_rfl) (by simp) ?_
        refine (AllReadyH.cons rfl (fun K hK => ?_) AllReadyH.nil)
        go_simp
        go_at_call 37
        refine (HGr.out _ _ _ hB40 hT40).mono ?_
        rintro e w41 ⟨⟨v5, rfl, ho⟩, hb41⟩
        have hB41 : Below wR.heap.size wR w41 := below_on hB40 hb41
        refine hK.out _ _ (⟨(hB41.cell (p := ⟨g1, 0, none⟩) hbg1).trans f1, (hB41.cell (p := ⟨g2, 0, none⟩) hbg2).trans f2, (hB41.cell (p := ⟨w.heap.size, 0, none⟩) hx0).trans x0, (hB41.cell (p := ⟨w.heap.size, 1, none⟩) hx0).trans x1⟩) (fun hS41 => ?_)
        clear hK K
        try simp only [Act.put, List.setIfInBounds_toArray, List.set_cons_zero, List.set_cons_succ]
        have hF41 := hF40.below hb41
        clear hb41 ho
        refine takeY 7 (i := 7) (v := ?vx36) rfl rfl (by kernel_rfl) (by kernel_rfl) (by kernel_rfl) (fun _ _ _ h => h) (by kernel_rfl) ?yx36 hS41 ?_
        case yx36 =>
          intro w' hw'; (try dsimp only at hw'); obtain ⟨q1, q2, q3, q4⟩ := hw'; go_simp; try with_reducible rfl
        simp only [Act.put, List.setIfInBounds_toArray, List.set_cons_zero, List.set_cons_succ]
        refine takeY 15 (i := 8) (v := ?vx37) rfl rfl (by kernel_rfl) (by kernel_rfl) (by kernel_rfl) (fun _ _ _ h => h) (by kernel_rfl) ?yx37 hS41 ?_
        case yx37 =>
          intro w' hw'; (try dsimp only at hw'); obtain ⟨q1, q2, q3, q4⟩ := hw'; go_simp; try with_reducible rfl
        simp only [Act.put, List.setIfInBounds_toArray, List.set_cons_zero, List.set_cons_succ]
        refine takeY 16 (i := 9) (v := ?vx38) rfl rfl (by kernel_rfl) (by kernel_rfl) (by kernel_rfl) (fun _ _ _ h => h) (by kernel_rfl) ?yx38 hS41 ?_
        case yx38 =>
          intro w' hw'; (try dsimp only at hw'); obtain ⟨q1, q2, q3, q4⟩ := hw'; go_simp; try with_reducible rfl
        simp only [Act.put, List.setIfInBounds_toArray, List.set_cons_zero, List.set_cons_succ]
        obtain ⟨c0, c1, z0, z1⟩ := hF41.cells
        refine wpAnyH_ready (rs := [11]) (by kernel_rfl) (by simp) ?_
        refine (AllReadyH.cons rfl (fun K hK => ?_) AllReadyH.nil)
        go_simp
        refine hK.out _ _ (⟨((below_set2 hB41 hghF _ _).cell (p := ⟨g1, 0, none⟩) hbg1).trans f1, ((below_set2 hB41 hghF _ _).cell (p := ⟨g2, 0, none⟩) hbg2).trans f2, ((below_set2 hB41 hghF _ _).cell (p := ⟨w.heap.size, 0, none⟩) hx0).trans x0, ((below_set2 hB41 hghF _ _).cell (p := ⟨w.heap.size, 1, none⟩) hx0).trans x1⟩) (fun hS42 => ?_)
        clear hK K
        try simp only [Act.put, List.setIfInBounds_toArray, List.set_cons_zero, List.set_cons_succ]
        refine takeY 6 (i := 12) (v := ?vx39) rfl rfl (by kernel_rfl) (by kernel_rfl) (by kernel_rfl) (fun _ _ _ h => h) (by kernel_rfl) ?yx39 hS42 ?_
        case yx39 =>
          intro w' hw'; (try dsimp only at hw'); obtain ⟨q1, q2, q3, q4⟩ := hw'; go_simp; try with_reducible rfl
        simp only [Act.put, List.setIfInBounds_toArray, List.set_cons_zero, List.set_cons_succ]
        refine wpAnyH_done (by kernel_rfl) ?_ _
        go_wp2
        go_meet
        exact ⟨wD.heap.size, rfl, hF41.set _ _, hghF, (below_set2 hB41 hghF _ _)⟩
      · go_simp
        refine hK.out _ _ (⟨((hB37.alloc hB37.size _).cell (p := ⟨g1, 0, none⟩) hbg1).trans f1, ((hB37.alloc hB37.size _).cell (p := ⟨g2, 0, none⟩) hbg2).trans f2, ((hB37.alloc hB37.size _).cell (p := ⟨w.heap.size, 0, none⟩) hx0).trans x0, ((hB37.alloc hB37.size _).cell (p := ⟨w.heap.size, 1, none⟩) hx0).trans x1⟩) (fun hS43 => ?_)
        clear hK K
        try simp only [Act.put, List.setIfInBounds_toArray, List.set_cons_zero, List.set_cons_succ]
        obtain ⟨w43, hw43⟩ : ∃ w', World.alloc w37 (.cells #[.int .i64 x.id, .slice x.A x.n x.c] 43) = w' := ⟨_, rfl⟩
        have hB43 : Below wR.heap.size wR w43 := by rw [← hw43]; exact hB37.alloc hB37.size _
        have hb43 : Below w37.heap.size w37 w43 := by rw [← hw43]; exact (Below.refl _ _).alloc (Nat.le_refl _) _
        have hF43 := hF37.below hb43
        have hE43 : ItX w43 (w37.heap.size) x := by rw [← hw43]; exact ItX.new w37 x
        try rw [hw43]
        try rw [hw43] at hS43
        clear hw43 hb43
        refine wpAnyH_ready (rs := [2]) (by kernel_rfl) (by simp) ?_
        refine (AllReadyH.cons rfl (fun K hK => ?_) AllReadyH.nil)
        go_simp
        go_at_call 57
        refine (HCl.out _ hB43).mono ?_
        rintro e w44 ⟨v, rfl, ho, hb44⟩
        have hB44 : Below wR.heap.size wR w44 := below_on hB43 hb44
        refine hK.out _ _ (⟨(hB44.cell (p := ⟨g1, 0, none⟩) hbg1).trans f1, (hB44.cell (p := ⟨g2, 0, none⟩) hbg2).trans f2, (hB44.cell (p := ⟨w.heap.size, 0, none⟩) hx0).trans x0, (hB44.cell (p := ⟨w.heap.size, 1, none⟩) hx0).trans x1⟩) (fun hS44 => ?_)
        clear hK K
        try simp only [Act.put, List.setIfInBounds_toArray, List.set_cons_zero, List.set_cons_succ]
        have hF44 := hF43.below hb44
        have hE44 := hE43.below hb44
        have hV44 : OwnTs w44 wR.heap.size v cs := ho.low hB43.size
        have hneV : ∀ k, v.ownBlock = some k → k ≠ wD.heap.size := fun k hk e => by
          have h1 := ho.lows k hk
          have h2 := hF43.lt
          omega
        clear hb44 ho
        refine wpAnyH_ready (rs := [5]) (by kernel_rfl) (by simp) ?_
        refine (AllReadyH.cons rfl (fun K hK => ?_) AllReadyH.nil)
        obtain ⟨v6, w45, hr45, ho45, hg45, -⟩ := run_spreadG itCs_len itCs_one (ty := 24) (c := 1) Try.underlying24 info_item rfl (by decide) (by decide) hV44 hE44.read (by omega) hB44.size
        rw [HLL.out] at ho45
        obtain ⟨A4, c4, rfl, -, -⟩ := ho45.shape
        have hB45 : Below wR.heap.size wR w45 := hB44.grown hg45 hB44.size (fun k hk => hV44.lows k hk)
        have hF45 : FrB w45 (wD.heap.size) ⟨0, 0⟩ := (hg45.block _ hF44.lt (fun e => hneV _ e.symm rfl)).trans hF44
        refine step_run _ (by rfl) (.tmp 10) (.tmp 12) 24 (by rfl) _ _ (by rfl) (by rfl) hr45 ?_
        refine hK.out _ _ (⟨(hB45.cell (p := ⟨g1, 0, none⟩) hbg1).trans f1, (hB45.cell (p := ⟨g2, 0, none⟩) hbg2).trans f2, (hB45.cell (p := ⟨w.heap.size, 0, none⟩) hx0).trans x0, (hB45.cell (p := ⟨w.heap.size, 1, none⟩) hx0).trans x1⟩) (fun hS45 => ?_)
        clear hK K
        try simp only [Act.put, List.setIfInBounds_toArray, List.set_cons_zero, List.set_cons_succ]
        have hT45 : Items w45 w45.heap.size A4 L.length L := Items.ofr (ho45.read itCs_len) (HIn.out _ hB45)
        clear hr45 hg45 ho45
        refine wpAnyH_ready (rs := [6]) (by kernel_rfl) (by simp) ?_
        refine (AllReadyH.cons rfl (fun K hK => ?_) AllReadyH.nil)
        go_simp
        go_at_call 37
        refine (HGr.out _ _ _ hB45 hT45).mono ?_
        rintro e w46 ⟨⟨v5, rfl, ho⟩, hb46⟩
        have hB46 : Below wR.heap.size wR w46 := below_on hB45 hb46
        refine hK.out _ _ (⟨(hB46.cell (p := ⟨g1, 0, none⟩) hbg1).trans f1, (hB46.cell (p := ⟨g2, 0, none⟩) hbg2).trans f2, (hB46.cell (p := ⟨w.heap.size, 0, none⟩) hx0).trans x0, (hB46.cell (p := ⟨w.heap.size, 1, none⟩) hx0).trans x1⟩) (fun hS46 => ?_)
        clear hK K
        try simp only [Act.put, List.setIfInBounds_toArray, List.set_cons_zero, List.set_cons_succ]
        have hF46 := hF45.below hb46
        clear hb46 ho
        refine takeY 7 (i := 7) (v := ?vx40) rfl rfl (by kernel_rfl) (by kernel_rfl) (by kernel_rfl) (fun _ _ _ h => h) (by kernel_rfl) ?yx40 hS46 ?_
        case yx40 =>
          intro w' hw'; (try dsimp only at hw'); obtain ⟨q1, q2, q3, q4⟩ := hw'; go_simp; try with_reducible rfl
        simp only [Act.put, List.setIfInBounds_toArray, List.set_cons_zero, List.set_cons_succ]
        refine takeY 15 (i := 8) (v := ?vx41) rfl rfl (by kernel_rfl) (by kernel_rfl) (by kernel_rfl) (fun _ _ _ h => h) (by kernel_rfl) ?yx41 hS46 ?_
        case yx41 =>
          intro w' hw'; (try dsimp only at hw'); obtain ⟨q1, q2, q3, q4⟩ := hw'; go_simp; try with_reducible rfl
        simp only [Act.put, List.setIfInBounds_toArray, List.set_cons_zero, List.set_cons_succ]
        refine takeY 16 (i := 9) (v := ?vx42) rfl rfl (by kernel_rfl) (by kernel_rfl) (by kernel_rfl) (fun _ _ _ h => h) (by kernel_rfl) ?yx42 hS46 ?_
        case yx42 =>
          intro w' hw'; (try dsimp only at hw'); obtain ⟨q1, q2, q3, q4⟩ := hw'; go_simp; try with_reducible rfl
        simp only [Act.put, List.setIfInBounds_toArray, List.set_cons_zero, List.set_cons_succ]
        obtain ⟨c0, c1, z0, z1⟩ := hF46.cells
        refine wpAnyH_ready (rs := [11]) (by kernel_rfl) (by simp) ?_
        refine (AllReadyH.cons rfl (fun K hK => ?_) AllReadyH.nil)
        go_simp
        refine hK.out _ _ (⟨((below_set2 hB46 hghF _ _).cell (p := ⟨g1, 0, none⟩) hbg1).trans f1, ((below_set2 hB46 hghF _ _).cell (p := ⟨g2, 0, none⟩) hbg2).trans f2, ((below_set2 hB46 hghF _ _).cell (p := ⟨w.heap.size, 0, none⟩) hx0).trans x0, ((below_set2 hB46 hghF _ _).cell (p := ⟨w.heap.size, 1, none⟩) hx0).trans x1⟩) (fun hS47 => ?_)
        clear hK K
        try simp only [Act.put, List.setIfInBounds_toArray, List.set_cons_zero, List.set_cons_succ]
        refine takeY 6 (i := 12) (v := ?vx43) rfl rfl (by kernel_rfl) (by kernel_rfl) (by kernel_rfl) (fun _ _ _ h => h) (by kernel_rfl) ?yx43 hS47 ?_
        case yx43 =>
          intro w' hw'; (try dsimp only at hw'); obtain ⟨q1, q2, q3, q4⟩ := hw'; go_simp; try with_reducible rfl
        simp only [Act.put, List.setIfInBounds_toArray, List.set_cons_zero, List.set_cons_succ]
        refine wpAnyH_done (by kernel_rfl) ?_ _
        go_wp2
        go_meet
        exact ⟨wD.heap.size, rfl, hF46.set _ _, hghF, (below_set2 hB46 hghF _ _)⟩
  case rest =>
  obtain ⟨g, rfl, hfr, hg, hb9⟩ := hcut
  rename World => w9
  have HFr := Lib.hid hfr
  have HF9 := Lib.hid (HF0.out.below hb9)
  have HB9 := Lib.hid (below_on HBR.out hb9)
  obtain ⟨k0, k1, -, -⟩ := HFr.out.cells
  obtain ⟨c0, c1, z0, z1⟩ := HF9.out.cells
  clear hfr hb9 f1 f2 x0 x1 HGr HCl HIn HRd HX0 HF0
  go_wp2
  refine bodyPost_ret_by (results_cell_row rfl _ _ (w.heap.size + 1) 63 _ (0, 0) _ rfl (HF9.out.set R.num R.den) Try.underlying63 rfl (by kernel_rfl)) rfl ?_
  exact ⟨rfl, below_set2 HB9.out (Nat.le_succ _) _ _⟩
end Go.Proofs.Ytceiocdemhkcdaa.num
namespace Go.Proofs.Ytceiocdemhkcdaa.num
set_option maxRecDepth 20000
open Go.RowKit
set_option linter.unusedVariables false
set_option linter.unusedSimpArgs false

set_option maxRecDepth 20000 in
set_option maxHeartbeats 1600000 in
/-- slices.DeleteFunc by any function, over a row of the call's own. -/
theorem delItemsG (w : World) (B : Nat) (v : Value) (its : List It) (h : OwnTs w B v its) (hn : its.length ≤ 1048576) (fn : Nat) (cb : Array Value) (eg : ∀ args w, (callFunc fn args).run Try.prog w = .ok (.enter fn args) w) (hold : It → Bool)
    (HC : ∀ W, w.grownBy W v.ownBlock → ∀ u ∈ its, Calls Try.prog fn (#[u.val] ++ cb) W fun e w' => e = .returned (.bool (hold u)) ∧ Below W.heap.size W w') :
    Calls Try.prog 60 #[v, .func (.func fn) #[] cb] w fun e w' => (∃ v', e = .returned v' ∧ OwnTs w' B v' (its.filter fun u => !hold u) ∧ v'.ownBlock = v.ownBlock) ∧ w.grownBy w' v.ownBlock := by
  obtain ⟨A, c, rfl, hlc, hcm⟩ := h.shape
  have hrd := OwnG.read itCs_len h
  have HI := Lib.hid (idxItems w A its.length c its hrd hn fn cb eg hold fun W hW => HC W ⟨hW.os, hW.tape, hW.output, hW.size, fun i hi _ => hW.block i hi⟩)
  have HX := Lib.hid h
  have HF := Lib.hid HC
  clear h hrd HC
  go_enter Try.func60, Try.ntmps60
  go_wp2_with fail
  refine HI.out.mono ?_
  rintro e w1 ⟨hcase, hb1⟩
  have HB1 := Lib.hid hb1
  clear HI hb1
  rcases hcase with ⟨rfl, hall⟩ | ⟨k, x, hk, rfl, hat, hx, hall⟩
  · have HAll := Lib.hid hall
    clear hall
    go_wp2
    go_ret
    refine ⟨⟨_, rfl, ?_, rfl⟩, ⟨HB1.out.os, HB1.out.tape, HB1.out.output, HB1.out.size, fun i hi _ => HB1.out.block i hi⟩⟩
    rw [List.filter_eq_self.2 fun u hu => by rw [HAll.out u hu]; rfl]
    exact HX.out.below HB1.out
  · obtain ⟨g, rfl⟩ : ∃ g, A = some ⟨g, 0, none⟩ := by
      rcases HX.out.row with ⟨e, he⟩ | ⟨g, cap, F, e, _⟩
      · rw [he] at hat; simp at hat
      · injection e with e1 e2 e3
        exact ⟨g, e1⟩
    have hg0 : B ≤ g := HX.out.lows g rfl
    have hgw : g < w.heap.size := HX.out.tops g rfl
    have hne : ((k : Int) == -1) = false := by simp
    have HS := Lib.hid (DelInv.start hat hx hall)
    have hlc' : (its.length : Int) ≤ (c : Int) := by omega
    have hcm' : (c : Int) ≤ 9223372036854775807 := by unfold maxLen at hcm; omega
    have HX1 := Lib.hid (HX.out.below HB1.out)
    have HG1 : Hid (w.grownBy w1 (some g)) := Lib.hid ⟨HB1.out.os, HB1.out.tape, HB1.out.output, HB1.out.size, fun i hi _ => HB1.out.block i hi⟩
    clear hat hx hall
    go_wp2
    go_loopw [5, 6] (fun iv jv wr => ∃ (i j : Nat) (m : List It), iv = .int .i64 i ∧ jv = .int .i64 j ∧ DelInv hold its i j m ∧ OwnTs wr B (.slice (some ⟨g, 0, none⟩) its.length c) m ∧ w.grownBy wr (some g)) (fun _ jv _ => its.length - (intOf jv).toNat)
    case atStart => exact ⟨k, k + 1, its, rfl, by go_num, HS.out, HX1.out, HG1.out⟩
    case round =>
      obtain ⟨i, j, m, rfl, rfl, hinv, hown, hgr⟩ := hrel
      have HInv := Lib.hid hinv
      have HO := Lib.hid hown
      have HG := Lib.hid hgr
      have hij := hinv.lt
      have hj := hinv.le
      have hml := hinv.len
      have hgs := hgr.size
      clear hinv hown hgr
      by_cases hlt : j < its.length
      · obtain ⟨b, off, x, he, hb, hat, d0, d1⟩ := it_at (HO.out.read itCs_len) hlt
        cases he
        rw [Nat.zero_add] at d0 d1
        obtain ⟨x', hat'⟩ : ∃ x', its[j]? = some x' := ⟨_, List.getElem?_eq_getElem hlt⟩
        obtain rfl : x' = x := Option.some.inj ((HInv.out.read hat').symm.trans hat)
        have HAt := Lib.hid hat'
        have hlt' : (j : Int) < (its.length : Int) := by omega
        have hj0 : (0 : Int) ≤ (j : Int) := by omega
        obtain ⟨z, hz⟩ : ∃ z, hold x' = z := ⟨_, rfl⟩
        have HZ := Lib.hid hz
        have HC1 : Hid (∀ W, w.grownBy W (some g) → Calls Try.prog fn (#[.agg #[.int .i64 x'.id, .slice x'.A x'.n x'.c]] ++ cb) W fun e w' => e = .returned (.bool z) ∧ Below W.heap.size W w') := Lib.hid fun W hW => by rw [← hz]; exact HF.out W hW x' (mem_of_at hat')
        have Xx : Hid (BoxI (wr.alloc (.cells #[.int .i64 x'.id, .slice x'.A x'.n x'.c] 43)) wr.heap.size x') := Lib.hid (BoxI.new _ _ _)
        have HOa := Lib.hid (HO.out.below ((Below.refl _ wr).alloc (Nat.le_refl _) (.cells #[.int .i64 x'.id, .slice x'.A x'.n x'.c] 43)))
        have HGa : Hid (w.grownBy (wr.alloc (.cells #[.int .i64 x'.id, .slice x'.A x'.n x'.c] 43)) (some g)) := Lib.hid (HG.out.trans (World.grownBy_alloc wr _ _))
        clear hat hat' hz
        go_wp2_with fail
        refine (HC1.out _ HGa.out).mono ?_
        rintro e w2 ⟨rfl, hb2⟩
        have HO2 := Lib.hid (HOa.out.below hb2)
        have Xx2 := Lib.hid (Xx.out.below hb2)
        have HG2 : Hid (w.grownBy w2 (some g)) := Lib.hid (HGa.out.trans ⟨hb2.os, hb2.tape, hb2.output, hb2.size, fun i hi _ => hb2.block i hi⟩)
        clear hb2 d0 d1 HC1 HOa Xx HGa
        cases z
        · obtain ⟨x_g, x_0, x_1⟩ := Xx2.out
          have him : i < m.length := by omega
          obtain ⟨b3, off3, y, he3, hb3, hat3, d0, d1⟩ := it_at (HO2.out.read itCs_len) (k := i) (by omega)
          cases he3
          have hin : (i : Int) < (its.length : Int) := by omega
          have hi0 : (0 : Int) ≤ (i : Int) := by omega
          rw [Nat.zero_add] at d0 d1
          obtain ⟨cap3, F3, e3, hrow3⟩ : ∃ cap F, c = cap ∧ w2.rowIs g 43 (cap * 2) F := by
            rcases HO2.out.row with ⟨e, _⟩ | ⟨g', cap, F, e, _, _, _, hrow, _⟩
            · cases e
            · injection e with e1 e2 e3
              injection e1 with e1
              injection e1 with e1
              subst e1
              exact ⟨cap, F, e3, hrow⟩
          have z0 := World.rowIs.frozen hrow3 (i * 2)
          have z1 := World.rowIs.frozen hrow3 (i * 2 + 1)
          have hneg : ¬ wr.heap.size = g := by have := HO.out.tops g rfl; omega
          have hngg : ¬ g = wr.heap.size := fun h => hneg h.symm
          have HM := Lib.hid hat3
          clear hat3 hrow3 e3
          go_wp2
          go_roundw
          case rel => exact ⟨i + 1, j + 1, m.set i x', by go_num, by go_num, HInv.out.keep HAt.out HZ.out, OwnG.set2 (i1 := 0) (i2 := 1) itCs_len HO2.out HM.out (fun j hj => by match j, hj with | 0, _ => rfl | 1, _ => rfl) (by decide) (by decide), grown_one (grown_one HG2.out _ _) _ _⟩
          case measure => simp [intOf]; omega
        · go_wp2
          go_roundw
          case rel => exact ⟨i, j + 1, m, rfl, by go_num, HInv.out.skip HAt.out HZ.out, HO2.out, HG2.out⟩
          case measure => simp [intOf]; omega
      · obtain rfl : its.length = j := by omega
        have hin : (i : Int) ≤ (its.length : Int) := by omega
        have hi0 : (0 : Int) ≤ (i : Int) := by omega
        have hic : (i : Int) ≤ (c : Int) := by omega
        obtain ⟨F3, hrow3, hF3⟩ : ∃ F, wr.rowIs g 43 (c * 2) F ∧ ∀ q, q < m.length * 2 → (m.flatMap (itCs))[q]? = some (F q) := by
          rcases HO.out.row with ⟨e, _⟩ | ⟨g', cap, F, e, _, _, _, hrow, hF⟩
          · cases e
          · injection e with e1 e2 e3
            injection e1 with e1
            injection e1 with e1
            subst e1 e3
            exact ⟨F, hrow, hF⟩
        have hmc : its.length ≤ c := by omega
        have hcl : ∀ ty, (Builtin.clear_ #[24] ty #[.slice (some ⟨g, i * 2, none⟩) (its.length - i) (c - i)]).run Try.prog wr = .ok (.tuple #[]) (wr.setCells g (i * 2) (Builtin.zeroCells (Value.agg #[.int .i64 0, .slice none 0 0]).cells (its.length - i)).toList) := fun ty =>
          run_clear_tail wr _ _ ty (.agg #[.int .i64 0, .slice none 0 0]) 2 Try.underlying24 zero_itD rfl (by decide) (by simp [Value.cells, Value.oneCell']) g (i * 2) (its.length - i) (c - i) (by omega) (fun q hq => by rw [World.rowIs.cell hrow3 (by omega)]; rfl) (fun q hq => World.rowIs.frozen hrow3 _)
        obtain ⟨vs, hvs⟩ : ∃ vs, (Builtin.zeroCells (Value.agg #[.int .i64 0, .slice none 0 0]).cells (its.length - i)).toList = vs := ⟨_, rfl⟩
        rw [hvs] at hcl
        have HW := Lib.hid (rowIs_cut vs (i * 2) wr F3 hrow3)
        have HGc := Lib.hid (grown_row vs (i * 2) wr w HG.out)
        have HF3 := Lib.hid hF3
        clear hj hvs hrow3 hF3
        go_wp2
        go_ret
        obtain ⟨F4, hr4, he4⟩ := HW.out
        refine ⟨⟨_, rfl, ?_, rfl⟩, HGc.out⟩
        have hdone := HInv.out.done
        rw [← hdone]
        have hlen : (m.take i).length = i := by rw [List.length_take]; omega
        refine OwnG.of_row itCs_len hg0 hlen (by omega) hcm hr4 fun j hj => ?_
        rw [he4 j hj, fm_take itCs_len, List.getElem?_take_of_lt hj]
        exact HF3.out j (by omega)
end Go.Proofs.Ytceiocdemhkcdaa.num
namespace Go.Proofs.Ytceiocdemhkcdaa.num
set_option maxRecDepth 20000
open Go.RowKit
set_option linter.unusedVariables false
set_option linter.unusedSimpArgs false

theorem pick_best (G : Da → Rg) (l : List Da) : pickF G l = bestF (fun d => (⟨(G d).num, (G d).den⟩ : Fr)) l := by
  unfold pickF bestF
  have e : pickS G = bestS (fun d => (⟨(G d).num, (G d).den⟩ : Fr)) := by
    funext o x
    cases o <;> rfl
  rw [e]
theorem row_ownI {w : World} {B b n : Nat} {l : List Int} (h : IntRow w b l) (hn : l.length = n) (hB : B ≤ b) (hm : n ≤ 1048576) : OwnI w B (.slice (some ⟨b, 0, none⟩) n n) l :=
  ownI_of_row (f := fun i => .int .i64 (l.getD i 0)) hB hn (Nat.le_refl _) (by unfold maxLen; omega) (by rw [← hn]; exact h) fun j hj => by
    rw [List.getElem?_map, List.getElem?_eq_getElem (by omega), List.getD_eq_getElem?_getD, List.getElem?_eq_getElem (by omega)]; rfl
def lenV : Value → Nat
  | .slice _ n _ => n
  | _ => 0
/-- What the loop has in memory: the slice of those chosen, in its box; the slice of those left; both apart. -/
structure GrM (w2 : World) (g5 : Nat) (V5 V6 : Value) (cs ls : List It) (wr : World) : Prop where
  b : Below w2.heap.size w2 wr
  ge : w2.heap.size ≤ g5
  s5 : wr.heap[g5]? = some (.cells #[V5] 24 (0, 0))
  o5 : OwnTs wr (g5 + 1) V5 cs
  o6 : OwnTs wr (g5 + 1) V6 ls
  ap : Apart V5 V6
theorem GrM.lt {w2 wr : World} {g5 : Nat} {V5 V6 : Value} {cs ls : List It} (h : GrM w2 g5 V5 V6 cs ls wr) : g5 < wr.heap.size := (Array.getElem?_eq_some_iff.1 h.s5).1
theorem GrM.cell {w2 wr : World} {g5 : Nat} {V5 V6 : Value} {cs ls : List It} (h : GrM w2 g5 V5 V6 cs ls wr) : wr.cell? ⟨g5, 0, none⟩ = some V5 ∧ wr.frozen? ⟨g5, 0, none⟩ = false := by
  have h5 := h.s5
  refine ⟨?_, ?_⟩ <;> simp [World.cell?, World.frozen?, h5]
theorem GrM.step {w2 wr w' : World} {g5 : Nat} {V5 V6 : Value} {cs ls : List It} (h : GrM w2 g5 V5 V6 cs ls wr) (hb : Below wr.heap.size wr w') : GrM w2 g5 V5 V6 cs ls w' :=
  ⟨below_on h.b hb, h.ge, (hb.block g5 h.lt).trans h.s5, h.o5.below hb, h.o6.below hb, h.ap⟩
/-- One more is chosen: appended, and the box set. -/
theorem GrM.app {w2 wr w' : World} {g5 : Nat} {V5 V6 v' : Value} {cs ls : List It} {x : It} (h : GrM w2 g5 V5 V6 cs ls wr) (ho : OwnTs w' (g5 + 1) v' (cs ++ [x])) (hg : wr.grownBy w' V5.ownBlock) (hat : v'.ownBlock = V5.ownBlock ∨ v'.ownBlock = some (wr.heap.size + 1)) (hb : Below (g5 + 1) wr w') :
    GrM w2 g5 v' V6 (cs ++ [x]) ls (w'.setCell ⟨g5, 0, none⟩ v') ∧ w'.heap[g5]? = some (.cells #[V5] 24 (0, 0)) := by
  have hs : w'.heap[g5]? = some (.cells #[V5] 24 (0, 0)) := (hb.block g5 (Nat.lt_succ_self _)).trans h.s5
  have hge := h.ge
  have ho6 : OwnTs w' (g5 + 1) V6 ls := h.o6.apart h.ap.symm hg
  refine ⟨⟨(h.b.trans (hb.mono (by omega))).setCell (p := ⟨g5, 0, none⟩) hge _, hge, ?_, ho.blocks fun k hk => ?_, ho6.blocks fun k hk => ?_, ?_⟩, hs⟩
  · have h1 := heap_setCell_same w' g5 0 _ _ v' hs
    simpa using h1
  · exact heap_setCell_other _ _ _ _ (by have := ho.lows k hk; show k ≠ g5; omega)
  · exact heap_setCell_other _ _ _ _ (by have := ho6.lows k hk; show k ≠ g5; omega)
  · intro b h1 h2
    rcases hat with e | e
    · exact h.ap b (e ▸ h1) h2
    · have h3 := h.o6.tops b h2
      rw [e] at h1
      have := Option.some.inj h1
      omega
/-- It is left out of the others. -/
theorem GrM.del {w2 wr w' : World} {g5 : Nat} {V5 V6 v' : Value} {cs ls ls' : List It} (h : GrM w2 g5 V5 V6 cs ls wr) (ho : OwnTs w' (g5 + 1) v' ls') (hv : v'.ownBlock = V6.ownBlock) (hg : wr.grownBy w' V6.ownBlock) : GrM w2 g5 V5 v' cs ls' w' := by
  have hge := h.ge
  refine ⟨h.b.grown hg h.b.size fun k hk => by have := h.o6.lows k hk; omega, hge, (hg.block g5 h.lt fun e => ?_).trans h.s5, h.o5.apart h.ap hg, ho, fun b h1 h2 => h.ap b h1 (hv ▸ h2)⟩
  have := h.o6.lows g5 e.symm
  omega
/-- And what it says. -/
structure GrS (w2 : World) (its : List It) (g5 k : Nat) (V5 V6 : Value) (cs ls : List It) (wr : World) : Prop where
  m : GrM w2 g5 V5 V6 cs ls wr
  dc : cs.map It.dat = greedy (its.map It.dat) k
  dl : ls.map It.dat = restD (greedy (its.map It.dat) k) (its.map It.dat)
  sc : ∀ u ∈ cs, u ∈ its
  sl : ∀ u ∈ ls, u ∈ its
theorem GrS.step {w2 wr w' : World} {its : List It} {g5 k : Nat} {V5 V6 : Value} {cs ls : List It} (h : GrS w2 its g5 k V5 V6 cs ls wr) (hb : Below wr.heap.size wr w') : GrS w2 its g5 k V5 V6 cs ls w' := ⟨h.m.step hb, h.dc, h.dl, h.sc, h.sl⟩
set_option maxRecDepth 20000 in
set_option maxHeartbeats 6400000 in
theorem iGreedy (w : World) (B : Nat) (A : Option Addr) (n c : Nat) (its : List It) (hi : Items w B A n its) (hB : B ≤ w.heap.size) (hn : n ≤ 1048576) (size : Int) (D : List Int) (hD : GreedP (its.map It.dat) size D) :
    Calls Try.prog 21 #[.slice A n c, .int .i64 size] w fun e w' => (∃ v, e = .returned v ∧ OwnI w' w.heap.size v D) ∧ Below w.heap.size w w' := by
  obtain ⟨qa, hqa⟩ := bool_of (AreP (its.map It.dat))
  obtain ⟨wR, hwR⟩ : ∃ wR, w.alloc (.cells #[.slice A n c] 24) = wR := ⟨_, rfl⟩
  have hbR : Below w.heap.size w wR := by rw [← hwR]; exact (Below.refl _ w).alloc (Nat.le_refl _) _
  have HBR := Lib.hid hbR
  have HS : Hid (SlB wR w.heap.size (.slice A n c)) := Lib.hid (by rw [← hwR]; exact SlB.new w _ _)
  have hiR := hi.below (hbR.mono hB)
  have hBR := Nat.le_trans hB hbR.size
  have HAr := Lib.hid (iAre wR B A n c its hiR hBR qa hqa)
  have HI := Lib.hid hiR
  have HBB := Lib.hid hBR
  have HDy : Hid (qa = true → AreP (its.map It.dat) ∧ D = idsA (greedy (its.map It.dat) (min size.toNat (its.map It.dat).length))) := Lib.hid fun h => ⟨hqa.1 h, hD.yes (hqa.1 h)⟩
  have HDn : Hid (qa = false → D = []) := Lib.hid fun h => hD.no fun h2 => by rw [hqa.2 h2] at h; cases h
  have hil : its.length = n := hi.1
  clear hi hD hqa hiR hBR hbR
  obtain ⟨hbl, f1⟩ := HS.out
  go_enter Try.func21, Try.ntmps21
  go_upto_region 1 with (fail)
  try rw [hwR]
  clear hwR
  go_wp2_with fail
  refine HAr.out.mono ?_
  rintro e w2 ⟨rfl, hb2⟩
  have HB2 := Lib.hid hb2
  have HS2 := Lib.hid (HS.out.below hb2)
  clear hb2 HAr hbl f1
  cases qa
  · obtain rfl := HDn.out rfl
    go_wp2
    go_ret
    exact ⟨⟨_, rfl, ownI_nil _ _⟩, below_on HBR.out HB2.out⟩
  · obtain ⟨hA, rfl⟩ := HDy.out rfl
    have HAp := Lib.hid hA
    have HNd := Lib.hid (ids_nodup hA)
    have hn16 : n ≤ 16 := by have h := hA.2.2; rw [List.length_map, hil] at h; exact h
    clear hA
    obtain ⟨g5, hg5⟩ : ∃ g, w2.heap.size = g := ⟨_, rfl⟩
    obtain ⟨w3, hw3⟩ : ∃ w3, w2.alloc (.cells #[.slice none 0 0] 24) = w3 := ⟨_, rfl⟩
    have hb3 : Below w2.heap.size w2 w3 := by rw [← hw3]; exact (Below.refl _ w2).alloc (Nat.le_refl _) _
    have HB3 := Lib.hid hb3
    have H5 : Hid (w3.heap[g5]? = some (.cells #[.slice none 0 0] 24 (0, 0))) := Lib.hid (by rw [← hw3, ← hg5]; exact heap_alloc_new w2 _)
    have HS3 := Lib.hid (HS2.out.below hb3)
    have HG5 := Lib.hid hg5
    have HCl := Lib.hid (cloneT w3 w3.heap.size A n c its (((HI.out.below ((below_on HB2.out hb3).mono HBB.out)).readT).more (Nat.le_trans HBB.out (Nat.le_trans HB2.out.size hb3.size))) (Nat.le_refl _) (by omega))
    clear hb3
    obtain ⟨hbl, f1⟩ := HS3.out
    go_upto_region 4 with (fail)
    try rw [hw3]
    try rw [hg5]
    clear hw3 hg5
    go_wp2_with fail
    refine HCl.out.mono ?_
    rintro e w4 ⟨V6, rfl, ho6, hb4⟩
    have HS4 : Hid (GrS w2 its g5 0 (.slice none 0 0) V6 [] its w4) := Lib.hid ⟨⟨below_on HB3.out hb4, by rw [HG5.out]; exact Nat.le_refl _, (hb4.block g5 (Array.getElem?_eq_some_iff.1 H5.out).1).trans H5.out, .nil _ _, ho6.low (by have := (Array.getElem?_eq_some_iff.1 H5.out).1; omega), fun b h1 _ => by cases h1⟩, rfl, (by
      have e : restD (greedy (its.map It.dat) 0) (its.map It.dat) = its.map It.dat := by
        show restD [] _ = _
        unfold restD idsA
        rw [List.filter_eq_self]; simp
      exact e.symm), by simp, fun u hu => hu⟩
    clear ho6 hb4 HCl hbl f1 H5 HS3
    have HI2 : Hid (∀ W, Below w2.heap.size w2 W → Items W W.heap.size A n its ∧ SlB W w.heap.size (.slice A n c)) := Lib.hid fun W hW => ⟨((HI.out.below ((below_on HB2.out hW).mono HBB.out)).up (Nat.le_trans HBB.out (Nat.le_trans HB2.out.size hW.size))), HS2.out.below hW⟩
    go_wp2
    go_loopw [6] (fun v wr => ∃ (k : Nat) (V5 V6 : Value) (cs ls : List It), V6 = v ∧ k ≤ size.toNat ∧ k ≤ n ∧ GrS w2 its g5 k V5 V6 cs ls wr) (fun v _ => lenV v)
    case atStart => exact ⟨0, _, _, _, _, rfl, Nat.zero_le _, Nat.zero_le _, HS4.out⟩
    case round =>
      obtain ⟨k, V5, V6, cs, ls, rfl, hks, hkn, hst⟩ := hrel
      have HSt := Lib.hid hst
      obtain ⟨A6, c6, hV6, h6l, h6m⟩ := hst.m.o6.shape
      obtain ⟨A5, c5, hV5, h5l, h5m⟩ := hst.m.o5.shape
      obtain ⟨hgl, hrl⟩ := greedy_len HNd.out k (by rw [List.length_map, hil]; exact hkn)
      have hcl : cs.length = k := by
        have h := congrArg List.length hst.dc
        rw [List.length_map] at h
        rw [h]; exact hgl
      have hll : ls.length + k = n := by
        have h := congrArg List.length hst.dl
        rw [List.length_map] at h
        rw [h, hrl, List.length_map, hil]
      have HCl2 := Lib.hid hcl
      have hc16 : cs.length ≤ 16 := by omega
      clear hst hgl hrl hcl
      subst hV6 hV5
      obtain ⟨q5, z5⟩ := HSt.out.m.cell
      by_cases hgo : 0 < ls.length ∧ (cs.length : Int) < size
      · obtain ⟨h1, h2⟩ := hgo
        have h1' : (0 : Int) < (ls.length : Int) := by omega
        have hks1 : k + 1 ≤ size.toNat := by have := HCl2.out; omega
        have HL := Lib.hid (iLeastT wr A6 ls.length c6 ls (HSt.out.m.o6.read itCs_len) h1 (by omega) h6l (by unfold maxLen at h6m; omega) 59 #[.pointer (some ⟨w.heap.size, 0, none⟩), .pointer (some ⟨g5, 0, none⟩)]
          (enters_of Try.func59 (by kernel_rfl) rfl) (fun u => (⟨(reg (its.map It.dat) ((cs ++ [u]).map It.dat)).num, (reg (its.map It.dat) ((cs ++ [u]).map It.dat)).den⟩ : Fr))
          (fun u hu => by
            have hs : ∀ d ∈ (cs ++ [u]).map It.dat, d ∈ its.map It.dat := fun d hd => by
              obtain ⟨y, hy, rfl⟩ := List.mem_map.1 hd
              rcases List.mem_append.1 hy with h | h
              · exact List.mem_map_of_mem (HSt.out.sc y h)
              · obtain rfl := List.mem_singleton.1 h; exact List.mem_map_of_mem (HSt.out.sl y hu)
            have h := reg_range hs
            unfold Fr.Small
            show 0 ≤ (reg _ _).num ∧ (reg _ _).num ≤ 100 ∧ 0 ≤ (reg _ _).den ∧ (reg _ _).den ≤ 100
            omega)
          (fun W hW u hu => by
            have hm := HSt.out.m.step hW
            have h := HI2.out W hm.b
            exact more_c W W.heap.size A n c its h.1 (Nat.le_refl _) (by omega) A5 cs.length c5 cs (hm.o5.read itCs_len) (by omega) HSt.out.sc u (HSt.out.sl u hu) w.heap.size g5 h.2 ⟨hm.lt, hm.cell.1⟩ _ rfl))
        go_wp2_with fail
        refine HL.out.mono ?_
        rintro e wa ⟨⟨x, hbest, rfl⟩, hba⟩
        have hxm := bestF_mem _ _ hbest
        have HXm := Lib.hid hxm
        have hpk : pickF (greedF (its.map It.dat) (greedy (its.map It.dat) k)) (restD (greedy (its.map It.dat) k) (its.map It.dat)) = some x.dat := by
          rw [pick_best, ← HSt.out.dl, ← bestF_map]
          have e : (fun u : It => (⟨(greedF (its.map It.dat) (greedy (its.map It.dat) k) u.dat).num, (greedF (its.map It.dat) (greedy (its.map It.dat) k) u.dat).den⟩ : Fr)) = fun u => (⟨(reg (its.map It.dat) ((cs ++ [u]).map It.dat)).num, (reg (its.map It.dat) ((cs ++ [u]).map It.dat)).den⟩ : Fr) := by
            funext u
            rw [List.map_append, HSt.out.dc]
            rfl
          rw [e, hbest]; rfl
        have HPk := Lib.hid hpk
        obtain ⟨R, hR⟩ : ∃ R, (reg (its.map It.dat) ((cs ++ [x]).map It.dat)) = R := ⟨_, rfl⟩
        rw [hR]
        have HSa := Lib.hid (HSt.out.step hba)
        obtain ⟨wb, hwb⟩ : ∃ wb, (wa.alloc (.cells #[.int .i64 x.id, .slice x.A x.n x.c] 43)).alloc (.cells #[.int .i64 R.num, .int .i64 R.den] 63) = wb := ⟨_, rfl⟩
        have hbb : Below wa.heap.size wa wb := by rw [← hwb]; exact ((Below.refl _ wa).alloc (Nat.le_refl _) _).alloc (by simp) _
        have HSb := Lib.hid (HSa.out.step hbb)
        have HXb : Hid (ItX wb wa.heap.size x) := Lib.hid (by rw [← hwb]; exact (ItX.new wa x).below ((Below.refl _ _).alloc (Nat.le_refl _) _))
        have HGx : Hid (wr.heap.size ≤ wa.heap.size) := Lib.hid hba.size
        clear hbest hxm hpk hba hbb HL q5 z5 hR
        go_upto_region 7 with (fail)
        clear hwb
        obtain ⟨q5, z5⟩ := HSb.out.m.cell
        obtain ⟨x0, x1, -, -⟩ := HXb.out.cells
        have hgb : g5 + 1 ≤ wb.heap.size := HSb.out.m.lt
        go_wp2_with (at_builtin; refine wp_appT wb (by rfl) (.tmp 29) (.tmp 31) (by rfl) (g5 + 1) _ _ (by rfl) HSb.out.m.o5 x _ (by rfl) 1 (by rfl) (by omega) hgb ?_)
        rintro v' wc ho hg hat hbc
        obtain ⟨A8, c8, hv8, -, -⟩ := ho.shape
        obtain ⟨n8, hn8⟩ : ∃ m, (cs ++ [x]).length = m := ⟨_, rfl⟩
        rw [hn8] at hv8
        have HN8 := Lib.hid hn8
        clear hn8
        subst hv8
        obtain ⟨hm1, h5c⟩ := HSb.out.m.app ho hg hat hbc
        have HM1 := Lib.hid hm1
        have HXc : Hid (ItX (wc.setCell ⟨g5, 0, none⟩ (.slice A8 n8 c8)) wa.heap.size x) := Lib.hid (by
          have hne : wa.heap.size ≠ g5 := by have h1 := HSt.out.m.lt; have h2 := HGx.out; omega
          have h3 : ItX wc wa.heap.size x := (hg.block _ HXb.out.lt fun e => by
            have h1 := HSt.out.m.o5.tops _ e.symm
            have h2 := HGx.out
            omega).trans HXb.out
          unfold ItX
          rw [heap_setCell_other _ _ _ _ hne]
          exact h3)
        have hy5 : wc.cell? ⟨g5, 0, none⟩ = some (.slice A5 cs.length c5) := by simp [World.cell?, h5c]
        have hz5 : wc.frozen? ⟨g5, 0, none⟩ = false := by simp [World.frozen?, h5c]
        have HDe := Lib.hid (delItemsG (wc.setCell ⟨g5, 0, none⟩ (.slice A8 n8 c8)) (g5 + 1) (.slice A6 ls.length c6) ls hm1.o6 (by omega) 61 #[.pointer (some ⟨wa.heap.size, 0, none⟩)] (enters_of Try.func61 (by kernel_rfl) rfl) (fun u => decide (u.id = x.id))
          (fun W hW u hu => taken_c W u x wa.heap.size ((hW.block _ HXc.out.lt fun e => by
            have h1 := HSt.out.m.o6.tops _ e.symm
            have h2 := HGx.out
            omega).trans HXc.out)))
        clear ho hg hat hbc hm1 h5c q5 z5 x0 x1 hgb
        go_wp2_with fail
        refine HDe.out.mono ?_
        rintro e wd ⟨⟨v6, rfl, ho6, hv6⟩, hg6⟩
        have HM2 := Lib.hid (HM1.out.del ho6 hv6 hg6)
        have hdl : (ls.filter fun u => !decide (u.id = x.id)).map It.dat = restD (greedy (its.map It.dat) (k + 1)) (its.map It.dat) := by
          rw [greedy_next HPk.out, restD_more, ← HSt.out.dl, List.filter_map]
          rfl
        have hll' : (ls.filter fun u => !decide (u.id = x.id)).length < ls.length := by
          have h := filter_one (l := ls.map It.dat) (by rw [HSt.out.dl]; exact restD_nodup HNd.out) (List.mem_map_of_mem HXm.out)
          rw [List.filter_map, List.length_map, List.length_map] at h
          have e : (ls.filter ((fun d : Da => !decide (d.1 = x.dat.1)) ∘ It.dat)) = ls.filter fun u => !decide (u.id = x.id) := rfl
          rw [e] at h
          omega
        have HS2' : Hid (GrS w2 its g5 (k + 1) (.slice A8 n8 c8) v6 (cs ++ [x]) (ls.filter fun u => !decide (u.id = x.id)) wd) := Lib.hid ⟨HM2.out, by rw [List.map_append, HSt.out.dc, greedy_next HPk.out]; rfl, hdl, fun u hu => by
          rcases List.mem_append.1 hu with h | h
          · exact HSt.out.sc u h
          · obtain rfl := List.mem_singleton.1 h; exact HSt.out.sl u HXm.out, fun u hu => HSt.out.sl u (List.mem_filter.1 hu).1⟩
        obtain ⟨A7, c7, hV7, -, -⟩ := ho6.shape
        have HV7 := Lib.hid hV7
        clear ho6 hv6 hg6 hdl HDe hy5 hz5
        go_wp2
        go_roundw
        case rel => exact ⟨k + 1, _, v6, _, _, HV7.out, hks1, by omega, HS2'.out⟩
        case measure => exact hll'
      · have hkm : k = min size.toNat (its.map It.dat).length := by
          rw [List.length_map, hil]
          have := HCl2.out
          omega
        have HId := Lib.hid (iIds wr wr.heap.size A5 cs.length c5 cs (Items.ofr (HSt.out.m.o5.read itCs_len) fun u hu => ((HI2.out wr HSt.out.m.b).1.all (HSt.out.sc u hu))) (Nat.le_refl _) (by omega))
        have hids : idL cs = idsA (greedy (its.map It.dat) (min size.toNat (its.map It.dat).length)) := by
          rw [← hkm, ← HSt.out.dc]
          unfold idL idsA
          rw [List.map_map]; rfl
        have HIds := Lib.hid hids
        clear hkm hids
        by_cases h1 : 0 < ls.length
        · have h1' : (0 : Int) < (ls.length : Int) := by omega
          have h2 : ¬ (cs.length : Int) < size := fun h => hgo ⟨h1, h⟩
          clear hgo
          go_wp2_with fail
          refine HId.out.mono ?_
          rintro e wz ⟨rfl, hrow, hbz⟩
          have HR := Lib.hid hrow
          have HBz := Lib.hid hbz
          clear hrow hbz HId q5 z5
          go_wp2
          go_ret
          exact ⟨⟨_, rfl, by rw [← HIds.out]; exact row_ownI HR.out (by rw [idL_len]) (Nat.le_trans (Nat.le_trans HBR.out.size HB2.out.size) HSt.out.m.b.size) (by have := HSt.out.m; omega)⟩, below_on (below_on HBR.out HB2.out) (below_on HSt.out.m.b HBz.out)⟩
        · have h1' : ¬ (0 : Int) < (ls.length : Int) := by omega
          clear hgo
          go_wp2_with fail
          refine HId.out.mono ?_
          rintro e wz ⟨rfl, hrow, hbz⟩
          have HR := Lib.hid hrow
          have HBz := Lib.hid hbz
          clear hrow hbz HId q5 z5
          go_wp2
          go_ret
          exact ⟨⟨_, rfl, by rw [← HIds.out]; exact row_ownI HR.out (by rw [idL_len]) (Nat.le_trans (Nat.le_trans HBR.out.size HB2.out.size) HSt.out.m.b.size) (by have := HSt.out.m; omega)⟩, below_on (below_on HBR.out HB2.out) (below_on HSt.out.m.b HBz.out)⟩
end Go.Proofs.Ytceiocdemhkcdaa.num
namespace Go.Proofs.Ytceiocdemhkcdaa.num
set_option maxRecDepth 20000
open Go.RowKit
set_option linter.unusedVariables false
set_option linter.unusedSimpArgs false

theorem Items.more' {w : World} {B B' : Nat} {A : Option Addr} {n : Nat} {its : List It} (h : Items w B A n its) (hB : B ≤ B') : Items w B' A n its := h.up hB
theorem ownI_oneG (w : World) (B : Nat) (x : Int) (hB : B ≤ w.heap.size) : OwnI (w.alloc (.cells #[.int .i64 x] 3)) B (.slice (some ⟨w.heap.size, 0, none⟩) 1 1) [x] :=
  ⟨rfl, .inr ⟨w.heap.size, 1, #[.int .i64 x], rfl, hB, heap_alloc_new w _, Nat.le_refl _, by decide, rfl, rfl⟩⟩
/-- The state of the search for the next item. -/
def PickR (G : Da → Rg) (o : Option Da) (pick num den : Int) : Prop := (o = none ∧ pick = -1 ∧ num = 0 ∧ den = 1) ∨ ∃ x : Da, o = some x ∧ pick = x.1 ∧ num = (G x).num ∧ den = (G x).den
theorem PickR.first {G : Da → Rg} {num den : Int} (x : Da) (h : PickR G none (-1) num den) : PickR G (pickS G none x) x.1 (G x).num (G x).den := .inr ⟨x, rfl, rfl, rfl, rfl⟩
theorem PickR.yes {G : Da → Rg} {y : Da} {pick num den : Int} (x : Da) (h : PickR G (some y) pick num den) (hl : (G x).num * den < num * (G x).den) : PickR G (pickS G (some y) x) x.1 (G x).num (G x).den := by
  rcases h with ⟨h, _⟩ | ⟨z, h, _, h2, h3⟩
  · cases h
  · obtain rfl := Option.some.inj h
    have e : (G x).less (G y) = true := by unfold Rg.less; rw [decide_eq_true_eq, ← h2, ← h3]; exact hl
    refine .inr ⟨x, ?_, rfl, rfl, rfl⟩
    show (if (G x).less (G y) = true then some x else some y) = some x
    rw [if_pos e]
theorem PickR.no {G : Da → Rg} {y : Da} {pick num den : Int} (x : Da) (h : PickR G (some y) pick num den) (hl : ¬ (G x).num * den < num * (G x).den) : PickR G (pickS G (some y) x) pick num den := by
  rcases h with ⟨h, _⟩ | ⟨z, h, h1, h2, h3⟩
  · cases h
  · obtain rfl := Option.some.inj h
    have e : (G x).less (G y) = false := by unfold Rg.less; rw [decide_eq_false_iff_not, ← h2, ← h3]; exact hl
    refine .inr ⟨y, ?_, h1, h2, h3⟩
    show (if (G x).less (G y) = true then some x else some y) = some y
    rw [if_neg (by rw [e]; decide)]
theorem restD_at {cs ds : List Da} {i : Nat} {x : Da} (h : ds[i]? = some x) : (x.1 ∈ idsA cs → restD cs (ds.take (i + 1)) = restD cs (ds.take i)) ∧ (x.1 ∉ idsA cs → restD cs (ds.take (i + 1)) = restD cs (ds.take i) ++ [x]) := by
  rw [take_at h, restD_snoc]
  exact ⟨fun h => by rw [if_pos h], fun h => by rw [if_neg h]⟩
def lenW : Value → Nat
  | .slice _ n _ => n
  | _ => 0
set_option maxRecDepth 20000 in
set_option maxHeartbeats 6400000 in
theorem sGreedy (w : World) (B : Nat) (A : Option Addr) (n c : Nat) (its : List It) (hi : Items w B A n its) (hB : B ≤ w.heap.size) (hn : n ≤ 1048576) (hN : ∀ t ∈ its, t.n ≤ 1048576) (size : Int) (D : List Int) (hD : GreedP (its.map It.dat) size D) :
    Calls Try.prog 22 #[.slice A n c, .int .i64 size] w fun e w' => (∃ v, e = .returned v ∧ OwnI w' w.heap.size v D) ∧ Below w.heap.size w w' := by
  obtain ⟨qa, hqa⟩ := bool_of (AreP (its.map It.dat))
  have HAr : Hid (∀ W, Below w.heap.size w W → Calls Try.prog 13 #[.slice A n c] W fun e w' => e = .returned (.bool qa) ∧ Below W.heap.size W w') := Lib.hid fun W hW => sAre W B A n c its (hi.below (hW.mono hB)) (Nat.le_trans hB hW.size) hn hN qa hqa
  have HI : Hid (∀ W, Below w.heap.size w W → Items W W.heap.size A n its) := Lib.hid fun W hW => ((hi.more' hB).below hW).more' hW.size
  have HRe : Hid (∀ W (A4 : Option Addr) (n4 c4 : Nat) (xs : List Int) (N E : Int) (ws : List Int), Below w.heap.size w W → Ints W W.heap.size A4 n4 xs → n4 ≤ 1048577 → RegP (its.map It.dat) xs N E ws → Calls Try.prog 8 #[.slice A n c, .slice A4 n4 c4] W fun e w' => (∃ v, e = .returned (.tuple #[.int .i64 N, .int .i64 E, v]) ∧ OwnI w' W.heap.size v ws) ∧ Below W.heap.size W w') := Lib.hid fun W A4 n4 c4 xs N E ws hW h4 hn4 hP => sRegretOf W B A n c its (hi.below (hW.mono hB)) (Nat.le_trans hB hW.size) hn hN W.heap.size A4 n4 c4 xs h4 (Nat.le_refl _) hn4 N E ws hP
  have hil : its.length = n := hi.1
  have hdl : (its.map It.dat).length = n := by rw [List.length_map, hil]
  have HAt : Hid (∀ (i : Nat) (x : It), its[i]? = some x → (its.map It.dat)[i]? = some x.dat) := Lib.hid fun i x h => by rw [List.getElem?_map, h]; rfl
  obtain ⟨ds, hds⟩ : ∃ ds, its.map It.dat = ds := ⟨_, rfl⟩
  rw [hds] at hqa hD HRe hdl HAt
  have HLk : Hid (∀ k, k ≤ n → (qa = false → k = 0) → (idsA (greedy ds k)).length = k) := Lib.hid fun k hk h0 => by
    cases qa
    · obtain rfl := h0 rfl; rfl
    · unfold idsA
      rw [List.length_map]
      exact (greedy_len (ids_nodup (hqa.1 rfl)) k (by rw [hdl]; exact hk)).1
  have HEx : Hid (∀ k, k ≤ size.toNat → k ≤ n → (qa = false → k = 0) → (¬ ((k : Int) < size ∧ k < n) ∨ qa = false) → D = idsA (greedy ds k)) := Lib.hid fun k h1 h2 h3 h4 => by
    cases qa
    · obtain rfl := h3 rfl
      exact hD.no fun h => by have := hqa.2 h; cases this
    · have h5 := hD.yes (hqa.1 rfl)
      rw [hdl] at h5
      have h6 : k = min size.toNat n := by
        rcases h4 with h4 | h4
        · omega
        · cases h4
      rw [h5, ← h6]
  have HQa : Hid (qa = true → AreP ds) := Lib.hid hqa.1
  have HDl := Lib.hid hdl
  clear hi hD hqa hds hdl
  have HB0 : Hid (Below w.heap.size w (w.alloc (.cells #[] 3))) := Lib.hid ((Below.refl _ w).alloc (Nat.le_refl _) _)
  have HE0 : Hid (OwnI (w.alloc (.cells #[] 3)) w.heap.size (.slice (some ⟨w.heap.size, 0, none⟩) 0 0) (idsA (greedy ds 0))) := Lib.hid (OwnI.empty w w.heap.size (Nat.le_refl _))
  go_enter Try.func22, Try.ntmps22
  go_wp2
  go_loopw [5] (fun v wr => ∃ (k : Nat) (V : Value), V = v ∧ k ≤ size.toNat ∧ k ≤ n ∧ (qa = false → k = 0) ∧ OwnI wr w.heap.size V (idsA (greedy ds k)) ∧ Below w.heap.size w wr) (fun v _ => n - lenW v)
  case atStart => exact ⟨0, _, rfl, Nat.zero_le _, Nat.zero_le _, fun _ => rfl, HE0.out, HB0.out⟩
  case round =>
    obtain ⟨k, V, rfl, hks, hkn, hk0, hown, hbel⟩ := hrel
    have HO := Lib.hid hown
    have HB := Lib.hid hbel
    have HK0 := Lib.hid hk0
    obtain ⟨A5, n5, c5, hV, hints⟩ := hown.ints
    subst hV
    have hn5 : n5 = k := by rw [← hints.1]; exact HLk.out k hkn hk0
    subst hn5
    clear hown hbel hk0 hints
    by_cases h1 : (n5 : Int) < size
    · by_cases h2 : n5 < n
      · have h2' : (n5 : Int) < (n : Int) := by omega
        go_wp2_with fail
        refine (HAr.out _ HB.out).mono ?_
        rintro e w1 ⟨rfl, hb1⟩
        have HB1 := Lib.hid (below_on HB.out hb1)
        have HO1 := Lib.hid (ownI_below HO.out hb1)
        clear hb1
        cases qa
        · obtain rfl := HEx.out n5 hks hkn HK0.out (.inr rfl)
          go_wp2
          go_ret
          exact ⟨⟨_, rfl, HO1.out⟩, HB1.out⟩
        · have hA := HQa.out (by first | rfl | trivial)
          have HA := Lib.hid hA
          have HNd := Lib.hid (ids_nodup hA)
          have hn16 : n ≤ 16 := by have h := hA.2.2; rw [HDl.out] at h; exact h
          obtain ⟨cs, hcs⟩ : ∃ cs, greedy ds n5 = cs := ⟨_, rfl⟩
          have HCs := Lib.hid hcs
          have HSub : Hid (∀ d ∈ cs, d ∈ ds) := Lib.hid (by rw [← hcs]; exact greedy_sub ds n5)
          have HO2 : Hid (OwnI w1 w.heap.size (.slice A5 n5 c5) (idsA cs)) := Lib.hid (by rw [← hcs]; exact HO1.out)
          clear hcs hA HO1 HO
          have HIn : Hid (∀ W, Below w1.heap.size w1 W → Ints W W.heap.size A5 n5 (idsA cs)) := Lib.hid fun W hW => ((ownI_at HO2.out).below hW).more hW.size
          have HPs : Hid (PickR (greedF ds cs) (pickF (greedF ds cs) (restD cs (ds.take 0))) (-1) 0 1) := Lib.hid (.inl ⟨rfl, rfl, rfl, rfl⟩)
          go_wp2
          go_loopw [6, 7, 8, 9] (fun pv nv dv iv wr => ∃ (i : Nat) (pick num den : Int), i ≤ n ∧ iv = .int .i64 i ∧ pv = .int .i64 pick ∧ nv = .int .i64 num ∧ dv = .int .i64 den ∧ PickR (greedF ds cs) (pickF (greedF ds cs) (restD cs (ds.take i))) pick num den ∧ Below w1.heap.size w1 wr) (fun _ _ _ iv _ => n - (intOf iv).toNat)
          case atStart => exact ⟨0, -1, 0, 1, Nat.zero_le _, rfl, rfl, rfl, rfl, HPs.out, Below.refl _ _⟩
          case round =>
            obtain ⟨i, pick, num, den, hin, rfl, rfl, rfl, rfl, hp, hbel⟩ := hrel
            have HP := Lib.hid hp
            have HBi := Lib.hid hbel
            clear hp
            by_cases hlt : i < n
            · obtain ⟨b, off, x, hA', hb, hat, d0, d1, hx⟩ := (HI.out wr (below_on HB1.out hbel)).at i hlt
              subst hA'
              have hlt' : (i : Int) < (n : Int) := by omega
              have hdat := HAt.out i x hat
              have hxm : x.dat ∈ ds := List.mem_of_getElem? hdat
              obtain ⟨q, hq⟩ := bool_of (x.id ∈ idsA cs)
              have hre := restD_at (cs := cs) hdat
              have HRs := Lib.hid hre
              have HXm := Lib.hid hxm
              have HQ := Lib.hid hq
              clear hat d1 hx hdat hxm hre hq hbel
              go_wp2_with fail
              refine (has_of wr wr.heap.size A5 n5 c5 (idsA cs) (HIn.out wr HBi.out) (by omega) x.id q HQ.out).mono ?_
              rintro e w2 ⟨rfl, rfl⟩
              cases q
              · have hni : x.dat.1 ∉ idsA cs := fun h => by have := HQ.out.2 h; cases this
                have HSn : Hid (restD cs (ds.take (i + 1)) = restD cs (ds.take i) ++ [x.dat]) := Lib.hid (HRs.out.2 hni)
                obtain ⟨N, E, ws, hP⟩ := RegP.some ds (idsA cs ++ [x.id])
                have hkn2 : KnownP ds (idsA cs ++ [x.id]) := by
                  intro z hz
                  rcases List.mem_append.1 hz with h | h
                  · obtain ⟨d, hd, rfl⟩ := List.mem_map.1 h
                    exact ⟨d, HSub.out d hd, rfl⟩
                  · obtain rfl := List.mem_singleton.1 h
                    exact ⟨x.dat, HXm.out, rfl⟩
                obtain ⟨e1, e2, e3⟩ := hP.yes HA.out hkn2
                have hge := greed_ids (x := x.dat) HNd.out HSub.out HXm.out
                have e0 : x.dat.1 = x.id := rfl
                rw [e0] at hge
                rw [hge] at e1 e2
                have hsm := hP.small
                have HNE := Lib.hid (And.intro e1 e2)
                have HCall : Hid (∀ W (A4 : Option Addr) (n4 c4 : Nat), Below w1.heap.size w1 W → Ints W W.heap.size A4 n4 (idsA cs ++ [x.id]) → n4 ≤ 1048577 → Calls Try.prog 8 #[.slice (some ⟨b, off, none⟩) n c, .slice A4 n4 c4] W fun e w' => (∃ v, e = .returned (.tuple #[.int .i64 N, .int .i64 E, v]) ∧ OwnI w' W.heap.size v ws) ∧ Below W.heap.size W w') := Lib.hid fun W A4 n4 c4 hW h4 hn4 => HRe.out W A4 n4 c4 _ N E ws (below_on HB1.out hW) h4 hn4 hP
                clear hP hkn2 e1 e2 e3 hge hni
                obtain ⟨wR, rfl⟩ : ∃ wR, wR = wr := ⟨_, rfl⟩
                have HBR := HBi
                have f1 := d0
                have hbR : b < wR.heap.size := hb
                clear d0 hb
                go_upto_region 10 with (fail)
                go_cut [10, 11] from 42 to 58 (fun s10 s11 wx => s10 = .int .i64 N ∧ s11 = .int .i64 E ∧ Below wR.heap.size wR wx)
                case first =>
                  have hS0 : (fun w' => w'.cell? ⟨b, off + i * 2, none⟩ = some (.int .i64 x.id)) wR.drew := f1
                  refine wp_region_held (S := fun w' => w'.cell? ⟨b, off + i * 2, none⟩ = some (.int .i64 x.id)) (by kernel_rfl) ?_
                  change wpAnyH _ _ _ _ _ _ _ _ (World.drew _)
                  have hBD0 : Below wR.heap.size wR wR.drew := (Below.refl _ wR).drew
                  obtain ⟨wD, hwD⟩ : ∃ wD, World.drew wR = wD := ⟨_, rfl⟩
                  rw [hwD] at hS0 ⊢
                  have hBD : Below wR.heap.size wR wD := by rw [← hwD]; exact hBD0
                  clear hwD hBD0
                  refine takeY 43 (i := 0) (v := ?vx1) rfl rfl (by kernel_rfl) (by kernel_rfl) (by kernel_rfl) (fun _ _ _ h => h) (by kernel_rfl) ?yx1 hS0 ?_
                  case yx1 =>
                    intro w' hw'; (try dsimp only at hw'); obtain q1 := hw'; go_simp; try with_reducible rfl
                  simp only [Act.put, List.setIfInBounds_toArray, List.set_cons_zero, List.set_cons_succ]
                  refine takeY 45 (i := 2) (v := ?vx2) rfl rfl (by kernel_rfl) (by kernel_rfl) (by kernel_rfl) (fun _ _ _ h => h) (by kernel_rfl) ?yx2 hS0 ?_
                  case yx2 =>
                    intro w' hw'; (try dsimp only at hw'); obtain q1 := hw'; go_simp; try with_reducible rfl
                  simp only [Act.put, List.setIfInBounds_toArray, List.set_cons_zero, List.set_cons_succ]
                  refine takeY 47 (i := 4) (v := ?vx3) rfl rfl (by kernel_rfl) (by kernel_rfl) (by kernel_rfl) (fun _ _ _ h => h) (by kernel_rfl) ?yx3 hS0 ?_
                  case yx3 =>
                    intro w' hw'; (try dsimp only at hw'); obtain q1 := hw'; go_simp; try with_reducible rfl
                  simp only [Act.put, List.setIfInBounds_toArray, List.set_cons_zero, List.set_cons_succ]
                  refine takeY 48 (i := 5) (v := ?vx4) rfl rfl (by kernel_rfl) (by kernel_rfl) (by kernel_rfl) (fun _ _ _ h => h) (by kernel_rfl) ?yx4 hS0 ?_
                  case yx4 =>
                    intro w' hw'; (try dsimp only at hw'); obtain q1 := hw'; go_simp; try with_reducible rfl
                  simp only [Act.put, List.setIfInBounds_toArray, List.set_cons_zero, List.set_cons_succ]
                  refine takeY 49 (i := 6) (v := ?vx5) rfl rfl (by kernel_rfl) (by kernel_rfl) (by kernel_rfl) (fun _ _ _ h => h) (by kernel_rfl) ?yx5 hS0 ?_
                  case yx5 =>
                    intro w' hw'; (try dsimp only at hw'); obtain q1 := hw'; go_simp; try with_reducible rfl
                  simp only [Act.put, List.setIfInBounds_toArray, List.set_cons_zero, List.set_cons_succ]
                  refine takeY 50 (i := 7) (v := ?vx6) rfl rfl (by kernel_rfl) (by kernel_rfl) (by kernel_rfl) (fun _ _ _ h => h) (by kernel_rfl) ?yx6 hS0 ?_
                  case yx6 =>
                    intro w' hw'; (try dsimp only at hw'); obtain q1 := hw'; go_simp; try with_reducible rfl
                  simp only [Act.put, List.setIfInBounds_toArray, List.set_cons_zero, List.set_cons_succ]
                  refine takeY 51 (i := 8) (v := ?vx7) rfl rfl (by kernel_rfl) (by kernel_rfl) (by kernel_rfl) (fun _ _ _ h => h) (by kernel_rfl) ?yx7 hS0 ?_
                  case yx7 =>
                    intro w' hw'; (try dsimp only at hw'); obtain q1 := hw'; go_simp; try with_reducible rfl
                  simp only [Act.put, List.setIfInBounds_toArray, List.set_cons_zero, List.set_cons_succ]
                  refine wpAnyH_ready (rs := [1, 9]) (by kernel_rfl) (by simp) ?_
                  refine (AllReadyH.cons rfl (fun K hK => ?_) (AllReadyH.cons rfl (fun K hK => ?_) AllReadyH.nil))
                  · go_simp
                    refine hK.out _ _ (((hBD.alloc hBD.size _).cell (p := ⟨b, off + i * 2, none⟩) hbR).trans f1) (fun hS1 => ?_)
                    clear hK K
                    try simp only [Act.put, List.setIfInBounds_toArray, List.set_cons_zero, List.set_cons_succ]
                    obtain ⟨w1, hw1⟩ : ∃ w', World.alloc wD (.cells #[] 3) = w' := ⟨_, rfl⟩
                    have hB1 : Below wR.heap.size wR w1 := by rw [← hw1]; exact hBD.alloc hBD.size _
                    have hb1 : Below wD.heap.size wD w1 := by rw [← hw1]; exact (Below.refl _ _).alloc (Nat.le_refl _) _
                    have hE1 : OwnI w1 wR.heap.size (.slice (some ⟨wD.heap.size, 0, none⟩) 0 0) [] := by rw [← hw1]; exact OwnI.empty wD _ hBD.size
                    try rw [hw1]
                    try rw [hw1] at hS1
                    clear hw1 hb1
                    refine wpAnyH_ready (rs := [3, 9]) (by kernel_rfl) (by simp) ?_
                    refine (AllReadyH.cons rfl (fun K hK => ?_) (AllReadyH.cons rfl (fun K hK => ?_) AllReadyH.nil))
                    · obtain ⟨v3, w2, hr2, ho2, hg2, -⟩ := run_spreadI (ty := 25) (c := c5) hE1 (HIn.out _ (below_on HBR.out hB1)) (by simp; omega) hB1.size
                      have hB2 : Below wR.heap.size wR w2 := hB1.grown hg2 hB1.size (fun k hk => ownI_lows hE1 k hk)
                      have hV2 : OwnI w2 wR.heap.size v3 (idsA cs) := by simpa using ho2
                      refine step_run _ (by rfl) (.tmp 44) (.tmp 45) 25 (by rfl) _ _ (by rfl) (by rfl) hr2 ?_
                      refine hK.out _ _ ((hB2.cell (p := ⟨b, off + i * 2, none⟩) hbR).trans f1) (fun hS2 => ?_)
                      clear hK K
                      try simp only [Act.put, List.setIfInBounds_toArray, List.set_cons_zero, List.set_cons_succ]
                      clear hr2 hg2 ho2
                      refine wpAnyH_ready (rs := [9]) (by kernel_rfl) (by simp) ?_
                      refine (AllReadyH.cons rfl (fun K hK => ?_) AllReadyH.nil)
                      go_simp
                      refine hK.out _ _ (((hB2.alloc hB2.size _).cell (p := ⟨b, off + i * 2, none⟩) hbR).trans f1) (fun hS3 => ?_)
                      clear hK K
                      try simp only [Act.put, List.setIfInBounds_toArray, List.set_cons_zero, List.set_cons_succ]
                      obtain ⟨w3, hw3⟩ : ∃ w', World.alloc w2 (.cells #[.int .i64 x.id] 3) = w' := ⟨_, rfl⟩
                      have hB3 : Below wR.heap.size wR w3 := by rw [← hw3]; exact hB2.alloc hB2.size _
                      have hb3 : Below w2.heap.size w2 w3 := by rw [← hw3]; exact (Below.refl _ _).alloc (Nat.le_refl _) _
                      have hV3 := ownI_below hV2 hb3
                      have hX3 : OwnI w3 wR.heap.size (.slice (some ⟨w2.heap.size, 0, none⟩) 1 1) [x.id] := by rw [← hw3]; exact ownI_oneG w2 _ x.id hB2.size
                      try rw [hw3]
                      try rw [hw3] at hS3
                      clear hw3 hb3
                      refine wpAnyH_ready (rs := [10]) (by kernel_rfl) (by simp) ?_
                      refine (AllReadyH.cons rfl (fun K hK => ?_) AllReadyH.nil)
                      obtain ⟨v4, w4, hr4, ho4, hg4, -⟩ := run_spreadI (ty := 25) (c := 1) hV3 (ownI_at hX3) (by have h1 := (HIn.out _ HBR.out).1; omega) hB3.size
                      have hB4 : Below wR.heap.size wR w4 := hB3.grown hg4 hB3.size (fun k hk => ownI_lows hV3 k hk)
                      obtain ⟨A8, n8, c8, rfl, h8⟩ := ho4.ints
                      refine step_run _ (by rfl) (.tmp 46) (.tmp 52) 25 (by rfl) _ _ (by rfl) (by rfl) hr4 ?_
                      refine hK.out _ _ ((hB4.cell (p := ⟨b, off + i * 2, none⟩) hbR).trans f1) (fun hS4 => ?_)
                      clear hK K
                      try simp only [Act.put, List.setIfInBounds_toArray, List.set_cons_zero, List.set_cons_succ]
                      clear hr4 hg4
                      refine wpAnyH_ready (rs := [11]) (by kernel_rfl) (by simp) ?_
                      refine (AllReadyH.cons rfl (fun K hK => ?_) AllReadyH.nil)
                      go_simp
                      go_at_call 8
                      refine (HCall.out _ _ _ _ (below_on HBR.out hB4) h8 (by have h1 := h8.1; rw [List.length_append, List.length_singleton] at h1; have h2 := (HIn.out _ HBR.out).1; omega)).mono ?_
                      rintro e w5 ⟨⟨v5, rfl, ho⟩, hb5⟩
                      have hB5 : Below wR.heap.size wR w5 := below_on hB4 hb5
                      refine hK.out _ _ ((hB5.cell (p := ⟨b, off + i * 2, none⟩) hbR).trans f1) (fun hS5 => ?_)
                      clear hK K
                      try simp only [Act.put, List.setIfInBounds_toArray, List.set_cons_zero, List.set_cons_succ]
                      refine takeY 42 (i := 12) (v := ?vx8) rfl rfl (by kernel_rfl) (by kernel_rfl) (by kernel_rfl) (fun _ _ _ h => h) (by kernel_rfl) ?yx8 hS5 ?_
                      case yx8 =>
                        intro w' hw'; (try dsimp only at hw'); obtain q1 := hw'; go_simp; try with_reducible rfl
                      simp only [Act.put, List.setIfInBounds_toArray, List.set_cons_zero, List.set_cons_succ]
                      refine takeY 55 (i := 13) (v := ?vx9) rfl rfl (by kernel_rfl) (by kernel_rfl) (by kernel_rfl) (fun _ _ _ h => h) (by kernel_rfl) ?yx9 hS5 ?_
                      case yx9 =>
                        intro w' hw'; (try dsimp only at hw'); obtain q1 := hw'; go_simp; try with_reducible rfl
                      simp only [Act.put, List.setIfInBounds_toArray, List.set_cons_zero, List.set_cons_succ]
                      refine takeY 56 (i := 14) (v := ?vx10) rfl rfl (by kernel_rfl) (by kernel_rfl) (by kernel_rfl) (fun _ _ _ h => h) (by kernel_rfl) ?yx10 hS5 ?_
                      case yx10 =>
                        intro w' hw'; (try dsimp only at hw'); obtain q1 := hw'; go_simp; try with_reducible rfl
                      simp only [Act.put, List.setIfInBounds_toArray, List.set_cons_zero, List.set_cons_succ]
                      refine takeY 57 (i := 15) (v := ?vx11) rfl rfl (by kernel_rfl) (by kernel_rfl) (by kernel_rfl) (fun _ _ _ h => h) (by kernel_rfl) ?yx11 hS5 ?_
                      case yx11 =>
                        intro w' hw'; (try dsimp only at hw'); obtain q1 := hw'; go_simp; try with_reducible rfl
                      simp only [Act.put, List.setIfInBounds_toArray, List.set_cons_zero, List.set_cons_succ]
                      refine takeY 10 (i := 16) (v := ?vx12) rfl rfl (by kernel_rfl) (by kernel_rfl) (by kernel_rfl) (fun _ _ _ h => h) (by kernel_rfl) ?yx12 hS5 ?_
                      case yx12 =>
                        intro w' hw'; (try dsimp only at hw'); obtain q1 := hw'; go_simp; try with_reducible rfl
                      simp only [Act.put, List.setIfInBounds_toArray, List.set_cons_zero, List.set_cons_succ]
                      refine takeY 11 (i := 17) (v := ?vx13) rfl rfl (by kernel_rfl) (by kernel_rfl) (by kernel_rfl) (fun _ _ _ h => h) (by kernel_rfl) ?yx13 hS5 ?_
                      case yx13 =>
                        intro w' hw'; (try dsimp only at hw'); obtain q1 := hw'; go_simp; try with_reducible rfl
                      simp only [Act.put, List.setIfInBounds_toArray, List.set_cons_zero, List.set_cons_succ]
                      refine takeY 12 (i := 18) (v := ?vx14) rfl rfl (by kernel_rfl) (by kernel_rfl) (by kernel_rfl) (fun _ _ _ h => h) (by kernel_rfl) ?yx14 hS5 ?_
                      case yx14 =>
                        intro w' hw'; (try dsimp only at hw'); obtain q1 := hw'; go_simp; try with_reducible rfl
                      simp only [Act.put, List.setIfInBounds_toArray, List.set_cons_zero, List.set_cons_succ]
                      refine wpAnyH_done (by kernel_rfl) ?_ _
                      go_wp2
                      go_meet
                      exact ⟨rfl, rfl, hB5⟩
                    · go_simp
                      refine hK.out _ _ (((hB1.alloc hB1.size _).cell (p := ⟨b, off + i * 2, none⟩) hbR).trans f1) (fun hS6 => ?_)
                      clear hK K
                      try simp only [Act.put, List.setIfInBounds_toArray, List.set_cons_zero, List.set_cons_succ]
                      obtain ⟨w6, hw6⟩ : ∃ w', World.alloc w1 (.cells #[.int .i64 x.id] 3) = w' := ⟨_, rfl⟩
                      have hB6 : Below wR.heap.size wR w6 := by rw [← hw6]; exact hB1.alloc hB1.size _
                      have hb6 : Below w1.heap.size w1 w6 := by rw [← hw6]; exact (Below.refl _ _).alloc (Nat.le_refl _) _
                      have hE6 := ownI_below hE1 hb6
                      have hX6 : OwnI w6 wR.heap.size (.slice (some ⟨w1.heap.size, 0, none⟩) 1 1) [x.id] := by rw [← hw6]; exact ownI_oneG w1 _ x.id hB1.size
                      have hne : wD.heap.size ≠ w1.heap.size := by have h1 : wD.heap.size < w1.heap.size := ownI_tops hE1 _ rfl; omega
                      try rw [hw6]
                      try rw [hw6] at hS6
                      clear hw6 hb6
                      refine wpAnyH_ready (rs := [3]) (by kernel_rfl) (by simp) ?_
                      refine (AllReadyH.cons rfl (fun K hK => ?_) AllReadyH.nil)
                      obtain ⟨v3, w7, hr7, ho7, hg7, -⟩ := run_spreadI (ty := 25) (c := c5) hE6 (HIn.out _ (below_on HBR.out hB6)) (by simp; omega) hB6.size
                      have hB7 : Below wR.heap.size wR w7 := hB6.grown hg7 hB6.size (fun k hk => ownI_lows hE6 k hk)
                      have hV7 : OwnI w7 wR.heap.size v3 (idsA cs) := by simpa using ho7
                      have hX7 : OwnI w7 wR.heap.size (.slice (some ⟨w1.heap.size, 0, none⟩) 1 1) [x.id] := ownI_blocks hX6 fun k hk => hg7.block k (ownI_tops hX6 k hk) fun e => hne ((Option.some.inj e.symm).trans (Option.some.inj hk).symm)
                      refine step_run _ (by rfl) (.tmp 44) (.tmp 45) 25 (by rfl) _ _ (by rfl) (by rfl) hr7 ?_
                      refine hK.out _ _ ((hB7.cell (p := ⟨b, off + i * 2, none⟩) hbR).trans f1) (fun hS7 => ?_)
                      clear hK K
                      try simp only [Act.put, List.setIfInBounds_toArray, List.set_cons_zero, List.set_cons_succ]
                      clear hr7 hg7 ho7
                      refine wpAnyH_ready (rs := [10]) (by kernel_rfl) (by simp) ?_
                      refine (AllReadyH.cons rfl (fun K hK => ?_) AllReadyH.nil)
                      obtain ⟨v4, w8, hr8, ho8, hg8, -⟩ := run_spreadI (ty := 25) (c := 1) hV7 (ownI_at hX7) (by have h1 := (HIn.out _ HBR.out).1; omega) hB7.size
                      have hB8 : Below wR.heap.size wR w8 := hB7.grown hg8 hB7.size (fun k hk => ownI_lows hV7 k hk)
                      obtain ⟨A8, n8, c8, rfl, h8⟩ := ho8.ints
                      refine step_run _ (by rfl) (.tmp 46) (.tmp 52) 25 (by rfl) _ _ (by rfl) (by rfl) hr8 ?_
                      refine hK.out _ _ ((hB8.cell (p := ⟨b, off + i * 2, none⟩) hbR).trans f1) (fun hS8 => ?_)
                      clear hK K
                      try simp only [Act.put, List.setIfInBounds_toArray, List.set_cons_zero, List.set_cons_succ]
                      clear hr8 hg8
                      refine wpAnyH_ready (rs := [11]) (by kernel_rfl) (by simp) ?_
                      refine (AllReadyH.cons rfl (fun K hK => ?_) AllReadyH.nil)
                      go_simp
                      go_at_call 8
                      refine (HCall.out _ _ _ _ (below_on HBR.out hB8) h8 (by have h1 := h8.1; rw [List.length_append, List.length_singleton] at h1; have h2 := (HIn.out _ HBR.out).1; omega)).mono ?_
                      rintro e w9 ⟨⟨v5, rfl, ho⟩, hb9⟩
                      have hB9 : Below wR.heap.size wR w9 := below_on hB8 hb9
                      refine hK.out _ _ ((hB9.cell (p := ⟨b, off + i * 2, none⟩) hbR).trans f1) (fun hS9 => ?_)
                      clear hK K
                      try simp only [Act.put, List.setIfInBounds_toArray, List.set_cons_zero, List.set_cons_succ]
                      refine takeY 42 (i := 12) (v := ?vx15) rfl rfl (by kernel_rfl) (by kernel_rfl) (by kernel_rfl) (fun _ _ _ h => h) (by kernel_rfl) ?yx15 hS9 ?_
                      case yx15 =>
                        intro w' hw'; (try dsimp only at hw'); obtain q1 := hw'; go_simp; try with_reducible rfl
                      simp only [Act.put, List.setIfInBounds_toArray, List.set_cons_zero, List.set_cons_succ]
                      refine takeY 55 (i := 13) (v := ?vx16) rfl rfl (by kernel_rfl) (by kernel_rfl) (by kernel_rfl) (fun _ _ _ h => h) (by kernel_rfl) ?yx16 hS9 ?_
                      case yx16 =>
                        intro w' hw'; (try dsimp only at hw'); obtain q1 := hw'; go_simp; try with_reducible rfl
                      simp only [Act.put, List.setIfInBounds_toArray, List.set_cons_zero, List.set_cons_succ]
                      refine takeY 56 (i := 14) (v := ?vx17) rfl rfl (by kernel_rfl) (by kernel_rfl) (by kernel_rfl) (fun _ _ _ h => h) (by kernel_rfl) ?yx17 hS9 ?_
                      case yx17 =>
                        intro w' hw'; (try dsimp only at hw'); obtain q1 := hw'; go_simp; try with_reducible rfl
                      simp only [Act.put, List.setIfInBounds_toArray, List.set_cons_zero, List.set_cons_succ]
                      refine takeY 57 (i := 15) (v := ?vx18) rfl rfl (by kernel_rfl) (by kernel_rfl) (by kernel_rfl) (fun _ _ _ h => h) (by kernel_rfl) ?yx18 hS9 ?_
                      case yx18 =>
                        intro w' hw'; (try dsimp only at hw'); obtain q1 := hw'; go_simp; try with_reducible rfl
                      simp only [Act.put, List.setIfInBounds_toArray, List.set_cons_zero, List.set_cons_succ]
                      refine takeY 10 (i := 16) (v := ?vx19) rfl rfl (by kernel_rfl) (by kernel_rfl) (by kernel_rfl) (fun _ _ _ h => h) (by kernel_rfl) ?yx19 hS9 ?_
                      case yx19 =>
                        intro w' hw'; (try dsimp only at hw'); obtain q1 := hw'; go_simp; try with_reducible rfl
                      simp only [Act.put, List.setIfInBounds_toArray, List.set_cons_zero, List.set_cons_succ]
                      refine takeY 11 (i := 17) (v := ?vx20) rfl rfl (by kernel_rfl) (by kernel_rfl) (by kernel_rfl) (fun _ _ _ h => h) (by kernel_rfl) ?yx20 hS9 ?_
                      case yx20 =>
                        intro w' hw'; (try dsimp only at hw'); obtain q1 := hw'; go_simp; try with_reducible rfl
                      simp only [Act.put, List.setIfInBounds_toArray, List.set_cons_zero, List.set_cons_succ]
                      refine takeY 12 (i := 18) (v := ?vx21) rfl rfl (by kernel_rfl) (by kernel_rfl) (by kernel_rfl) (fun _ _ _ h => h) (by kernel_rfl) ?yx21 hS9 ?_
                      case yx21 =>
                        intro w' hw'; (try dsimp only at hw'); obtain q1 := hw'; go_simp; try with_reducible rfl
                      simp only [Act.put, List.setIfInBounds_toArray, List.set_cons_zero, List.set_cons_succ]
                      refine wpAnyH_done (by kernel_rfl) ?_ _
                      go_wp2
                      go_meet
                      exact ⟨rfl, rfl, hB9⟩
                  · go_simp
                    refine hK.out _ _ (((hBD.alloc hBD.size _).cell (p := ⟨b, off + i * 2, none⟩) hbR).trans f1) (fun hS10 => ?_)
                    clear hK K
                    try simp only [Act.put, List.setIfInBounds_toArray, List.set_cons_zero, List.set_cons_succ]
                    obtain ⟨w10, hw10⟩ : ∃ w', World.alloc wD (.cells #[.int .i64 x.id] 3) = w' := ⟨_, rfl⟩
                    have hB10 : Below wR.heap.size wR w10 := by rw [← hw10]; exact hBD.alloc hBD.size _
                    have hb10 : Below wD.heap.size wD w10 := by rw [← hw10]; exact (Below.refl _ _).alloc (Nat.le_refl _) _
                    have hX10 : OwnI w10 wR.heap.size (.slice (some ⟨wD.heap.size, 0, none⟩) 1 1) [x.id] := by rw [← hw10]; exact ownI_oneG wD _ x.id hBD.size
                    try rw [hw10]
                    try rw [hw10] at hS10
                    clear hw10 hb10
                    refine wpAnyH_ready (rs := [1]) (by kernel_rfl) (by simp) ?_
                    refine (AllReadyH.cons rfl (fun K hK => ?_) AllReadyH.nil)
                    go_simp
                    refine hK.out _ _ (((hB10.alloc hB10.size _).cell (p := ⟨b, off + i * 2, none⟩) hbR).trans f1) (fun hS11 => ?_)
                    clear hK K
                    try simp only [Act.put, List.setIfInBounds_toArray, List.set_cons_zero, List.set_cons_succ]
                    obtain ⟨w11, hw11⟩ : ∃ w', World.alloc w10 (.cells #[] 3) = w' := ⟨_, rfl⟩
                    have hB11 : Below wR.heap.size wR w11 := by rw [← hw11]; exact hB10.alloc hB10.size _
                    have hb11 : Below w10.heap.size w10 w11 := by rw [← hw11]; exact (Below.refl _ _).alloc (Nat.le_refl _) _
                    have hX11 := ownI_below hX10 hb11
                    have hE11 : OwnI w11 wR.heap.size (.slice (some ⟨w10.heap.size, 0, none⟩) 0 0) [] := by rw [← hw11]; exact OwnI.empty w10 _ hB10.size
                    have hne : w10.heap.size ≠ wD.heap.size := by have h1 : wD.heap.size < w10.heap.size := ownI_tops hX10 _ rfl; omega
                    try rw [hw11]
                    try rw [hw11] at hS11
                    clear hw11 hb11
                    refine wpAnyH_ready (rs := [3]) (by kernel_rfl) (by simp) ?_
                    refine (AllReadyH.cons rfl (fun K hK => ?_) AllReadyH.nil)
                    obtain ⟨v3, w12, hr12, ho12, hg12, -⟩ := run_spreadI (ty := 25) (c := c5) hE11 (HIn.out _ (below_on HBR.out hB11)) (by simp; omega) hB11.size
                    have hB12 : Below wR.heap.size wR w12 := hB11.grown hg12 hB11.size (fun k hk => ownI_lows hE11 k hk)
                    have hV12 : OwnI w12 wR.heap.size v3 (idsA cs) := by simpa using ho12
                    have hX12 : OwnI w12 wR.heap.size (.slice (some ⟨wD.heap.size, 0, none⟩) 1 1) [x.id] := ownI_blocks hX11 fun k hk => hg12.block k (ownI_tops hX11 k hk) fun e => hne ((Option.some.inj e.symm).trans (Option.some.inj hk).symm)
                    refine step_run _ (by rfl) (.tmp 44) (.tmp 45) 25 (by rfl) _ _ (by rfl) (by rfl) hr12 ?_
                    refine hK.out _ _ ((hB12.cell (p := ⟨b, off + i * 2, none⟩) hbR).trans f1) (fun hS12 => ?_)
                    clear hK K
                    try simp only [Act.put, List.setIfInBounds_toArray, List.set_cons_zero, List.set_cons_succ]
                    clear hr12 hg12 ho12
                    refine wpAnyH_ready (rs := [10]) (by kernel_rfl) (by simp) ?_
                    refine (AllReadyH.cons rfl (fun K hK => ?_) AllReadyH.nil)
                    obtain ⟨v4, w13, hr13, ho13, hg13, -⟩ := run_spreadI (ty := 25) (c := 1) hV12 (ownI_at hX12) (by have h1 := (HIn.out _ HBR.out).1; omega) hB12.size
                    have hB13 : Below wR.heap.size wR w13 := hB12.grown hg13 hB12.size (fun k hk => ownI_lows hV12 k hk)
                    obtain ⟨A8, n8, c8, rfl, h8⟩ := ho13.ints
                    refine step_run _ (by rfl) (.tmp 46) (.tmp 52) 25 (by rfl) _ _ (by rfl) (by rfl) hr13 ?_
                    refine hK.out _ _ ((hB13.cell (p := ⟨b, off + i * 2, none⟩) hbR).trans f1) (fun hS13 => ?_)
                    clear hK K
                    try simp only [Act.put, List.setIfInBounds_toArray, List.set_cons_zero, List.set_cons_succ]
                    clear hr13 hg13
                    refine wpAnyH_ready (rs := [11]) (by kernel_rfl) (by simp) ?_
                    refine (AllReadyH.cons rfl (fun K hK => ?_) AllReadyH.nil)
                    go_simp
                    go_at_call 8
                    refine (HCall.out _ _ _ _ (below_on HBR.out hB13) h8 (by have h1 := h8.1; rw [List.length_append, List.length_singleton] at h1; have h2 := (HIn.out _ HBR.out).1; omega)).mono ?_
                    rintro e w14 ⟨⟨v5, rfl, ho⟩, hb14⟩
                    have hB14 : Below wR.heap.size wR w14 := below_on hB13 hb14
                    refine hK.out _ _ ((hB14.cell (p := ⟨b, off + i * 2, none⟩) hbR).trans f1) (fun hS14 => ?_)
                    clear hK K
                    try simp only [Act.put, List.setIfInBounds_toArray, List.set_cons_zero, List.set_cons_succ]
                    refine takeY 42 (i := 12) (v := ?vx22) rfl rfl (by kernel_rfl) (by kernel_rfl) (by kernel_rfl) (fun _ _ _ h => h) (by kernel_rfl) ?yx22 hS14 ?_
                    case yx22 =>
                      intro w' hw'; (try dsimp only at hw'); obtain q1 := hw'; go_simp; try with_reducible rfl
                    simp only [Act.put, List.setIfInBounds_toArray, List.set_cons_zero, List.set_cons_succ]
                    refine takeY 55 (i := 13) (v := ?vx23) rfl rfl (by kernel_rfl) (by kernel_rfl) (by kernel_rfl) (fun _ _ _ h => h) (by kernel_rfl) ?yx23 hS14 ?_
                    case yx23 =>
                      intro w' hw'; (try dsimp only at hw'); obtain q1 := hw'; go_simp; try with_reducible rfl
                    simp only [Act.put, List.setIfInBounds_toArray, List.set_cons_zero, List.set_cons_succ]
                    refine takeY 56 (i := 14) (v := ?vx24) rfl rfl (by kernel_rfl) (by kernel_rfl) (by kernel_rfl) (fun _ _ _ h => h) (by kernel_rfl) ?yx24 hS14 ?_
                    case yx24 =>
                      intro w' hw'; (try dsimp only at hw'); obtain q1 := hw'; go_simp; try with_reducible rfl
                    simp only [Act.put, List.setIfInBounds_toArray, List.set_cons_zero, List.set_cons_succ]
                    refine takeY 57 (i := 15) (v := ?vx25) rfl rfl (by kernel_rfl) (by kernel_rfl) (by kernel_rfl) (fun _ _ _ h => h) (by kernel_rfl) ?yx25 hS14 ?_
                    case yx25 =>
                      intro w' hw'; (try dsimp only at hw'); obtain q1 := hw'; go_simp; try with_reducible rfl
                    simp only [Act.put, List.setIfInBounds_toArray, List.set_cons_zero, List.set_cons_succ]
                    refine takeY 10 (i := 16) (v := ?vx26) rfl rfl (by kernel_rfl) (by kernel_rfl) (by kernel_rfl) (fun _ _ _ h => h) (by kernel_rfl) ?yx26 hS14 ?_
                    case yx26 =>
                      intro w' hw'; (try dsimp only at hw'); obtain q1 := hw'; go_simp; try with_reducible rfl
                    simp only [Act.put, List.setIfInBounds_toArray, List.set_cons_zero, List.set_cons_succ]
                    refine takeY 11 (i := 17) (v := ?vx27) rfl rfl (by kernel_rfl) (by kernel_rfl) (by kernel_rfl) (fun _ _ _ h => h) (by kernel_rfl) ?yx27 hS14 ?_
                    case yx27 =>
                      intro w' hw'; (try dsimp only at hw'); obtain q1 := hw'; go_simp; try with_reducible rfl
                    simp only [Act.put, List.setIfInBounds_toArray, List.set_cons_zero, List.set_cons_succ]
                    refine takeY 12 (i := 18) (v := ?vx28) rfl rfl (by kernel_rfl) (by kernel_rfl) (by kernel_rfl) (fun _ _ _ h => h) (by kernel_rfl) ?yx28 hS14 ?_
                    case yx28 =>
                      intro w' hw'; (try dsimp only at hw'); obtain q1 := hw'; go_simp; try with_reducible rfl
                    simp only [Act.put, List.setIfInBounds_toArray, List.set_cons_zero, List.set_cons_succ]
                    refine wpAnyH_done (by kernel_rfl) ?_ _
                    go_wp2
                    go_meet
                    exact ⟨rfl, rfl, hB14⟩
                case rest =>
                obtain ⟨rfl, rfl, hb9⟩ := hcut
                rename World => w9
                have HB9 := Lib.hid (below_on HBR.out hb9)
                have g0 := (hb9.cell (p := ⟨b, off + i * 2, none⟩) hbR).trans f1
                have hps : pickF (greedF ds cs) (restD cs (ds.take (i + 1))) = pickS (greedF ds cs) (pickF (greedF ds cs) (restD cs (ds.take i))) x.dat := by rw [HSn.out, pickF_snoc]
                have HPq := Lib.hid hps
                clear hb9 f1 hbR HCall hps
                obtain ⟨o, ho⟩ : ∃ o, pickF (greedF ds cs) (restD cs (ds.take i)) = o := ⟨_, rfl⟩
                have HPo := HP
                rw [ho] at HPo HPq
                rcases o with _ | y
                · have hpk : pick = -1 := by rcases HPo.out with ⟨_, h, _⟩ | ⟨z, h, _⟩ <;> first | exact h | cases h
                  subst hpk
                  have HNew : Hid (PickR (greedF ds cs) (pickF (greedF ds cs) (restD cs (ds.take (i + 1)))) x.id N E) := Lib.hid (by
                    rw [HPq.out, HNE.out.1, HNE.out.2]
                    exact PickR.first x.dat HPo.out)
                  clear ho
                  go_wp2
                  go_roundw
                  case rel => exact ⟨i + 1, x.id, N, E, by omega, by go_num, rfl, rfl, rfl, HNew.out, HB9.out⟩
                  case measure => simp [intOf]; omega
                · have hpr : 0 ≤ pick ∧ (0 ≤ num ∧ num ≤ 100 ∧ 0 ≤ den ∧ den ≤ 100) := by
                    rcases HPo.out with ⟨h, _⟩ | ⟨z, h, h1, h2, h3⟩
                    · cases h
                    · have hz : z ∈ ds := by
                        have h5 := pickF_mem _ _ (ho.trans h)
                        exact List.mem_of_mem_take (restD_mem.1 h5).1
                      have h6 := (HA.out.1 z hz).2.1
                      have h7 := reg_range (ds := ds) (cs := cs ++ [z]) (fun d hd => by
                        rcases List.mem_append.1 hd with h | h
                        · exact HSub.out d h
                        · obtain rfl := List.mem_singleton.1 h; exact hz)
                      have e2 : num = (reg ds (cs ++ [z])).num := h2
                      have e3 : den = (reg ds (cs ++ [z])).den := h3
                      omega
                  have hpn : ¬ pick < 0 := by omega
                  have m1 := mul_hundred (a := N) (b := den) (by omega) (by omega) (by omega) (by omega)
                  have m2 := mul_hundred (a := num) (b := E) (by omega) (by omega) (by omega) (by omega)
                  by_cases hless : N * den < num * E
                  · have HNew : Hid (PickR (greedF ds cs) (pickF (greedF ds cs) (restD cs (ds.take (i + 1)))) x.id N E) := Lib.hid (by
                      have h := HPo.out.yes x.dat (by rw [← HNE.out.1, ← HNE.out.2]; exact hless)
                      rw [← HPq.out, ← HNE.out.1, ← HNE.out.2] at h
                      exact h)
                    clear ho
                    go_wp2
                    go_roundw
                    case rel => exact ⟨i + 1, x.id, N, E, by omega, by go_num, rfl, rfl, rfl, HNew.out, HB9.out⟩
                    case measure => simp [intOf]; omega
                  · have HNew : Hid (PickR (greedF ds cs) (pickF (greedF ds cs) (restD cs (ds.take (i + 1)))) pick num den) := Lib.hid (by
                      have h := HPo.out.no x.dat (by rw [← HNE.out.1, ← HNE.out.2]; exact hless)
                      rw [← HPq.out] at h
                      exact h)
                    clear ho
                    go_wp2
                    go_roundw
                    case rel => exact ⟨i + 1, pick, num, den, by omega, by go_num, rfl, rfl, rfl, HNew.out, HB9.out⟩
                    case measure => simp [intOf]; omega
              · have HSn : Hid (restD cs (ds.take (i + 1)) = restD cs (ds.take i)) := Lib.hid (HRs.out.1 (HQ.out.1 rfl))
                go_wp2
                go_roundw
                case rel => exact ⟨i + 1, pick, num, den, by omega, by go_num, rfl, rfl, rfl, by rw [HSn.out]; exact HP.out, HBi.out⟩
                case measure => simp [intOf]; omega
            · obtain rfl : i = n := by omega
              have hfull : ds.take i = ds := List.take_of_length_le (by rw [HDl.out]; exact Nat.le_refl _)
              have hp := HP.out
              rw [hfull] at hp
              obtain ⟨y, hy⟩ := greedy_pick HNd.out (k := n5) (by rw [HDl.out]; exact h2)
              rw [HCs.out] at hy
              have hpk : pick = y.1 := by
                rcases hp with ⟨h, _⟩ | ⟨z, h, h1, _⟩
                · rw [hy] at h; cases h
                · rw [hy] at h
                  rw [h1, Option.some.inj h]
              have HNx : Hid (greedy ds (n5 + 1) = cs ++ [y]) := Lib.hid (by
                have h := greedy_next (ds := ds) (k := n5) (x := y) (by rw [HCs.out]; exact hy)
                rw [HCs.out] at h
                exact h)
              have HOr := Lib.hid (ownI_below HO2.out HBi.out)
              have HBr := Lib.hid (below_on HB1.out HBi.out)
              have hks1 : n5 + 1 ≤ size.toNat := by omega
              have hleq : (idsA cs).length = n5 := by have h := (ownI_at HO2.out).1; exact h
              have HLe : Hid (((idsA cs).length + [pick].length) * 8 ≤ 140737488355328) := Lib.hid (by rw [hleq]; simp; omega)
              have HPy := Lib.hid hpk
              clear hp hy hpk hbel hfull hleq
              go_wp2_with (at_builtin; refine wp_appI wr (by rfl) (.tmp 76) (.tmp 78) (by rfl) w.heap.size _ _ (by rfl) HOr.out _ [pick] (by rfl) 1 1 rfl (by rfl) HLe.out HBr.out.size ?_)
              rintro v' w5 ho5 hb5
              have HO5 : Hid (OwnI w5 w.heap.size v' (idsA (greedy ds (n5 + 1)))) := Lib.hid (by
                rw [HNx.out]
                have e : idsA (cs ++ [y]) = idsA cs ++ [pick] := by rw [HPy.out]; unfold idsA; rw [List.map_append]; rfl
                rw [e]
                exact ho5)
              have HB5 := Lib.hid (HBr.out.trans hb5)
              obtain ⟨A9, n9, c9, hv9, hi9⟩ := HO5.out.ints
              have hn9 : n9 = n5 + 1 := by rw [← hi9.1]; exact HLk.out (n5 + 1) (by omega) (fun h => by cases h)
              have HV9 := Lib.hid hv9
              have HN9 := Lib.hid hn9
              clear ho5 hb5 hi9 hv9 hn9
              go_wp2
              go_roundw
              case rel => exact ⟨n5 + 1, v', rfl, hks1, by omega, (fun h => by cases h), HO5.out, HB5.out⟩
              case measure => rw [HV9.out]; show i - n9 < i - n5; rw [HN9.out]; omega
      · have h2' : ¬ (n5 : Int) < (n : Int) := by omega
        obtain rfl := HEx.out n5 hks hkn HK0.out (.inl fun h => h2 h.2)
        go_wp2
        go_ret
        exact ⟨⟨_, rfl, HO.out⟩, HB.out⟩
    · obtain rfl := HEx.out n5 hks hkn HK0.out (.inl fun h => h1 h.1)
      go_wp2
      go_ret
      exact ⟨⟨_, rfl, HO.out⟩, HB.out⟩
end Go.Proofs.Ytceiocdemhkcdaa.num
namespace Go.Proofs.Ytceiocdemhkcdaa.num
set_option maxRecDepth 20000
open Go.RowKit
set_option linter.unusedVariables false
set_option linter.unusedSimpArgs false

theorem sameInts_w (w : World) (B : Nat) (A A' : Option Addr) (n n' c c' : Nat) (xs ys : List Int) (hx : Ints w B A n xs) (hy : Ints w B A' n' ys) (hn : n ≤ 1048576) (b : Bool) (hb : b = true ↔ xs = ys) :
    Calls Try.prog 9 #[.slice A n c, .slice A' n' c'] w fun e w' => e = .returned (.bool b) ∧ Below w.heap.size w w' :=
  (sameInts_of w B A A' n n' c c' xs ys hx hy hn b hb).mono fun _ _ ⟨he, m, hm⟩ => ⟨he, hm ▸ below_drewN (Below.refl _ _) m⟩
theorem ints_take {w : World} {B n : Nat} {b off : Nat} {xs : List Int} (h : Ints w B (some ⟨b, off, none⟩) n xs) {k : Nat} (hk : k ≤ n) : Ints w B (some ⟨b, off, none⟩) k (xs.take k) := by
  refine ⟨by rw [List.length_take, h.1]; omega, fun j hj => ?_⟩
  obtain ⟨b', off', e, hb, hc⟩ := h.2 j (by omega)
  refine ⟨b', off', e, hb, ?_⟩
  rw [hc, List.getD_eq_getElem?_getD, List.getD_eq_getElem?_getD, List.getElem?_take, if_pos hj]
theorem ints_drop {w : World} {B n : Nat} {b off : Nat} {xs : List Int} (h : Ints w B (some ⟨b, off, none⟩) n xs) {k c : Nat} (hk : k + 1 ≤ n) (hc : n ≤ c) : Ints w B (if c = k + 1 then some ⟨b, off, none⟩ else some ⟨b, off + (k + 1), none⟩) (n - (k + 1)) (xs.drop (k + 1)) := by
  refine ⟨by rw [List.length_drop, h.1], fun j hj => ?_⟩
  rw [if_neg (by omega)]
  obtain ⟨b', off', e, hb, hc⟩ := h.2 (k + 1 + j) (by omega)
  injection e with e
  injection e with e1 e2
  subst e1 e2
  refine ⟨b, off + (k + 1), rfl, hb, ?_⟩
  rw [show off + (k + 1) + j = off + (k + 1 + j) by omega, hc, List.getD_eq_getElem?_getD, List.getD_eq_getElem?_getD, List.getElem?_drop]
set_option maxRecDepth 100000 in
set_option maxHeartbeats 16000000 in
theorem regrets_walk (a : Option Addr) (len cap : Nat) (hlm : len ≤ 9223372036854775807) (w : World) (hrow : Row w w.heap.size a len) :
    Calls Try.prog 3 #[.slice a len cap] w fun e w' => e = .returned (.bool true) ∧ Below w.heap.size w w' := by
  have HR := Lib.hid hrow
  clear hrow
  obtain ⟨q0, hq0⟩ := bool_of (1048576 < len)
  go_enter Try.func3, Try.ntmps3
  go_wp2_with fail
  refine (big_any a len cap q0 hq0 hlm _).mono ?_
  rintro e w1 ⟨rfl, hw1⟩
  have HB1 : Hid (Below w.heap.size w w1) := Lib.hid (by rw [← hw1]; exact Below.refl _ _)
  have HR1 : Hid (Row w1 w1.heap.size a len) := Lib.hid (by rw [← hw1]; exact HR.out)
  clear hw1 HR
  cases q0
  case true =>
    go_wp2
    go_ret
    exact ⟨rfl, HB1.out⟩
  have hlen : len ≤ 1048576 := by
    rcases Nat.lt_or_ge 1048576 len with h | h
    · have := hq0.2 h; cases this
    · exact h
  clear hq0
  have HL := Lib.hid hlen
  clear hlen
  go_wp2_with fail
  refine (draw_regret w1 a len cap HL.out HR1.out).mono ?_
  rintro e w2 ⟨A, n, c, its, A', n', c', xs, rfl, ⟨hI, i1, i2, i3, i4⟩, ⟨hX, j1, j2, j3⟩, hb2⟩
  have HB2 := Lib.hid (below_on HB1.out hb2)
  have HRw : Hid (∀ W, Below w2.heap.size w2 W → Row W W.heap.size a len) := Lib.hid fun W hW => ((HR1.out.below hb2).below (hW.mono hb2.size)).wide
  have HI : Hid (∀ W, Below w2.heap.size w2 W → Items W w2.heap.size A n its) := Lib.hid fun W hW => hI.below hW
  have HX : Hid (∀ W, Below w2.heap.size w2 W → Ints W w2.heap.size A' n' xs) := Lib.hid fun W hW => hX.below hW
  obtain ⟨qa, hqa⟩ := bool_of (AreP (its.map It.dat))
  obtain ⟨qk, hqk⟩ := bool_of (∀ x ∈ xs, x ∈ idL its)
  have HAr : Hid (∀ W, Below w2.heap.size w2 W → Calls Try.prog 13 #[.slice A n c] W fun e w' => e = .returned (.bool qa) ∧ Below W.heap.size W w') := Lib.hid fun W hW => sAre W _ A n c its (HI.out W hW) hW.size (by omega) i1 qa hqa
  have HId : Hid (∀ W, Below w2.heap.size w2 W → Calls Try.prog 11 #[.slice A n c] W fun e w' => (∃ A' n' c', e = .returned (.slice A' n' c') ∧ Ints w' w'.heap.size A' n' (idL its)) ∧ Below W.heap.size W w') := Lib.hid fun W hW => sIds W _ A n c its (HI.out W hW) hW.size (by omega)
  have HRi : Hid (∀ W, Below w2.heap.size w2 W → ∀ (B3 : Nat) (A3 : Option Addr) (n3 c3 : Nat) (ys : List Int), Ints W B3 A3 n3 ys → B3 ≤ W.heap.size → n3 ≤ 1048576 → ∀ (N D : Int) (ws : List Int), RegP (its.map It.dat) ys N D ws → Calls Try.prog 7 #[.slice A n c, .slice A3 n3 c3] W fun e w' => (∃ v, e = .returned (.tuple #[.int .i64 N, .int .i64 D, v]) ∧ OwnI w' W.heap.size v ws) ∧ Below W.heap.size W w') := Lib.hid fun W hW B3 A3 n3 c3 ys h3 hB3 hn3 N D ws hP => iRegretOf W _ A n c its (HI.out W hW) hW.size (by omega) B3 A3 n3 c3 ys h3 hB3 hn3 N D ws hP
  have HRs : Hid (∀ W, Below w2.heap.size w2 W → ∀ (B3 : Nat) (A3 : Option Addr) (n3 c3 : Nat) (ys : List Int), Ints W B3 A3 n3 ys → B3 ≤ W.heap.size → n3 ≤ 1048576 → ∀ (N D : Int) (ws : List Int), RegP (its.map It.dat) ys N D ws → Calls Try.prog 8 #[.slice A n c, .slice A3 n3 c3] W fun e w' => (∃ v, e = .returned (.tuple #[.int .i64 N, .int .i64 D, v]) ∧ OwnI w' W.heap.size v ws) ∧ Below W.heap.size W w') := Lib.hid fun W hW B3 A3 n3 c3 ys h3 hB3 hn3 N D ws hP => sRegretOf W _ A n c its (HI.out W hW) hW.size (by omega) i1 B3 A3 n3 c3 ys h3 hB3 (by omega) N D ws hP
  have HBu : Hid (∀ W, Below w2.heap.size w2 W → ∀ (B3 : Nat) (A3 : Option Addr) (n3 c3 : Nat) (ys : List Int), Ints W B3 A3 n3 ys → B3 ≤ W.heap.size → n3 ≤ 1048576 → ∀ (B4 : Nat) (A4 : Option Addr) (n4 c4 : Nat) (vs : List Int), Ints W B4 A4 n4 vs → B4 ≤ W.heap.size → n4 ≤ 1048576 → Calls Try.prog 15 #[.slice A n c, .slice A3 n3 c3, .slice A4 n4 c4] W fun e w' => e = .returned (.int .i64 (gu vs (pk ys (its.map It.dat)))) ∧ Below W.heap.size W w') := Lib.hid fun W hW B3 A3 n3 c3 ys h3 hB3 hn3 B4 A4 n4 c4 vs h4 hB4 hn4 => iBestU W _ A n c its (HI.out W hW) hW.size (by omega) B3 A3 n3 c3 ys h3 hB3 hn3 B4 A4 n4 c4 vs h4 hB4 hn4 _ rfl
  have hil : its.length = n := hI.1
  have hidl : idL its = (its.map It.dat).map (·.1) := by unfold idL; rw [List.map_map]; rfl
  obtain ⟨ds, hds⟩ : ∃ ds, its.map It.dat = ds := ⟨_, rfl⟩
  obtain ⟨all, hall⟩ : ∃ all, idL its = all := ⟨_, rfl⟩
  have hal : all.length = n := by rw [← hall, idL_len, hil]
  rw [hds] at hqa HRi HRs HBu hidl
  rw [hall] at hqk HId hidl
  have HPk : Hid (pk all ds = ds) := Lib.hid (by rw [hidl]; exact pk_all ds)
  have HAq : Hid (qa = true → AreP ds) := Lib.hid hqa.1
  have HKq : Hid (qk = true → KnownP ds xs) := Lib.hid fun h => by
    intro x hx
    have h1 := hqk.1 h x hx
    rw [hidl] at h1
    obtain ⟨d, hd, e⟩ := List.mem_map.1 h1
    exact ⟨d, hd, e⟩
  have HKa : Hid (∀ x ∈ all, ∃ d ∈ ds, d.1 = x) := Lib.hid fun x hx => by
    rw [hidl] at hx
    obtain ⟨d, hd, e⟩ := List.mem_map.1 hx
    exact ⟨d, hd, e⟩
  have HQk := Lib.hid hqk
  obtain ⟨N, D, ws, hReg⟩ := RegP.some ds xs
  have HReg := Lib.hid hReg
  have hsm := hReg.small
  have HAl := Lib.hid hal
  have hn8 : n ≤ 8 := i4
  clear hI hX i1 i2 i3 i4 j1 j2 hb2 hqa hqk hds hall hidl hReg hil hal HR1
  go_wp2_with fail
  refine (HRi.out _ (Below.refl _ _) _ A' n' c' xs (HX.out _ (Below.refl _ _)) (Nat.le_refl _) (by omega) N D ws HReg.out).mono ?_
  rintro e w3 ⟨⟨v1, rfl, ho⟩, hb3⟩
  have K3 := Lib.hid hb3
  obtain ⟨A1, n1, c1, rfl, hi⟩ := ho.ints
  have I1_3 := Lib.hid hi
  have hn1 : n1 ≤ 3 := by have := hi.1; omega
  clear ho hi hb3
  go_wp2_with fail
  refine (HRs.out _ K3.out _ A' n' c' xs (HX.out _ K3.out) K3.out.size (by omega) N D ws HReg.out).mono ?_
  rintro e w4 ⟨⟨v2, rfl, ho⟩, hb4⟩
  have K4 := Lib.hid (below_on K3.out hb4)
  have I1_4 := Lib.hid (I1_3.out.step hb4)
  obtain ⟨A2, n2, c2, rfl, hi⟩ := ho.ints
  have I2_4 := Lib.hid hi
  have hn2 : n2 ≤ 3 := by have := hi.1; omega
  have hnn : (N != N) = false := by simp
  have hdd : (D != D) = false := by simp
  clear ho hi hb4 K3 I1_3
  go_wp2_with fail
  refine (sameInts_w _ _ _ _ n1 n2 c1 c2 ws ws I1_4.out I2_4.out (by omega) true (by simp)).mono ?_
  rintro e w5 ⟨rfl, hb5⟩
  have K5 := Lib.hid (below_on K4.out hb5)
  have I2_5 := Lib.hid (I2_4.out.step hb5)
  clear hb5 K4 I1_4 I2_4
  go_wp2_with fail
  refine (iWL _).mono ?_
  rintro e w6 ⟨⟨bg, og, cg, rg, rfl, -, -, -, -⟩, hb6⟩
  have K6 := Lib.hid (below_on K5.out hb6)
  have I2_6 := Lib.hid (I2_5.out.step hb6)
  clear hb6 K5 I2_5
  go_wp2_with fail
  refine (HId.out _ K6.out).mono ?_
  rintro e w7 ⟨⟨A3, n3, c3, rfl, hi3⟩, hb7⟩
  have K7 := Lib.hid (below_on K6.out hb7)
  have I2_7 := Lib.hid (I2_6.out.step hb7)
  have I3_7 := Lib.hid hi3
  have hn3 : n3 = n := by have := hi3.1; have := HAl.out; omega
  subst hn3
  clear hb7 hi3 K6 I2_6
  go_wp2_with fail
  refine (sWL _).mono ?_
  rintro e w8 ⟨⟨A5, c5, rows, rfl, hx, hown⟩, hb8⟩
  have K8 := Lib.hid (below_on K7.out hb8)
  have I2_8 := Lib.hid (I2_7.out.step hb8)
  have I3_8 := Lib.hid (I3_7.out.step hb8)
  have HXr := Lib.hid hx
  have HOr := Lib.hid hown
  have HRd := Lib.hid (hown.r.read irC_len)
  clear hb8 hx hown K7 I2_7 I3_7
  go_upto_block 0 with (fail)
  go_cut [13, 14, 15] from 78 to 132 (fun s13 s14 s15 wx => Below w8.heap.size w8 wx)
  case first =>
    go_wp2_with fail
    go_loopw [13] (fun iv wr => ∃ k : Nat, k ≤ 63 ∧ iv = .int .i64 k ∧ Below w8.heap.size w8 wr) (fun iv _ => 63 - (intOf iv).toNat)
    case atStart => exact ⟨0, by decide, rfl, Below.refl _ _⟩
    case round =>
      obtain ⟨k, hk, rfl, hbel⟩ := hrel
      have HB := Lib.hid hbel
      by_cases hlt : k < 63
      · obtain ⟨b, off, y, hA, hb, hat, hd⟩ := ir_at HRd.out hlt
        subst hA
        have f0 := (hbel.cell (p := ⟨b, off + k, none⟩) hb).trans hd
        have hlt' : (k : Int) < 63 := by omega
        have hyw : wl[k]? = some y.xs := by rw [← HXr.out]; unfold xsR; rw [List.getElem?_map, hat]; rfl
        have HYm := Lib.hid (List.mem_of_getElem? hyw)
        have HYi : Hid (∀ W, Below w8.heap.size w8 W → Ints W w8.heap.size y.A y.n y.xs) := Lib.hid fun W hW => (ownI_at (HOr.out.x k y hat)).below hW
        have HYn : Hid (y.n ≤ 1048576) := Lib.hid (by
          have h1 := (ownI_at (HOr.out.x k y hat)).1
          have h2 := (wl_ok HYm.out).1
          omega)
        clear hd hat hyw hbel
        go_wp2_with fail
        refine (HAr.out _ (below_on K8.out HB.out)).mono ?_
        rintro e wa ⟨rfl, hba⟩
        have HBa := Lib.hid (below_on HB.out hba)
        have f1 := (hba.cell (p := ⟨b, off + k, none⟩) (Nat.lt_of_lt_of_le hb HB.out.size)).trans f0
        clear hba f0
        cases qa
        · go_wp2
          go_meet
          exact HBa.out
        · go_wp2_with fail
          refine (subset_of _ w8.heap.size A' A3 n' n3 c' c3 xs all ((HX.out _ (below_on K8.out HBa.out)).more K8.out.size) (I3_8.out.below HBa.out) (by omega) (by omega) qk HQk.out).mono ?_
          rintro e wb ⟨rfl, hwb⟩
          rw [hwb]
          clear hwb wb
          cases qk
          · go_wp2
            go_meet
            exact HBa.out
          · have hA := HAq.out (by first | rfl | trivial)
            have hK := HKq.out (by first | rfl | trivial)
            obtain ⟨e1, e2, e3⟩ := HReg.out.yes hA hK
            have hs : ∀ d ∈ pk xs ds, d ∈ ds := pk_sub xs ds
            have hmax := reg_max hs HYm.out
            have hatr := fun h => reg_at (ds := ds) (cs := pk xs ds) HYm.out h
            rw [← e1, ← e2] at hmax hatr
            rw [← e3] at hatr
            have HU1 := Lib.hid fun W (hW : Below w8.heap.size w8 W) => HBu.out W (below_on K8.out hW) _ A3 n3 c3 all (I3_8.out.below hW) hW.size (by omega) _ y.A y.n y.c y.xs (HYi.out W hW) hW.size HYn.out
            have HU2 := Lib.hid fun W (hW : Below w8.heap.size w8 W) => HBu.out W (below_on K8.out hW) _ A' n' c' xs (HX.out W (below_on K8.out hW)) (below_on K8.out hW).size (by omega) _ y.A y.n y.c y.xs (HYi.out W hW) hW.size HYn.out
            rw [HPk.out] at HU1
            have r1 := gu_range y.xs ds
            have r2 := gu_range y.xs (pk xs ds)
            have r3 := gu_mono (w := y.xs) hs
            obtain ⟨D1, hD1⟩ : ∃ D, gu y.xs ds = D := ⟨_, rfl⟩
            obtain ⟨D2, hD2⟩ : ∃ D, gu y.xs (pk xs ds) = D := ⟨_, rfl⟩
            rw [hD1] at HU1 r1 r3
            rw [hD2] at HU2 r2 r3
            rw [hD1, hD2] at hmax hatr
            have m1 := mul_hundred (a := D1 - D2) (b := D) (by omega) (by omega) (by omega) (by omega)
            have m2 := mul_hundred (a := N) (b := D1) (by omega) (by omega) (by omega) (by omega)
            have hgt : decide ((D1 - D2) * D > N * D1) = false := by simp; omega
            have HAt : Hid (y.xs = ws → ((D1 - D2) * D != N * D1) = false) := Lib.hid fun h => by rw [hatr h]; simp
            obtain ⟨qs, hqs⟩ := bool_of (y.xs = ws)
            have HQs := Lib.hid hqs
            clear hA hK e1 e2 e3 hs hmax hatr hD1 hD2 hqs
            go_wp2_with fail
            refine (HU1.out _ HBa.out).mono ?_
            rintro e wb ⟨rfl, hbb⟩
            have HBb := Lib.hid (below_on HBa.out hbb)
            have f2 := (hbb.cell (p := ⟨b, off + k, none⟩) (Nat.lt_of_lt_of_le hb HBa.out.size)).trans f1
            clear hbb f1 HU1
            go_wp2_with fail
            refine (HU2.out _ HBb.out).mono ?_
            rintro e wc ⟨rfl, hbc⟩
            have HBc := Lib.hid (below_on HBb.out hbc)
            have f3 := (hbc.cell (p := ⟨b, off + k, none⟩) (Nat.lt_of_lt_of_le hb HBb.out.size)).trans f2
            clear hbc f2 HU2
            go_wp2_with fail
            refine (sameInts_w _ w8.heap.size _ _ y.n n2 y.c c2 y.xs ws (HYi.out _ HBc.out) (I2_8.out.below HBc.out) HYn.out qs HQs.out).mono ?_
            rintro e wd ⟨rfl, hbd⟩
            have HBd := Lib.hid (below_on HBc.out hbd)
            clear hbd f3
            cases qs
            · go_wp2
              go_roundw
              case rel => exact ⟨k + 1, by omega, by go_num, HBd.out⟩
              case measure => simp [intOf]; omega
            · have hne := HAt.out (HQs.out.1 (by first | rfl | trivial))
              go_wp2
              go_roundw
              case rel => exact ⟨k + 1, by omega, by go_num, HBd.out⟩
              case measure => simp [intOf]; omega
      · obtain rfl : k = 63 := by omega
        go_wp2
        go_meet
        exact HB.out
  case rest =>
  rename World => w9
  have K9 := Lib.hid (below_on K8.out hcut)
  have I3_9 := Lib.hid (I3_8.out.step hcut)
  clear hcut K8 I2_8 I3_8 HXr HOr HRd
  go_upto_block 2 with (fail)
  go_cut [16, 17, 18, 19] from 133 to 169 (fun s16 s17 s18 s19 wx => Below w9.heap.size w9 wx)
  case first =>
    go_wp2_with fail
    go_loopw [16] (fun iv wr => ∃ k : Nat, k ≤ n3 ∧ iv = .int .i64 k ∧ Below w9.heap.size w9 wr) (fun iv _ => n3 - (intOf iv).toNat)
    case atStart => exact ⟨0, Nat.zero_le _, rfl, Below.refl _ _⟩
    case round =>
      obtain ⟨k, hk, rfl, hbel⟩ := hrel
      have HB := Lib.hid hbel
      by_cases hlt : k < n3
      · have hlt' : (k : Int) < (n3 : Int) := by omega
        clear hbel
        go_wp2_with fail
        refine (HAr.out _ (below_on K9.out HB.out)).mono ?_
        rintro e wa ⟨rfl, hba⟩
        have HBa := Lib.hid (below_on HB.out hba)
        clear hba
        cases qa
        · go_wp2
          go_meet
          exact HBa.out
        · go_wp2_with fail
          refine (subset_of _ w9.heap.size A' A3 n' n3 c' c3 xs all ((HX.out _ (below_on K9.out HBa.out)).more K9.out.size) (I3_9.out.below HBa.out) (by omega) (by omega) qk HQk.out).mono ?_
          rintro e wb ⟨rfl, hwb⟩
          rw [hwb]
          clear hwb wb
          cases qk
          · go_wp2
            go_meet
            exact HBa.out
          · obtain ⟨b, off, x, hA3, hb, hat, hc⟩ := I3_9.out.at k hlt
            subst hA3
            obtain ⟨wR, rfl⟩ : ∃ wR, wR = wa := ⟨_, rfl⟩
            have f1 := (HBa.out.cell (p := ⟨b, off + k, none⟩) hb).trans hc
            have hbR : b < wR.heap.size := Nat.lt_of_lt_of_le hb HBa.out.size
            have KR := Lib.hid (below_on K9.out HBa.out)
            have hkn : KnownP ds (xs ++ [x]) := by
              intro z hz
              rcases List.mem_append.1 hz with h | h
              · exact HKq.out (by first | rfl | trivial) z h
              · obtain rfl := List.mem_singleton.1 h
                exact HKa.out _ (List.mem_of_getElem? hat)
            obtain ⟨N2, E2, ws2, hP⟩ := RegP.some ds (xs ++ [x])
            obtain ⟨e1, e2, -⟩ := HReg.out.yes (HAq.out (by first | rfl | trivial)) (HKq.out (by first | rfl | trivial))
            obtain ⟨d1, d2, -⟩ := hP.yes (HAq.out (by first | rfl | trivial)) hkn
            have hmono := reg_mono (ds := ds) (a := pk xs ds) (b := pk (xs ++ [x]) ds) (pk_more x) (pk_sub _ _)
            rw [← e1, ← e2, ← d1, ← d2] at hmono
            have hsm2 := hP.small
            have HXl : Hid (xs.length ≤ 9) := Lib.hid (by have := (HX.out _ KR.out).1; omega)
            have HCall : Hid (∀ W (A4 : Option Addr) (n4 c4 : Nat), Below wR.heap.size wR W → Ints W W.heap.size A4 n4 (xs ++ [x]) → n4 ≤ 1048576 → Calls Try.prog 7 #[.slice A n3 c, .slice A4 n4 c4] W fun e w' => (∃ v, e = .returned (.tuple #[.int .i64 N2, .int .i64 E2, v]) ∧ OwnI w' W.heap.size v ws2) ∧ Below W.heap.size W w') := Lib.hid fun W A4 n4 c4 hW h4 hn4 => HRi.out W (below_on KR.out hW) _ A4 n4 c4 _ h4 (Nat.le_refl _) hn4 N2 E2 ws2 hP
            clear hc hb hat hkn hP e1 e2 d1 d2
            go_upto_region 20 with (fail)
            go_cut [17, 18, 19] from 133 to 169 (fun s17 s18 s19 wx => s17 = .int .i64 N2 ∧ s18 = .int .i64 E2 ∧ Below wR.heap.size wR wx)
            case first =>
              have hS0 : (fun w' => w'.cell? ⟨b, off + k, none⟩ = some (.int .i64 x)) wR.drew := f1
              refine wp_region_held (S := fun w' => w'.cell? ⟨b, off + k, none⟩ = some (.int .i64 x)) (by kernel_rfl) ?_
              change wpAnyH _ _ _ _ _ _ _ _ (World.drew _)
              have hBD0 : Below wR.heap.size wR wR.drew := (Below.refl _ wR).drew
              obtain ⟨wD, hwD⟩ : ∃ wD, World.drew wR = wD := ⟨_, rfl⟩
              rw [hwD] at hS0 ⊢
              have hBD : Below wR.heap.size wR wD := by rw [← hwD]; exact hBD0
              clear hwD hBD0
              refine takeY 149 (i := 0) (v := ?vx1) rfl rfl (by kernel_rfl) (by kernel_rfl) (by kernel_rfl) (fun _ _ _ h => h) (by kernel_rfl) ?yx1 hS0 ?_
              case yx1 =>
                intro w' hw'; (try dsimp only at hw'); obtain q1 := hw'; go_simp; try with_reducible rfl
              simp only [Act.put, List.setIfInBounds_toArray, List.set_cons_zero, List.set_cons_succ]
              refine takeY 151 (i := 2) (v := ?vx2) rfl rfl (by kernel_rfl) (by kernel_rfl) (by kernel_rfl) (fun _ _ _ h => h) (by kernel_rfl) ?yx2 hS0 ?_
              case yx2 =>
                intro w' hw'; (try dsimp only at hw'); obtain q1 := hw'; go_simp; try with_reducible rfl
              simp only [Act.put, List.setIfInBounds_toArray, List.set_cons_zero, List.set_cons_succ]
              refine takeY 153 (i := 4) (v := ?vx3) rfl rfl (by kernel_rfl) (by kernel_rfl) (by kernel_rfl) (fun _ _ _ h => h) (by kernel_rfl) ?yx3 hS0 ?_
              case yx3 =>
                intro w' hw'; (try dsimp only at hw'); obtain q1 := hw'; go_simp; try with_reducible rfl
              simp only [Act.put, List.setIfInBounds_toArray, List.set_cons_zero, List.set_cons_succ]
              refine takeY 154 (i := 5) (v := ?vx4) rfl rfl (by kernel_rfl) (by kernel_rfl) (by kernel_rfl) (fun _ _ _ h => h) (by kernel_rfl) ?yx4 hS0 ?_
              case yx4 =>
                intro w' hw'; (try dsimp only at hw'); obtain q1 := hw'; go_simp; try with_reducible rfl
              simp only [Act.put, List.setIfInBounds_toArray, List.set_cons_zero, List.set_cons_succ]
              refine takeY 155 (i := 6) (v := ?vx5) rfl rfl (by kernel_rfl) (by kernel_rfl) (by kernel_rfl) (fun _ _ _ h => h) (by kernel_rfl) ?yx5 hS0 ?_
              case yx5 =>
                intro w' hw'; (try dsimp only at hw'); obtain q1 := hw'; go_simp; try with_reducible rfl
              simp only [Act.put, List.setIfInBounds_toArray, List.set_cons_zero, List.set_cons_succ]
              refine takeY 156 (i := 7) (v := ?vx6) rfl rfl (by kernel_rfl) (by kernel_rfl) (by kernel_rfl) (fun _ _ _ h => h) (by kernel_rfl) ?yx6 hS0 ?_
              case yx6 =>
                intro w' hw'; (try dsimp only at hw'); obtain q1 := hw'; go_simp; try with_reducible rfl
              simp only [Act.put, List.setIfInBounds_toArray, List.set_cons_zero, List.set_cons_succ]
              refine wpAnyH_ready (rs := [1, 8]) (by kernel_rfl) (by simp) ?_
              refine (AllReadyH.cons rfl (fun K hK => ?_) (AllReadyH.cons rfl (fun K hK => ?_) AllReadyH.nil))
              · go_simp
                refine hK.out _ _ (((hBD.alloc hBD.size _).cell (p := ⟨b, off + k, none⟩) hbR).trans f1) (fun hS101 => ?_)
                clear hK K
                try simp only [Act.put, List.setIfInBounds_toArray, List.set_cons_zero, List.set_cons_succ]
                obtain ⟨w101, hw101⟩ : ∃ w', World.alloc wD (.cells #[] 3) = w' := ⟨_, rfl⟩
                have hB101 : Below wR.heap.size wR w101 := by rw [← hw101]; exact hBD.alloc hBD.size _
                have hb101 : Below wD.heap.size wD w101 := by rw [← hw101]; exact (Below.refl _ _).alloc (Nat.le_refl _) _
                have hE101 : OwnI w101 wR.heap.size (.slice (some ⟨wD.heap.size, 0, none⟩) 0 0) [] := by rw [← hw101]; exact OwnI.empty wD _ hBD.size
                try rw [hw101]
                try rw [hw101] at hS101
                clear hw101 hb101
                refine wpAnyH_ready (rs := [3, 8]) (by kernel_rfl) (by simp) ?_
                refine (AllReadyH.cons rfl (fun K hK => ?_) (AllReadyH.cons rfl (fun K hK => ?_) AllReadyH.nil))
                · obtain ⟨v3, w102, hr102, ho102, hg102, -⟩ := run_spreadI (ty := 25) (c := c') hE101 (HX.out _ (below_on KR.out hB101)) (by simp; omega) hB101.size
                  have hB102 : Below wR.heap.size wR w102 := hB101.grown hg102 hB101.size (fun k hk => ownI_lows hE101 k hk)
                  have hV102 : OwnI w102 wR.heap.size v3 xs := by simpa using ho102
                  refine step_run _ (by rfl) (.tmp 150) (.tmp 151) 25 (by rfl) _ _ (by rfl) (by rfl) hr102 ?_
                  refine hK.out _ _ ((hB102.cell (p := ⟨b, off + k, none⟩) hbR).trans f1) (fun hS102 => ?_)
                  clear hK K
                  try simp only [Act.put, List.setIfInBounds_toArray, List.set_cons_zero, List.set_cons_succ]
                  clear hr102 hg102 ho102
                  refine wpAnyH_ready (rs := [8]) (by kernel_rfl) (by simp) ?_
                  refine (AllReadyH.cons rfl (fun K hK => ?_) AllReadyH.nil)
                  go_simp
                  refine hK.out _ _ (((hB102.alloc hB102.size _).cell (p := ⟨b, off + k, none⟩) hbR).trans f1) (fun hS103 => ?_)
                  clear hK K
                  try simp only [Act.put, List.setIfInBounds_toArray, List.set_cons_zero, List.set_cons_succ]
                  obtain ⟨w103, hw103⟩ : ∃ w', World.alloc w102 (.cells #[.int .i64 x] 3) = w' := ⟨_, rfl⟩
                  have hB103 : Below wR.heap.size wR w103 := by rw [← hw103]; exact hB102.alloc hB102.size _
                  have hb103 : Below w102.heap.size w102 w103 := by rw [← hw103]; exact (Below.refl _ _).alloc (Nat.le_refl _) _
                  have hV103 := ownI_below hV102 hb103
                  have hX103 : OwnI w103 wR.heap.size (.slice (some ⟨w102.heap.size, 0, none⟩) 1 1) [x] := by rw [← hw103]; exact ownI_oneG w102 _ x hB102.size
                  try rw [hw103]
                  try rw [hw103] at hS103
                  clear hw103 hb103
                  refine wpAnyH_ready (rs := [9]) (by kernel_rfl) (by simp) ?_
                  refine (AllReadyH.cons rfl (fun K hK => ?_) AllReadyH.nil)
                  obtain ⟨v4, w104, hr104, ho104, hg104, -⟩ := run_spreadI (ty := 25) (c := 1) hV103 (ownI_at hX103) (by have := HXl.out; omega) hB103.size
                  have hB104 : Below wR.heap.size wR w104 := hB103.grown hg104 hB103.size (fun k hk => ownI_lows hV103 k hk)
                  obtain ⟨A8, n8, c8, rfl, h8⟩ := ho104.ints
                  refine step_run _ (by rfl) (.tmp 152) (.tmp 157) 25 (by rfl) _ _ (by rfl) (by rfl) hr104 ?_
                  refine hK.out _ _ ((hB104.cell (p := ⟨b, off + k, none⟩) hbR).trans f1) (fun hS104 => ?_)
                  clear hK K
                  try simp only [Act.put, List.setIfInBounds_toArray, List.set_cons_zero, List.set_cons_succ]
                  clear hr104 hg104
                  refine wpAnyH_ready (rs := [10]) (by kernel_rfl) (by simp) ?_
                  refine (AllReadyH.cons rfl (fun K hK => ?_) AllReadyH.nil)
                  go_simp
                  go_at_call 7
                  refine (HCall.out _ _ _ _ hB104 h8 (by have h1 := h8.1; rw [List.length_append, List.length_singleton] at h1; have := HXl.out; omega)).mono ?_
                  rintro e w105 ⟨⟨v5, rfl, ho⟩, hb105⟩
                  have hB105 : Below wR.heap.size wR w105 := below_on hB104 hb105
                  refine hK.out _ _ ((hB105.cell (p := ⟨b, off + k, none⟩) hbR).trans f1) (fun hS105 => ?_)
                  clear hK K
                  try simp only [Act.put, List.setIfInBounds_toArray, List.set_cons_zero, List.set_cons_succ]
                  refine takeY 148 (i := 11) (v := ?vx7) rfl rfl (by kernel_rfl) (by kernel_rfl) (by kernel_rfl) (fun _ _ _ h => h) (by kernel_rfl) ?yx7 hS105 ?_
                  case yx7 =>
                    intro w' hw'; (try dsimp only at hw'); obtain q1 := hw'; go_simp; try with_reducible rfl
                  simp only [Act.put, List.setIfInBounds_toArray, List.set_cons_zero, List.set_cons_succ]
                  refine takeY 160 (i := 12) (v := ?vx8) rfl rfl (by kernel_rfl) (by kernel_rfl) (by kernel_rfl) (fun _ _ _ h => h) (by kernel_rfl) ?yx8 hS105 ?_
                  case yx8 =>
                    intro w' hw'; (try dsimp only at hw'); obtain q1 := hw'; go_simp; try with_reducible rfl
                  simp only [Act.put, List.setIfInBounds_toArray, List.set_cons_zero, List.set_cons_succ]
                  refine takeY 161 (i := 13) (v := ?vx9) rfl rfl (by kernel_rfl) (by kernel_rfl) (by kernel_rfl) (fun _ _ _ h => h) (by kernel_rfl) ?yx9 hS105 ?_
                  case yx9 =>
                    intro w' hw'; (try dsimp only at hw'); obtain q1 := hw'; go_simp; try with_reducible rfl
                  simp only [Act.put, List.setIfInBounds_toArray, List.set_cons_zero, List.set_cons_succ]
                  refine takeY 162 (i := 14) (v := ?vx10) rfl rfl (by kernel_rfl) (by kernel_rfl) (by kernel_rfl) (fun _ _ _ h => h) (by kernel_rfl) ?yx10 hS105 ?_
                  case yx10 =>
                    intro w' hw'; (try dsimp only at hw'); obtain q1 := hw'; go_simp; try with_reducible rfl
                  simp only [Act.put, List.setIfInBounds_toArray, List.set_cons_zero, List.set_cons_succ]
                  refine takeY 17 (i := 15) (v := ?vx11) rfl rfl (by kernel_rfl) (by kernel_rfl) (by kernel_rfl) (fun _ _ _ h => h) (by kernel_rfl) ?yx11 hS105 ?_
                  case yx11 =>
                    intro w' hw'; (try dsimp only at hw'); obtain q1 := hw'; go_simp; try with_reducible rfl
                  simp only [Act.put, List.setIfInBounds_toArray, List.set_cons_zero, List.set_cons_succ]
                  refine takeY 18 (i := 16) (v := ?vx12) rfl rfl (by kernel_rfl) (by kernel_rfl) (by kernel_rfl) (fun _ _ _ h => h) (by kernel_rfl) ?yx12 hS105 ?_
                  case yx12 =>
                    intro w' hw'; (try dsimp only at hw'); obtain q1 := hw'; go_simp; try with_reducible rfl
                  simp only [Act.put, List.setIfInBounds_toArray, List.set_cons_zero, List.set_cons_succ]
                  refine takeY 19 (i := 17) (v := ?vx13) rfl rfl (by kernel_rfl) (by kernel_rfl) (by kernel_rfl) (fun _ _ _ h => h) (by kernel_rfl) ?yx13 hS105 ?_
                  case yx13 =>
                    intro w' hw'; (try dsimp only at hw'); obtain q1 := hw'; go_simp; try with_reducible rfl
                  simp only [Act.put, List.setIfInBounds_toArray, List.set_cons_zero, List.set_cons_succ]
                  refine wpAnyH_done (by kernel_rfl) ?_ _
                  go_wp2
                  go_meet
                  exact ⟨rfl, rfl, hB105⟩
                · go_simp
                  refine hK.out _ _ (((hB101.alloc hB101.size _).cell (p := ⟨b, off + k, none⟩) hbR).trans f1) (fun hS106 => ?_)
                  clear hK K
                  try simp only [Act.put, List.setIfInBounds_toArray, List.set_cons_zero, List.set_cons_succ]
                  obtain ⟨w106, hw106⟩ : ∃ w', World.alloc w101 (.cells #[.int .i64 x] 3) = w' := ⟨_, rfl⟩
                  have hB106 : Below wR.heap.size wR w106 := by rw [← hw106]; exact hB101.alloc hB101.size _
                  have hb106 : Below w101.heap.size w101 w106 := by rw [← hw106]; exact (Below.refl _ _).alloc (Nat.le_refl _) _
                  have hE106 := ownI_below hE101 hb106
                  have hX106 : OwnI w106 wR.heap.size (.slice (some ⟨w101.heap.size, 0, none⟩) 1 1) [x] := by rw [← hw106]; exact ownI_oneG w101 _ x hB101.size
                  have hne : wD.heap.size ≠ w101.heap.size := by have h1 : wD.heap.size < w101.heap.size := ownI_tops hE101 _ rfl; omega
                  try rw [hw106]
                  try rw [hw106] at hS106
                  clear hw106 hb106
                  refine wpAnyH_ready (rs := [3]) (by kernel_rfl) (by simp) ?_
                  refine (AllReadyH.cons rfl (fun K hK => ?_) AllReadyH.nil)
                  obtain ⟨v3, w107, hr107, ho107, hg107, -⟩ := run_spreadI (ty := 25) (c := c') hE106 (HX.out _ (below_on KR.out hB106)) (by simp; omega) hB106.size
                  have hB107 : Below wR.heap.size wR w107 := hB106.grown hg107 hB106.size (fun k hk => ownI_lows hE106 k hk)
                  have hV107 : OwnI w107 wR.heap.size v3 xs := by simpa using ho107
                  have hX107 : OwnI w107 wR.heap.size (.slice (some ⟨w101.heap.size, 0, none⟩) 1 1) [x] := ownI_blocks hX106 fun k hk => hg107.block k (ownI_tops hX106 k hk) fun e => hne ((Option.some.inj e.symm).trans (Option.some.inj hk).symm)
                  refine step_run _ (by rfl) (.tmp 150) (.tmp 151) 25 (by rfl) _ _ (by rfl) (by rfl) hr107 ?_
                  refine hK.out _ _ ((hB107.cell (p := ⟨b, off + k, none⟩) hbR).trans f1) (fun hS107 => ?_)
                  clear hK K
                  try simp only [Act.put, List.setIfInBounds_toArray, List.set_cons_zero, List.set_cons_succ]
                  clear hr107 hg107 ho107
                  refine wpAnyH_ready (rs := [9]) (by kernel_rfl) (by simp) ?_
                  refine (AllReadyH.cons rfl (fun K hK => ?_) AllReadyH.nil)
                  obtain ⟨v4, w108, hr108, ho108, hg108, -⟩ := run_spreadI (ty := 25) (c := 1) hV107 (ownI_at hX107) (by have := HXl.out; omega) hB107.size
                  have hB108 : Below wR.heap.size wR w108 := hB107.grown hg108 hB107.size (fun k hk => ownI_lows hV107 k hk)
                  obtain ⟨A8, n8, c8, rfl, h8⟩ := ho108.ints
                  refine step_run _ (by rfl) (.tmp 152) (.tmp 157) 25 (by rfl) _ _ (by rfl) (by rfl) hr108 ?_
                  refine hK.out _ _ ((hB108.cell (p := ⟨b, off + k, none⟩) hbR).trans f1) (fun hS108 => ?_)
                  clear hK K
                  try simp only [Act.put, List.setIfInBounds_toArray, List.set_cons_zero, List.set_cons_succ]
                  clear hr108 hg108
                  refine wpAnyH_ready (rs := [10]) (by kernel_rfl) (by simp) ?_
                  refine (AllReadyH.cons rfl (fun K hK => ?_) AllReadyH.nil)
                  go_simp
                  go_at_call 7
                  refine (HCall.out _ _ _ _ hB108 h8 (by have h1 := h8.1; rw [List.length_append, List.length_singleton] at h1; have := HXl.out; omega)).mono ?_
                  rintro e w109 ⟨⟨v5, rfl, ho⟩, hb109⟩
                  have hB109 : Below wR.heap.size wR w109 := below_on hB108 hb109
                  refine hK.out _ _ ((hB109.cell (p := ⟨b, off + k, none⟩) hbR).trans f1) (fun hS109 => ?_)
                  clear hK K
                  try simp only [Act.put, List.setIfInBounds_toArray, List.set_cons_zero, List.set_cons_succ]
                  refine takeY 148 (i := 11) (v := ?vx14) rfl rfl (by kernel_rfl) (by kernel_rfl) (by kernel_rfl) (fun _ _ _ h => h) (by kernel_rfl) ?yx14 hS109 ?_
                  case yx14 =>
                    intro w' hw'; (try dsimp only at hw'); obtain q1 := hw'; go_simp; try with_reducible rfl
                  simp only [Act.put, List.setIfInBounds_toArray, List.set_cons_zero, List.set_cons_succ]
                  refine takeY 160 (i := 12) (v := ?vx15) rfl rfl (by kernel_rfl) (by kernel_rfl) (by kernel_rfl) (fun _ _ _ h => h) (by kernel_rfl) ?yx15 hS109 ?_
                  case yx15 =>
                    intro w' hw'; (try dsimp only at hw'); obtain q1 := hw'; go_simp; try with_reducible rfl
                  simp only [Act.put, List.setIfInBounds_toArray, List.set_cons_zero, List.set_cons_succ]
                  refine takeY 161 (i := 13) (v := ?vx16) rfl rfl (by kernel_rfl) (by kernel_rfl) (by kernel_rfl) (fun _ _ _ h => h) (by kernel_rfl) ?yx16 hS109 ?_
                  case yx16 =>
                    intro w' hw'; (try dsimp only at hw'); obtain q1 := hw'; go_simp; try with_reducible rfl
                  simp only [Act.put, List.setIfInBounds_toArray, List.set_cons_zero, List.set_cons_succ]
                  refine takeY 162 (i := 14) (v := ?vx17) rfl rfl (by kernel_rfl) (by kernel_rfl) (by kernel_rfl) (fun _ _ _ h => h) (by kernel_rfl) ?yx17 hS109 ?_
                  case yx17 =>
                    intro w' hw'; (try dsimp only at hw'); obtain q1 := hw'; go_simp; try with_reducible rfl
                  simp only [Act.put, List.setIfInBounds_toArray, List.set_cons_zero, List.set_cons_succ]
                  refine takeY 17 (i := 15) (v := ?vx18) rfl rfl (by kernel_rfl) (by kernel_rfl) (by kernel_rfl) (fun _ _ _ h => h) (by kernel_rfl) ?yx18 hS109 ?_
                  case yx18 =>
                    intro w' hw'; (try dsimp only at hw'); obtain q1 := hw'; go_simp; try with_reducible rfl
                  simp only [Act.put, List.setIfInBounds_toArray, List.set_cons_zero, List.set_cons_succ]
                  refine takeY 18 (i := 16) (v := ?vx19) rfl rfl (by kernel_rfl) (by kernel_rfl) (by kernel_rfl) (fun _ _ _ h => h) (by kernel_rfl) ?yx19 hS109 ?_
                  case yx19 =>
                    intro w' hw'; (try dsimp only at hw'); obtain q1 := hw'; go_simp; try with_reducible rfl
                  simp only [Act.put, List.setIfInBounds_toArray, List.set_cons_zero, List.set_cons_succ]
                  refine takeY 19 (i := 17) (v := ?vx20) rfl rfl (by kernel_rfl) (by kernel_rfl) (by kernel_rfl) (fun _ _ _ h => h) (by kernel_rfl) ?yx20 hS109 ?_
                  case yx20 =>
                    intro w' hw'; (try dsimp only at hw'); obtain q1 := hw'; go_simp; try with_reducible rfl
                  simp only [Act.put, List.setIfInBounds_toArray, List.set_cons_zero, List.set_cons_succ]
                  refine wpAnyH_done (by kernel_rfl) ?_ _
                  go_wp2
                  go_meet
                  exact ⟨rfl, rfl, hB109⟩
              · go_simp
                refine hK.out _ _ (((hBD.alloc hBD.size _).cell (p := ⟨b, off + k, none⟩) hbR).trans f1) (fun hS110 => ?_)
                clear hK K
                try simp only [Act.put, List.setIfInBounds_toArray, List.set_cons_zero, List.set_cons_succ]
                obtain ⟨w110, hw110⟩ : ∃ w', World.alloc wD (.cells #[.int .i64 x] 3) = w' := ⟨_, rfl⟩
                have hB110 : Below wR.heap.size wR w110 := by rw [← hw110]; exact hBD.alloc hBD.size _
                have hb110 : Below wD.heap.size wD w110 := by rw [← hw110]; exact (Below.refl _ _).alloc (Nat.le_refl _) _
                have hX110 : OwnI w110 wR.heap.size (.slice (some ⟨wD.heap.size, 0, none⟩) 1 1) [x] := by rw [← hw110]; exact ownI_oneG wD _ x hBD.size
                try rw [hw110]
                try rw [hw110] at hS110
                clear hw110 hb110
                refine wpAnyH_ready (rs := [1]) (by kernel_rfl) (by simp) ?_
                refine (AllReadyH.cons rfl (fun K hK => ?_) AllReadyH.nil)
                go_simp
                refine hK.out _ _ (((hB110.alloc hB110.size _).cell (p := ⟨b, off + k, none⟩) hbR).trans f1) (fun hS111 => ?_)
                clear hK K
                try simp only [Act.put, List.setIfInBounds_toArray, List.set_cons_zero, List.set_cons_succ]
                obtain ⟨w111, hw111⟩ : ∃ w', World.alloc w110 (.cells #[] 3) = w' := ⟨_, rfl⟩
                have hB111 : Below wR.heap.size wR w111 := by rw [← hw111]; exact hB110.alloc hB110.size _
                have hb111 : Below w110.heap.size w110 w111 := by rw [← hw111]; exact (Below.refl _ _).alloc (Nat.le_refl _) _
                have hX111 := ownI_below hX110 hb111
                have hE111 : OwnI w111 wR.heap.size (.slice (some ⟨w110.heap.size, 0, none⟩) 0 0) [] := by rw [← hw111]; exact OwnI.empty w110 _ hB110.size
                have hne : w110.heap.size ≠ wD.heap.size := by have h1 : wD.heap.size < w110.heap.size := ownI_tops hX110 _ rfl; omega
                try rw [hw111]
                try rw [hw111] at hS111
                clear hw111 hb111
                refine wpAnyH_ready (rs := [3]) (by kernel_rfl) (by simp) ?_
                refine (AllReadyH.cons rfl (fun K hK => ?_) AllReadyH.nil)
                obtain ⟨v3, w112, hr112, ho112, hg112, -⟩ := run_spreadI (ty := 25) (c := c') hE111 (HX.out _ (below_on KR.out hB111)) (by simp; omega) hB111.size
                have hB112 : Below wR.heap.size wR w112 := hB111.grown hg112 hB111.size (fun k hk => ownI_lows hE111 k hk)
                have hV112 : OwnI w112 wR.heap.size v3 xs := by simpa using ho112
                have hX112 : OwnI w112 wR.heap.size (.slice (some ⟨wD.heap.size, 0, none⟩) 1 1) [x] := ownI_blocks hX111 fun k hk => hg112.block k (ownI_tops hX111 k hk) fun e => hne ((Option.some.inj e.symm).trans (Option.some.inj hk).symm)
                refine step_run _ (by rfl) (.tmp 150) (.tmp 151) 25 (by rfl) _ _ (by rfl) (by rfl) hr112 ?_
                refine hK.out _ _ ((hB112.cell (p := ⟨b, off + k, none⟩) hbR).trans f1) (fun hS112 => ?_)
                clear hK K
                try simp only [Act.put, List.setIfInBounds_toArray, List.set_cons_zero, List.set_cons_succ]
                clear hr112 hg112 ho112
                refine wpAnyH_ready (rs := [9]) (by kernel_rfl) (by simp) ?_
                refine (AllReadyH.cons rfl (fun K hK => ?_) AllReadyH.nil)
                obtain ⟨v4, w113, hr113, ho113, hg113, -⟩ := run_spreadI (ty := 25) (c := 1) hV112 (ownI_at hX112) (by have := HXl.out; omega) hB112.size
                have hB113 : Below wR.heap.size wR w113 := hB112.grown hg113 hB112.size (fun k hk => ownI_lows hV112 k hk)
                obtain ⟨A8, n8, c8, rfl, h8⟩ := ho113.ints
                refine step_run _ (by rfl) (.tmp 152) (.tmp 157) 25 (by rfl) _ _ (by rfl) (by rfl) hr113 ?_
                refine hK.out _ _ ((hB113.cell (p := ⟨b, off + k, none⟩) hbR).trans f1) (fun hS113 => ?_)
                clear hK K
                try simp only [Act.put, List.setIfInBounds_toArray, List.set_cons_zero, List.set_cons_succ]
                clear hr113 hg113
                refine wpAnyH_ready (rs := [10]) (by kernel_rfl) (by simp) ?_
                refine (AllReadyH.cons rfl (fun K hK => ?_) AllReadyH.nil)
                go_simp
                go_at_call 7
                refine (HCall.out _ _ _ _ hB113 h8 (by have h1 := h8.1; rw [List.length_append, List.length_singleton] at h1; have := HXl.out; omega)).mono ?_
                rintro e w114 ⟨⟨v5, rfl, ho⟩, hb114⟩
                have hB114 : Below wR.heap.size wR w114 := below_on hB113 hb114
                refine hK.out _ _ ((hB114.cell (p := ⟨b, off + k, none⟩) hbR).trans f1) (fun hS114 => ?_)
                clear hK K
                try simp only [Act.put, List.setIfInBounds_toArray, List.set_cons_zero, List.set_cons_succ]
                refine takeY 148 (i := 11) (v := ?vx21) rfl rfl (by kernel_rfl) (by kernel_rfl) (by kernel_rfl) (fun _ _ _ h => h) (by kernel_rfl) ?yx21 hS114 ?_
                case yx21 =>
                  intro w' hw'; (try dsimp only at hw'); obtain q1 := hw'; go_simp; try with_reducible rfl
                simp only [Act.put, List.setIfInBounds_toArray, List.set_cons_zero, List.set_cons_succ]
                refine takeY 160 (i := 12) (v := ?vx22) rfl rfl (by kernel_rfl) (by kernel_rfl) (by kernel_rfl) (fun _ _ _ h => h) (by kernel_rfl) ?yx22 hS114 ?_
                case yx22 =>
                  intro w' hw'; (try dsimp only at hw'); obtain q1 := hw'; go_simp; try with_reducible rfl
                simp only [Act.put, List.setIfInBounds_toArray, List.set_cons_zero, List.set_cons_succ]
                refine takeY 161 (i := 13) (v := ?vx23) rfl rfl (by kernel_rfl) (by kernel_rfl) (by kernel_rfl) (fun _ _ _ h => h) (by kernel_rfl) ?yx23 hS114 ?_
                case yx23 =>
                  intro w' hw'; (try dsimp only at hw'); obtain q1 := hw'; go_simp; try with_reducible rfl
                simp only [Act.put, List.setIfInBounds_toArray, List.set_cons_zero, List.set_cons_succ]
                refine takeY 162 (i := 14) (v := ?vx24) rfl rfl (by kernel_rfl) (by kernel_rfl) (by kernel_rfl) (fun _ _ _ h => h) (by kernel_rfl) ?yx24 hS114 ?_
                case yx24 =>
                  intro w' hw'; (try dsimp only at hw'); obtain q1 := hw'; go_simp; try with_reducible rfl
                simp only [Act.put, List.setIfInBounds_toArray, List.set_cons_zero, List.set_cons_succ]
                refine takeY 17 (i := 15) (v := ?vx25) rfl rfl (by kernel_rfl) (by kernel_rfl) (by kernel_rfl) (fun _ _ _ h => h) (by kernel_rfl) ?yx25 hS114 ?_
                case yx25 =>
                  intro w' hw'; (try dsimp only at hw'); obtain q1 := hw'; go_simp; try with_reducible rfl
                simp only [Act.put, List.setIfInBounds_toArray, List.set_cons_zero, List.set_cons_succ]
                refine takeY 18 (i := 16) (v := ?vx26) rfl rfl (by kernel_rfl) (by kernel_rfl) (by kernel_rfl) (fun _ _ _ h => h) (by kernel_rfl) ?yx26 hS114 ?_
                case yx26 =>
                  intro w' hw'; (try dsimp only at hw'); obtain q1 := hw'; go_simp; try with_reducible rfl
                simp only [Act.put, List.setIfInBounds_toArray, List.set_cons_zero, List.set_cons_succ]
                refine takeY 19 (i := 17) (v := ?vx27) rfl rfl (by kernel_rfl) (by kernel_rfl) (by kernel_rfl) (fun _ _ _ h => h) (by kernel_rfl) ?yx27 hS114 ?_
                case yx27 =>
                  intro w' hw'; (try dsimp only at hw'); obtain q1 := hw'; go_simp; try with_reducible rfl
                simp only [Act.put, List.setIfInBounds_toArray, List.set_cons_zero, List.set_cons_succ]
                refine wpAnyH_done (by kernel_rfl) ?_ _
                go_wp2
                go_meet
                exact ⟨rfl, rfl, hB114⟩
            case rest =>
            obtain ⟨rfl, rfl, hb9⟩ := hcut
            rename World => wz
            have HBz := Lib.hid (below_on HBa.out hb9)
            have m1 := mul_hundred (a := N2) (b := D) (by omega) (by omega) (by omega) (by omega)
            have m2 := mul_hundred (a := N) (b := E2) (by omega) (by omega) (by omega) (by omega)
            have hgt : decide (N2 * D > N * E2) = false := by simp; omega
            clear hb9 f1 hbR HCall hmono
            go_wp2
            go_roundw
            case rel => exact ⟨k + 1, by omega, by go_num, HBz.out⟩
            case measure => simp [intOf]; omega
      · obtain rfl : k = n3 := by omega
        go_wp2
        go_meet
        exact HB.out
  case rest =>
  rename World => w10
  have K10 := Lib.hid (below_on K9.out hcut)
  clear hcut K9 I3_9 HId HAr HBu HRi HRs HPk HAq HKq HKa HQk HReg HAl HI HX
  have HB10 := Lib.hid (below_on HB2.out K10.out)
  clear hsm hn8 hn1 hn2 hnn hdd j3 HB1 HB2
  go_wp2_with fail
  refine (draw_small _ a len cap HL.out (HRw.out _ K10.out)).mono ?_
  rintro e w11 ⟨B, ms, mc, jts, p, q, rfl, ⟨hI, i1, i2, i3, i4⟩, hp, hq, hb⟩
  have K11 := Lib.hid (below_on K10.out hb)
  have HB11 := Lib.hid (below_on HB10.out hb)
  have HJ : Hid (∀ W, Below w11.heap.size w11 W → Items W w11.heap.size B ms jts) := Lib.hid fun W hW => hI.below hW
  obtain ⟨S, ok, hS⟩ := SmallP.some (jts.map It.dat) p q
  have hSs := hS.small
  have HSi : Hid (∀ W, Below w11.heap.size w11 W → Calls Try.prog 17 #[.slice B ms mc, .int .i64 p, .int .i64 q] W fun e w' => (∃ v, e = .returned (.tuple #[v, .bool ok]) ∧ OwnI w' W.heap.size v S) ∧ Below W.heap.size W w') := Lib.hid fun W hW => iSmall W _ B ms mc jts (HJ.out W hW) hW.size (by omega) p q S ok hS
  have HSs : Hid (∀ W, Below w11.heap.size w11 W → Calls Try.prog 18 #[.slice B ms mc, .int .i64 p, .int .i64 q] W fun e w' => (∃ v, e = .returned (.tuple #[v, .bool ok]) ∧ OwnI w' W.heap.size v S) ∧ Below W.heap.size W w') := Lib.hid fun W hW => sSmall W _ B ms mc jts (HJ.out W hW) hW.size (by omega) i1 p q S ok hS
  have HRt : Hid (∀ W, Below w11.heap.size w11 W → ∀ (B3 : Nat) (A3 : Option Addr) (n3 c3 : Nat) (ys : List Int), Ints W B3 A3 n3 ys → B3 ≤ W.heap.size → n3 ≤ 1048576 → ∀ (N D : Int) (ws : List Int), RegP (jts.map It.dat) ys N D ws → Calls Try.prog 8 #[.slice B ms mc, .slice A3 n3 c3] W fun e w' => (∃ v, e = .returned (.tuple #[.int .i64 N, .int .i64 D, v]) ∧ OwnI w' W.heap.size v ws) ∧ Below W.heap.size W w') := Lib.hid fun W hW B3 A3 n3 c3 ys h3 hB3 hn3 N D ws hP => sRegretOf W _ B ms mc jts (HJ.out W hW) hW.size (by omega) i1 B3 A3 n3 c3 ys h3 hB3 (by omega) N D ws hP
  obtain ⟨es, hes⟩ : ∃ es, jts.map It.dat = es := ⟨_, rfl⟩
  rw [hes] at hS HRt
  have HS := Lib.hid hS
  have hokk : (ok != ok) = false := by simp
  clear hI i1 i2 i3 hS hes hb
  go_wp2_with fail
  refine (HSi.out _ (Below.refl _ _)).mono ?_
  rintro e w12 ⟨⟨v3, rfl, ho⟩, hb⟩
  have M12 := Lib.hid hb
  obtain ⟨A7, n7, c7, rfl, hi⟩ := ho.ints
  have I7_12 := Lib.hid hi
  have hn7 : n7 ≤ 8 := by have := hi.1; omega
  clear ho hi hb HSi
  go_wp2_with fail
  refine (HSs.out _ M12.out).mono ?_
  rintro e w13 ⟨⟨v4, rfl, ho⟩, hb⟩
  have M13 := Lib.hid (below_on M12.out hb)
  have I7_13 := Lib.hid (I7_12.out.step hb)
  obtain ⟨A8, c8, rfl, h1, h2⟩ := ownI_cap ho
  have HCp := Lib.hid (And.intro h1 h2)
  have O8_13 := Lib.hid ho
  clear ho hb HSs M12 I7_12 h1 h2
  go_wp2_with fail
  refine (sameInts_w _ _ _ _ n7 S.length c7 c8 S S I7_13.out (ownI_at O8_13.out) (by omega) true (by simp)).mono ?_
  rintro e w14 ⟨rfl, hb⟩
  have M14 := Lib.hid (below_on M13.out hb)
  have O8_14 := Lib.hid (ownI_below O8_13.out hb)
  have I8 : Hid (∀ W, Below w14.heap.size w14 W → Ints W w14.heap.size A8 S.length S) := Lib.hid fun W hW => (ownI_at O8_14.out).below hW
  clear hb M13 I7_13 O8_13
  go_upto_if 199 with (fail)
  go_cut [27, 28, 29, 30] from 199 to 242 (fun s27 s28 s29 s30 wx => Below w14.heap.size w14 wx)
  case first =>
    cases ok
    · go_wp2
      go_meet
      exact Below.refl _ _
    · obtain ⟨hA, hq1, hq2, hp1, hp2, hle⟩ := small_ok HS.out (by first | rfl | trivial)
      have HKs : Hid (KnownP es S) := Lib.hid (small_known HS.out)
      have HA := Lib.hid hA
      obtain ⟨N3, E3, ws3, hP⟩ := RegP.some es S
      obtain ⟨e1, e2, -⟩ := hP.yes hA HKs.out
      rw [← e1, ← e2] at hle
      have hs3 := hP.small
      have HP3 := Lib.hid hP
      clear hA e1 e2 hP
      have m1 := mul_hundred (a := N3) (b := q) (by omega) (by omega) (by omega) (by omega)
      have m2 := mul_hundred (a := p) (b := E3) (by omega) (by omega) (by omega) (by omega)
      have hgt : decide (N3 * q > p * E3) = false := by simp; omega
      go_wp2_with fail
      refine (HRt.out _ M14.out _ A8 S.length c8 S (I8.out _ (Below.refl _ _)) (Nat.le_refl _) (by omega) N3 E3 ws3 HP3.out).mono ?_
      rintro e w15 ⟨⟨v5, rfl, -⟩, hb⟩
      have Q15 := Lib.hid hb
      clear hb
      go_wp2
      go_loopw [30] (fun iv wr => ∃ k : Nat, k ≤ S.length ∧ iv = .int .i64 k ∧ Below w14.heap.size w14 wr) (fun iv _ => S.length - (intOf iv).toNat)
      case atStart => exact ⟨0, Nat.zero_le _, rfl, Q15.out⟩
      case round =>
        obtain ⟨k, hk, rfl, hbel⟩ := hrel
        have HB := Lib.hid hbel
        by_cases hlt : k < S.length
        · have hlt' : (k : Int) < (S.length : Int) := by omega
          clear hbel
          obtain ⟨b, off, x0, hA8, hb, hat0, hc0⟩ := (I8.out _ HB.out).at k hlt
          have I8' : Hid (∀ W, Below w14.heap.size w14 W → Ints W w14.heap.size (some ⟨b, off, none⟩) S.length S) := Lib.hid (by rw [← hA8]; exact I8.out)
          subst hA8
          have hkc : k ≤ c8 := by have := HCp.out.1; omega
          have hkc1 : k + 1 ≤ c8 := by have := HCp.out.1; omega
          have hSc : S.length ≤ c8 := HCp.out.1
          clear hat0 hc0 hb
          obtain ⟨wR, rfl⟩ : ∃ wR, wR = wr := ⟨_, rfl⟩
          have hkI : (k : Int) ≤ (c8 : Int) := by omega
          have hkS : (k : Int) + 1 ≤ (S.length : Int) := by omega
          have hkC : (k : Int) + 1 ≤ (c8 : Int) := by omega
          have hSI : (S.length : Int) ≤ (c8 : Int) := by omega
          have hS8 : S.length ≤ 8 := hSs
          have hless := small_less HS.out (by first | rfl | trivial) hlt
          obtain ⟨N4, E4, ws4, hP4⟩ := RegP.some es (S.take k ++ S.drop (k + 1))
          have hkn4 : KnownP es (S.take k ++ S.drop (k + 1)) := fun z hz => HKs.out z (by
            rcases List.mem_append.1 hz with h | h
            · exact List.mem_of_mem_take h
            · exact List.mem_of_mem_drop h)
          obtain ⟨d1, d2, -⟩ := hP4.yes HA.out hkn4
          rw [← d1, ← d2] at hless
          have hs4 := hP4.small
          have MR := Lib.hid (M14.out.trans (HB.out.mono M14.out.size))
          have HCall : Hid (∀ W (A4 : Option Addr) (n4 c4 : Nat), Below wR.heap.size wR W → Ints W W.heap.size A4 n4 (S.take k ++ S.drop (k + 1)) → n4 ≤ 1048576 → Calls Try.prog 8 #[.slice B ms mc, .slice A4 n4 c4] W fun e w' => (∃ v, e = .returned (.tuple #[.int .i64 N4, .int .i64 E4, v]) ∧ OwnI w' W.heap.size v ws4) ∧ Below W.heap.size W w') := Lib.hid fun W A4 n4 c4 hW h4 hn4 => HRt.out W (below_on MR.out hW) _ A4 n4 c4 _ h4 (Nat.le_refl _) hn4 N4 E4 ws4 hP4
          have HT1 : Hid (∀ W, Below wR.heap.size wR W → Ints W w14.heap.size (some ⟨b, off, none⟩) k (S.take k)) := Lib.hid fun W hW => ints_take (I8'.out W (below_on HB.out hW)) (by omega)
          obtain ⟨A6, hA6⟩ : ∃ A6, (if c8 = k + 1 then some (⟨b, off, none⟩ : Addr) else some ⟨b, off + (k + 1), none⟩) = A6 := ⟨_, rfl⟩
          have HT2 : Hid (∀ W, Below wR.heap.size wR W → Ints W w14.heap.size A6 (S.length - (k + 1)) (S.drop (k + 1))) := Lib.hid fun W hW => hA6 ▸ ints_drop (I8'.out W (below_on HB.out hW)) (by omega) hSc
          clear d1 d2 hkn4 hP4
          have hwr : IntKind.i64.wrap ((k : Int) + 1) = (k : Int) + 1 := IntWalk.i64_in _ ⟨by omega, by omega⟩
          have htn : ((k : Int) + 1).toNat = k + 1 := by omega
          have hk0 : (0 : Int) ≤ (k : Int) + 1 := by omega
          go_upto_region 35 with (fail)
          go_cut [27, 28] from 214 to 242 (fun s27 s28 wx => s27 = .int .i64 N4 ∧ s28 = .int .i64 E4 ∧ Below wR.heap.size wR wx)
          case first =>
            have hS0 : (fun w' : World => True) wR.drew := trivial
            refine wp_region_held (S := fun w' : World => True) (by kernel_rfl) ?_
            change wpAnyH _ _ _ _ _ _ _ _ (World.drew _)
            have hBD0 : Below wR.heap.size wR wR.drew := (Below.refl _ wR).drew
            obtain ⟨wD, hwD⟩ : ∃ wD, World.drew wR = wD := ⟨_, rfl⟩
            rw [hwD] at hS0 ⊢
            have hBD : Below wR.heap.size wR wD := by rw [← hwD]; exact hBD0
            clear hwD hBD0
            refine takeY 221 (i := 0) (v := ?vx40) rfl rfl (by kernel_rfl) (by kernel_rfl) (by kernel_rfl) (fun _ _ _ h => h) (by kernel_rfl) ?yx40 hS0 ?_
            case yx40 =>
              intro w' hw'; (try dsimp only at hw'); obtain q1 := hw'; go_simp; try with_reducible rfl
            simp only [Act.put, List.setIfInBounds_toArray, List.set_cons_zero, List.set_cons_succ]
            refine takeY 223 (i := 2) (v := ?vx41) rfl rfl (by kernel_rfl) (by kernel_rfl) (by kernel_rfl) (fun _ _ _ h => h) (by kernel_rfl) ?yx41 hS0 ?_
            case yx41 =>
              intro w' hw'; (try dsimp only at hw'); obtain q1 := hw'; go_simp; try with_reducible rfl
            simp only [Act.put, List.setIfInBounds_toArray, List.set_cons_zero, List.set_cons_succ]
            refine takeY 224 (i := 3) (v := ?vx42) rfl rfl (by kernel_rfl) (by kernel_rfl) (by kernel_rfl) (fun _ _ _ h => h) (by kernel_rfl) ?yx42 hS0 ?_
            case yx42 =>
              intro w' hw'; (try dsimp only at hw'); obtain q1 := hw'; go_simp; try with_reducible rfl
            simp only [Act.put, List.setIfInBounds_toArray, List.set_cons_zero, List.set_cons_succ]
            refine takeY 225 (i := 4) (v := ?vx43) rfl rfl (by kernel_rfl) (by kernel_rfl) (by kernel_rfl) (fun _ _ _ h => h) (by kernel_rfl) ?yx43 hS0 ?_
            case yx43 =>
              intro w' hw'; (try dsimp only at hw'); obtain q1 := hw'; go_simp; try with_reducible rfl
            simp only [Act.put, List.setIfInBounds_toArray, List.set_cons_zero, List.set_cons_succ]
            refine takeY 227 (i := 6) (v := ?vx44) rfl rfl (by kernel_rfl) (by kernel_rfl) (by kernel_rfl) (fun _ _ _ h => h) (by kernel_rfl) ?yx44 hS0 ?_
            case yx44 =>
              intro w' hw'; (try dsimp only at hw'); obtain q1 := hw'; go_simp; try with_reducible rfl
            simp only [Act.put, List.setIfInBounds_toArray, List.set_cons_zero, List.set_cons_succ]
            refine takeY 228 (i := 7) (v := ?vx45) rfl rfl (by kernel_rfl) (by kernel_rfl) (by kernel_rfl) (fun _ _ _ h => h) (by kernel_rfl) ?yx45 hS0 ?_
            case yx45 =>
              intro w' hw'; (try dsimp only at hw'); obtain q1 := hw'; go_simp; try with_reducible rfl
            simp only [Act.put, List.setIfInBounds_toArray, List.set_cons_zero, List.set_cons_succ]
            refine takeY 229 (i := 8) (v := ?vx46) rfl rfl (by kernel_rfl) (by kernel_rfl) (by kernel_rfl) (fun _ _ _ h => h) (by kernel_rfl) ?yx46 hS0 ?_
            case yx46 =>
              intro w' hw'; (try dsimp only at hw'); obtain q1 := hw'; go_simp; try with_reducible rfl
            simp only [Act.put, List.setIfInBounds_toArray, List.set_cons_zero, List.set_cons_succ]
            refine takeY 230 (i := 9) (v := ?vx47) rfl rfl (by kernel_rfl) (by kernel_rfl) (by kernel_rfl) (fun _ _ _ h => h) (by kernel_rfl) ?yx47 hS0 ?_
            case yx47 =>
              intro w' hw'; (try dsimp only at hw'); obtain q1 := hw'; go_simp; try with_reducible rfl
            simp only [Act.put, List.setIfInBounds_toArray, List.set_cons_zero, List.set_cons_succ]
            refine wpAnyH_ready (rs := [1]) (by kernel_rfl) (by simp) ?_
            refine (AllReadyH.cons rfl (fun K hK => ?_) AllReadyH.nil)
            go_simp
            refine hK.out _ _ (trivial) (fun hS220 => ?_)
            clear hK K
            try simp only [Act.put, List.setIfInBounds_toArray, List.set_cons_zero, List.set_cons_succ]
            obtain ⟨w220, hw220⟩ : ∃ w', World.alloc wD (.cells #[] 3) = w' := ⟨_, rfl⟩
            have hB220 : Below wR.heap.size wR w220 := by rw [← hw220]; exact hBD.alloc hBD.size _
            have hE220 : OwnI w220 wR.heap.size (.slice (some ⟨wD.heap.size, 0, none⟩) 0 0) [] := by rw [← hw220]; exact OwnI.empty wD _ hBD.size
            try rw [hw220]
            try rw [hw220] at hS220
            clear hw220
            refine wpAnyH_ready (rs := [5]) (by kernel_rfl) (by simp) ?_
            refine (AllReadyH.cons rfl (fun K hK => ?_) AllReadyH.nil)
            obtain ⟨u221, w221, hr221, ho221, hg221, -⟩ := run_spreadI (ty := 25) (c := c8) hE220 (HT1.out _ hB220) (by simp; omega) hB220.size
            have hB221 : Below wR.heap.size wR w221 := hB220.grown hg221 hB220.size (fun k hk => ownI_lows hE220 k hk)
            have hV221 : OwnI w221 wR.heap.size u221 (S.take k) := by simpa using ho221
            refine step_run _ (by rfl) (.tmp 222) (.tmp 225) 25 (by rfl) _ _ (by rfl) (by rfl) hr221 ?_
            refine hK.out _ _ (trivial) (fun hS221 => ?_)
            clear hK K
            try simp only [Act.put, List.setIfInBounds_toArray, List.set_cons_zero, List.set_cons_succ]
            clear hr221 hg221 ho221
            refine wpAnyH_ready (rs := [10]) (by kernel_rfl) (by simp) ?_
            refine (AllReadyH.cons rfl (fun K hK => ?_) AllReadyH.nil)
            obtain ⟨u222, w222, hr222, ho222, hg222, -⟩ := run_spreadI (ty := 25) (c := c8 - (k + 1)) hV221 (HT2.out _ hB221) (by have := List.length_take_le k S; omega) hB221.size
            have hB222 : Below wR.heap.size wR w222 := hB221.grown hg222 hB221.size (fun k hk => ownI_lows hV221 k hk)
            obtain ⟨A9, n9, c9, rfl, h9⟩ := ho222.ints
            refine step_run _ (by rfl) (.tmp 226) (.tmp 230) 25 (by rfl) _ _ (by rfl) (by rfl) hr222 ?_
            refine hK.out _ _ (trivial) (fun hS222 => ?_)
            clear hK K
            try simp only [Act.put, List.setIfInBounds_toArray, List.set_cons_zero, List.set_cons_succ]
            clear hr222 hg222
            refine wpAnyH_ready (rs := [11]) (by kernel_rfl) (by simp) ?_
            refine (AllReadyH.cons rfl (fun K hK => ?_) AllReadyH.nil)
            go_simp
            go_at_call 8
            refine (HCall.out _ _ _ _ hB222 h9 (by have h1 := h9.1; simp only [List.length_append, List.length_take, List.length_drop] at h1; omega)).mono ?_
            rintro e w223 ⟨⟨v6, rfl, ho⟩, hb223⟩
            have hB223 : Below wR.heap.size wR w223 := below_on hB222 hb223
            refine hK.out _ _ (trivial) (fun hS223 => ?_)
            clear hK K
            try simp only [Act.put, List.setIfInBounds_toArray, List.set_cons_zero, List.set_cons_succ]
            refine takeY 220 (i := 12) (v := ?vx48) rfl rfl (by kernel_rfl) (by kernel_rfl) (by kernel_rfl) (fun _ _ _ h => h) (by kernel_rfl) ?yx48 hS223 ?_
            case yx48 =>
              intro w' hw'; (try dsimp only at hw'); obtain q1 := hw'; go_simp; try with_reducible rfl
            simp only [Act.put, List.setIfInBounds_toArray, List.set_cons_zero, List.set_cons_succ]
            refine takeY 233 (i := 13) (v := ?vx49) rfl rfl (by kernel_rfl) (by kernel_rfl) (by kernel_rfl) (fun _ _ _ h => h) (by kernel_rfl) ?yx49 hS223 ?_
            case yx49 =>
              intro w' hw'; (try dsimp only at hw'); obtain q1 := hw'; go_simp; try with_reducible rfl
            simp only [Act.put, List.setIfInBounds_toArray, List.set_cons_zero, List.set_cons_succ]
            refine takeY 234 (i := 14) (v := ?vx50) rfl rfl (by kernel_rfl) (by kernel_rfl) (by kernel_rfl) (fun _ _ _ h => h) (by kernel_rfl) ?yx50 hS223 ?_
            case yx50 =>
              intro w' hw'; (try dsimp only at hw'); obtain q1 := hw'; go_simp; try with_reducible rfl
            simp only [Act.put, List.setIfInBounds_toArray, List.set_cons_zero, List.set_cons_succ]
            refine takeY 235 (i := 15) (v := ?vx51) rfl rfl (by kernel_rfl) (by kernel_rfl) (by kernel_rfl) (fun _ _ _ h => h) (by kernel_rfl) ?yx51 hS223 ?_
            case yx51 =>
              intro w' hw'; (try dsimp only at hw'); obtain q1 := hw'; go_simp; try with_reducible rfl
            simp only [Act.put, List.setIfInBounds_toArray, List.set_cons_zero, List.set_cons_succ]
            refine takeY 27 (i := 16) (v := ?vx52) rfl rfl (by kernel_rfl) (by kernel_rfl) (by kernel_rfl) (fun _ _ _ h => h) (by kernel_rfl) ?yx52 hS223 ?_
            case yx52 =>
              intro w' hw'; (try dsimp only at hw'); obtain q1 := hw'; go_simp; try with_reducible rfl
            simp only [Act.put, List.setIfInBounds_toArray, List.set_cons_zero, List.set_cons_succ]
            refine takeY 28 (i := 17) (v := ?vx53) rfl rfl (by kernel_rfl) (by kernel_rfl) (by kernel_rfl) (fun _ _ _ h => h) (by kernel_rfl) ?yx53 hS223 ?_
            case yx53 =>
              intro w' hw'; (try dsimp only at hw'); obtain q1 := hw'; go_simp; try with_reducible rfl
            simp only [Act.put, List.setIfInBounds_toArray, List.set_cons_zero, List.set_cons_succ]
            refine wpAnyH_done (by kernel_rfl) ?_ _
            go_wp2
            go_meet
            exact ⟨rfl, rfl, hB223⟩
          case rest =>
          obtain ⟨rfl, rfl, hb9⟩ := hcut
          rename World => wz
          have HBz := Lib.hid (below_on HB.out hb9)
          have p1 := mul_hundred (a := N4) (b := q) (by omega) (by omega) (by omega) (by omega)
          have p2 := mul_hundred (a := p) (b := E4) (by omega) (by omega) (by omega) (by omega)
          have hle4 : decide (N4 * q ≤ p * E4) = false := by simp; omega
          clear hb9 HCall hless hA6
          go_wp2
          go_roundw
          case rel => exact ⟨k + 1, by omega, by go_num, HBz.out⟩
          case measure => simp [intOf]; omega
        · obtain rfl : k = S.length := by omega
          go_wp2
          go_meet
          exact HB.out
  case rest =>
  rename World => w20
  have HM20 := below_on M14.out hcut
  have K20 := Lib.hid (below_on K11.out HM20)
  have HB20 := Lib.hid (below_on HB11.out HM20)
  clear HM20 hcut K10 K11 HB10 HB11 HJ HS HRt M14 HCp O8_14 I8 hSs hokk hn7 i4 hp hq
  go_wp2_with fail
  refine (draw_greedy _ a len cap HL.out (HRw.out _ K20.out)).mono ?_
  rintro e w21 ⟨G, gn, gc, kts, z, rfl, ⟨hI, i1, i2, i3, i4⟩, hz, hb⟩
  have K21 := Lib.hid (below_on K20.out hb)
  have HB21 := Lib.hid (below_on HB20.out hb)
  have HG : Hid (∀ W, Below w21.heap.size w21 W → Items W w21.heap.size G gn kts) := Lib.hid fun W hW => hI.below hW
  obtain ⟨DG, hDG⟩ := GreedP.some (kts.map It.dat) z
  have HGs := hDG.small
  have HGi : Hid (∀ W, Below w21.heap.size w21 W → Calls Try.prog 21 #[.slice G gn gc, .int .i64 z] W fun e w' => (∃ v, e = .returned v ∧ OwnI w' W.heap.size v DG) ∧ Below W.heap.size W w') := Lib.hid fun W hW => iGreedy W _ G gn gc kts (HG.out W hW) hW.size (by omega) z DG hDG
  have HGt : Hid (∀ W, Below w21.heap.size w21 W → Calls Try.prog 22 #[.slice G gn gc, .int .i64 z] W fun e w' => (∃ v, e = .returned v ∧ OwnI w' W.heap.size v DG) ∧ Below W.heap.size W w') := Lib.hid fun W hW => sGreedy W _ G gn gc kts (HG.out W hW) hW.size (by omega) i1 z DG hDG
  clear hI i1 i2 i3 i4 hz hb hDG HG K20 HB20
  go_wp2_with fail
  refine (draw_utility _ a len cap HL.out (HRw.out _ K21.out)).mono ?_
  rintro e w22 ⟨t, A6, c6, ys, rfl, hti, htn, hyi, hb⟩
  have HB22 := Lib.hid (below_on HB21.out hb)
  have HM22 := Lib.hid hb
  have HTi : Hid (∀ W, Below w22.heap.size w22 W → Ints W w22.heap.size t.A t.n t.xs) := Lib.hid fun W hW => hti.below hW
  have HYi : Hid (∀ W, Below w22.heap.size w22 W → Ints W w22.heap.size A6 3 ys) := Lib.hid fun W hW => hyi.below hW
  clear hti hyi hb K21 HB21 HRw
  unfold It.val
  obtain ⟨wR, hwR⟩ : ∃ wR, w22.alloc (.cells #[.int .i64 t.id, .slice t.A t.n t.c] 43) = wR := ⟨_, rfl⟩
  have HMR : Hid (Below w22.heap.size w22 wR) := Lib.hid (by rw [← hwR]; exact (Below.refl _ w22).alloc (Nat.le_refl _) _)
  have f0 : wR.cell? ⟨w22.heap.size, 0, none⟩ = some (.int .i64 t.id) := by rw [← hwR, World.cell?_alloc_at _ _ _ _ rfl]; rfl
  have f1 : wR.cell? ⟨w22.heap.size, 1, none⟩ = some (.slice t.A t.n t.c) := by rw [← hwR, World.cell?_alloc_at _ _ _ _ rfl]; rfl
  have hgR : w22.heap.size < wR.heap.size := by rw [← hwR, World.size_alloc]; omega
  obtain ⟨U, hU⟩ : ∃ U, utD ys t.dat = U := ⟨_, rfl⟩
  have HU := Lib.hid hU
  have hUU : (U == U) = true := by simp
  clear hU
  go_upto_region 40 with (fail)
  have hS0 : (fun w' => w'.cell? ⟨w22.heap.size, 0, none⟩ = some (.int .i64 t.id) ∧ w'.cell? ⟨w22.heap.size, 1, none⟩ = some (.slice t.A t.n t.c)) wR.drew := ⟨f0, f1⟩
  refine wp_region_held (S := fun w' => w'.cell? ⟨w22.heap.size, 0, none⟩ = some (.int .i64 t.id) ∧ w'.cell? ⟨w22.heap.size, 1, none⟩ = some (.slice t.A t.n t.c)) (by kernel_rfl) ?_
  change wpAnyH _ _ _ _ _ _ _ _ (World.drew _)
  have hBD0 : Below wR.heap.size wR wR.drew := (Below.refl _ wR).drew
  obtain ⟨wD, hwD⟩ : ∃ wD, World.drew wR = wD := ⟨_, rfl⟩
  rw [hwD] at hS0 ⊢
  have hBD : Below wR.heap.size wR wD := by rw [← hwD]; exact hBD0
  clear hwD hBD0
  refine takeY 253 (i := 0) (v := ?vx28) rfl rfl (by kernel_rfl) (by kernel_rfl) (by kernel_rfl) (fun _ _ _ h => h) (by kernel_rfl) ?yx28 hS0 ?_
  case yx28 =>
    intro w' hw'; (try dsimp only at hw'); obtain ⟨q1, q2⟩ := hw'; go_simp; try with_reducible rfl
  simp only [Act.put, List.setIfInBounds_toArray, List.set_cons_zero, List.set_cons_succ]
  refine takeY 254 (i := 1) (v := ?vx29) rfl rfl (by kernel_rfl) (by kernel_rfl) (by kernel_rfl) (fun _ _ _ h => h) (by kernel_rfl) ?yx29 hS0 ?_
  case yx29 =>
    intro w' hw'; (try dsimp only at hw'); obtain ⟨q1, q2⟩ := hw'; go_simp; try with_reducible rfl
  simp only [Act.put, List.setIfInBounds_toArray, List.set_cons_zero, List.set_cons_succ]
  refine takeY 256 (i := 3) (v := ?vx30) rfl rfl (by kernel_rfl) (by kernel_rfl) (by kernel_rfl) (fun _ _ _ h => h) (by kernel_rfl) ?yx30 hS0 ?_
  case yx30 =>
    intro w' hw'; (try dsimp only at hw'); obtain ⟨q1, q2⟩ := hw'; go_simp; try with_reducible rfl
  simp only [Act.put, List.setIfInBounds_toArray, List.set_cons_zero, List.set_cons_succ]
  refine takeY 257 (i := 4) (v := ?vx31) rfl rfl (by kernel_rfl) (by kernel_rfl) (by kernel_rfl) (fun _ _ _ h => h) (by kernel_rfl) ?yx31 hS0 ?_
  case yx31 =>
    intro w' hw'; (try dsimp only at hw'); obtain ⟨q1, q2⟩ := hw'; go_simp; try with_reducible rfl
  simp only [Act.put, List.setIfInBounds_toArray, List.set_cons_zero, List.set_cons_succ]
  refine wpAnyH_ready (rs := [2]) (by kernel_rfl) (by simp) ?_
  refine (AllReadyH.cons rfl (fun K hK => ?_) AllReadyH.nil)
  go_simp
  go_at_call 21
  refine (HGi.out _ (below_on (below_on HM22.out HMR.out) hBD)).mono ?_
  rintro e w315 ⟨⟨vga, rfl, ho⟩, hb315⟩
  have hB315 : Below wR.heap.size wR w315 := below_on hBD hb315
  obtain ⟨Aga, nga, cga, rfl, hga315⟩ := ho.ints
  skip
  refine hK.out _ _ (⟨(hB315.cell (p := ⟨w22.heap.size, 0, none⟩) hgR).trans f0, (hB315.cell (p := ⟨w22.heap.size, 1, none⟩) hgR).trans f1⟩) (fun hS315 => ?_)
  clear hK K
  try simp only [Act.put, List.setIfInBounds_toArray, List.set_cons_zero, List.set_cons_succ]
  refine wpAnyH_ready (rs := [5]) (by kernel_rfl) (by simp) ?_
  refine (AllReadyH.cons rfl (fun K hK => ?_) AllReadyH.nil)
  go_simp
  go_at_call 22
  refine (HGt.out _ (below_on (below_on HM22.out HMR.out) hB315)).mono ?_
  rintro e w316 ⟨⟨vgb, rfl, ho⟩, hb316⟩
  have hB316 : Below wR.heap.size wR w316 := below_on hB315 hb316
  have hga316 := hga315.step hb316
  obtain ⟨Agb, ngb, cgb, rfl, hgb316⟩ := ho.ints
  skip
  refine hK.out _ _ (⟨(hB316.cell (p := ⟨w22.heap.size, 0, none⟩) hgR).trans f0, (hB316.cell (p := ⟨w22.heap.size, 1, none⟩) hgR).trans f1⟩) (fun hS316 => ?_)
  clear hK K
  try simp only [Act.put, List.setIfInBounds_toArray, List.set_cons_zero, List.set_cons_succ]
  refine wpAnyH_ready (rs := [6]) (by kernel_rfl) (by simp) ?_
  refine (AllReadyH.cons rfl (fun K hK => ?_) AllReadyH.nil)
  go_simp
  go_at_call 9
  refine (sameInts_w _ _ _ _ nga ngb cga cgb DG DG hga316 hgb316 (by have := hga316.1; omega) true (by simp)).mono ?_
  rintro e w317 ⟨rfl, hb317⟩
  have hB317 : Below wR.heap.size wR w317 := below_on hB316 hb317
  skip
  refine hK.out _ _ (⟨(hB317.cell (p := ⟨w22.heap.size, 0, none⟩) hgR).trans f0, (hB317.cell (p := ⟨w22.heap.size, 1, none⟩) hgR).trans f1⟩) (fun hS317 => ?_)
  clear hK K
  try simp only [Act.put, List.setIfInBounds_toArray, List.set_cons_zero, List.set_cons_succ]
  refine takeY 260 (i := 7) (v := ?vx32) rfl rfl (by kernel_rfl) (by kernel_rfl) (by kernel_rfl) (fun _ _ _ h => h) (by kernel_rfl) ?yx32 hS317 ?_
  case yx32 =>
    intro w' hw'; (try dsimp only at hw'); obtain ⟨q1, q2⟩ := hw'; go_simp; try with_reducible rfl
  simp only [Act.put, List.setIfInBounds_toArray, List.set_cons_zero, List.set_cons_succ]
  refine takeY 261 (i := 8) (v := ?vx33) rfl rfl (by kernel_rfl) (by kernel_rfl) (by kernel_rfl) (fun _ _ _ h => h) (by kernel_rfl) ?yx33 hS317 ?_
  case yx33 =>
    intro w' hw'; (try dsimp only at hw'); obtain ⟨q1, q2⟩ := hw'; go_simp; try with_reducible rfl
  simp only [Act.put, List.setIfInBounds_toArray, List.set_cons_zero, List.set_cons_succ]
  refine takeY 262 (i := 9) (v := ?vx34) rfl rfl (by kernel_rfl) (by kernel_rfl) (by kernel_rfl) (fun _ _ _ h => h) (by kernel_rfl) ?yx34 hS317 ?_
  case yx34 =>
    intro w' hw'; (try dsimp only at hw'); obtain ⟨q1, q2⟩ := hw'; go_simp; try with_reducible rfl
  simp only [Act.put, List.setIfInBounds_toArray, List.set_cons_zero, List.set_cons_succ]
  refine takeY 264 (i := 11) (v := ?vx35) rfl rfl (by kernel_rfl) (by kernel_rfl) (by kernel_rfl) (fun _ _ _ h => h) (by kernel_rfl) ?yx35 hS317 ?_
  case yx35 =>
    intro w' hw'; (try dsimp only at hw'); obtain ⟨q1, q2⟩ := hw'; go_simp; try with_reducible rfl
  simp only [Act.put, List.setIfInBounds_toArray, List.set_cons_zero, List.set_cons_succ]
  refine takeY 265 (i := 12) (v := ?vx36) rfl rfl (by kernel_rfl) (by kernel_rfl) (by kernel_rfl) (fun _ _ _ h => h) (by kernel_rfl) ?yx36 hS317 ?_
  case yx36 =>
    intro w' hw'; (try dsimp only at hw'); obtain ⟨q1, q2⟩ := hw'; go_simp; try with_reducible rfl
  simp only [Act.put, List.setIfInBounds_toArray, List.set_cons_zero, List.set_cons_succ]
  refine wpAnyH_ready (rs := [10]) (by kernel_rfl) (by simp) ?_
  refine (AllReadyH.cons rfl (fun K hK => ?_) AllReadyH.nil)
  go_simp
  go_at_call 23
  refine (iUtilD _ w22.heap.size t (HTi.out _ (below_on HMR.out hB317)) (below_on HMR.out hB317).size A6 3 c6 ys (HYi.out _ (below_on HMR.out hB317)) (by omega) U HU.out).mono ?_
  rintro e w318 ⟨rfl, hb318⟩
  have hB318 : Below wR.heap.size wR w318 := below_on hB317 hb318
  skip
  refine hK.out _ _ (⟨(hB318.cell (p := ⟨w22.heap.size, 0, none⟩) hgR).trans f0, (hB318.cell (p := ⟨w22.heap.size, 1, none⟩) hgR).trans f1⟩) (fun hS318 => ?_)
  clear hK K
  try simp only [Act.put, List.setIfInBounds_toArray, List.set_cons_zero, List.set_cons_succ]
  refine wpAnyH_ready (rs := [13]) (by kernel_rfl) (by simp) ?_
  refine (AllReadyH.cons rfl (fun K hK => ?_) AllReadyH.nil)
  go_simp
  go_at_call 24
  refine (sUtilD _ w22.heap.size t (HTi.out _ (below_on HMR.out hB318)) (by omega) (below_on HMR.out hB318).size A6 3 c6 ys (HYi.out _ (below_on HMR.out hB318)) (by omega) U HU.out).mono ?_
  rintro e w319 ⟨rfl, hb319⟩
  have hB319 : Below wR.heap.size wR w319 := below_on hB318 hb319
  skip
  refine hK.out _ _ (⟨(hB319.cell (p := ⟨w22.heap.size, 0, none⟩) hgR).trans f0, (hB319.cell (p := ⟨w22.heap.size, 1, none⟩) hgR).trans f1⟩) (fun hS319 => ?_)
  clear hK K
  try simp only [Act.put, List.setIfInBounds_toArray, List.set_cons_zero, List.set_cons_succ]
  refine takeY 267 (i := 14) (v := ?vx37) rfl rfl (by kernel_rfl) (by kernel_rfl) (by kernel_rfl) (fun _ _ _ h => h) (by kernel_rfl) ?yx37 hS319 ?_
  case yx37 =>
    intro w' hw'; (try dsimp only at hw'); obtain ⟨q1, q2⟩ := hw'; go_simp; try with_reducible rfl
  simp only [Act.put, List.setIfInBounds_toArray, List.set_cons_zero, List.set_cons_succ]
  refine takeY 268 (i := 15) (v := ?vx38) rfl rfl (by kernel_rfl) (by kernel_rfl) (by kernel_rfl) (fun _ _ _ h => h) (by kernel_rfl) ?yx38 hS319 ?_
  case yx38 =>
    intro w' hw'; (try dsimp only at hw'); obtain ⟨q1, q2⟩ := hw'; go_simp; try with_reducible rfl
  simp only [Act.put, List.setIfInBounds_toArray, List.set_cons_zero, List.set_cons_succ]
  refine takeY 2 (i := 16) (v := ?vx39) rfl rfl (by kernel_rfl) (by kernel_rfl) (by kernel_rfl) (fun _ _ _ h => h) (by kernel_rfl) ?yx39 hS319 ?_
  case yx39 =>
    intro w' hw'; (try dsimp only at hw'); obtain ⟨q1, q2⟩ := hw'; go_simp; try with_reducible rfl
  simp only [Act.put, List.setIfInBounds_toArray, List.set_cons_zero, List.set_cons_succ]
  refine wpAnyH_done (by kernel_rfl) ?_ _
  go_wp2
  go_ret
  exact ⟨rfl, below_on HB22.out (below_on HMR.out hB319)⟩
end Go.Proofs.Ytceiocdemhkcdaa.num
