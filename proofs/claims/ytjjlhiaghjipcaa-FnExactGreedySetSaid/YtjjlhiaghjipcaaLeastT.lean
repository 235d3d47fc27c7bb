/-
  The program's leastBy over items: the first one with the least fraction.
-/
import Derived.BigQuiet
import Derived.Deep.Cut
import Derived.Deep.CutRange
import Derived.Test.YtjjlhiaghjipcaaLeastMath
import Derived.Test.YtjjlhiaghjipcaaFrac
import Derived.Test.YtjjlhiaghjipcaaRegion
namespace Go.Proofs.Ytjjlhiaghjipcaa.num
set_option maxRecDepth 20000
open Go.RowKit
set_option linter.unusedVariables false
set_option linter.unusedSimpArgs false

/-- An item in a box of its own. -/
def ItX (w : World) (g : Nat) (t : It) : Prop := w.heap[g]? = some (.cells #[.int .i64 t.id, .slice t.A t.n t.c] 43 (0, 0))
theorem ItX.lt {w : World} {g : Nat} {t : It} (h : ItX w g t) : g < w.heap.size := (Array.getElem?_eq_some_iff.1 h).1
theorem ItX.below {w w' : World} {g : Nat} {t : It} (h : ItX w g t) (hb : Below w.heap.size w w') : ItX w' g t := (hb.block g h.lt).trans h
theorem ItX.new (w : World) (t : It) : ItX (w.alloc (.cells #[.int .i64 t.id, .slice t.A t.n t.c] 43)) w.heap.size t := heap_alloc_new w _
theorem ItX.set {w : World} {g : Nat} {t : It} (h : ItX w g t) (u : It) : ItX ((w.setCell ⟨g, 0, none⟩ (.int .i64 u.id)).setCell ⟨g, 1, none⟩ (.slice u.A u.n u.c)) g u := by
  have h := heap_setCell_same _ g 1 _ _ (.slice u.A u.n u.c) (heap_setCell_same w g 0 _ _ (.int .i64 u.id) h)
  unfold ItX
  simpa using h
theorem ItX.other {w : World} {g g' : Nat} {t : It} (h : ItX w g t) (hne : g' ≠ g) (u v : Value) : ItX ((w.setCell ⟨g', 0, none⟩ u).setCell ⟨g', 1, none⟩ v) g t := by
  unfold ItX
  rw [heap_setCell_other _ _ _ _ (fun e => hne e.symm), heap_setCell_other _ _ _ _ (fun e => hne e.symm)]
  exact h
theorem ItX.cells {w : World} {g : Nat} {t : It} (h : ItX w g t) : w.cell? ⟨g, 0, none⟩ = some (.int .i64 t.id) ∧ w.cell? ⟨g, 1, none⟩ = some (.slice t.A t.n t.c) ∧ w.frozen? ⟨g, 0, none⟩ = false ∧ w.frozen? ⟨g, 1, none⟩ = false := by
  unfold ItX at h
  refine ⟨?_, ?_, ?_, ?_⟩ <;> simp [World.cell?, World.frozen?, h]
theorem below_set2 {w w' : World} {B g : Nat} (h : Below B w w') (hg : B ≤ g) (u v : Value) : Below B w ((w'.setCell ⟨g, 0, none⟩ u).setCell ⟨g, 1, none⟩ v) := (h.setCell (p := ⟨g, 0, none⟩) hg u).setCell (p := ⟨g, 1, none⟩) hg v
theorem cell_set2 {w : World} {g g' o : Nat} {v : Value} (hne : g ≠ g') (h : w.cell? ⟨g', o, none⟩ = some v) (u1 u2 : Value) : ((w.setCell ⟨g, 0, none⟩ u1).setCell ⟨g, 1, none⟩ u2).cell? ⟨g', o, none⟩ = some v :=
  (World.cell?_setCell_far _ ⟨g, 1, none⟩ ⟨g', o, none⟩ _ hne).trans ((World.cell?_setCell_far _ ⟨g, 0, none⟩ ⟨g', o, none⟩ _ hne).trans h)
/-- What the walk of the rest leans on. -/
structure LtS (w : World) (its : List It) (fr : It → Fr) (g6 g7 k : Nat) (y : It) (wr : World) : Prop where
  best : bestF fr (its.take (k + 1)) = some y
  i : ItX wr g6 y
  f : FrB wr g7 (fr y)
  i0 : ItX wr w.heap.size ⟨0, none, 0, 0, []⟩
  f0 : FrB wr (w.heap.size + 1) ⟨0, 0⟩
  ne : g6 ≠ g7
  l6 : w.heap.size + 2 ≤ g6
  l7 : w.heap.size + 2 ≤ g7
  b : Below w.heap.size w wr
theorem LtS.step {w wr w' : World} {its : List It} {fr : It → Fr} {g6 g7 k : Nat} {y : It} (h : LtS w its fr g6 g7 k y wr) (hb : Below wr.heap.size wr w') : LtS w its fr g6 g7 k y w' :=
  ⟨h.best, h.i.below hb, h.f.below hb, h.i0.below hb, h.f0.below hb, h.ne, h.l6, h.l7, below_on h.b hb⟩
theorem LtS.put {w wr : World} {its : List It} {fr : It → Fr} {g6 g7 k : Nat} {y x : It} (h : LtS w its fr g6 g7 k y wr) (hb : bestF fr (its.take (k + 1 + 1)) = some x) :
    LtS w its fr g6 g7 (k + 1) x ((((wr.setCell ⟨g6, 0, none⟩ (.int .i64 x.id)).setCell ⟨g6, 1, none⟩ (.slice x.A x.n x.c)).setCell ⟨g7, 0, none⟩ (.int .i64 (fr x).num)).setCell ⟨g7, 1, none⟩ (.int .i64 (fr x).den)) := by
  have h6 := h.l6
  have h7 := h.l7
  exact ⟨hb, (h.i.set x).other (fun e => h.ne e.symm) _ _, (h.f.other h.ne _ _).set _ _, (h.i0.other (by omega) _ _).other (by omega) _ _, (h.f0.other (by omega) _ _).other (by omega) _ _, h.ne, h6, h7, below_set2 (below_set2 h.b (by omega) _ _) (by omega) _ _⟩
theorem LtS.keep {w wr : World} {its : List It} {fr : It → Fr} {g6 g7 k : Nat} {y : It} (h : LtS w its fr g6 g7 k y wr) (hb : bestF fr (its.take (k + 1 + 1)) = some y) : LtS w its fr g6 g7 (k + 1) y wr :=
  ⟨hb, h.i, h.f, h.i0, h.f0, h.ne, h.l6, h.l7, h.b⟩
set_option maxRecDepth 20000 in
set_option maxHeartbeats 6400000 in
theorem iLeastT (w : World) (A : Option Addr) (n c : Nat) (its : List It) (h : ReadG itCs 2 w w.heap.size A n its) (h0 : 0 < n) (hn : n ≤ 1048576) (hnc : n ≤ c) (hcm : c ≤ 9223372036854775807) (fn : Nat) (cb : Array Value) (eg : ∀ args w, (callFunc fn args).run Try.prog w = .ok (.enter fn args) w) (fr : It → Fr) (hsm : ∀ x ∈ its, (fr x).Small)
    (HC : ∀ W, Below w.heap.size w W → ∀ x ∈ its, Calls Try.prog fn (#[.agg #[.int .i64 x.id, .slice x.A x.n x.c]] ++ cb) W fun e w' => e = .returned (.agg #[.int .i64 (fr x).num, .int .i64 (fr x).den]) ∧ Below W.heap.size W w') :
    Calls Try.prog 72 #[.slice A n c, .func (.func fn) #[] cb] w fun e w' => (∃ x, bestF fr its = some x ∧ e = .returned (.tuple #[.agg #[.int .i64 x.id, .slice x.A x.n x.c], .agg #[.int .i64 (fr x).num, .int .i64 (fr x).den]])) ∧ Below w.heap.size w w' := by
  have HX := Lib.hid h
  have HF := Lib.hid HC
  have HSm := Lib.hid hsm
  have hl := h.len
  obtain ⟨b, off, x0, rfl, hb, hat0, hc0, hc1⟩ := it_at h (k := 0) h0
  rw [Nat.zero_mul, Nat.add_zero] at hc0 hc1
  have HA0 := Lib.hid hat0
  have HC0 : Hid (∀ W, Below w.heap.size w W → Calls Try.prog fn (#[.agg #[.int .i64 x0.id, .slice x0.A x0.n x0.c]] ++ cb) W fun e w' => e = .returned (.agg #[.int .i64 (fr x0).num, .int .i64 (fr x0).den]) ∧ Below W.heap.size W w') := Lib.hid fun W hW => HC W hW x0 (mem_of_at hat0)
  clear h HC hsm hat0
  obtain ⟨wR, hwR⟩ : ∃ wR, (w.alloc (.cells #[.int .i64 0, .slice none 0 0] 43)).alloc (.cells #[.int .i64 0, .int .i64 0] 74) = wR := ⟨_, rfl⟩
  have HBR : Hid (Below w.heap.size w wR) := Lib.hid (by rw [← hwR]; exact ((Below.refl _ w).alloc (Nat.le_refl _) _).alloc (by simp) _)
  have HI0 : Hid (ItX wR w.heap.size ⟨0, none, 0, 0, []⟩) := Lib.hid (by rw [← hwR]; exact (ItX.new w ⟨0, none, 0, 0, []⟩).below ((Below.refl _ _).alloc (Nat.le_refl _) _))
  have HF0 : Hid (FrB wR (w.heap.size + 1) ⟨0, 0⟩) := Lib.hid (by
    rw [← hwR]
    have h := FrB.new (w.alloc (.cells #[.int .i64 0, .slice none 0 0] 43)) ⟨0, 0⟩
    simpa only [World.size_alloc] using h)
  have f1 : wR.cell? ⟨b, off, none⟩ = some (.int .i64 x0.id) ∧ wR.cell? ⟨b, off + 1, none⟩ = some (.slice x0.A x0.n x0.c) := ⟨(HBR.out.cell (p := ⟨b, off, none⟩) hb).trans hc0, (HBR.out.cell (p := ⟨b, off + 1, none⟩) hb).trans hc1⟩
  have hbR : b < wR.heap.size := Nat.lt_of_lt_of_le hb HBR.out.size
  have hn0 : (0 : Int) < (n : Int) := by omega
  have HC1 := Lib.hid hc1
  clear hc0 hc1
  go_enter Try.func72, Try.ntmps72
  go_upto_region 1 with (fail)
  try rw [hwR]
  clear hwR
  go_cut [6, 7] from 11 to 18 (fun s6 s7 wx => ∃ g6 g7, s6 = .pointer (some ⟨g6, 0, none⟩) ∧ s7 = .pointer (some ⟨g7, 0, none⟩) ∧ ItX wx g6 x0 ∧ FrB wx g7 (fr x0) ∧ g6 ≠ g7 ∧ wR.heap.size ≤ g6 ∧ wR.heap.size ≤ g7 ∧ Below wR.heap.size wR wx)
  case first =>
    have hS0 : (fun w' => w'.cell? ⟨b, off, none⟩ = some (.int .i64 x0.id) ∧ w'.cell? ⟨b, off + 1, none⟩ = some (.slice x0.A x0.n x0.c)) wR.drew := f1
    refine wp_region_held (S := fun w' => w'.cell? ⟨b, off, none⟩ = some (.int .i64 x0.id) ∧ w'.cell? ⟨b, off + 1, none⟩ = some (.slice x0.A x0.n x0.c)) (by kernel_rfl) ?_
    change wpAnyH _ _ _ _ _ _ _ _ (World.drew _)
    have hBD0 : Below wR.heap.size wR wR.drew := (Below.refl _ wR).drew
    obtain ⟨wD, hwD⟩ : ∃ wD, World.drew wR = wD := ⟨_, rfl⟩
    rw [hwD] at hS0 ⊢
    have hBD : Below wR.heap.size wR wD := by rw [← hwD]; exact hBD0
    clear hwD hBD0
    refine takeY 11 (i := 0) (v := ?vx1) rfl rfl (by kernel_rfl) (by kernel_rfl) (by kernel_rfl) (fun _ _ _ h => h) (by kernel_rfl) ?yx1 hS0 ?_
    case yx1 =>
      intro w' hw'; (try dsimp only at hw'); obtain ⟨q1, q2⟩ := hw'; go_simp; try with_reducible rfl
    simp only [Act.put, List.setIfInBounds_toArray, List.set_cons_zero, List.set_cons_succ]
    refine takeY 12 (i := 1) (v := ?vx2) rfl rfl (by kernel_rfl) (by kernel_rfl) (by kernel_rfl) (fun _ _ _ h => h) (by kernel_rfl) ?yx2 hS0 ?_
    case yx2 =>
      intro w' hw'; (try dsimp only at hw'); obtain ⟨q1, q2⟩ := hw'; go_simp; try with_reducible rfl
    simp only [Act.put, List.setIfInBounds_toArray, List.set_cons_zero, List.set_cons_succ]
    refine takeY 13 (i := 2) (v := ?vx3) rfl rfl (by kernel_rfl) (by kernel_rfl) (by kernel_rfl) (fun _ _ _ h => h) (by kernel_rfl) ?yx3 hS0 ?_
    case yx3 =>
      intro w' hw'; (try dsimp only at hw'); obtain ⟨q1, q2⟩ := hw'; go_simp; try with_reducible rfl
    simp only [Act.put, List.setIfInBounds_toArray, List.set_cons_zero, List.set_cons_succ]
    refine takeY 14 (i := 3) (v := ?vx4) rfl rfl (by kernel_rfl) (by kernel_rfl) (by kernel_rfl) (fun _ _ _ h => h) (by kernel_rfl) ?yx4 hS0 ?_
    case yx4 =>
      intro w' hw'; (try dsimp only at hw'); obtain ⟨q1, q2⟩ := hw'; go_simp; try with_reducible rfl
    simp only [Act.put, List.setIfInBounds_toArray, List.set_cons_zero, List.set_cons_succ]
    refine takeY 15 (i := 4) (v := ?vx5) rfl rfl (by kernel_rfl) (by kernel_rfl) (by kernel_rfl) (fun _ _ _ h => h) (by kernel_rfl) ?yx5 hS0 ?_
    case yx5 =>
      intro w' hw'; (try dsimp only at hw'); obtain ⟨q1, q2⟩ := hw'; go_simp; try with_reducible rfl
    simp only [Act.put, List.setIfInBounds_toArray, List.set_cons_zero, List.set_cons_succ]
    refine takeY 16 (i := 5) (v := ?vx6) rfl rfl (by kernel_rfl) (by kernel_rfl) (by kernel_rfl) (fun _ _ _ h => h) (by kernel_rfl) ?yx6 hS0 ?_
    case yx6 =>
      intro w' hw'; (try dsimp only at hw'); obtain ⟨q1, q2⟩ := hw'; go_simp; try with_reducible rfl
    simp only [Act.put, List.setIfInBounds_toArray, List.set_cons_zero, List.set_cons_succ]
    refine takeY 17 (i := 6) (v := ?vx7) rfl rfl (by kernel_rfl) (by kernel_rfl) (by kernel_rfl) (fun _ _ _ h => h) (by kernel_rfl) ?yx7 hS0 ?_
    case yx7 =>
      intro w' hw'; (try dsimp only at hw'); obtain ⟨q1, q2⟩ := hw'; go_simp; try with_reducible rfl
    simp only [Act.put, List.setIfInBounds_toArray, List.set_cons_zero, List.set_cons_succ]
    refine wpAnyH_ready (rs := [7, 8, 9]) (by kernel_rfl) (by simp) ?_
    refine (AllReadyH.cons rfl (fun K hK => ?_) (AllReadyH.cons rfl (fun K hK => ?_) (AllReadyH.cons rfl (fun K hK => ?_) AllReadyH.nil)))
    · go_simp
      go_at_fn fn
      refine (HC0.out _ (below_on HBR.out hBD)).mono ?_
      rintro e w1 ⟨rfl, hb1⟩
      have hB1 : Below wR.heap.size wR w1 := below_on hBD hb1
      refine hK.out _ _ (⟨(hB1.cell (p := ⟨b, off, none⟩) hbR).trans f1.1, (hB1.cell (p := ⟨b, off + 1, none⟩) hbR).trans f1.2⟩) (fun hS1 => ?_)
      clear hK K
      try simp only [Act.put, List.setIfInBounds_toArray, List.set_cons_zero, List.set_cons_succ]
      clear hb1
      refine wpAnyH_ready (rs := [8, 9]) (by kernel_rfl) (by simp) ?_
      refine (AllReadyH.cons rfl (fun K hK => ?_) (AllReadyH.cons rfl (fun K hK => ?_) AllReadyH.nil))
      · go_simp
        refine hK.out _ _ (⟨((hB1.alloc hB1.size _).cell (p := ⟨b, off, none⟩) hbR).trans f1.1, ((hB1.alloc hB1.size _).cell (p := ⟨b, off + 1, none⟩) hbR).trans f1.2⟩) (fun hS2 => ?_)
        clear hK K
        try simp only [Act.put, List.setIfInBounds_toArray, List.set_cons_zero, List.set_cons_succ]
        obtain ⟨w2, hw2⟩ : ∃ w', World.alloc w1 (.cells #[.int .i64 0, .slice none 0 0] 43) = w' := ⟨_, rfl⟩
        have hB2 : Below wR.heap.size wR w2 := by rw [← hw2]; exact hB1.alloc hB1.size _
        have hb2 : Below w1.heap.size w1 w2 := by rw [← hw2]; exact (Below.refl _ _).alloc (Nat.le_refl _) _
        have hI2 : ItX w2 (w1.heap.size) ⟨0, none, 0, 0, []⟩ := by rw [← hw2]; exact ItX.new w1 ⟨0, none, 0, 0, []⟩
        try rw [hw2]
        try rw [hw2] at hS2
        clear hw2 hb2
        have hghI : wR.heap.size ≤ w1.heap.size := hB1.size
        refine wpAnyH_ready (rs := [9]) (by kernel_rfl) (by simp) ?_
        refine (AllReadyH.cons rfl (fun K hK => ?_) AllReadyH.nil)
        go_simp
        refine hK.out _ _ (⟨((hB2.alloc hB2.size _).cell (p := ⟨b, off, none⟩) hbR).trans f1.1, ((hB2.alloc hB2.size _).cell (p := ⟨b, off + 1, none⟩) hbR).trans f1.2⟩) (fun hS3 => ?_)
        clear hK K
        try simp only [Act.put, List.setIfInBounds_toArray, List.set_cons_zero, List.set_cons_succ]
        obtain ⟨w3, hw3⟩ : ∃ w', World.alloc w2 (.cells #[.int .i64 0, .int .i64 0] 74) = w' := ⟨_, rfl⟩
        have hB3 : Below wR.heap.size wR w3 := by rw [← hw3]; exact hB2.alloc hB2.size _
        have hb3 : Below w2.heap.size w2 w3 := by rw [← hw3]; exact (Below.refl _ _).alloc (Nat.le_refl _) _
        have hI3 := hI2.below hb3
        have hF3 : FrB w3 (w2.heap.size) ⟨0, 0⟩ := by rw [← hw3]; exact FrB.new w2 ⟨0, 0⟩
        try rw [hw3]
        try rw [hw3] at hS3
        clear hw3 hb3
        have hghF : wR.heap.size ≤ w2.heap.size := hB2.size
        have hne : w1.heap.size ≠ w2.heap.size := by have h1 := hI2.lt; omega
        obtain ⟨c0, c1, z0, z1⟩ := hI3.cells
        obtain ⟨c2, c3, z2, z3⟩ := hF3.cells
        have hne' : w2.heap.size ≠ w1.heap.size := fun e => hne e.symm
        refine wpAnyH_ready (rs := [10]) (by kernel_rfl) (by simp) ?_
        refine (AllReadyH.cons rfl (fun K hK => ?_) AllReadyH.nil)
        go_simp
        refine hK.out _ _ (⟨((below_set2 hB3 hghI _ _).cell (p := ⟨b, off, none⟩) hbR).trans f1.1, ((below_set2 hB3 hghI _ _).cell (p := ⟨b, off + 1, none⟩) hbR).trans f1.2⟩) (fun hS4 => ?_)
        clear hK K
        try simp only [Act.put, List.setIfInBounds_toArray, List.set_cons_zero, List.set_cons_succ]
        refine wpAnyH_ready (rs := [11]) (by kernel_rfl) (by simp) ?_
        refine (AllReadyH.cons rfl (fun K hK => ?_) AllReadyH.nil)
        go_simp
        refine hK.out _ _ (⟨((below_set2 (below_set2 hB3 hghI _ _) hghF _ _).cell (p := ⟨b, off, none⟩) hbR).trans f1.1, ((below_set2 (below_set2 hB3 hghI _ _) hghF _ _).cell (p := ⟨b, off + 1, none⟩) hbR).trans f1.2⟩) (fun hS5 => ?_)
        clear hK K
        try simp only [Act.put, List.setIfInBounds_toArray, List.set_cons_zero, List.set_cons_succ]
        refine wpAnyH_done (by kernel_rfl) ?_ _
        go_wp2
        go_meet
        exact ⟨w1.heap.size, w2.heap.size, rfl, rfl, (hI3.set x0).other hne' _ _, (hF3.other hne _ _).set _ _, hne, hghI, hghF, (below_set2 (below_set2 hB3 hghI _ _) hghF _ _)⟩
      · go_simp
        refine hK.out _ _ (⟨((hB1.alloc hB1.size _).cell (p := ⟨b, off, none⟩) hbR).trans f1.1, ((hB1.alloc hB1.size _).cell (p := ⟨b, off + 1, none⟩) hbR).trans f1.2⟩) (fun hS6 => ?_)
        clear hK K
        try simp only [Act.put, List.setIfInBounds_toArray, List.set_cons_zero, List.set_cons_succ]
        obtain ⟨w6, hw6⟩ : ∃ w', World.alloc w1 (.cells #[.int .i64 0, .int .i64 0] 74) = w' := ⟨_, rfl⟩
        have hB6 : Below wR.heap.size wR w6 := by rw [← hw6]; exact hB1.alloc hB1.size _
        have hb6 : Below w1.heap.size w1 w6 := by rw [← hw6]; exact (Below.refl _ _).alloc (Nat.le_refl _) _
        have hF6 : FrB w6 (w1.heap.size) ⟨0, 0⟩ := by rw [← hw6]; exact FrB.new w1 ⟨0, 0⟩
        try rw [hw6]
        try rw [hw6] at hS6
        clear hw6 hb6
        have hghF : wR.heap.size ≤ w1.heap.size := hB1.size
        refine wpAnyH_ready (rs := [8]) (by kernel_rfl) (by simp) ?_
        refine (AllReadyH.cons rfl (fun K hK => ?_) AllReadyH.nil)
        go_simp
        refine hK.out _ _ (⟨((hB6.alloc hB6.size _).cell (p := ⟨b, off, none⟩) hbR).trans f1.1, ((hB6.alloc hB6.size _).cell (p := ⟨b, off + 1, none⟩) hbR).trans f1.2⟩) (fun hS7 => ?_)
        clear hK K
        try simp only [Act.put, List.setIfInBounds_toArray, List.set_cons_zero, List.set_cons_succ]
        obtain ⟨w7, hw7⟩ : ∃ w', World.alloc w6 (.cells #[.int .i64 0, .slice none 0 0] 43) = w' := ⟨_, rfl⟩
        have hB7 : Below wR.heap.size wR w7 := by rw [← hw7]; exact hB6.alloc hB6.size _
        have hb7 : Below w6.heap.size w6 w7 := by rw [← hw7]; exact (Below.refl _ _).alloc (Nat.le_refl _) _
        have hF7 := hF6.below hb7
        have hI7 : ItX w7 (w6.heap.size) ⟨0, none, 0, 0, []⟩ := by rw [← hw7]; exact ItX.new w6 ⟨0, none, 0, 0, []⟩
        try rw [hw7]
        try rw [hw7] at hS7
        clear hw7 hb7
        have hghI : wR.heap.size ≤ w6.heap.size := hB6.size
        have hne : w6.heap.size ≠ w1.heap.size := by have h1 := hF6.lt; omega
        obtain ⟨c0, c1, z0, z1⟩ := hI7.cells
        obtain ⟨c2, c3, z2, z3⟩ := hF7.cells
        have hne' : w1.heap.size ≠ w6.heap.size := fun e => hne e.symm
        refine wpAnyH_ready (rs := [10]) (by kernel_rfl) (by simp) ?_
        refine (AllReadyH.cons rfl (fun K hK => ?_) AllReadyH.nil)
        go_simp
        refine hK.out _ _ (⟨((below_set2 hB7 hghI _ _).cell (p := ⟨b, off, none⟩) hbR).trans f1.1, ((below_set2 hB7 hghI _ _).cell (p := ⟨b, off + 1, none⟩) hbR).trans f1.2⟩) (fun hS8 => ?_)
        clear hK K
        try simp only [Act.put, List.setIfInBounds_toArray, List.set_cons_zero, List.set_cons_succ]
        refine wpAnyH_ready (rs := [11]) (by kernel_rfl) (by simp) ?_
        refine (AllReadyH.cons rfl (fun K hK => ?_) AllReadyH.nil)
        go_simp
        refine hK.out _ _ (⟨((below_set2 (below_set2 hB7 hghI _ _) hghF _ _).cell (p := ⟨b, off, none⟩) hbR).trans f1.1, ((below_set2 (below_set2 hB7 hghI _ _) hghF _ _).cell (p := ⟨b, off + 1, none⟩) hbR).trans f1.2⟩) (fun hS9 => ?_)
        clear hK K
        try simp only [Act.put, List.setIfInBounds_toArray, List.set_cons_zero, List.set_cons_succ]
        refine wpAnyH_done (by kernel_rfl) ?_ _
        go_wp2
        go_meet
        exact ⟨w6.heap.size, w1.heap.size, rfl, rfl, (hI7.set x0).other hne' _ _, (hF7.other hne _ _).set _ _, hne, hghI, hghF, (below_set2 (below_set2 hB7 hghI _ _) hghF _ _)⟩
    · go_simp
      refine hK.out _ _ (⟨((hBD.alloc hBD.size _).cell (p := ⟨b, off, none⟩) hbR).trans f1.1, ((hBD.alloc hBD.size _).cell (p := ⟨b, off + 1, none⟩) hbR).trans f1.2⟩) (fun hS10 => ?_)
      clear hK K
      try simp only [Act.put, List.setIfInBounds_toArray, List.set_cons_zero, List.set_cons_succ]
      obtain ⟨w10, hw10⟩ : ∃ w', World.alloc wD (.cells #[.int .i64 0, .slice none 0 0] 43) = w' := ⟨_, rfl⟩
      have hB10 : Below wR.heap.size wR w10 := by rw [← hw10]; exact hBD.alloc hBD.size _
      have hb10 : Below wD.heap.size wD w10 := by rw [← hw10]; exact (Below.refl _ _).alloc (Nat.le_refl _) _
      have hI10 : ItX w10 (wD.heap.size) ⟨0, none, 0, 0, []⟩ := by rw [← hw10]; exact ItX.new wD ⟨0, none, 0, 0, []⟩
      try rw [hw10]
      try rw [hw10] at hS10
      clear hw10 hb10
      have hghI : wR.heap.size ≤ wD.heap.size := hBD.size
      refine wpAnyH_ready (rs := [7, 9]) (by kernel_rfl) (by simp) ?_
      refine (AllReadyH.cons rfl (fun K hK => ?_) (AllReadyH.cons rfl (fun K hK => ?_) AllReadyH.nil))
      · go_simp
        go_at_fn fn
        refine (HC0.out _ (below_on HBR.out hB10)).mono ?_
        rintro e w11 ⟨rfl, hb11⟩
        have hB11 : Below wR.heap.size wR w11 := below_on hB10 hb11
        refine hK.out _ _ (⟨(hB11.cell (p := ⟨b, off, none⟩) hbR).trans f1.1, (hB11.cell (p := ⟨b, off + 1, none⟩) hbR).trans f1.2⟩) (fun hS11 => ?_)
        clear hK K
        try simp only [Act.put, List.setIfInBounds_toArray, List.set_cons_zero, List.set_cons_succ]
        have hI11 := hI10.below hb11
        clear hb11
        refine wpAnyH_ready (rs := [9]) (by kernel_rfl) (by simp) ?_
        refine (AllReadyH.cons rfl (fun K hK => ?_) AllReadyH.nil)
        go_simp
        refine hK.out _ _ (⟨((hB11.alloc hB11.size _).cell (p := ⟨b, off, none⟩) hbR).trans f1.1, ((hB11.alloc hB11.size _).cell (p := ⟨b, off + 1, none⟩) hbR).trans f1.2⟩) (fun hS12 => ?_)
        clear hK K
        try simp only [Act.put, List.setIfInBounds_toArray, List.set_cons_zero, List.set_cons_succ]
        obtain ⟨w12, hw12⟩ : ∃ w', World.alloc w11 (.cells #[.int .i64 0, .int .i64 0] 74) = w' := ⟨_, rfl⟩
        have hB12 : Below wR.heap.size wR w12 := by rw [← hw12]; exact hB11.alloc hB11.size _
        have hb12 : Below w11.heap.size w11 w12 := by rw [← hw12]; exact (Below.refl _ _).alloc (Nat.le_refl _) _
        have hI12 := hI11.below hb12
        have hF12 : FrB w12 (w11.heap.size) ⟨0, 0⟩ := by rw [← hw12]; exact FrB.new w11 ⟨0, 0⟩
        try rw [hw12]
        try rw [hw12] at hS12
        clear hw12 hb12
        have hghF : wR.heap.size ≤ w11.heap.size := hB11.size
        have hne : wD.heap.size ≠ w11.heap.size := by have h1 := hI11.lt; omega
        obtain ⟨c0, c1, z0, z1⟩ := hI12.cells
        obtain ⟨c2, c3, z2, z3⟩ := hF12.cells
        have hne' : w11.heap.size ≠ wD.heap.size := fun e => hne e.symm
        refine wpAnyH_ready (rs := [10]) (by kernel_rfl) (by simp) ?_
        refine (AllReadyH.cons rfl (fun K hK => ?_) AllReadyH.nil)
        go_simp
        refine hK.out _ _ (⟨((below_set2 hB12 hghI _ _).cell (p := ⟨b, off, none⟩) hbR).trans f1.1, ((below_set2 hB12 hghI _ _).cell (p := ⟨b, off + 1, none⟩) hbR).trans f1.2⟩) (fun hS13 => ?_)
        clear hK K
        try simp only [Act.put, List.setIfInBounds_toArray, List.set_cons_zero, List.set_cons_succ]
        refine wpAnyH_ready (rs := [11]) (by kernel_rfl) (by simp) ?_
        refine (AllReadyH.cons rfl (fun K hK => ?_) AllReadyH.nil)
        go_simp
        refine hK.out _ _ (⟨((below_set2 (below_set2 hB12 hghI _ _) hghF _ _).cell (p := ⟨b, off, none⟩) hbR).trans f1.1, ((below_set2 (below_set2 hB12 hghI _ _) hghF _ _).cell (p := ⟨b, off + 1, none⟩) hbR).trans f1.2⟩) (fun hS14 => ?_)
        clear hK K
        try simp only [Act.put, List.setIfInBounds_toArray, List.set_cons_zero, List.set_cons_succ]
        refine wpAnyH_done (by kernel_rfl) ?_ _
        go_wp2
        go_meet
        exact ⟨wD.heap.size, w11.heap.size, rfl, rfl, (hI12.set x0).other hne' _ _, (hF12.other hne _ _).set _ _, hne, hghI, hghF, (below_set2 (below_set2 hB12 hghI _ _) hghF _ _)⟩
      · go_simp
        refine hK.out _ _ (⟨((hB10.alloc hB10.size _).cell (p := ⟨b, off, none⟩) hbR).trans f1.1, ((hB10.alloc hB10.size _).cell (p := ⟨b, off + 1, none⟩) hbR).trans f1.2⟩) (fun hS15 => ?_)
        clear hK K
        try simp only [Act.put, List.setIfInBounds_toArray, List.set_cons_zero, List.set_cons_succ]
        obtain ⟨w15, hw15⟩ : ∃ w', World.alloc w10 (.cells #[.int .i64 0, .int .i64 0] 74) = w' := ⟨_, rfl⟩
        have hB15 : Below wR.heap.size wR w15 := by rw [← hw15]; exact hB10.alloc hB10.size _
        have hb15 : Below w10.heap.size w10 w15 := by rw [← hw15]; exact (Below.refl _ _).alloc (Nat.le_refl _) _
        have hI15 := hI10.below hb15
        have hF15 : FrB w15 (w10.heap.size) ⟨0, 0⟩ := by rw [← hw15]; exact FrB.new w10 ⟨0, 0⟩
        try rw [hw15]
        try rw [hw15] at hS15
        clear hw15 hb15
        have hghF : wR.heap.size ≤ w10.heap.size := hB10.size
        have hne : wD.heap.size ≠ w10.heap.size := by have h1 := hI10.lt; omega
        refine wpAnyH_ready (rs := [7]) (by kernel_rfl) (by simp) ?_
        refine (AllReadyH.cons rfl (fun K hK => ?_) AllReadyH.nil)
        go_simp
        go_at_fn fn
        refine (HC0.out _ (below_on HBR.out hB15)).mono ?_
        rintro e w16 ⟨rfl, hb16⟩
        have hB16 : Below wR.heap.size wR w16 := below_on hB15 hb16
        refine hK.out _ _ (⟨(hB16.cell (p := ⟨b, off, none⟩) hbR).trans f1.1, (hB16.cell (p := ⟨b, off + 1, none⟩) hbR).trans f1.2⟩) (fun hS16 => ?_)
        clear hK K
        try simp only [Act.put, List.setIfInBounds_toArray, List.set_cons_zero, List.set_cons_succ]
        have hI16 := hI15.below hb16
        have hF16 := hF15.below hb16
        clear hb16
        obtain ⟨c0, c1, z0, z1⟩ := hI16.cells
        obtain ⟨c2, c3, z2, z3⟩ := hF16.cells
        have hne' : w10.heap.size ≠ wD.heap.size := fun e => hne e.symm
        refine wpAnyH_ready (rs := [10]) (by kernel_rfl) (by simp) ?_
        refine (AllReadyH.cons rfl (fun K hK => ?_) AllReadyH.nil)
        go_simp
        refine hK.out _ _ (⟨((below_set2 hB16 hghI _ _).cell (p := ⟨b, off, none⟩) hbR).trans f1.1, ((below_set2 hB16 hghI _ _).cell (p := ⟨b, off + 1, none⟩) hbR).trans f1.2⟩) (fun hS17 => ?_)
        clear hK K
        try simp only [Act.put, List.setIfInBounds_toArray, List.set_cons_zero, List.set_cons_succ]
        refine wpAnyH_ready (rs := [11]) (by kernel_rfl) (by simp) ?_
        refine (AllReadyH.cons rfl (fun K hK => ?_) AllReadyH.nil)
        go_simp
        refine hK.out _ _ (⟨((below_set2 (below_set2 hB16 hghI _ _) hghF _ _).cell (p := ⟨b, off, none⟩) hbR).trans f1.1, ((below_set2 (below_set2 hB16 hghI _ _) hghF _ _).cell (p := ⟨b, off + 1, none⟩) hbR).trans f1.2⟩) (fun hS18 => ?_)
        clear hK K
        try simp only [Act.put, List.setIfInBounds_toArray, List.set_cons_zero, List.set_cons_succ]
        refine wpAnyH_done (by kernel_rfl) ?_ _
        go_wp2
        go_meet
        exact ⟨wD.heap.size, w10.heap.size, rfl, rfl, (hI16.set x0).other hne' _ _, (hF16.other hne _ _).set _ _, hne, hghI, hghF, (below_set2 (below_set2 hB16 hghI _ _) hghF _ _)⟩
    · go_simp
      refine hK.out _ _ (⟨((hBD.alloc hBD.size _).cell (p := ⟨b, off, none⟩) hbR).trans f1.1, ((hBD.alloc hBD.size _).cell (p := ⟨b, off + 1, none⟩) hbR).trans f1.2⟩) (fun hS19 => ?_)
      clear hK K
      try simp only [Act.put, List.setIfInBounds_toArray, List.set_cons_zero, List.set_cons_succ]
      obtain ⟨w19, hw19⟩ : ∃ w', World.alloc wD (.cells #[.int .i64 0, .int .i64 0] 74) = w' := ⟨_, rfl⟩
      have hB19 : Below wR.heap.size wR w19 := by rw [← hw19]; exact hBD.alloc hBD.size _
      have hb19 : Below wD.heap.size wD w19 := by rw [← hw19]; exact (Below.refl _ _).alloc (Nat.le_refl _) _
      have hF19 : FrB w19 (wD.heap.size) ⟨0, 0⟩ := by rw [← hw19]; exact FrB.new wD ⟨0, 0⟩
      try rw [hw19]
      try rw [hw19] at hS19
      clear hw19 hb19
      have hghF : wR.heap.size ≤ wD.heap.size := hBD.size
      refine wpAnyH_ready (rs := [7, 8]) (by kernel_rfl) (by simp) ?_
      refine (AllReadyH.cons rfl (fun K hK => ?_) (AllReadyH.cons rfl (fun K hK => ?_) AllReadyH.nil))
      · go_simp
        go_at_fn fn
        refine (HC0.out _ (below_on HBR.out hB19)).mono ?_
        rintro e w20 ⟨rfl, hb20⟩
        have hB20 : Below wR.heap.size wR w20 := below_on hB19 hb20
        refine hK.out _ _ (⟨(hB20.cell (p := ⟨b, off, none⟩) hbR).trans f1.1, (hB20.cell (p := ⟨b, off + 1, none⟩) hbR).trans f1.2⟩) (fun hS20 => ?_)
        clear hK K
        try simp only [Act.put, List.setIfInBounds_toArray, List.set_cons_zero, List.set_cons_succ]
        have hF20 := hF19.below hb20
        clear hb20
        refine wpAnyH_ready (rs := [8]) (by kernel_rfl) (by simp) ?_
        refine (AllReadyH.cons rfl (fun K hK => ?_) AllReadyH.nil)
        go_simp
        refine hK.out _ _ (⟨((hB20.alloc hB20.size _).cell (p := ⟨b, off, none⟩) hbR).trans f1.1, ((hB20.alloc hB20.size _).cell (p := ⟨b, off + 1, none⟩) hbR).trans f1.2⟩) (fun hS21 => ?_)
        clear hK K
        try simp only [Act.put, List.setIfInBounds_toArray, List.set_cons_zero, List.set_cons_succ]
        obtain ⟨w21, hw21⟩ : ∃ w', World.alloc w20 (.cells #[.int .i64 0, .slice none 0 0] 43) = w' := ⟨_, rfl⟩
        have hB21 : Below wR.heap.size wR w21 := by rw [← hw21]; exact hB20.alloc hB20.size _
        have hb21 : Below w20.heap.size w20 w21 := by rw [← hw21]; exact (Below.refl _ _).alloc (Nat.le_refl _) _
        have hF21 := hF20.below hb21
        have hI21 : ItX w21 (w20.heap.size) ⟨0, none, 0, 0, []⟩ := by rw [← hw21]; exact ItX.new w20 ⟨0, none, 0, 0, []⟩
        try rw [hw21]
        try rw [hw21] at hS21
        clear hw21 hb21
        have hghI : wR.heap.size ≤ w20.heap.size := hB20.size
        have hne : w20.heap.size ≠ wD.heap.size := by have h1 := hF20.lt; omega
        obtain ⟨c0, c1, z0, z1⟩ := hI21.cells
        obtain ⟨c2, c3, z2, z3⟩ := hF21.cells
        have hne' : wD.heap.size ≠ w20.heap.size := fun e => hne e.symm
        refine wpAnyH_ready (rs := [10]) (by kernel_rfl) (by simp) ?_
        refine (AllReadyH.cons rfl (fun K hK => ?_) AllReadyH.nil)
        go_simp
        refine hK.out _ _ (⟨((below_set2 hB21 hghI _ _).cell (p := ⟨b, off, none⟩) hbR).trans f1.1, ((below_set2 hB21 hghI _ _).cell (p := ⟨b, off + 1, none⟩) hbR).trans f1.2⟩) (fun hS22 => ?_)
        clear hK K
        try simp only [Act.put, List.setIfInBounds_toArray, List.set_cons_zero, List.set_cons_succ]
        refine wpAnyH_ready (rs := [11]) (by kernel_rfl) (by simp) ?_
        refine (AllReadyH.cons rfl (fun K hK => ?_) AllReadyH.nil)
        go_simp
        refine hK.out _ _ (⟨((below_set2 (below_set2 hB21 hghI _ _) hghF _ _).cell (p := ⟨b, off, none⟩) hbR).trans f1.1, ((below_set2 (below_set2 hB21 hghI _ _) hghF _ _).cell (p := ⟨b, off + 1, none⟩) hbR).trans f1.2⟩) (fun hS23 => ?_)
        clear hK K
        try simp only [Act.put, List.setIfInBounds_toArray, List.set_cons_zero, List.set_cons_succ]
        refine wpAnyH_done (by kernel_rfl) ?_ _
        go_wp2
        go_meet
        exact ⟨w20.heap.size, wD.heap.size, rfl, rfl, (hI21.set x0).other hne' _ _, (hF21.other hne _ _).set _ _, hne, hghI, hghF, (below_set2 (below_set2 hB21 hghI _ _) hghF _ _)⟩
      · go_simp
        refine hK.out _ _ (⟨((hB19.alloc hB19.size _).cell (p := ⟨b, off, none⟩) hbR).trans f1.1, ((hB19.alloc hB19.size _).cell (p := ⟨b, off + 1, none⟩) hbR).trans f1.2⟩) (fun hS24 => ?_)
        clear hK K
        try simp only [Act.put, List.setIfInBounds_toArray, List.set_cons_zero, List.set_cons_succ]
        obtain ⟨w24, hw24⟩ : ∃ w', World.alloc w19 (.cells #[.int .i64 0, .slice none 0 0] 43) = w' := ⟨_, rfl⟩
        have hB24 : Below wR.heap.size wR w24 := by rw [← hw24]; exact hB19.alloc hB19.size _
        have hb24 : Below w19.heap.size w19 w24 := by rw [← hw24]; exact (Below.refl _ _).alloc (Nat.le_refl _) _
        have hF24 := hF19.below hb24
        have hI24 : ItX w24 (w19.heap.size) ⟨0, none, 0, 0, []⟩ := by rw [← hw24]; exact ItX.new w19 ⟨0, none, 0, 0, []⟩
        try rw [hw24]
        try rw [hw24] at hS24
        clear hw24 hb24
        have hghI : wR.heap.size ≤ w19.heap.size := hB19.size
        have hne : w19.heap.size ≠ wD.heap.size := by have h1 := hF19.lt; omega
        refine wpAnyH_ready (rs := [7]) (by kernel_rfl) (by simp) ?_
        refine (AllReadyH.cons rfl (fun K hK => ?_) AllReadyH.nil)
        go_simp
        go_at_fn fn
        refine (HC0.out _ (below_on HBR.out hB24)).mono ?_
        rintro e w25 ⟨rfl, hb25⟩
        have hB25 : Below wR.heap.size wR w25 := below_on hB24 hb25
        refine hK.out _ _ (⟨(hB25.cell (p := ⟨b, off, none⟩) hbR).trans f1.1, (hB25.cell (p := ⟨b, off + 1, none⟩) hbR).trans f1.2⟩) (fun hS25 => ?_)
        clear hK K
        try simp only [Act.put, List.setIfInBounds_toArray, List.set_cons_zero, List.set_cons_succ]
        have hF25 := hF24.below hb25
        have hI25 := hI24.below hb25
        clear hb25
        obtain ⟨c0, c1, z0, z1⟩ := hI25.cells
        obtain ⟨c2, c3, z2, z3⟩ := hF25.cells
        have hne' : wD.heap.size ≠ w19.heap.size := fun e => hne e.symm
        refine wpAnyH_ready (rs := [10]) (by kernel_rfl) (by simp) ?_
        refine (AllReadyH.cons rfl (fun K hK => ?_) AllReadyH.nil)
        go_simp
        refine hK.out _ _ (⟨((below_set2 hB25 hghI _ _).cell (p := ⟨b, off, none⟩) hbR).trans f1.1, ((below_set2 hB25 hghI _ _).cell (p := ⟨b, off + 1, none⟩) hbR).trans f1.2⟩) (fun hS26 => ?_)
        clear hK K
        try simp only [Act.put, List.setIfInBounds_toArray, List.set_cons_zero, List.set_cons_succ]
        refine wpAnyH_ready (rs := [11]) (by kernel_rfl) (by simp) ?_
        refine (AllReadyH.cons rfl (fun K hK => ?_) AllReadyH.nil)
        go_simp
        refine hK.out _ _ (⟨((below_set2 (below_set2 hB25 hghI _ _) hghF _ _).cell (p := ⟨b, off, none⟩) hbR).trans f1.1, ((below_set2 (below_set2 hB25 hghI _ _) hghF _ _).cell (p := ⟨b, off + 1, none⟩) hbR).trans f1.2⟩) (fun hS27 => ?_)
        clear hK K
        try simp only [Act.put, List.setIfInBounds_toArray, List.set_cons_zero, List.set_cons_succ]
        refine wpAnyH_done (by kernel_rfl) ?_ _
        go_wp2
        go_meet
        exact ⟨w19.heap.size, wD.heap.size, rfl, rfl, (hI25.set x0).other hne' _ _, (hF25.other hne _ _).set _ _, hne, hghI, hghF, (below_set2 (below_set2 hB25 hghI _ _) hghF _ _)⟩
  case rest =>
  obtain ⟨g6, g7, rfl, rfl, hi6, hf7, hne, hg6, hg7, hb9⟩ := hcut
  rename World => w9
  have HSz : Hid (w.heap.size + 2 ≤ wR.heap.size) := Lib.hid (by have := HF0.out.lt; omega)
  have HSt : Hid (LtS w its fr g6 g7 0 x0 w9) := Lib.hid ⟨by rw [take_at HA0.out]; rfl, hi6, hf7, HI0.out.below hb9, HF0.out.below hb9, hne, Nat.le_trans HSz.out hg6, Nat.le_trans HSz.out hg7, below_on HBR.out hb9⟩
  have h1c : (1 : Int) ≤ (n : Int) := by omega
  have h1d : (n : Int) ≤ (c : Int) := by omega
  have h1e : (c : Int) ≤ 9223372036854775807 := by omega
  clear hi6 hf7 hne hg6 hg7 hb9 f1 hbR HF0 HI0 HC0 HBR HA0 HC1
  by_cases hcc : c = 1
  · obtain rfl : n = 1 := by omega
    subst hcc
    go_wp2
    go_loopw [22] (fun iv wr => iv = .int .i64 0 ∧ LtS w its fr g6 g7 0 x0 wr) (fun _ _ => 0)
    case atStart => exact ⟨rfl, HSt.out⟩
    case round =>
      obtain ⟨rfl, hst⟩ := hrel
      have HS := Lib.hid hst
      clear hst
      obtain ⟨y, hy⟩ : ∃ y, y = x0 := ⟨_, rfl⟩
      rw [← hy] at HS
      have HY2 : Hid (bestF fr its = some y) := Lib.hid (by have h1 := HS.out.best; rwa [take_all hl] at h1)
      clear hy
      obtain ⟨q0, q1, -, -⟩ := HS.out.i.cells
      obtain ⟨q2, q3, -, -⟩ := HS.out.f.cells
      obtain ⟨r0, r1, y0, y1⟩ := HS.out.i0.cells
      obtain ⟨r2, r3, y2, y3⟩ := HS.out.f0.cells
      have hl6 := HS.out.l6
      have hl7 := HS.out.l7
      go_upto_region 9 with (fail)
      have hS0 : (fun w' => w'.cell? ⟨g6, 0, none⟩ = some (.int .i64 y.id) ∧ w'.cell? ⟨g6, 1, none⟩ = some (.slice y.A y.n y.c) ∧ w'.cell? ⟨g7, 0, none⟩ = some (.int .i64 (fr y).num) ∧ w'.cell? ⟨g7, 1, none⟩ = some (.int .i64 (fr y).den)) wr.drew := ⟨q0, q1, q2, q3⟩
      refine wp_region_held (S := fun w' => w'.cell? ⟨g6, 0, none⟩ = some (.int .i64 y.id) ∧ w'.cell? ⟨g6, 1, none⟩ = some (.slice y.A y.n y.c) ∧ w'.cell? ⟨g7, 0, none⟩ = some (.int .i64 (fr y).num) ∧ w'.cell? ⟨g7, 1, none⟩ = some (.int .i64 (fr y).den)) (by kernel_rfl) ?_
      change wpAnyH _ _ _ _ _ _ _ _ (World.drew _)
      refine takeY 35 (i := 0) (v := ?vx10) rfl rfl (by kernel_rfl) (by kernel_rfl) (by kernel_rfl) (fun _ _ _ h => h) (by kernel_rfl) ?yx10 hS0 ?_
      case yx10 =>
        intro w' hw'; (try dsimp only at hw'); obtain ⟨q1, q2, q3, q4⟩ := hw'; go_simp; try with_reducible rfl
      simp only [Act.put, List.setIfInBounds_toArray, List.set_cons_zero, List.set_cons_succ]
      refine takeY 36 (i := 1) (v := ?vx11) rfl rfl (by kernel_rfl) (by kernel_rfl) (by kernel_rfl) (fun _ _ _ h => h) (by kernel_rfl) ?yx11 hS0 ?_
      case yx11 =>
        intro w' hw'; (try dsimp only at hw'); obtain ⟨q1, q2, q3, q4⟩ := hw'; go_simp; try with_reducible rfl
      simp only [Act.put, List.setIfInBounds_toArray, List.set_cons_zero, List.set_cons_succ]
      refine wpAnyH_ready (rs := [2]) (by kernel_rfl) (by simp) ?_
      refine (AllReadyH.cons rfl (fun K hK => ?_) AllReadyH.nil)
      go_simp
      refine hK.out _ _ (⟨cell_set2 (show w.heap.size ≠ g6 by omega) q0 _ _, cell_set2 (show w.heap.size ≠ g6 by omega) q1 _ _, cell_set2 (show w.heap.size ≠ g7 by omega) q2 _ _, cell_set2 (show w.heap.size ≠ g7 by omega) q3 _ _⟩) (fun hS1 => ?_)
      clear hK K
      try simp only [Act.put, List.setIfInBounds_toArray, List.set_cons_zero, List.set_cons_succ]
      refine wpAnyH_ready (rs := [3]) (by kernel_rfl) (by simp) ?_
      refine (AllReadyH.cons rfl (fun K hK => ?_) AllReadyH.nil)
      go_simp
      refine hK.out _ _ (⟨cell_set2 (show w.heap.size + 1 ≠ g6 by omega) (cell_set2 (show w.heap.size ≠ g6 by omega) q0 _ _) _ _, cell_set2 (show w.heap.size + 1 ≠ g6 by omega) (cell_set2 (show w.heap.size ≠ g6 by omega) q1 _ _) _ _, cell_set2 (show w.heap.size + 1 ≠ g7 by omega) (cell_set2 (show w.heap.size ≠ g7 by omega) q2 _ _) _ _, cell_set2 (show w.heap.size + 1 ≠ g7 by omega) (cell_set2 (show w.heap.size ≠ g7 by omega) q3 _ _) _ _⟩) (fun hS2 => ?_)
      clear hK K
      try simp only [Act.put, List.setIfInBounds_toArray, List.set_cons_zero, List.set_cons_succ]
      refine wpAnyH_done (by kernel_rfl) ?_ _
      go_wp2
      refine bodyPost_ret_by (results_rowsF rfl _ _ w.heap.size (w.heap.size + 1) 43 74 _ _ (0, 0) (0, 0) _ _ rfl rfl (((HS.out.step (Below.refl _ wr).drew).i0.set y).other (by omega) _ _) (((HS.out.step (Below.refl _ wr).drew).f0.other (by omega) _ _).set (fr y).num (fr y).den) Try.underlying43 rfl (by kernel_rfl) Try.underlying74 rfl (by kernel_rfl)) rfl ?_
      exact ⟨⟨y, HY2.out, rfl⟩, below_set2 (below_set2 HS.out.b.drew (Nat.le_refl _) _ _) (Nat.le_succ _) _ _⟩
  · have h1f : ¬ c = 1 := hcc
    have h1g : ((1 : Int) == (c : Int)) = false := by simp; omega
    go_wp2
    go_loopw [22] (fun iv wr => ∃ (k : Nat) (y : It), k + 1 ≤ n ∧ iv = .int .i64 k ∧ LtS w its fr g6 g7 k y wr) (fun iv _ => n - (intOf iv).toNat)
    case atStart => exact ⟨0, x0, by omega, rfl, HSt.out⟩
    case round =>
      obtain ⟨k, y, hk, rfl, hst⟩ := hrel
      have HS := Lib.hid hst
      have HYm : Hid (y ∈ its) := Lib.hid (List.mem_of_mem_take (bestF_mem _ _ hst.best))
      clear hst
      by_cases hlt : k + 1 < n
      · obtain ⟨b', off', x, hbo, -, hat, hd, hd'⟩ := it_at HX.out hlt
        obtain ⟨rfl, rfl⟩ : b = b' ∧ off = off' := by injection hbo with h; injection h with h2 h3; exact ⟨h2, h3⟩
        have f0 : wr.cell? ⟨b, off + 2 + k * 2, none⟩ = some (.int .i64 x.id) := by
          have e : off + 2 + k * 2 = off + (k + 1) * 2 := by omega
          rw [e]
          exact (HS.out.b.cell (p := ⟨b, off + (k + 1) * 2, none⟩) hb).trans hd
        have f0' : wr.cell? ⟨b, off + 2 + k * 2 + 1, none⟩ = some (.slice x.A x.n x.c) := by
          have e : off + 2 + k * 2 + 1 = off + (k + 1) * 2 + 1 := by omega
          rw [e]
          exact (HS.out.b.cell (p := ⟨b, off + (k + 1) * 2 + 1, none⟩) hb).trans hd'
        have HAt := Lib.hid hat
        have HXm : Hid (x ∈ its) := Lib.hid (mem_of_at hat)
        have hlt' : (k : Int) < ((n - 1 : Nat) : Int) := by omega
        have HCx : Hid (∀ W, Below w.heap.size w W → Calls Try.prog fn (#[.agg #[.int .i64 x.id, .slice x.A x.n x.c]] ++ cb) W fun e w' => e = .returned (.agg #[.int .i64 (fr x).num, .int .i64 (fr x).den]) ∧ Below W.heap.size W w') := Lib.hid fun W hW => HF.out W hW x HXm.out
        obtain ⟨wa, hwa⟩ : ∃ wa, wr.alloc (.cells #[.int .i64 x.id, .slice x.A x.n x.c] 43) = wa := ⟨_, rfl⟩
        have hba : Below wr.heap.size wr wa := by rw [← hwa]; exact (Below.refl _ wr).alloc (Nat.le_refl _) _
        have HSa := Lib.hid (HS.out.step hba)
        have HXa : Hid (ItX wa wr.heap.size x) := Lib.hid (by rw [← hwa]; exact ItX.new wr x)
        clear hbo hat hd hd' hba
        go_upto_region 5 with (fail)
        clear hwa f0 f0'
        obtain ⟨p0, p1, -, -⟩ := HXa.out.cells
        go_wp2_with fail
        refine (HCx.out _ HSa.out.b).mono ?_
        rintro e w2 ⟨rfl, hb2⟩
        obtain ⟨w3, hw3⟩ : ∃ w3, w2.alloc (.cells #[.int .i64 (fr x).num, .int .i64 (fr x).den] 74) = w3 := ⟨_, rfl⟩
        have hb3 : Below w2.heap.size w2 w3 := by rw [← hw3]; exact (Below.refl _ w2).alloc (Nat.le_refl _) _
        have HP3 : Hid (FrB w3 w2.heap.size (fr x)) := Lib.hid (by rw [← hw3]; exact FrB.new w2 (fr x))
        have HS3 := Lib.hid (HSa.out.step (below_on hb2 hb3))
        have HX3 := Lib.hid (HXa.out.below (below_on hb2 hb3))
        have HN1 : Hid (g6 < wr.heap.size ∧ g7 < wr.heap.size ∧ wr.heap.size < w2.heap.size) := Lib.hid ⟨HS.out.i.lt, HS.out.f.lt, Nat.lt_of_lt_of_le HXa.out.lt hb2.size⟩
        clear hb2 hb3 HCx p0 p1
        go_upto_region 6 with (fail)
        clear hw3
        obtain ⟨p0, p1, -, -⟩ := HP3.out.cells
        obtain ⟨q0, q1, -, -⟩ := HS3.out.f.cells
        go_wp2_with fail
        refine (less_c (fr x) (fr y) (HSm.out x HXm.out) (HSm.out y HYm.out) _).mono ?_
        rintro e w4 ⟨rfl, hb4⟩
        have HS4 := Lib.hid (HS3.out.step hb4)
        have HP4 := Lib.hid (HP3.out.below hb4)
        have HX4 := Lib.hid (HX3.out.below hb4)
        clear p0 p1 q0 q1 hb4
        obtain ⟨z, hz⟩ : ∃ z, (fr x).less (fr y) = z := ⟨_, rfl⟩
        rw [hz]
        have HZ := Lib.hid hz
        clear hz
        cases z
        · go_wp2
          go_roundw
          case rel => exact ⟨k + 1, y, by omega, by go_num, HS4.out.keep (by rw [take_at HAt.out]; exact bestF_no HS.out.best HZ.out)⟩
          case measure => simp [intOf]; omega
        · obtain ⟨p0, p1, -, -⟩ := HX4.out.cells
          obtain ⟨q0, q1, -, -⟩ := HP4.out.cells
          obtain ⟨r0, r1, y0, y1⟩ := HS4.out.i.cells
          obtain ⟨s0, s1, y2, y3⟩ := HS4.out.f.cells
          have hne1 : g6 ≠ wr.heap.size := by have := HN1.out; omega
          have hne2 : g6 ≠ w2.heap.size := by have := HN1.out; omega
          have hne3 : g7 ≠ wr.heap.size := by have := HN1.out; omega
          have hne4 : g7 ≠ w2.heap.size := by have := HN1.out; omega
          have hne5 := HS4.out.ne
          go_upto_region 7 with (fail)
          have hS0 : (fun w' => w'.cell? ⟨wr.heap.size, 0, none⟩ = some (.int .i64 x.id) ∧ w'.cell? ⟨wr.heap.size, 1, none⟩ = some (.slice x.A x.n x.c) ∧ w'.cell? ⟨w2.heap.size, 0, none⟩ = some (.int .i64 (fr x).num) ∧ w'.cell? ⟨w2.heap.size, 1, none⟩ = some (.int .i64 (fr x).den)) w4.drew := ⟨p0, p1, q0, q1⟩
          refine wp_region_held (S := fun w' => w'.cell? ⟨wr.heap.size, 0, none⟩ = some (.int .i64 x.id) ∧ w'.cell? ⟨wr.heap.size, 1, none⟩ = some (.slice x.A x.n x.c) ∧ w'.cell? ⟨w2.heap.size, 0, none⟩ = some (.int .i64 (fr x).num) ∧ w'.cell? ⟨w2.heap.size, 1, none⟩ = some (.int .i64 (fr x).den)) (by kernel_rfl) ?_
          change wpAnyH _ _ _ _ _ _ _ _ (World.drew _)
          refine takeY 32 (i := 0) (v := ?vx8) rfl rfl (by kernel_rfl) (by kernel_rfl) (by kernel_rfl) (fun _ _ _ h => h) (by kernel_rfl) ?yx8 hS0 ?_
          case yx8 =>
            intro w' hw'; (try dsimp only at hw'); obtain ⟨q1, q2, q3, q4⟩ := hw'; go_simp; try with_reducible rfl
          simp only [Act.put, List.setIfInBounds_toArray, List.set_cons_zero, List.set_cons_succ]
          refine takeY 33 (i := 1) (v := ?vx9) rfl rfl (by kernel_rfl) (by kernel_rfl) (by kernel_rfl) (fun _ _ _ h => h) (by kernel_rfl) ?yx9 hS0 ?_
          case yx9 =>
            intro w' hw'; (try dsimp only at hw'); obtain ⟨q1, q2, q3, q4⟩ := hw'; go_simp; try with_reducible rfl
          simp only [Act.put, List.setIfInBounds_toArray, List.set_cons_zero, List.set_cons_succ]
          refine wpAnyH_ready (rs := [2]) (by kernel_rfl) (by simp) ?_
          refine (AllReadyH.cons rfl (fun K hK => ?_) AllReadyH.nil)
          go_simp
          refine hK.out _ _ (⟨cell_set2 hne1 p0 _ _, cell_set2 hne1 p1 _ _, cell_set2 hne2 q0 _ _, cell_set2 hne2 q1 _ _⟩) (fun hS1 => ?_)
          clear hK K
          try simp only [Act.put, List.setIfInBounds_toArray, List.set_cons_zero, List.set_cons_succ]
          refine wpAnyH_ready (rs := [3]) (by kernel_rfl) (by simp) ?_
          refine (AllReadyH.cons rfl (fun K hK => ?_) AllReadyH.nil)
          go_simp
          refine hK.out _ _ (⟨cell_set2 hne3 (cell_set2 hne1 p0 _ _) _ _, cell_set2 hne3 (cell_set2 hne1 p1 _ _) _ _, cell_set2 hne4 (cell_set2 hne2 q0 _ _) _ _, cell_set2 hne4 (cell_set2 hne2 q1 _ _) _ _⟩) (fun hS2 => ?_)
          clear hK K
          try simp only [Act.put, List.setIfInBounds_toArray, List.set_cons_zero, List.set_cons_succ]
          refine wpAnyH_done (by kernel_rfl) ?_ _
          go_wp2
          go_roundw
          case rel => exact ⟨k + 1, x, by omega, by go_num, (HS4.out.step (Below.refl _ w4).drew).put (by rw [take_at HAt.out]; exact bestF_yes HS.out.best HZ.out)⟩
          case measure => simp [intOf]; omega
      · have hkn : k + 1 = n := by omega
        have hlt' : ¬ (k : Int) < ((n - 1 : Nat) : Int) := by omega
        have HY2 : Hid (bestF fr its = some y) := Lib.hid (by have h1 := HS.out.best; rwa [hkn, take_all hl] at h1)
        obtain ⟨q0, q1, -, -⟩ := HS.out.i.cells
        obtain ⟨q2, q3, -, -⟩ := HS.out.f.cells
        obtain ⟨r0, r1, y0, y1⟩ := HS.out.i0.cells
        obtain ⟨r2, r3, y2, y3⟩ := HS.out.f0.cells
        have hl6 := HS.out.l6
        have hl7 := HS.out.l7
        go_upto_region 9 with (fail)
        have hS0 : (fun w' => w'.cell? ⟨g6, 0, none⟩ = some (.int .i64 y.id) ∧ w'.cell? ⟨g6, 1, none⟩ = some (.slice y.A y.n y.c) ∧ w'.cell? ⟨g7, 0, none⟩ = some (.int .i64 (fr y).num) ∧ w'.cell? ⟨g7, 1, none⟩ = some (.int .i64 (fr y).den)) wr.drew := ⟨q0, q1, q2, q3⟩
        refine wp_region_held (S := fun w' => w'.cell? ⟨g6, 0, none⟩ = some (.int .i64 y.id) ∧ w'.cell? ⟨g6, 1, none⟩ = some (.slice y.A y.n y.c) ∧ w'.cell? ⟨g7, 0, none⟩ = some (.int .i64 (fr y).num) ∧ w'.cell? ⟨g7, 1, none⟩ = some (.int .i64 (fr y).den)) (by kernel_rfl) ?_
        change wpAnyH _ _ _ _ _ _ _ _ (World.drew _)
        refine takeY 35 (i := 0) (v := ?vx12) rfl rfl (by kernel_rfl) (by kernel_rfl) (by kernel_rfl) (fun _ _ _ h => h) (by kernel_rfl) ?yx12 hS0 ?_
        case yx12 =>
          intro w' hw'; (try dsimp only at hw'); obtain ⟨q1, q2, q3, q4⟩ := hw'; go_simp; try with_reducible rfl
        simp only [Act.put, List.setIfInBounds_toArray, List.set_cons_zero, List.set_cons_succ]
        refine takeY 36 (i := 1) (v := ?vx13) rfl rfl (by kernel_rfl) (by kernel_rfl) (by kernel_rfl) (fun _ _ _ h => h) (by kernel_rfl) ?yx13 hS0 ?_
        case yx13 =>
          intro w' hw'; (try dsimp only at hw'); obtain ⟨q1, q2, q3, q4⟩ := hw'; go_simp; try with_reducible rfl
        simp only [Act.put, List.setIfInBounds_toArray, List.set_cons_zero, List.set_cons_succ]
        refine wpAnyH_ready (rs := [2]) (by kernel_rfl) (by simp) ?_
        refine (AllReadyH.cons rfl (fun K hK => ?_) AllReadyH.nil)
        go_simp
        refine hK.out _ _ (⟨cell_set2 (show w.heap.size ≠ g6 by omega) q0 _ _, cell_set2 (show w.heap.size ≠ g6 by omega) q1 _ _, cell_set2 (show w.heap.size ≠ g7 by omega) q2 _ _, cell_set2 (show w.heap.size ≠ g7 by omega) q3 _ _⟩) (fun hS1 => ?_)
        clear hK K
        try simp only [Act.put, List.setIfInBounds_toArray, List.set_cons_zero, List.set_cons_succ]
        refine wpAnyH_ready (rs := [3]) (by kernel_rfl) (by simp) ?_
        refine (AllReadyH.cons rfl (fun K hK => ?_) AllReadyH.nil)
        go_simp
        refine hK.out _ _ (⟨cell_set2 (show w.heap.size + 1 ≠ g6 by omega) (cell_set2 (show w.heap.size ≠ g6 by omega) q0 _ _) _ _, cell_set2 (show w.heap.size + 1 ≠ g6 by omega) (cell_set2 (show w.heap.size ≠ g6 by omega) q1 _ _) _ _, cell_set2 (show w.heap.size + 1 ≠ g7 by omega) (cell_set2 (show w.heap.size ≠ g7 by omega) q2 _ _) _ _, cell_set2 (show w.heap.size + 1 ≠ g7 by omega) (cell_set2 (show w.heap.size ≠ g7 by omega) q3 _ _) _ _⟩) (fun hS2 => ?_)
        clear hK K
        try simp only [Act.put, List.setIfInBounds_toArray, List.set_cons_zero, List.set_cons_succ]
        refine wpAnyH_done (by kernel_rfl) ?_ _
        go_wp2
        refine bodyPost_ret_by (results_rowsF rfl _ _ w.heap.size (w.heap.size + 1) 43 74 _ _ (0, 0) (0, 0) _ _ rfl rfl (((HS.out.step (Below.refl _ wr).drew).i0.set y).other (by omega) _ _) (((HS.out.step (Below.refl _ wr).drew).f0.other (by omega) _ _).set (fr y).num (fr y).den) Try.underlying43 rfl (by kernel_rfl) Try.underlying74 rfl (by kernel_rfl)) rfl ?_
        exact ⟨⟨y, HY2.out, rfl⟩, below_set2 (below_set2 HS.out.b.drew (Nat.le_refl _) _ _) (Nat.le_succ _) _ _⟩
end Go.Proofs.Ytjjlhiaghjipcaa.num
