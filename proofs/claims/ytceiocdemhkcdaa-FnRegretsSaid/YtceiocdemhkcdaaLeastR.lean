/-
  The program's leastBy over lists of ints: the first one with the least fraction.
-/
import Derived.BigQuiet
import Derived.Deep.Cut
import Derived.Deep.CutRange
import Derived.Test.YtceiocdemhkcdaaLeastMath
import Derived.Test.YtceiocdemhkcdaaFrac
import Derived.Test.YtceiocdemhkcdaaRegion
namespace Go.Proofs.Ytceiocdemhkcdaa.num
set_option maxRecDepth 20000
open Go.RowKit
set_option linter.unusedVariables false
set_option linter.unusedSimpArgs false

/-- A slice of ints, as an element of a slice. -/
structure IR where
  A : Option Addr
  n : Nat
  c : Nat
  xs : List Int
def irC (x : IR) : List Value := [.slice x.A x.n x.c]
theorem irC_len (x : IR) : (irC x).length = 1 := rfl
theorem irC_one (x : IR) : ∀ u ∈ irC x, u.oneCell' = true := by
  intro u hu
  simp only [irC, List.mem_singleton] at hu
  subst hu; rfl
theorem ir_at {w : World} {B : Nat} {A : Option Addr} {n : Nat} {l : List IR} (h : ReadG irC 1 w B A n l) {k : Nat} (hk : k < n) :
    ∃ (b off : Nat) (x : IR), A = some ⟨b, off, none⟩ ∧ b < B ∧ l[k]? = some x ∧ w.cell? ⟨b, off + k, none⟩ = some (.slice x.A x.n x.c) := by
  obtain ⟨x, hx⟩ := h.get hk
  obtain ⟨b, off, hA, hb, hc⟩ := h.at' k x hx
  have h0 := hc 0 _ rfl
  rw [Nat.mul_one] at h0
  exact ⟨b, off, x, hA, hb, hx, h0⟩
set_option maxRecDepth 20000 in
set_option maxHeartbeats 3200000 in
theorem iLeastR (w : World) (A : Option Addr) (n c : Nat) (rows : List IR) (h : ReadG irC 1 w w.heap.size A n rows) (h0 : 0 < n) (hn : n ≤ 1048576) (hnc : n ≤ c) (hc1 : 1 < c) (hcm : c ≤ 9223372036854775807) (fn : Nat) (cb : Array Value) (eg : ∀ args w, (callFunc fn args).run Try.prog w = .ok (.enter fn args) w) (fr : IR → Fr) (hsm : ∀ x ∈ rows, (fr x).Small)
    (HC : ∀ W, Below w.heap.size w W → ∀ x ∈ rows, Calls Try.prog fn (#[.slice x.A x.n x.c] ++ cb) W fun e w' => e = .returned (.agg #[.int .i64 (fr x).num, .int .i64 (fr x).den]) ∧ Below W.heap.size W w') :
    Calls Try.prog 74 #[.slice A n c, .func (.func fn) #[] cb] w fun e w' => (∃ x, bestF fr rows = some x ∧ e = .returned (.tuple #[.slice x.A x.n x.c, .agg #[.int .i64 (fr x).num, .int .i64 (fr x).den]])) ∧ Below w.heap.size w w' := by
  have HX := Lib.hid h
  have HF := Lib.hid HC
  have HSm := Lib.hid hsm
  have hl := h.len
  obtain ⟨b, off, x0, rfl, hb, hat0, hc0⟩ := ir_at h (k := 0) h0
  rw [Nat.add_zero] at hc0
  have HA0 := Lib.hid hat0
  have HC0 : Hid (∀ W, Below w.heap.size w W → Calls Try.prog fn (#[.slice x0.A x0.n x0.c] ++ cb) W fun e w' => e = .returned (.agg #[.int .i64 (fr x0).num, .int .i64 (fr x0).den]) ∧ Below W.heap.size W w') := Lib.hid fun W hW => HC W hW x0 (mem_of_at hat0)
  clear h HC hsm hat0
  obtain ⟨wR, hwR⟩ : ∃ wR, w.alloc (.cells #[.int .i64 0, .int .i64 0] 63) = wR := ⟨_, rfl⟩
  have HBR : Hid (Below w.heap.size w wR) := Lib.hid (by rw [← hwR]; exact (Below.refl _ w).alloc (Nat.le_refl _) _)
  have HF5 : Hid (FrB wR w.heap.size ⟨0, 0⟩) := Lib.hid (by rw [← hwR]; exact FrB.new w ⟨0, 0⟩)
  have f1 : wR.cell? ⟨b, off, none⟩ = some (.slice x0.A x0.n x0.c) := (HBR.out.cell (p := ⟨b, off, none⟩) hb).trans hc0
  have hbR : b < wR.heap.size := Nat.lt_of_lt_of_le hb HBR.out.size
  have hn0 : (0 : Int) < (n : Int) := by omega
  go_enter Try.func74, Try.ntmps74
  go_upto_region 1 with (fail)
  try rw [hwR]
  clear hwR
  go_cut [6, 7] from 11 to 18 (fun s6 s7 wx => ∃ g, s6 = .slice x0.A x0.n x0.c ∧ s7 = .pointer (some ⟨g, 0, none⟩) ∧ FrB wx g (fr x0) ∧ wR.heap.size ≤ g ∧ Below wR.heap.size wR wx)
  case first =>
    have hS0 : (fun w' => w'.cell? ⟨b, off, none⟩ = some (.slice x0.A x0.n x0.c)) wR.drew := f1
    refine wp_region_held (S := fun w' => w'.cell? ⟨b, off, none⟩ = some (.slice x0.A x0.n x0.c)) (by kernel_rfl) ?_
    change wpAnyH _ _ _ _ _ _ _ _ (World.drew _)
    have hBD0 : Below wR.heap.size wR wR.drew := (Below.refl _ wR).drew
    obtain ⟨wD, hwD⟩ : ∃ wD, World.drew wR = wD := ⟨_, rfl⟩
    rw [hwD] at hS0 ⊢
    have hBD : Below wR.heap.size wR wD := by rw [← hwD]; exact hBD0
    clear hwD hBD0
    refine takeY 11 (i := 0) (v := ?vx1) rfl rfl (by kernel_rfl) (by kernel_rfl) (by kernel_rfl) (fun _ _ _ h => h) (by kernel_rfl) ?yx1 hS0 ?_
    case yx1 =>
      intro w' hw'; (try dsimp only at hw'); obtain q1 := hw'; go_simp; try with_reducible rfl
    simp only [Act.put, List.setIfInBounds_toArray, List.set_cons_zero, List.set_cons_succ]
    refine takeY 12 (i := 1) (v := ?vx2) rfl rfl (by kernel_rfl) (by kernel_rfl) (by kernel_rfl) (fun _ _ _ h => h) (by kernel_rfl) ?yx2 hS0 ?_
    case yx2 =>
      intro w' hw'; (try dsimp only at hw'); obtain q1 := hw'; go_simp; try with_reducible rfl
    simp only [Act.put, List.setIfInBounds_toArray, List.set_cons_zero, List.set_cons_succ]
    refine takeY 13 (i := 2) (v := ?vx3) rfl rfl (by kernel_rfl) (by kernel_rfl) (by kernel_rfl) (fun _ _ _ h => h) (by kernel_rfl) ?yx3 hS0 ?_
    case yx3 =>
      intro w' hw'; (try dsimp only at hw'); obtain q1 := hw'; go_simp; try with_reducible rfl
    simp only [Act.put, List.setIfInBounds_toArray, List.set_cons_zero, List.set_cons_succ]
    refine takeY 14 (i := 3) (v := ?vx4) rfl rfl (by kernel_rfl) (by kernel_rfl) (by kernel_rfl) (fun _ _ _ h => h) (by kernel_rfl) ?yx4 hS0 ?_
    case yx4 =>
      intro w' hw'; (try dsimp only at hw'); obtain q1 := hw'; go_simp; try with_reducible rfl
    simp only [Act.put, List.setIfInBounds_toArray, List.set_cons_zero, List.set_cons_succ]
    refine takeY 15 (i := 4) (v := ?vx5) rfl rfl (by kernel_rfl) (by kernel_rfl) (by kernel_rfl) (fun _ _ _ h => h) (by kernel_rfl) ?yx5 hS0 ?_
    case yx5 =>
      intro w' hw'; (try dsimp only at hw'); obtain q1 := hw'; go_simp; try with_reducible rfl
    simp only [Act.put, List.setIfInBounds_toArray, List.set_cons_zero, List.set_cons_succ]
    refine takeY 16 (i := 5) (v := ?vx6) rfl rfl (by kernel_rfl) (by kernel_rfl) (by kernel_rfl) (fun _ _ _ h => h) (by kernel_rfl) ?yx6 hS0 ?_
    case yx6 =>
      intro w' hw'; (try dsimp only at hw'); obtain q1 := hw'; go_simp; try with_reducible rfl
    simp only [Act.put, List.setIfInBounds_toArray, List.set_cons_zero, List.set_cons_succ]
    refine takeY 17 (i := 6) (v := ?vx7) rfl rfl (by kernel_rfl) (by kernel_rfl) (by kernel_rfl) (fun _ _ _ h => h) (by kernel_rfl) ?yx7 hS0 ?_
    case yx7 =>
      intro w' hw'; (try dsimp only at hw'); obtain q1 := hw'; go_simp; try with_reducible rfl
    simp only [Act.put, List.setIfInBounds_toArray, List.set_cons_zero, List.set_cons_succ]
    refine wpAnyH_ready (rs := [7, 8]) (by kernel_rfl) (by simp) ?_
    refine (AllReadyH.cons rfl (fun K hK => ?_) (AllReadyH.cons rfl (fun K hK => ?_) AllReadyH.nil))
    · go_simp
      go_at_fn fn
      refine (HC0.out _ (below_on HBR.out hBD)).mono ?_
      rintro e w1 ⟨rfl, hb1⟩
      have hB1 : Below wR.heap.size wR w1 := below_on hBD hb1
      refine hK.out _ _ ((hB1.cell (p := ⟨b, off, none⟩) hbR).trans f1) (fun hS1 => ?_)
      clear hK K
      try simp only [Act.put, List.setIfInBounds_toArray, List.set_cons_zero, List.set_cons_succ]
      clear hb1
      refine wpAnyH_ready (rs := [8]) (by kernel_rfl) (by simp) ?_
      refine (AllReadyH.cons rfl (fun K hK => ?_) AllReadyH.nil)
      go_simp
      refine hK.out _ _ (((hB1.alloc hB1.size _).cell (p := ⟨b, off, none⟩) hbR).trans f1) (fun hS2 => ?_)
      clear hK K
      try simp only [Act.put, List.setIfInBounds_toArray, List.set_cons_zero, List.set_cons_succ]
      obtain ⟨w2, hw2⟩ : ∃ w', World.alloc w1 (.cells #[.int .i64 0, .int .i64 0] 63) = w' := ⟨_, rfl⟩
      have hB2 : Below wR.heap.size wR w2 := by rw [← hw2]; exact hB1.alloc hB1.size _
      have hb2 : Below w1.heap.size w1 w2 := by rw [← hw2]; exact (Below.refl _ _).alloc (Nat.le_refl _) _
      have hF2 : FrB w2 (w1.heap.size) ⟨0, 0⟩ := by rw [← hw2]; exact FrB.new w1 ⟨0, 0⟩
      try rw [hw2]
      try rw [hw2] at hS2
      clear hw2 hb2
      have hghF : wR.heap.size ≤ w1.heap.size := hB1.size
      refine takeY 6 (i := 9) (v := ?vx8) rfl rfl (by kernel_rfl) (by kernel_rfl) (by kernel_rfl) (fun _ _ _ h => h) (by kernel_rfl) ?yx8 hS2 ?_
      case yx8 =>
        intro w' hw'; (try dsimp only at hw'); obtain q1 := hw'; go_simp; try with_reducible rfl
      simp only [Act.put, List.setIfInBounds_toArray, List.set_cons_zero, List.set_cons_succ]
      obtain ⟨c0, c1, z0, z1⟩ := hF2.cells
      refine wpAnyH_ready (rs := [10]) (by kernel_rfl) (by simp) ?_
      refine (AllReadyH.cons rfl (fun K hK => ?_) AllReadyH.nil)
      go_simp
      refine hK.out _ _ (((hB2.setCell (p := ⟨w1.heap.size, 0, none⟩) hghF _).setCell (p := ⟨w1.heap.size, 1, none⟩) hghF _).cell (p := ⟨b, off, none⟩) hbR |>.trans f1) (fun hS3 => ?_)
      clear hK K
      try simp only [Act.put, List.setIfInBounds_toArray, List.set_cons_zero, List.set_cons_succ]
      refine wpAnyH_done (by kernel_rfl) ?_ _
      go_wp2
      go_meet
      exact ⟨w1.heap.size, rfl, rfl, hF2.set _ _, hghF, (hB2.setCell (p := ⟨w1.heap.size, 0, none⟩) hghF _).setCell (p := ⟨w1.heap.size, 1, none⟩) hghF _⟩
    · go_simp
      refine hK.out _ _ (((hBD.alloc hBD.size _).cell (p := ⟨b, off, none⟩) hbR).trans f1) (fun hS4 => ?_)
      clear hK K
      try simp only [Act.put, List.setIfInBounds_toArray, List.set_cons_zero, List.set_cons_succ]
      obtain ⟨w4, hw4⟩ : ∃ w', World.alloc wD (.cells #[.int .i64 0, .int .i64 0] 63) = w' := ⟨_, rfl⟩
      have hB4 : Below wR.heap.size wR w4 := by rw [← hw4]; exact hBD.alloc hBD.size _
      have hb4 : Below wD.heap.size wD w4 := by rw [← hw4]; exact (Below.refl _ _).alloc (Nat.le_refl _) _
      have hF4 : FrB w4 (wD.heap.size) ⟨0, 0⟩ := by rw [← hw4]; exact FrB.new wD ⟨0, 0⟩
      try rw [hw4]
      try rw [hw4] at hS4
      clear hw4 hb4
      have hghF : wR.heap.size ≤ wD.heap.size := hBD.size
      refine wpAnyH_ready (rs := [7]) (by kernel_rfl) (by simp) ?_
      refine (AllReadyH.cons rfl (fun K hK => ?_) AllReadyH.nil)
      go_simp
      go_at_fn fn
      refine (HC0.out _ (below_on HBR.out hB4)).mono ?_
      rintro e w5 ⟨rfl, hb5⟩
      have hB5 : Below wR.heap.size wR w5 := below_on hB4 hb5
      refine hK.out _ _ ((hB5.cell (p := ⟨b, off, none⟩) hbR).trans f1) (fun hS5 => ?_)
      clear hK K
      try simp only [Act.put, List.setIfInBounds_toArray, List.set_cons_zero, List.set_cons_succ]
      have hF5 := hF4.below hb5
      clear hb5
      refine takeY 6 (i := 9) (v := ?vx9) rfl rfl (by kernel_rfl) (by kernel_rfl) (by kernel_rfl) (fun _ _ _ h => h) (by kernel_rfl) ?yx9 hS5 ?_
      case yx9 =>
        intro w' hw'; (try dsimp only at hw'); obtain q1 := hw'; go_simp; try with_reducible rfl
      simp only [Act.put, List.setIfInBounds_toArray, List.set_cons_zero, List.set_cons_succ]
      obtain ⟨c0, c1, z0, z1⟩ := hF5.cells
      refine wpAnyH_ready (rs := [10]) (by kernel_rfl) (by simp) ?_
      refine (AllReadyH.cons rfl (fun K hK => ?_) AllReadyH.nil)
      go_simp
      refine hK.out _ _ (((hB5.setCell (p := ⟨wD.heap.size, 0, none⟩) hghF _).setCell (p := ⟨wD.heap.size, 1, none⟩) hghF _).cell (p := ⟨b, off, none⟩) hbR |>.trans f1) (fun hS6 => ?_)
      clear hK K
      try simp only [Act.put, List.setIfInBounds_toArray, List.set_cons_zero, List.set_cons_succ]
      refine wpAnyH_done (by kernel_rfl) ?_ _
      go_wp2
      go_meet
      exact ⟨wD.heap.size, rfl, rfl, hF5.set _ _, hghF, (hB5.setCell (p := ⟨wD.heap.size, 0, none⟩) hghF _).setCell (p := ⟨wD.heap.size, 1, none⟩) hghF _⟩
  case rest =>
  obtain ⟨g, rfl, rfl, hf7, hg, hb9⟩ := hcut
  rename World => w9
  have HF7 := Lib.hid hf7
  have HB9 : Hid (Below w.heap.size w w9) := Lib.hid (below_on HBR.out hb9)
  have HF59 : Hid (FrB w9 w.heap.size ⟨0, 0⟩) := Lib.hid (HF5.out.below hb9)
  have hgw : w.heap.size < g := Nat.lt_of_lt_of_le HF5.out.lt hg
  have HGW := Lib.hid hgw
  have h1c : (1 : Int) ≤ (n : Int) := by omega
  have h1d : (n : Int) ≤ (c : Int) := by omega
  have h1e : (c : Int) ≤ 9223372036854775807 := by omega
  have h1f : ¬ c = 1 := by omega
  have h1g : ((1 : Int) == (c : Int)) = false := by simp; omega
  clear hf7 hg hb9 f1 hbR HF5 HC0 HBR hgw
  go_wp2
  go_loopw [6, 22] (fun s iv wr => ∃ (k : Nat) (y : IR), k + 1 ≤ n ∧ iv = .int .i64 k ∧ bestF fr (rows.take (k + 1)) = some y ∧ s = .slice y.A y.n y.c ∧ FrB wr g (fr y) ∧ FrB wr w.heap.size ⟨0, 0⟩ ∧ Below w.heap.size w wr) (fun _ iv _ => n - (intOf iv).toNat)
  case atStart => exact ⟨0, x0, by omega, rfl, by rw [take_at HA0.out]; rfl, rfl, HF7.out, HF59.out, HB9.out⟩
  case round =>
    obtain ⟨k, y, hk, rfl, hy, rfl, hf7, hf5, hbel⟩ := hrel
    have HY := Lib.hid hy
    have HF7 := Lib.hid hf7
    have HF5 := Lib.hid hf5
    have HB := Lib.hid hbel
    have HYm : Hid (y ∈ rows) := Lib.hid (List.mem_of_mem_take (bestF_mem _ _ hy))
    clear hy hf7 hf5
    by_cases hlt : k + 1 < n
    · obtain ⟨b', off', x, hbo, -, hat, hd⟩ := ir_at HX.out hlt
      obtain ⟨rfl, rfl⟩ : b = b' ∧ off = off' := by injection hbo with h; injection h with h2 h3; exact ⟨h2, h3⟩
      have f0 : wr.cell? ⟨b, off + 1 + k, none⟩ = some (.slice x.A x.n x.c) := by
        have e : off + 1 + k = off + (k + 1) := by omega
        rw [e]
        exact (hbel.cell (p := ⟨b, off + (k + 1), none⟩) hb).trans hd
      have HAt := Lib.hid hat
      have HXm : Hid (x ∈ rows) := Lib.hid (mem_of_at hat)
      have hlt' : (k : Int) < ((n - 1 : Nat) : Int) := by omega
      have HCx : Hid (∀ W, Below w.heap.size w W → Calls Try.prog fn (#[.slice x.A x.n x.c] ++ cb) W fun e w' => e = .returned (.agg #[.int .i64 (fr x).num, .int .i64 (fr x).den]) ∧ Below W.heap.size W w') := Lib.hid fun W hW => HF.out W hW x HXm.out
      clear hbo hat hd hbel
      go_wp2_with fail
      refine (HCx.out _ HB.out).mono ?_
      rintro e w2 ⟨rfl, hb2⟩
      obtain ⟨w3, hw3⟩ : ∃ w3, w2.alloc (.cells #[.int .i64 (fr x).num, .int .i64 (fr x).den] 63) = w3 := ⟨_, rfl⟩
      have hb3 : Below w2.heap.size w2 w3 := by rw [← hw3]; exact (Below.refl _ w2).alloc (Nat.le_refl _) _
      have HX3 : Hid (FrB w3 w2.heap.size (fr x)) := Lib.hid (by rw [← hw3]; exact FrB.new w2 (fr x))
      have HB3 := Lib.hid (below_on (below_on HB.out hb2) hb3)
      have HF73 := Lib.hid ((HF7.out.below hb2).below hb3)
      have HF53 := Lib.hid ((HF5.out.below hb2).below hb3)
      have hgl := (HF7.out.below hb2).lt
      have HNe : Hid (g ≠ w2.heap.size) := Lib.hid (by omega)
      clear hb2 hb3 f0 HCx hgl
      go_upto_region 6 with (fail)
      try rw [hw3]
      clear hw3
      obtain ⟨p0, p1, -, -⟩ := HX3.out.cells
      obtain ⟨q0, q1, -, -⟩ := HF73.out.cells
      go_wp2_with fail
      refine (less_c (fr x) (fr y) (HSm.out x HXm.out) (HSm.out y HYm.out) _).mono ?_
      rintro e w4 ⟨rfl, hb4⟩
      have HB4 := Lib.hid (below_on HB3.out hb4)
      have HX4 := Lib.hid (HX3.out.below hb4)
      have HF74 := Lib.hid (HF73.out.below hb4)
      have HF54 := Lib.hid (HF53.out.below hb4)
      clear p0 p1 q0 q1 hb4
      obtain ⟨z, hz⟩ : ∃ z, (fr x).less (fr y) = z := ⟨_, rfl⟩
      rw [hz]
      have HZ := Lib.hid hz
      clear hz
      cases z
      · go_wp2
        go_roundw
        case rel => exact ⟨k + 1, y, by omega, by go_num, by rw [take_at HAt.out]; exact bestF_no HY.out HZ.out, rfl, HF74.out, HF54.out, HB4.out⟩
        case measure => simp [intOf]; omega
      · obtain ⟨p0, p1, -, -⟩ := HX4.out.cells
        obtain ⟨q0, q1, y0, y1⟩ := HF74.out.cells
        go_upto_region 7 with (fail)
        have hS0 : (fun w' => w'.cell? ⟨w2.heap.size, 0, none⟩ = some (.int .i64 (fr x).num) ∧ w'.cell? ⟨w2.heap.size, 1, none⟩ = some (.int .i64 (fr x).den)) w4.drew := ⟨p0, p1⟩
        refine wp_region_held (S := fun w' => w'.cell? ⟨w2.heap.size, 0, none⟩ = some (.int .i64 (fr x).num) ∧ w'.cell? ⟨w2.heap.size, 1, none⟩ = some (.int .i64 (fr x).den)) (by kernel_rfl) ?_
        change wpAnyH _ _ _ _ _ _ _ _ (World.drew _)
        refine takeY 32 (i := 0) (v := ?vx10) rfl rfl (by kernel_rfl) (by kernel_rfl) (by kernel_rfl) (fun _ _ _ h => h) (by kernel_rfl) ?yx10 hS0 ?_
        case yx10 =>
          intro w' hw'; (try dsimp only at hw'); obtain ⟨q1, q2⟩ := hw'; go_simp; try with_reducible rfl
        simp only [Act.put, List.setIfInBounds_toArray, List.set_cons_zero, List.set_cons_succ]
        refine takeY 33 (i := 1) (v := ?vx11) rfl rfl (by kernel_rfl) (by kernel_rfl) (by kernel_rfl) (fun _ _ _ h => h) (by kernel_rfl) ?yx11 hS0 ?_
        case yx11 =>
          intro w' hw'; (try dsimp only at hw'); obtain ⟨q1, q2⟩ := hw'; go_simp; try with_reducible rfl
        simp only [Act.put, List.setIfInBounds_toArray, List.set_cons_zero, List.set_cons_succ]
        refine takeY 6 (i := 2) (v := ?vx12) rfl rfl (by kernel_rfl) (by kernel_rfl) (by kernel_rfl) (fun _ _ _ h => h) (by kernel_rfl) ?yx12 hS0 ?_
        case yx12 =>
          intro w' hw'; (try dsimp only at hw'); obtain ⟨q1, q2⟩ := hw'; go_simp; try with_reducible rfl
        simp only [Act.put, List.setIfInBounds_toArray, List.set_cons_zero, List.set_cons_succ]
        refine wpAnyH_ready (rs := [3]) (by kernel_rfl) (by simp) ?_
        refine (AllReadyH.cons rfl (fun K hK => ?_) AllReadyH.nil)
        go_simp
        refine hK.out _ _ (⟨(World.cell?_setCell_far _ _ _ _ HNe.out).trans ((World.cell?_setCell_far _ _ _ _ HNe.out).trans p0), (World.cell?_setCell_far _ _ _ _ HNe.out).trans ((World.cell?_setCell_far _ _ _ _ HNe.out).trans p1)⟩) (fun hS1 => ?_)
        clear hK K
        try simp only [Act.put, List.setIfInBounds_toArray, List.set_cons_zero, List.set_cons_succ]
        refine wpAnyH_done (by kernel_rfl) ?_ _
        go_wp2
        go_roundw
        case rel => exact ⟨k + 1, x, by omega, by go_num, by rw [take_at HAt.out]; exact bestF_yes HY.out HZ.out, rfl, HF74.out.set _ _, HF54.out.other (by have := HGW.out; omega) _ _, (HB4.out.drew.setCell (by show _ ≤ g; have := HGW.out; omega) _).setCell (by show _ ≤ g; have := HGW.out; omega) _⟩
        case measure => simp [intOf]; omega
    · have hkn : k + 1 = n := by omega
      have hlt' : ¬ (k : Int) < ((n - 1 : Nat) : Int) := by omega
      have HY2 : Hid (bestF fr rows = some y) := Lib.hid (by have h1 := HY.out; rwa [hkn, take_all hl] at h1)
      obtain ⟨q0, q1, -, -⟩ := HF7.out.cells
      obtain ⟨r0, r1, y0, y1⟩ := HF5.out.cells
      go_upto_region 9 with (fail)
      have hS0 : (fun w' => w'.cell? ⟨g, 0, none⟩ = some (.int .i64 (fr y).num) ∧ w'.cell? ⟨g, 1, none⟩ = some (.int .i64 (fr y).den)) wr.drew := ⟨q0, q1⟩
      refine wp_region_held (S := fun w' => w'.cell? ⟨g, 0, none⟩ = some (.int .i64 (fr y).num) ∧ w'.cell? ⟨g, 1, none⟩ = some (.int .i64 (fr y).den)) (by kernel_rfl) ?_
      change wpAnyH _ _ _ _ _ _ _ _ (World.drew _)
      refine takeY 35 (i := 0) (v := ?vx13) rfl rfl (by kernel_rfl) (by kernel_rfl) (by kernel_rfl) (fun _ _ _ h => h) (by kernel_rfl) ?yx13 hS0 ?_
      case yx13 =>
        intro w' hw'; (try dsimp only at hw'); obtain ⟨q1, q2⟩ := hw'; go_simp; try with_reducible rfl
      simp only [Act.put, List.setIfInBounds_toArray, List.set_cons_zero, List.set_cons_succ]
      refine takeY 36 (i := 1) (v := ?vx14) rfl rfl (by kernel_rfl) (by kernel_rfl) (by kernel_rfl) (fun _ _ _ h => h) (by kernel_rfl) ?yx14 hS0 ?_
      case yx14 =>
        intro w' hw'; (try dsimp only at hw'); obtain ⟨q1, q2⟩ := hw'; go_simp; try with_reducible rfl
      simp only [Act.put, List.setIfInBounds_toArray, List.set_cons_zero, List.set_cons_succ]
      refine takeY 4 (i := 2) (v := ?vx15) rfl rfl (by kernel_rfl) (by kernel_rfl) (by kernel_rfl) (fun _ _ _ h => h) (by kernel_rfl) ?yx15 hS0 ?_
      case yx15 =>
        intro w' hw'; (try dsimp only at hw'); obtain ⟨q1, q2⟩ := hw'; go_simp; try with_reducible rfl
      simp only [Act.put, List.setIfInBounds_toArray, List.set_cons_zero, List.set_cons_succ]
      refine wpAnyH_ready (rs := [3]) (by kernel_rfl) (by simp) ?_
      refine (AllReadyH.cons rfl (fun K hK => ?_) AllReadyH.nil)
      go_simp
      refine hK.out _ _ (⟨(World.cell?_setCell_far _ _ _ _ (show w.heap.size ≠ g by have := HGW.out; omega)).trans ((World.cell?_setCell_far _ _ _ _ (show w.heap.size ≠ g by have := HGW.out; omega)).trans q0), (World.cell?_setCell_far _ _ _ _ (show w.heap.size ≠ g by have := HGW.out; omega)).trans ((World.cell?_setCell_far _ _ _ _ (show w.heap.size ≠ g by have := HGW.out; omega)).trans q1)⟩) (fun hS1 => ?_)
      clear hK K
      try simp only [Act.put, List.setIfInBounds_toArray, List.set_cons_zero, List.set_cons_succ]
      refine wpAnyH_done (by kernel_rfl) ?_ _
      go_wp2
      refine bodyPost_ret_by (results_tmp_rowF rfl _ _ w.heap.size 63 _ (0, 0) _ rfl (FrB.set (w := World.drew wr) HF5.out (fr y).num (fr y).den) Try.underlying63 rfl (by kernel_rfl)) rfl ?_
      exact ⟨⟨y, HY2.out, rfl⟩, (HB.out.drew.setCell (Nat.le_refl _) _).setCell (Nat.le_refl _) _⟩
end Go.Proofs.Ytceiocdemhkcdaa.num
