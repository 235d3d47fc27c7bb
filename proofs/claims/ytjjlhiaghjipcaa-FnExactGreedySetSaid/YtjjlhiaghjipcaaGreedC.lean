/-
  The two functions that the program's GreedySet makes: the regret with one item more; whether an item is the one that was taken.
-/
import Derived.BigQuiet
import Derived.Deep.Cut
import Derived.Deep.CutRange
import Derived.Test.YtjjlhiaghjipcaaLeastT
import Derived.Test.YtjjlhiaghjipcaaRegretG
namespace Go.Proofs.Ytjjlhiaghjipcaa.num
set_option maxRecDepth 20000
open Go.RowKit
set_option linter.unusedVariables false
set_option linter.unusedSimpArgs false

theorem ItX.read {w : World} {g : Nat} {t : It} (h : ItX w g t) : ReadG itCs 2 w w.heap.size (some ⟨g, 0, none⟩) 1 [t] := by
  refine ⟨rfl, fun k x hk => ?_⟩
  rcases k with _ | k
  · simp at hk
    subst hk
    refine ⟨g, 0, rfl, h.lt, fun j v hj => ?_⟩
    match j, hj with
    | 0, hj => obtain rfl := Option.some.inj hj; exact h.cells.1
    | 1, hj => obtain rfl := Option.some.inj hj; exact h.cells.2.1
    | j + 2, hj => simp [itCs] at hj
  · simp at hk
set_option maxRecDepth 20000 in
theorem taken_c (w : World) (x y : It) (g : Nat) (h : ItX w g y) :
    Calls Try.prog 75 #[x.val, .pointer (some ⟨g, 0, none⟩)] w fun e w' => e = .returned (.bool (decide (x.id = y.id))) ∧ Below w.heap.size w w' := by
  have hv : x.val = .agg #[.int .i64 x.id, .slice x.A x.n x.c] := rfl
  rw [hv]
  have HB0 : Hid (Below w.heap.size w (w.alloc (.cells #[.int .i64 x.id, .slice x.A x.n x.c] 43))) := Lib.hid ((Below.refl _ w).alloc (Nat.le_refl _) _)
  obtain ⟨w0, hw0⟩ : ∃ w0, w.alloc (.cells #[.int .i64 x.id, .slice x.A x.n x.c] 43) = w0 := ⟨_, rfl⟩
  rw [hw0] at HB0
  have HX0 : Hid (ItX w0 w.heap.size x) := Lib.hid (by rw [← hw0]; exact ItX.new w x)
  have HY0 := Lib.hid (h.below HB0.out)
  obtain ⟨z, hz⟩ : ∃ z, decide (x.id = y.id) = z := ⟨_, rfl⟩
  have hz2 : (x.id == y.id) = z := by rw [← hz]; rfl
  rw [hz]
  obtain ⟨p0, p1, -, -⟩ := HX0.out.cells
  obtain ⟨q0, q1, -, -⟩ := HY0.out.cells
  clear hv h hz
  go_enter Try.func75, Try.ntmps75
  go_upto_region 1 with (fail)
  clear hw0
  go_wp2
  go_ret
  exact ⟨rfl, HB0.out⟩
set_option maxRecDepth 20000 in
set_option maxHeartbeats 6400000 in
theorem more_c (w : World) (B : Nat) (A : Option Addr) (n c : Nat) (its : List It) (hi : Items w B A n its) (hB : B ≤ w.heap.size) (hn : n ≤ 1048576) (A5 : Option Addr) (n5 c5 : Nat) (cs : List It) (hcs : ReadG itCs 2 w w.heap.size A5 n5 cs) (hn5 : n5 ≤ 1000000) (hsub : ∀ u ∈ cs, u ∈ its) (x : It) (hx : x ∈ its) (g1 g2 : Nat) (h1 : SlB w g1 (.slice A n c)) (h2 : SlB w g2 (.slice A5 n5 c5)) (R : Rg) (hR : reg (its.map It.dat) ((cs ++ [x]).map It.dat) = R) :
    Calls Try.prog 73 #[x.val, .pointer (some ⟨g1, 0, none⟩), .pointer (some ⟨g2, 0, none⟩)] w fun e w' => e = .returned (.agg #[.int .i64 R.num, .int .i64 R.den]) ∧ Below w.heap.size w w' := by
  have hv : x.val = .agg #[.int .i64 x.id, .slice x.A x.n x.c] := rfl
  rw [hv]
  obtain ⟨wR, hwR⟩ : ∃ wR, (w.alloc (.cells #[.int .i64 x.id, .slice x.A x.n x.c] 43)).alloc (.cells #[.int .i64 0, .int .i64 0] 74) = wR := ⟨_, rfl⟩
  have hbR0 : Below w.heap.size w wR := by rw [← hwR]; exact ((Below.refl _ w).alloc (Nat.le_refl _) _).alloc (by simp) _
  have HBR := Lib.hid hbR0
  have HX0 : Hid (ItX wR w.heap.size x) := Lib.hid (by rw [← hwR]; exact (ItX.new w x).below ((Below.refl _ _).alloc (Nat.le_refl _) _))
  have HF0 : Hid (FrB wR (w.heap.size + 1) ⟨0, 0⟩) := Lib.hid (by
    rw [← hwR]
    have h := FrB.new (w.alloc (.cells #[.int .i64 x.id, .slice x.A x.n x.c] 43)) ⟨0, 0⟩
    simpa only [World.size_alloc] using h)
  have hiR := hi.below (hbR0.mono hB)
  have hBR := Nat.le_trans hB hbR0.size
  have HRd := Lib.hid ((hcs.below hbR0).more hbR0.size)
  obtain ⟨L, hL⟩ : ∃ L, cs ++ [x] = L := ⟨_, rfl⟩
  have hLs : ∀ u ∈ L, u ∈ its := fun u hu => by
    rw [← hL] at hu
    rcases List.mem_append.1 hu with h | h
    · exact hsub u h
    · obtain rfl := List.mem_singleton.1 h; exact hx
  have HIn : Hid (∀ W, Below wR.heap.size wR W → ∀ u ∈ L, Ints W W.heap.size u.A u.n u.xs) := Lib.hid fun W hW u hu => (hiR.all (hLs u hu)).more hBR |>.below hW |>.more hW.size
  have hLl : L.length ≤ 1048576 := by rw [← hL, List.length_append, hcs.len, List.length_singleton]; omega
  rw [hL] at hR
  have HGr : Hid (∀ W A4 c4, Below wR.heap.size wR W → Items W W.heap.size A4 L.length L → Calls Try.prog 52 #[.slice A n c, .slice A4 L.length c4] W fun e w' => (∃ v, e = .returned (.tuple #[.agg #[.int .i64 R.num, .int .i64 R.den], v]) ∧ OwnI w' W.heap.size v R.ws) ∧ Below W.heap.size W w') := Lib.hid fun W A4 c4 hW hI =>
    iGR W W.heap.size A A4 n L.length c c4 its L ((hiR.below (hW.mono hBR)).up (Nat.le_trans hBR hW.size)) hI (Nat.le_refl _) hn hLl (fun d hd => by
      obtain ⟨u, hu, rfl⟩ := List.mem_map.1 hd
      exact List.mem_map_of_mem (hLs u hu)) R hR
  have HCl : Hid (∀ W, Below wR.heap.size wR W → Calls Try.prog 71 #[.slice A5 n5 c5] W fun e w' => ∃ v, e = .returned v ∧ OwnTs w' W.heap.size v cs ∧ Below W.heap.size W w') := Lib.hid fun W hW => cloneT W W.heap.size A5 n5 c5 cs ((HRd.out.below hW).more hW.size) (Nat.le_refl _) (by omega)
  have hcl : cs.length ≤ 1000000 := by rw [hcs.len]; exact hn5
  have hs1 := h1.below hbR0
  have hs2 := h2.below hbR0
  have HLL := Lib.hid hL
  clear hi hcs hsub hx hR hLs hLl hiR hBR hbR0 h1 h2 hv hL
  obtain ⟨x0, x1, -, -⟩ := HX0.out.cells
  have hx0 := HX0.out.lt
  have f1 := hs1.2
  have f2 := hs2.2
  have hbg1 := hs1.1
  have hbg2 := hs2.1
  clear hs1 hs2
  go_enter Try.func73, Try.ntmps73
  go_upto_region 1 with (fail)
  try rw [hwR]
  clear hwR
  go_cut [5] from 6 to 16 (fun s5 wx => ∃ g, s5 = .pointer (some ⟨g, 0, none⟩) ∧ FrB wx g ⟨R.num, R.den⟩ ∧ wR.heap.size ≤ g ∧ Below wR.heap.size wR wx)
  case first =>
    have hS0 : (fun w' => w'.cell? ⟨g1, 0, none⟩ = some (.slice A n c) ∧ w'.cell? ⟨g2, 0, none⟩ = some (.slice A5 n5 c5) ∧ w'.cell? ⟨w.heap.size, 0, none⟩ = some (.int .i64 x.id) ∧ w'.cell? ⟨w.heap.size, 1, none⟩ = some (.slice x.A x.n x.c)) wR.drew := ⟨f1, f2, x0, x1⟩
    refine wp_region_held (S := fun w' => w'.cell? ⟨g1, 0, none⟩ = some (.slice A n c) ∧ w'.cell? ⟨g2, 0, none⟩ = some (.slice A5 n5 c5) ∧ w'.cell? ⟨w.heap.size, 0, none⟩ = some (.int .i64 x.id) ∧ w'.cell? ⟨w.heap.size, 1, none⟩ = some (.slice x.A x.n x.c)) (by kernel_rfl) ?_
    change wpAnyH _ _ _ _ _ _ _ _ (World.drew _)
    have hBD0 : Below wR.heap.size wR wR.drew := (Below.refl _ wR).drew
    obtain ⟨wD, hwD⟩ : ∃ wD, World.drew wR = wD := ⟨_, rfl⟩
    rw [hwD] at hS0 ⊢
    have hBD : Below wR.heap.size wR wD := by rw [← hwD]; exact hBD0
    clear hwD hBD0
    refine takeY 8 (i := 0) (v := ?vx1) rfl rfl (by kernel_rfl) (by kernel_rfl) (by kernel_rfl) (fun _ _ _ h => h) (by kernel_rfl) ?yx1 hS0 ?_
    case yx1 =>
      intro w' hw'; (try dsimp only at hw'); obtain ⟨q1, q2, q3, q4⟩ := hw'; go_simp; try with_reducible rfl
    simp only [Act.put, List.setIfInBounds_toArray, List.set_cons_zero, List.set_cons_succ]
    refine takeY 9 (i := 1) (v := ?vx2) rfl rfl (by kernel_rfl) (by kernel_rfl) (by kernel_rfl) (fun _ _ _ h => h) (by kernel_rfl) ?yx2 hS0 ?_
    case yx2 =>
      intro w' hw'; (try dsimp only at hw'); obtain ⟨q1, q2, q3, q4⟩ := hw'; go_simp; try with_reducible rfl
    simp only [Act.put, List.setIfInBounds_toArray, List.set_cons_zero, List.set_cons_succ]
    refine takeY 11 (i := 3) (v := ?vx3) rfl rfl (by kernel_rfl) (by kernel_rfl) (by kernel_rfl) (fun _ _ _ h => h) (by kernel_rfl) ?yx3 hS0 ?_
    case yx3 =>
      intro w' hw'; (try dsimp only at hw'); obtain ⟨q1, q2, q3, q4⟩ := hw'; go_simp; try with_reducible rfl
    simp only [Act.put, List.setIfInBounds_toArray, List.set_cons_zero, List.set_cons_succ]
    refine wpAnyH_ready (rs := [2, 4, 10]) (by kernel_rfl) (by simp) ?_
    refine (AllReadyH.cons rfl (fun K hK => ?_) (AllReadyH.cons rfl (fun K hK => ?_) (AllReadyH.cons rfl (fun K hK => ?_) AllReadyH.nil)))
    · go_simp
      go_at_call 71
      refine (HCl.out _ hBD).mono ?_
      rintro e w1 ⟨v, rfl, ho, hb1⟩
      have hB1 : Below wR.heap.size wR w1 := below_on hBD hb1
      refine hK.out _ _ (⟨(hB1.cell (p := ⟨g1, 0, none⟩) hbg1).trans f1, (hB1.cell (p := ⟨g2, 0, none⟩) hbg2).trans f2, (hB1.cell (p := ⟨w.heap.size, 0, none⟩) hx0).trans x0, (hB1.cell (p := ⟨w.heap.size, 1, none⟩) hx0).trans x1⟩) (fun hS1 => ?_)
      clear hK K
      try simp only [Act.put, List.setIfInBounds_toArray, List.set_cons_zero, List.set_cons_succ]
      have hV1 : OwnTs w1 wR.heap.size v cs := ho.low hBD.size
      clear hb1 ho
      refine wpAnyH_ready (rs := [4, 10]) (by kernel_rfl) (by simp) ?_
      refine (AllReadyH.cons rfl (fun K hK => ?_) (AllReadyH.cons rfl (fun K hK => ?_) AllReadyH.nil))
      · go_simp
        refine hK.out _ _ (⟨((hB1.alloc hB1.size _).cell (p := ⟨g1, 0, none⟩) hbg1).trans f1, ((hB1.alloc hB1.size _).cell (p := ⟨g2, 0, none⟩) hbg2).trans f2, ((hB1.alloc hB1.size _).cell (p := ⟨w.heap.size, 0, none⟩) hx0).trans x0, ((hB1.alloc hB1.size _).cell (p := ⟨w.heap.size, 1, none⟩) hx0).trans x1⟩) (fun hS2 => ?_)
        clear hK K
        try simp only [Act.put, List.setIfInBounds_toArray, List.set_cons_zero, List.set_cons_succ]
        obtain ⟨w2, hw2⟩ : ∃ w', World.alloc w1 (.cells #[.int .i64 x.id, .slice x.A x.n x.c] 43) = w' := ⟨_, rfl⟩
        have hB2 : Below wR.heap.size wR w2 := by rw [← hw2]; exact hB1.alloc hB1.size _
        have hb2 : Below w1.heap.size w1 w2 := by rw [← hw2]; exact (Below.refl _ _).alloc (Nat.le_refl _) _
        have hV2 := OwnG.below hV1 hb2
        have hE2 : ItX w2 (w1.heap.size) x := by rw [← hw2]; exact ItX.new w1 x
        try rw [hw2]
        try rw [hw2] at hS2
        clear hw2 hb2
        refine wpAnyH_ready (rs := [5, 10]) (by kernel_rfl) (by simp) ?_
        refine (AllReadyH.cons rfl (fun K hK => ?_) (AllReadyH.cons rfl (fun K hK => ?_) AllReadyH.nil))
        · obtain ⟨v6, w3, hr3, ho3, hg3, -⟩ := run_spreadG itCs_len itCs_one (ty := 24) (c := 1) Try.underlying24 info_item rfl (by decide) (by decide) hV2 hE2.read (by omega) hB2.size
          rw [HLL.out] at ho3
          obtain ⟨A4, c4, rfl, -, -⟩ := ho3.shape
          have hB3 : Below wR.heap.size wR w3 := hB2.grown hg3 hB2.size (fun k hk => hV2.lows k hk)
          refine step_run _ (by rfl) (.tmp 10) (.tmp 12) 24 (by rfl) _ _ (by rfl) (by rfl) hr3 ?_
          refine hK.out _ _ (⟨(hB3.cell (p := ⟨g1, 0, none⟩) hbg1).trans f1, (hB3.cell (p := ⟨g2, 0, none⟩) hbg2).trans f2, (hB3.cell (p := ⟨w.heap.size, 0, none⟩) hx0).trans x0, (hB3.cell (p := ⟨w.heap.size, 1, none⟩) hx0).trans x1⟩) (fun hS3 => ?_)
          clear hK K
          try simp only [Act.put, List.setIfInBounds_toArray, List.set_cons_zero, List.set_cons_succ]
          have hT3 : Items w3 w3.heap.size A4 L.length L := Items.ofr (ho3.read itCs_len) (HIn.out _ hB3)
          clear hr3 hg3 ho3
          refine wpAnyH_ready (rs := [6, 10]) (by kernel_rfl) (by simp) ?_
          refine (AllReadyH.cons rfl (fun K hK => ?_) (AllReadyH.cons rfl (fun K hK => ?_) AllReadyH.nil))
          · go_simp
            go_at_call 52
            refine (HGr.out _ _ _ hB3 hT3).mono ?_
            rintro e w4 ⟨⟨v5, rfl, ho⟩, hb4⟩
            have hB4 : Below wR.heap.size wR w4 := below_on hB3 hb4
            refine hK.out _ _ (⟨(hB4.cell (p := ⟨g1, 0, none⟩) hbg1).trans f1, (hB4.cell (p := ⟨g2, 0, none⟩) hbg2).trans f2, (hB4.cell (p := ⟨w.heap.size, 0, none⟩) hx0).trans x0, (hB4.cell (p := ⟨w.heap.size, 1, none⟩) hx0).trans x1⟩) (fun hS4 => ?_)
            clear hK K
            try simp only [Act.put, List.setIfInBounds_toArray, List.set_cons_zero, List.set_cons_succ]
            clear hb4 ho
            refine takeY 7 (i := 7) (v := ?vx4) rfl rfl (by kernel_rfl) (by kernel_rfl) (by kernel_rfl) (fun _ _ _ h => h) (by kernel_rfl) ?yx4 hS4 ?_
            case yx4 =>
              intro w' hw'; (try dsimp only at hw'); obtain ⟨q1, q2, q3, q4⟩ := hw'; go_simp; try with_reducible rfl
            simp only [Act.put, List.setIfInBounds_toArray, List.set_cons_zero, List.set_cons_succ]
            refine takeY 15 (i := 8) (v := ?vx5) rfl rfl (by kernel_rfl) (by kernel_rfl) (by kernel_rfl) (fun _ _ _ h => h) (by kernel_rfl) ?yx5 hS4 ?_
            case yx5 =>
              intro w' hw'; (try dsimp only at hw'); obtain ⟨q1, q2, q3, q4⟩ := hw'; go_simp; try with_reducible rfl
            simp only [Act.put, List.setIfInBounds_toArray, List.set_cons_zero, List.set_cons_succ]
            refine takeY 16 (i := 9) (v := ?vx6) rfl rfl (by kernel_rfl) (by kernel_rfl) (by kernel_rfl) (fun _ _ _ h => h) (by kernel_rfl) ?yx6 hS4 ?_
            case yx6 =>
              intro w' hw'; (try dsimp only at hw'); obtain ⟨q1, q2, q3, q4⟩ := hw'; go_simp; try with_reducible rfl
            simp only [Act.put, List.setIfInBounds_toArray, List.set_cons_zero, List.set_cons_succ]
            refine wpAnyH_ready (rs := [10]) (by kernel_rfl) (by simp) ?_
            refine (AllReadyH.cons rfl (fun K hK => ?_) AllReadyH.nil)
            go_simp
            refine hK.out _ _ (⟨((hB4.alloc hB4.size _).cell (p := ⟨g1, 0, none⟩) hbg1).trans f1, ((hB4.alloc hB4.size _).cell (p := ⟨g2, 0, none⟩) hbg2).trans f2, ((hB4.alloc hB4.size _).cell (p := ⟨w.heap.size, 0, none⟩) hx0).trans x0, ((hB4.alloc hB4.size _).cell (p := ⟨w.heap.size, 1, none⟩) hx0).trans x1⟩) (fun hS5 => ?_)
            clear hK K
            try simp only [Act.put, List.setIfInBounds_toArray, List.set_cons_zero, List.set_cons_succ]
            obtain ⟨w5, hw5⟩ : ∃ w', World.alloc w4 (.cells #[.int .i64 0, .int .i64 0] 74) = w' := ⟨_, rfl⟩
            have hB5 : Below wR.heap.size wR w5 := by rw [← hw5]; exact hB4.alloc hB4.size _
            have hb5 : Below w4.heap.size w4 w5 := by rw [← hw5]; exact (Below.refl _ _).alloc (Nat.le_refl _) _
            have hF5 : FrB w5 (w4.heap.size) ⟨0, 0⟩ := by rw [← hw5]; exact FrB.new w4 ⟨0, 0⟩
            try rw [hw5]
            try rw [hw5] at hS5
            clear hw5 hb5
            have hghF : wR.heap.size ≤ w4.heap.size := hB4.size
            obtain ⟨c0, c1, z0, z1⟩ := hF5.cells
            refine wpAnyH_ready (rs := [11]) (by kernel_rfl) (by simp) ?_
            refine (AllReadyH.cons rfl (fun K hK => ?_) AllReadyH.nil)
            go_simp
            refine hK.out _ _ (⟨((below_set2 hB5 hghF _ _).cell (p := ⟨g1, 0, none⟩) hbg1).trans f1, ((below_set2 hB5 hghF _ _).cell (p := ⟨g2, 0, none⟩) hbg2).trans f2, ((below_set2 hB5 hghF _ _).cell (p := ⟨w.heap.size, 0, none⟩) hx0).trans x0, ((below_set2 hB5 hghF _ _).cell (p := ⟨w.heap.size, 1, none⟩) hx0).trans x1⟩) (fun hS6 => ?_)
            clear hK K
            try simp only [Act.put, List.setIfInBounds_toArray, List.set_cons_zero, List.set_cons_succ]
            refine takeY 6 (i := 12) (v := ?vx7) rfl rfl (by kernel_rfl) (by kernel_rfl) (by kernel_rfl) (fun _ _ _ h => h) (by kernel_rfl) ?yx7 hS6 ?_
            case yx7 =>
              intro w' hw'; (try dsimp only at hw'); obtain ⟨q1, q2, q3, q4⟩ := hw'; go_simp; try with_reducible rfl
            simp only [Act.put, List.setIfInBounds_toArray, List.set_cons_zero, List.set_cons_succ]
            refine wpAnyH_done (by kernel_rfl) ?_ _
            go_wp2
            go_meet
            exact ⟨w4.heap.size, rfl, hF5.set _ _, hghF, (below_set2 hB5 hghF _ _)⟩
          · go_simp
            refine hK.out _ _ (⟨((hB3.alloc hB3.size _).cell (p := ⟨g1, 0, none⟩) hbg1).trans f1, ((hB3.alloc hB3.size _).cell (p := ⟨g2, 0, none⟩) hbg2).trans f2, ((hB3.alloc hB3.size _).cell (p := ⟨w.heap.size, 0, none⟩) hx0).trans x0, ((hB3.alloc hB3.size _).cell (p := ⟨w.heap.size, 1, none⟩) hx0).trans x1⟩) (fun hS7 => ?_)
            clear hK K
            try simp only [Act.put, List.setIfInBounds_toArray, List.set_cons_zero, List.set_cons_succ]
            obtain ⟨w7, hw7⟩ : ∃ w', World.alloc w3 (.cells #[.int .i64 0, .int .i64 0] 74) = w' := ⟨_, rfl⟩
            have hB7 : Below wR.heap.size wR w7 := by rw [← hw7]; exact hB3.alloc hB3.size _
            have hb7 : Below w3.heap.size w3 w7 := by rw [← hw7]; exact (Below.refl _ _).alloc (Nat.le_refl _) _
            have hT7 := Items.now hT3 hb7
            have hF7 : FrB w7 (w3.heap.size) ⟨0, 0⟩ := by rw [← hw7]; exact FrB.new w3 ⟨0, 0⟩
            try rw [hw7]
            try rw [hw7] at hS7
            clear hw7 hb7
            have hghF : wR.heap.size ≤ w3.heap.size := hB3.size
            refine wpAnyH_ready (rs := [6]) (by kernel_rfl) (by simp) ?_
            refine (AllReadyH.cons rfl (fun K hK => ?_) AllReadyH.nil)
            go_simp
            go_at_call 52
            refine (HGr.out _ _ _ hB7 hT7).mono ?_
            rintro e w8 ⟨⟨v5, rfl, ho⟩, hb8⟩
            have hB8 : Below wR.heap.size wR w8 := below_on hB7 hb8
            refine hK.out _ _ (⟨(hB8.cell (p := ⟨g1, 0, none⟩) hbg1).trans f1, (hB8.cell (p := ⟨g2, 0, none⟩) hbg2).trans f2, (hB8.cell (p := ⟨w.heap.size, 0, none⟩) hx0).trans x0, (hB8.cell (p := ⟨w.heap.size, 1, none⟩) hx0).trans x1⟩) (fun hS8 => ?_)
            clear hK K
            try simp only [Act.put, List.setIfInBounds_toArray, List.set_cons_zero, List.set_cons_succ]
            have hF8 := hF7.below hb8
            clear hb8 ho
            refine takeY 7 (i := 7) (v := ?vx8) rfl rfl (by kernel_rfl) (by kernel_rfl) (by kernel_rfl) (fun _ _ _ h => h) (by kernel_rfl) ?yx8 hS8 ?_
            case yx8 =>
              intro w' hw'; (try dsimp only at hw'); obtain ⟨q1, q2, q3, q4⟩ := hw'; go_simp; try with_reducible rfl
            simp only [Act.put, List.setIfInBounds_toArray, List.set_cons_zero, List.set_cons_succ]
            refine takeY 15 (i := 8) (v := ?vx9) rfl rfl (by kernel_rfl) (by kernel_rfl) (by kernel_rfl) (fun _ _ _ h => h) (by kernel_rfl) ?yx9 hS8 ?_
            case yx9 =>
              intro w' hw'; (try dsimp only at hw'); obtain ⟨q1, q2, q3, q4⟩ := hw'; go_simp; try with_reducible rfl
            simp only [Act.put, List.setIfInBounds_toArray, List.set_cons_zero, List.set_cons_succ]
            refine takeY 16 (i := 9) (v := ?vx10) rfl rfl (by kernel_rfl) (by kernel_rfl) (by kernel_rfl) (fun _ _ _ h => h) (by kernel_rfl) ?yx10 hS8 ?_
            case yx10 =>
              intro w' hw'; (try dsimp only at hw'); obtain ⟨q1, q2, q3, q4⟩ := hw'; go_simp; try with_reducible rfl
            simp only [Act.put, List.setIfInBounds_toArray, List.set_cons_zero, List.set_cons_succ]
            obtain ⟨c0, c1, z0, z1⟩ := hF8.cells
            refine wpAnyH_ready (rs := [11]) (by kernel_rfl) (by simp) ?_
            refine (AllReadyH.cons rfl (fun K hK => ?_) AllReadyH.nil)
            go_simp
            refine hK.out _ _ (⟨((below_set2 hB8 hghF _ _).cell (p := ⟨g1, 0, none⟩) hbg1).trans f1, ((below_set2 hB8 hghF _ _).cell (p := ⟨g2, 0, none⟩) hbg2).trans f2, ((below_set2 hB8 hghF _ _).cell (p := ⟨w.heap.size, 0, none⟩) hx0).trans x0, ((below_set2 hB8 hghF _ _).cell (p := ⟨w.heap.size, 1, none⟩) hx0).trans x1⟩) (fun hS9 => ?_)
            clear hK K
            try simp only [Act.put, List.setIfInBounds_toArray, List.set_cons_zero, List.set_cons_succ]
            refine takeY 6 (i := 12) (v := ?vx11) rfl rfl (by kernel_rfl) (by kernel_rfl) (by kernel_rfl) (fun _ _ _ h => h) (by kernel_rfl) ?yx11 hS9 ?_
            case yx11 =>
              intro w' hw'; (try dsimp only at hw'); obtain ⟨q1, q2, q3, q4⟩ := hw'; go_simp; try with_reducible rfl
            simp only [Act.put, List.setIfInBounds_toArray, List.set_cons_zero, List.set_cons_succ]
            refine wpAnyH_done (by kernel_rfl) ?_ _
            go_wp2
            go_meet
            exact ⟨w3.heap.size, rfl, hF8.set _ _, hghF, (below_set2 hB8 hghF _ _)⟩
        · go_simp
          refine hK.out _ _ (⟨((hB2.alloc hB2.size _).cell (p := ⟨g1, 0, none⟩) hbg1).trans f1, ((hB2.alloc hB2.size _).cell (p := ⟨g2, 0, none⟩) hbg2).trans f2, ((hB2.alloc hB2.size _).cell (p := ⟨w.heap.size, 0, none⟩) hx0).trans x0, ((hB2.alloc hB2.size _).cell (p := ⟨w.heap.size, 1, none⟩) hx0).trans x1⟩) (fun hS10 => ?_)
          clear hK K
          try simp only [Act.put, List.setIfInBounds_toArray, List.set_cons_zero, List.set_cons_succ]
          obtain ⟨w10, hw10⟩ : ∃ w', World.alloc w2 (.cells #[.int .i64 0, .int .i64 0] 74) = w' := ⟨_, rfl⟩
          have hB10 : Below wR.heap.size wR w10 := by rw [← hw10]; exact hB2.alloc hB2.size _
          have hb10 : Below w2.heap.size w2 w10 := by rw [← hw10]; exact (Below.refl _ _).alloc (Nat.le_refl _) _
          have hV10 := OwnG.below hV2 hb10
          have hE10 := hE2.below hb10
          have hF10 : FrB w10 (w2.heap.size) ⟨0, 0⟩ := by rw [← hw10]; exact FrB.new w2 ⟨0, 0⟩
          try rw [hw10]
          try rw [hw10] at hS10
          clear hw10 hb10
          have hghF : wR.heap.size ≤ w2.heap.size := hB2.size
          have hneV : ∀ k, v.ownBlock = some k → k ≠ w2.heap.size := fun k hk e => by have h1 := hV2.tops k hk; omega
          refine wpAnyH_ready (rs := [5]) (by kernel_rfl) (by simp) ?_
          refine (AllReadyH.cons rfl (fun K hK => ?_) AllReadyH.nil)
          obtain ⟨v6, w11, hr11, ho11, hg11, -⟩ := run_spreadG itCs_len itCs_one (ty := 24) (c := 1) Try.underlying24 info_item rfl (by decide) (by decide) hV10 hE10.read (by omega) hB10.size
          rw [HLL.out] at ho11
          obtain ⟨A4, c4, rfl, -, -⟩ := ho11.shape
          have hB11 : Below wR.heap.size wR w11 := hB10.grown hg11 hB10.size (fun k hk => hV10.lows k hk)
          have hF11 : FrB w11 (w2.heap.size) ⟨0, 0⟩ := (hg11.block _ hF10.lt (fun e => hneV _ e.symm rfl)).trans hF10
          refine step_run _ (by rfl) (.tmp 10) (.tmp 12) 24 (by rfl) _ _ (by rfl) (by rfl) hr11 ?_
          refine hK.out _ _ (⟨(hB11.cell (p := ⟨g1, 0, none⟩) hbg1).trans f1, (hB11.cell (p := ⟨g2, 0, none⟩) hbg2).trans f2, (hB11.cell (p := ⟨w.heap.size, 0, none⟩) hx0).trans x0, (hB11.cell (p := ⟨w.heap.size, 1, none⟩) hx0).trans x1⟩) (fun hS11 => ?_)
          clear hK K
          try simp only [Act.put, List.setIfInBounds_toArray, List.set_cons_zero, List.set_cons_succ]
          have hT11 : Items w11 w11.heap.size A4 L.length L := Items.ofr (ho11.read itCs_len) (HIn.out _ hB11)
          clear hr11 hg11 ho11
          refine wpAnyH_ready (rs := [6]) (by kernel_rfl) (by simp) ?_
          refine (AllReadyH.cons rfl (fun K hK => ?_) AllReadyH.nil)
          go_simp
          go_at_call 52
          refine (HGr.out _ _ _ hB11 hT11).mono ?_
          rintro e w12 ⟨⟨v5, rfl, ho⟩, hb12⟩
          have hB12 : Below wR.heap.size wR w12 := below_on hB11 hb12
          refine hK.out _ _ (⟨(hB12.cell (p := ⟨g1, 0, none⟩) hbg1).trans f1, (hB12.cell (p := ⟨g2, 0, none⟩) hbg2).trans f2, (hB12.cell (p := ⟨w.heap.size, 0, none⟩) hx0).trans x0, (hB12.cell (p := ⟨w.heap.size, 1, none⟩) hx0).trans x1⟩) (fun hS12 => ?_)
          clear hK K
          try simp only [Act.put, List.setIfInBounds_toArray, List.set_cons_zero, List.set_cons_succ]
          have hF12 := hF11.below hb12
          clear hb12 ho
          refine takeY 7 (i := 7) (v := ?vx12) rfl rfl (by kernel_rfl) (by kernel_rfl) (by kernel_rfl) (fun _ _ _ h => h) (by kernel_rfl) ?yx12 hS12 ?_
          case yx12 =>
            intro w' hw'; (try dsimp only at hw'); obtain ⟨q1, q2, q3, q4⟩ := hw'; go_simp; try with_reducible rfl
          simp only [Act.put, List.setIfInBounds_toArray, List.set_cons_zero, List.set_cons_succ]
          refine takeY 15 (i := 8) (v := ?vx13) rfl rfl (by kernel_rfl) (by kernel_rfl) (by kernel_rfl) (fun _ _ _ h => h) (by kernel_rfl) ?yx13 hS12 ?_
          case yx13 =>
            intro w' hw'; (try dsimp only at hw'); obtain ⟨q1, q2, q3, q4⟩ := hw'; go_simp; try with_reducible rfl
          simp only [Act.put, List.setIfInBounds_toArray, List.set_cons_zero, List.set_cons_succ]
          refine takeY 16 (i := 9) (v := ?vx14) rfl rfl (by kernel_rfl) (by kernel_rfl) (by kernel_rfl) (fun _ _ _ h => h) (by kernel_rfl) ?yx14 hS12 ?_
          case yx14 =>
            intro w' hw'; (try dsimp only at hw'); obtain ⟨q1, q2, q3, q4⟩ := hw'; go_simp; try with_reducible rfl
          simp only [Act.put, List.setIfInBounds_toArray, List.set_cons_zero, List.set_cons_succ]
          obtain ⟨c0, c1, z0, z1⟩ := hF12.cells
          refine wpAnyH_ready (rs := [11]) (by kernel_rfl) (by simp) ?_
          refine (AllReadyH.cons rfl (fun K hK => ?_) AllReadyH.nil)
          go_simp
          refine hK.out _ _ (⟨((below_set2 hB12 hghF _ _).cell (p := ⟨g1, 0, none⟩) hbg1).trans f1, ((below_set2 hB12 hghF _ _).cell (p := ⟨g2, 0, none⟩) hbg2).trans f2, ((below_set2 hB12 hghF _ _).cell (p := ⟨w.heap.size, 0, none⟩) hx0).trans x0, ((below_set2 hB12 hghF _ _).cell (p := ⟨w.heap.size, 1, none⟩) hx0).trans x1⟩) (fun hS13 => ?_)
          clear hK K
          try simp only [Act.put, List.setIfInBounds_toArray, List.set_cons_zero, List.set_cons_succ]
          refine takeY 6 (i := 12) (v := ?vx15) rfl rfl (by kernel_rfl) (by kernel_rfl) (by kernel_rfl) (fun _ _ _ h => h) (by kernel_rfl) ?yx15 hS13 ?_
          case yx15 =>
            intro w' hw'; (try dsimp only at hw'); obtain ⟨q1, q2, q3, q4⟩ := hw'; go_simp; try with_reducible rfl
          simp only [Act.put, List.setIfInBounds_toArray, List.set_cons_zero, List.set_cons_succ]
          refine wpAnyH_done (by kernel_rfl) ?_ _
          go_wp2
          go_meet
          exact ⟨w2.heap.size, rfl, hF12.set _ _, hghF, (below_set2 hB12 hghF _ _)⟩
      · go_simp
        refine hK.out _ _ (⟨((hB1.alloc hB1.size _).cell (p := ⟨g1, 0, none⟩) hbg1).trans f1, ((hB1.alloc hB1.size _).cell (p := ⟨g2, 0, none⟩) hbg2).trans f2, ((hB1.alloc hB1.size _).cell (p := ⟨w.heap.size, 0, none⟩) hx0).trans x0, ((hB1.alloc hB1.size _).cell (p := ⟨w.heap.size, 1, none⟩) hx0).trans x1⟩) (fun hS14 => ?_)
        clear hK K
        try simp only [Act.put, List.setIfInBounds_toArray, List.set_cons_zero, List.set_cons_succ]
        obtain ⟨w14, hw14⟩ : ∃ w', World.alloc w1 (.cells #[.int .i64 0, .int .i64 0] 74) = w' := ⟨_, rfl⟩
        have hB14 : Below wR.heap.size wR w14 := by rw [← hw14]; exact hB1.alloc hB1.size _
        have hb14 : Below w1.heap.size w1 w14 := by rw [← hw14]; exact (Below.refl _ _).alloc (Nat.le_refl _) _
        have hV14 := OwnG.below hV1 hb14
        have hF14 : FrB w14 (w1.heap.size) ⟨0, 0⟩ := by rw [← hw14]; exact FrB.new w1 ⟨0, 0⟩
        try rw [hw14]
        try rw [hw14] at hS14
        clear hw14 hb14
        have hghF : wR.heap.size ≤ w1.heap.size := hB1.size
        have hneV : ∀ k, v.ownBlock = some k → k ≠ w1.heap.size := fun k hk e => by have h1 := hV1.tops k hk; omega
        refine wpAnyH_ready (rs := [4]) (by kernel_rfl) (by simp) ?_
        refine (AllReadyH.cons rfl (fun K hK => ?_) AllReadyH.nil)
        go_simp
        refine hK.out _ _ (⟨((hB14.alloc hB14.size _).cell (p := ⟨g1, 0, none⟩) hbg1).trans f1, ((hB14.alloc hB14.size _).cell (p := ⟨g2, 0, none⟩) hbg2).trans f2, ((hB14.alloc hB14.size _).cell (p := ⟨w.heap.size, 0, none⟩) hx0).trans x0, ((hB14.alloc hB14.size _).cell (p := ⟨w.heap.size, 1, none⟩) hx0).trans x1⟩) (fun hS15 => ?_)
        clear hK K
        try simp only [Act.put, List.setIfInBounds_toArray, List.set_cons_zero, List.set_cons_succ]
        obtain ⟨w15, hw15⟩ : ∃ w', World.alloc w14 (.cells #[.int .i64 x.id, .slice x.A x.n x.c] 43) = w' := ⟨_, rfl⟩
        have hB15 : Below wR.heap.size wR w15 := by rw [← hw15]; exact hB14.alloc hB14.size _
        have hb15 : Below w14.heap.size w14 w15 := by rw [← hw15]; exact (Below.refl _ _).alloc (Nat.le_refl _) _
        have hV15 := OwnG.below hV14 hb15
        have hF15 := hF14.below hb15
        have hE15 : ItX w15 (w14.heap.size) x := by rw [← hw15]; exact ItX.new w14 x
        try rw [hw15]
        try rw [hw15] at hS15
        clear hw15 hb15
        refine wpAnyH_ready (rs := [5]) (by kernel_rfl) (by simp) ?_
        refine (AllReadyH.cons rfl (fun K hK => ?_) AllReadyH.nil)
        obtain ⟨v6, w16, hr16, ho16, hg16, -⟩ := run_spreadG itCs_len itCs_one (ty := 24) (c := 1) Try.underlying24 info_item rfl (by decide) (by decide) hV15 hE15.read (by omega) hB15.size
        rw [HLL.out] at ho16
        obtain ⟨A4, c4, rfl, -, -⟩ := ho16.shape
        have hB16 : Below wR.heap.size wR w16 := hB15.grown hg16 hB15.size (fun k hk => hV15.lows k hk)
        have hF16 : FrB w16 (w1.heap.size) ⟨0, 0⟩ := (hg16.block _ hF15.lt (fun e => hneV _ e.symm rfl)).trans hF15
        refine step_run _ (by rfl) (.tmp 10) (.tmp 12) 24 (by rfl) _ _ (by rfl) (by rfl) hr16 ?_
        refine hK.out _ _ (⟨(hB16.cell (p := ⟨g1, 0, none⟩) hbg1).trans f1, (hB16.cell (p := ⟨g2, 0, none⟩) hbg2).trans f2, (hB16.cell (p := ⟨w.heap.size, 0, none⟩) hx0).trans x0, (hB16.cell (p := ⟨w.heap.size, 1, none⟩) hx0).trans x1⟩) (fun hS16 => ?_)
        clear hK K
        try simp only [Act.put, List.setIfInBounds_toArray, List.set_cons_zero, List.set_cons_succ]
        have hT16 : Items w16 w16.heap.size A4 L.length L := Items.ofr (ho16.read itCs_len) (HIn.out _ hB16)
        clear hr16 hg16 ho16
        refine wpAnyH_ready (rs := [6]) (by kernel_rfl) (by simp) ?_
        refine (AllReadyH.cons rfl (fun K hK => ?_) AllReadyH.nil)
        go_simp
        go_at_call 52
        refine (HGr.out _ _ _ hB16 hT16).mono ?_
        rintro e w17 ⟨⟨v5, rfl, ho⟩, hb17⟩
        have hB17 : Below wR.heap.size wR w17 := below_on hB16 hb17
        refine hK.out _ _ (⟨(hB17.cell (p := ⟨g1, 0, none⟩) hbg1).trans f1, (hB17.cell (p := ⟨g2, 0, none⟩) hbg2).trans f2, (hB17.cell (p := ⟨w.heap.size, 0, none⟩) hx0).trans x0, (hB17.cell (p := ⟨w.heap.size, 1, none⟩) hx0).trans x1⟩) (fun hS17 => ?_)
        clear hK K
        try simp only [Act.put, List.setIfInBounds_toArray, List.set_cons_zero, List.set_cons_succ]
        have hF17 := hF16.below hb17
        clear hb17 ho
        refine takeY 7 (i := 7) (v := ?vx16) rfl rfl (by kernel_rfl) (by kernel_rfl) (by kernel_rfl) (fun _ _ _ h => h) (by kernel_rfl) ?yx16 hS17 ?_
        case yx16 =>
          intro w' hw'; (try dsimp only at hw'); obtain ⟨q1, q2, q3, q4⟩ := hw'; go_simp; try with_reducible rfl
        simp only [Act.put, List.setIfInBounds_toArray, List.set_cons_zero, List.set_cons_succ]
        refine takeY 15 (i := 8) (v := ?vx17) rfl rfl (by kernel_rfl) (by kernel_rfl) (by kernel_rfl) (fun _ _ _ h => h) (by kernel_rfl) ?yx17 hS17 ?_
        case yx17 =>
          intro w' hw'; (try dsimp only at hw'); obtain ⟨q1, q2, q3, q4⟩ := hw'; go_simp; try with_reducible rfl
        simp only [Act.put, List.setIfInBounds_toArray, List.set_cons_zero, List.set_cons_succ]
        refine takeY 16 (i := 9) (v := ?vx18) rfl rfl (by kernel_rfl) (by kernel_rfl) (by kernel_rfl) (fun _ _ _ h => h) (by kernel_rfl) ?yx18 hS17 ?_
        case yx18 =>
          intro w' hw'; (try dsimp only at hw'); obtain ⟨q1, q2, q3, q4⟩ := hw'; go_simp; try with_reducible rfl
        simp only [Act.put, List.setIfInBounds_toArray, List.set_cons_zero, List.set_cons_succ]
        obtain ⟨c0, c1, z0, z1⟩ := hF17.cells
        refine wpAnyH_ready (rs := [11]) (by kernel_rfl) (by simp) ?_
        refine (AllReadyH.cons rfl (fun K hK => ?_) AllReadyH.nil)
        go_simp
        refine hK.out _ _ (⟨((below_set2 hB17 hghF _ _).cell (p := ⟨g1, 0, none⟩) hbg1).trans f1, ((below_set2 hB17 hghF _ _).cell (p := ⟨g2, 0, none⟩) hbg2).trans f2, ((below_set2 hB17 hghF _ _).cell (p := ⟨w.heap.size, 0, none⟩) hx0).trans x0, ((below_set2 hB17 hghF _ _).cell (p := ⟨w.heap.size, 1, none⟩) hx0).trans x1⟩) (fun hS18 => ?_)
        clear hK K
        try simp only [Act.put, List.setIfInBounds_toArray, List.set_cons_zero, List.set_cons_succ]
        refine takeY 6 (i := 12) (v := ?vx19) rfl rfl (by kernel_rfl) (by kernel_rfl) (by kernel_rfl) (fun _ _ _ h => h) (by kernel_rfl) ?yx19 hS18 ?_
        case yx19 =>
          intro w' hw'; (try dsimp only at hw'); obtain ⟨q1, q2, q3, q4⟩ := hw'; go_simp; try with_reducible rfl
        simp only [Act.put, List.setIfInBounds_toArray, List.set_cons_zero, List.set_cons_succ]
        refine wpAnyH_done (by kernel_rfl) ?_ _
        go_wp2
        go_meet
        exact ⟨w1.heap.size, rfl, hF17.set _ _, hghF, (below_set2 hB17 hghF _ _)⟩
    · go_simp
      refine hK.out _ _ (⟨((hBD.alloc hBD.size _).cell (p := ⟨g1, 0, none⟩) hbg1).trans f1, ((hBD.alloc hBD.size _).cell (p := ⟨g2, 0, none⟩) hbg2).trans f2, ((hBD.alloc hBD.size _).cell (p := ⟨w.heap.size, 0, none⟩) hx0).trans x0, ((hBD.alloc hBD.size _).cell (p := ⟨w.heap.size, 1, none⟩) hx0).trans x1⟩) (fun hS19 => ?_)
      clear hK K
      try simp only [Act.put, List.setIfInBounds_toArray, List.set_cons_zero, List.set_cons_succ]
      obtain ⟨w19, hw19⟩ : ∃ w', World.alloc wD (.cells #[.int .i64 x.id, .slice x.A x.n x.c] 43) = w' := ⟨_, rfl⟩
      have hB19 : Below wR.heap.size wR w19 := by rw [← hw19]; exact hBD.alloc hBD.size _
      have hb19 : Below wD.heap.size wD w19 := by rw [← hw19]; exact (Below.refl _ _).alloc (Nat.le_refl _) _
      have hE19 : ItX w19 (wD.heap.size) x := by rw [← hw19]; exact ItX.new wD x
      try rw [hw19]
      try rw [hw19] at hS19
      clear hw19 hb19
      refine wpAnyH_ready (rs := [2, 10]) (by kernel_rfl) (by simp) ?_
      refine (AllReadyH.cons rfl (fun K hK => ?_) (AllReadyH.cons rfl (fun K hK => ?_) AllReadyH.nil))
      · go_simp
        go_at_call 71
        refine (HCl.out _ hB19).mono ?_
        rintro e w20 ⟨v, rfl, ho, hb20⟩
        have hB20 : Below wR.heap.size wR w20 := below_on hB19 hb20
        refine hK.out _ _ (⟨(hB20.cell (p := ⟨g1, 0, none⟩) hbg1).trans f1, (hB20.cell (p := ⟨g2, 0, none⟩) hbg2).trans f2, (hB20.cell (p := ⟨w.heap.size, 0, none⟩) hx0).trans x0, (hB20.cell (p := ⟨w.heap.size, 1, none⟩) hx0).trans x1⟩) (fun hS20 => ?_)
        clear hK K
        try simp only [Act.put, List.setIfInBounds_toArray, List.set_cons_zero, List.set_cons_succ]
        have hE20 := hE19.below hb20
        have hV20 : OwnTs w20 wR.heap.size v cs := ho.low hB19.size
        clear hb20 ho
        refine wpAnyH_ready (rs := [5, 10]) (by kernel_rfl) (by simp) ?_
        refine (AllReadyH.cons rfl (fun K hK => ?_) (AllReadyH.cons rfl (fun K hK => ?_) AllReadyH.nil))
        · obtain ⟨v6, w21, hr21, ho21, hg21, -⟩ := run_spreadG itCs_len itCs_one (ty := 24) (c := 1) Try.underlying24 info_item rfl (by decide) (by decide) hV20 hE20.read (by omega) hB20.size
          rw [HLL.out] at ho21
          obtain ⟨A4, c4, rfl, -, -⟩ := ho21.shape
          have hB21 : Below wR.heap.size wR w21 := hB20.grown hg21 hB20.size (fun k hk => hV20.lows k hk)
          refine step_run _ (by rfl) (.tmp 10) (.tmp 12) 24 (by rfl) _ _ (by rfl) (by rfl) hr21 ?_
          refine hK.out _ _ (⟨(hB21.cell (p := ⟨g1, 0, none⟩) hbg1).trans f1, (hB21.cell (p := ⟨g2, 0, none⟩) hbg2).trans f2, (hB21.cell (p := ⟨w.heap.size, 0, none⟩) hx0).trans x0, (hB21.cell (p := ⟨w.heap.size, 1, none⟩) hx0).trans x1⟩) (fun hS21 => ?_)
          clear hK K
          try simp only [Act.put, List.setIfInBounds_toArray, List.set_cons_zero, List.set_cons_succ]
          have hT21 : Items w21 w21.heap.size A4 L.length L := Items.ofr (ho21.read itCs_len) (HIn.out _ hB21)
          clear hr21 hg21 ho21
          refine wpAnyH_ready (rs := [6, 10]) (by kernel_rfl) (by simp) ?_
          refine (AllReadyH.cons rfl (fun K hK => ?_) (AllReadyH.cons rfl (fun K hK => ?_) AllReadyH.nil))
          · go_simp
            go_at_call 52
            refine (HGr.out _ _ _ hB21 hT21).mono ?_
            rintro e w22 ⟨⟨v5, rfl, ho⟩, hb22⟩
            have hB22 : Below wR.heap.size wR w22 := below_on hB21 hb22
            refine hK.out _ _ (⟨(hB22.cell (p := ⟨g1, 0, none⟩) hbg1).trans f1, (hB22.cell (p := ⟨g2, 0, none⟩) hbg2).trans f2, (hB22.cell (p := ⟨w.heap.size, 0, none⟩) hx0).trans x0, (hB22.cell (p := ⟨w.heap.size, 1, none⟩) hx0).trans x1⟩) (fun hS22 => ?_)
            clear hK K
            try simp only [Act.put, List.setIfInBounds_toArray, List.set_cons_zero, List.set_cons_succ]
            clear hb22 ho
            refine takeY 7 (i := 7) (v := ?vx20) rfl rfl (by kernel_rfl) (by kernel_rfl) (by kernel_rfl) (fun _ _ _ h => h) (by kernel_rfl) ?yx20 hS22 ?_
            case yx20 =>
              intro w' hw'; (try dsimp only at hw'); obtain ⟨q1, q2, q3, q4⟩ := hw'; go_simp; try with_reducible rfl
            simp only [Act.put, List.setIfInBounds_toArray, List.set_cons_zero, List.set_cons_succ]
            refine takeY 15 (i := 8) (v := ?vx21) rfl rfl (by kernel_rfl) (by kernel_rfl) (by kernel_rfl) (fun _ _ _ h => h) (by kernel_rfl) ?yx21 hS22 ?_
            case yx21 =>
              intro w' hw'; (try dsimp only at hw'); obtain ⟨q1, q2, q3, q4⟩ := hw'; go_simp; try with_reducible rfl
            simp only [Act.put, List.setIfInBounds_toArray, List.set_cons_zero, List.set_cons_succ]
            refine takeY 16 (i := 9) (v := ?vx22) rfl rfl (by kernel_rfl) (by kernel_rfl) (by kernel_rfl) (fun _ _ _ h => h) (by kernel_rfl) ?yx22 hS22 ?_
            case yx22 =>
              intro w' hw'; (try dsimp only at hw'); obtain ⟨q1, q2, q3, q4⟩ := hw'; go_simp; try with_reducible rfl
            simp only [Act.put, List.setIfInBounds_toArray, List.set_cons_zero, List.set_cons_succ]
            refine wpAnyH_ready (rs := [10]) (by kernel_rfl) (by simp) ?_
            refine (AllReadyH.cons rfl (fun K hK => ?_) AllReadyH.nil)
            go_simp
            refine hK.out _ _ (⟨((hB22.alloc hB22.size _).cell (p := ⟨g1, 0, none⟩) hbg1).trans f1, ((hB22.alloc hB22.size _).cell (p := ⟨g2, 0, none⟩) hbg2).trans f2, ((hB22.alloc hB22.size _).cell (p := ⟨w.heap.size, 0, none⟩) hx0).trans x0, ((hB22.alloc hB22.size _).cell (p := ⟨w.heap.size, 1, none⟩) hx0).trans x1⟩) (fun hS23 => ?_)
            clear hK K
            try simp only [Act.put, List.setIfInBounds_toArray, List.set_cons_zero, List.set_cons_succ]
            obtain ⟨w23, hw23⟩ : ∃ w', World.alloc w22 (.cells #[.int .i64 0, .int .i64 0] 74) = w' := ⟨_, rfl⟩
            have hB23 : Below wR.heap.size wR w23 := by rw [← hw23]; exact hB22.alloc hB22.size _
            have hb23 : Below w22.heap.size w22 w23 := by rw [← hw23]; exact (Below.refl _ _).alloc (Nat.le_refl _) _
            have hF23 : FrB w23 (w22.heap.size) ⟨0, 0⟩ := by rw [← hw23]; exact FrB.new w22 ⟨0, 0⟩
            try rw [hw23]
            try rw [hw23] at hS23
            clear hw23 hb23
            have hghF : wR.heap.size ≤ w22.heap.size := hB22.size
            obtain ⟨c0, c1, z0, z1⟩ := hF23.cells
            refine wpAnyH_ready (rs := [11]) (by kernel_rfl) (by simp) ?_
            refine (AllReadyH.cons rfl (fun K hK => ?_) AllReadyH.nil)
            go_simp
            refine hK.out _ _ (⟨((below_set2 hB23 hghF _ _).cell (p := ⟨g1, 0, none⟩) hbg1).trans f1, ((below_set2 hB23 hghF _ _).cell (p := ⟨g2, 0, none⟩) hbg2).trans f2, ((below_set2 hB23 hghF _ _).cell (p := ⟨w.heap.size, 0, none⟩) hx0).trans x0, ((below_set2 hB23 hghF _ _).cell (p := ⟨w.heap.size, 1, none⟩) hx0).trans x1⟩) (fun hS24 => ?_)
            clear hK K
            try simp only [Act.put, List.setIfInBounds_toArray, List.set_cons_zero, List.set_cons_succ]
            refine takeY 6 (i := 12) (v := ?vx23) rfl rfl (by kernel_rfl) (by kernel_rfl) (by kernel_rfl) (fun _ _ _ h => h) (by kernel_rfl) ?yx23 hS24 ?_
            case yx23 =>
              intro w' hw'; (try dsimp only at hw'); obtain ⟨q1, q2, q3, q4⟩ := hw'; go_simp; try with_reducible rfl
            simp only [Act.put, List.setIfInBounds_toArray, List.set_cons_zero, List.set_cons_succ]
            refine wpAnyH_done (by kernel_rfl) ?_ _
            go_wp2
            go_meet
            exact ⟨w22.heap.size, rfl, hF23.set _ _, hghF, (below_set2 hB23 hghF _ _)⟩
          · go_simp
            refine hK.out _ _ (⟨((hB21.alloc hB21.size _).cell (p := ⟨g1, 0, none⟩) hbg1).trans f1, ((hB21.alloc hB21.size _).cell (p := ⟨g2, 0, none⟩) hbg2).trans f2, ((hB21.alloc hB21.size _).cell (p := ⟨w.heap.size, 0, none⟩) hx0).trans x0, ((hB21.alloc hB21.size _).cell (p := ⟨w.heap.size, 1, none⟩) hx0).trans x1⟩) (fun hS25 => ?_)
            clear hK K
            try simp only [Act.put, List.setIfInBounds_toArray, List.set_cons_zero, List.set_cons_succ]
            obtain ⟨w25, hw25⟩ : ∃ w', World.alloc w21 (.cells #[.int .i64 0, .int .i64 0] 74) = w' := ⟨_, rfl⟩
            have hB25 : Below wR.heap.size wR w25 := by rw [← hw25]; exact hB21.alloc hB21.size _
            have hb25 : Below w21.heap.size w21 w25 := by rw [← hw25]; exact (Below.refl _ _).alloc (Nat.le_refl _) _
            have hT25 := Items.now hT21 hb25
            have hF25 : FrB w25 (w21.heap.size) ⟨0, 0⟩ := by rw [← hw25]; exact FrB.new w21 ⟨0, 0⟩
            try rw [hw25]
            try rw [hw25] at hS25
            clear hw25 hb25
            have hghF : wR.heap.size ≤ w21.heap.size := hB21.size
            refine wpAnyH_ready (rs := [6]) (by kernel_rfl) (by simp) ?_
            refine (AllReadyH.cons rfl (fun K hK => ?_) AllReadyH.nil)
            go_simp
            go_at_call 52
            refine (HGr.out _ _ _ hB25 hT25).mono ?_
            rintro e w26 ⟨⟨v5, rfl, ho⟩, hb26⟩
            have hB26 : Below wR.heap.size wR w26 := below_on hB25 hb26
            refine hK.out _ _ (⟨(hB26.cell (p := ⟨g1, 0, none⟩) hbg1).trans f1, (hB26.cell (p := ⟨g2, 0, none⟩) hbg2).trans f2, (hB26.cell (p := ⟨w.heap.size, 0, none⟩) hx0).trans x0, (hB26.cell (p := ⟨w.heap.size, 1, none⟩) hx0).trans x1⟩) (fun hS26 => ?_)
            clear hK K
            try simp only [Act.put, List.setIfInBounds_toArray, List.set_cons_zero, List.set_cons_succ]
            have hF26 := hF25.below hb26
            clear hb26 ho
            refine takeY 7 (i := 7) (v := ?vx24) rfl rfl (by kernel_rfl) (by kernel_rfl) (by kernel_rfl) (fun _ _ _ h => h) (by kernel_rfl) ?yx24 hS26 ?_
            case yx24 =>
              intro w' hw'; (try dsimp only at hw'); obtain ⟨q1, q2, q3, q4⟩ := hw'; go_simp; try with_reducible rfl
            simp only [Act.put, List.setIfInBounds_toArray, List.set_cons_zero, List.set_cons_succ]
            refine takeY 15 (i := 8) (v := ?vx25) rfl rfl (by kernel_rfl) (by kernel_rfl) (by kernel_rfl) (fun _ _ _ h => h) (by kernel_rfl) ?yx25 hS26 ?_
            case yx25 =>
              intro w' hw'; (try dsimp only at hw'); obtain ⟨q1, q2, q3, q4⟩ := hw'; go_simp; try with_reducible rfl
            simp only [Act.put, List.setIfInBounds_toArray, List.set_cons_zero, List.set_cons_succ]
            refine takeY 16 (i := 9) (v := ?vx26) rfl rfl (by kernel_rfl) (by kernel_rfl) (by kernel_rfl) (fun _ _ _ h => h) (by kernel_rfl) ?yx26 hS26 ?_
            case yx26 =>
              intro w' hw'; (try dsimp only at hw'); obtain ⟨q1, q2, q3, q4⟩ := hw'; go_simp; try with_reducible rfl
            simp only [Act.put, List.setIfInBounds_toArray, List.set_cons_zero, List.set_cons_succ]
            obtain ⟨c0, c1, z0, z1⟩ := hF26.cells
            refine wpAnyH_ready (rs := [11]) (by kernel_rfl) (by simp) ?_
            refine (AllReadyH.cons rfl (fun K hK => ?_) AllReadyH.nil)
            go_simp
            refine hK.out _ _ (⟨((below_set2 hB26 hghF _ _).cell (p := ⟨g1, 0, none⟩) hbg1).trans f1, ((below_set2 hB26 hghF _ _).cell (p := ⟨g2, 0, none⟩) hbg2).trans f2, ((below_set2 hB26 hghF _ _).cell (p := ⟨w.heap.size, 0, none⟩) hx0).trans x0, ((below_set2 hB26 hghF _ _).cell (p := ⟨w.heap.size, 1, none⟩) hx0).trans x1⟩) (fun hS27 => ?_)
            clear hK K
            try simp only [Act.put, List.setIfInBounds_toArray, List.set_cons_zero, List.set_cons_succ]
            refine takeY 6 (i := 12) (v := ?vx27) rfl rfl (by kernel_rfl) (by kernel_rfl) (by kernel_rfl) (fun _ _ _ h => h) (by kernel_rfl) ?yx27 hS27 ?_
            case yx27 =>
              intro w' hw'; (try dsimp only at hw'); obtain ⟨q1, q2, q3, q4⟩ := hw'; go_simp; try with_reducible rfl
            simp only [Act.put, List.setIfInBounds_toArray, List.set_cons_zero, List.set_cons_succ]
            refine wpAnyH_done (by kernel_rfl) ?_ _
            go_wp2
            go_meet
            exact ⟨w21.heap.size, rfl, hF26.set _ _, hghF, (below_set2 hB26 hghF _ _)⟩
        · go_simp
          refine hK.out _ _ (⟨((hB20.alloc hB20.size _).cell (p := ⟨g1, 0, none⟩) hbg1).trans f1, ((hB20.alloc hB20.size _).cell (p := ⟨g2, 0, none⟩) hbg2).trans f2, ((hB20.alloc hB20.size _).cell (p := ⟨w.heap.size, 0, none⟩) hx0).trans x0, ((hB20.alloc hB20.size _).cell (p := ⟨w.heap.size, 1, none⟩) hx0).trans x1⟩) (fun hS28 => ?_)
          clear hK K
          try simp only [Act.put, List.setIfInBounds_toArray, List.set_cons_zero, List.set_cons_succ]
          obtain ⟨w28, hw28⟩ : ∃ w', World.alloc w20 (.cells #[.int .i64 0, .int .i64 0] 74) = w' := ⟨_, rfl⟩
          have hB28 : Below wR.heap.size wR w28 := by rw [← hw28]; exact hB20.alloc hB20.size _
          have hb28 : Below w20.heap.size w20 w28 := by rw [← hw28]; exact (Below.refl _ _).alloc (Nat.le_refl _) _
          have hE28 := hE20.below hb28
          have hV28 := OwnG.below hV20 hb28
          have hF28 : FrB w28 (w20.heap.size) ⟨0, 0⟩ := by rw [← hw28]; exact FrB.new w20 ⟨0, 0⟩
          try rw [hw28]
          try rw [hw28] at hS28
          clear hw28 hb28
          have hghF : wR.heap.size ≤ w20.heap.size := hB20.size
          have hneV : ∀ k, v.ownBlock = some k → k ≠ w20.heap.size := fun k hk e => by have h1 := hV20.tops k hk; omega
          refine wpAnyH_ready (rs := [5]) (by kernel_rfl) (by simp) ?_
          refine (AllReadyH.cons rfl (fun K hK => ?_) AllReadyH.nil)
          obtain ⟨v6, w29, hr29, ho29, hg29, -⟩ := run_spreadG itCs_len itCs_one (ty := 24) (c := 1) Try.underlying24 info_item rfl (by decide) (by decide) hV28 hE28.read (by omega) hB28.size
          rw [HLL.out] at ho29
          obtain ⟨A4, c4, rfl, -, -⟩ := ho29.shape
          have hB29 : Below wR.heap.size wR w29 := hB28.grown hg29 hB28.size (fun k hk => hV28.lows k hk)
          have hF29 : FrB w29 (w20.heap.size) ⟨0, 0⟩ := (hg29.block _ hF28.lt (fun e => hneV _ e.symm rfl)).trans hF28
          refine step_run _ (by rfl) (.tmp 10) (.tmp 12) 24 (by rfl) _ _ (by rfl) (by rfl) hr29 ?_
          refine hK.out _ _ (⟨(hB29.cell (p := ⟨g1, 0, none⟩) hbg1).trans f1, (hB29.cell (p := ⟨g2, 0, none⟩) hbg2).trans f2, (hB29.cell (p := ⟨w.heap.size, 0, none⟩) hx0).trans x0, (hB29.cell (p := ⟨w.heap.size, 1, none⟩) hx0).trans x1⟩) (fun hS29 => ?_)
          clear hK K
          try simp only [Act.put, List.setIfInBounds_toArray, List.set_cons_zero, List.set_cons_succ]
          have hT29 : Items w29 w29.heap.size A4 L.length L := Items.ofr (ho29.read itCs_len) (HIn.out _ hB29)
          clear hr29 hg29 ho29
          refine wpAnyH_ready (rs := [6]) (by kernel_rfl) (by simp) ?_
          refine (AllReadyH.cons rfl (fun K hK => ?_) AllReadyH.nil)
          go_simp
          go_at_call 52
          refine (HGr.out _ _ _ hB29 hT29).mono ?_
          rintro e w30 ⟨⟨v5, rfl, ho⟩, hb30⟩
          have hB30 : Below wR.heap.size wR w30 := below_on hB29 hb30
          refine hK.out _ _ (⟨(hB30.cell (p := ⟨g1, 0, none⟩) hbg1).trans f1, (hB30.cell (p := ⟨g2, 0, none⟩) hbg2).trans f2, (hB30.cell (p := ⟨w.heap.size, 0, none⟩) hx0).trans x0, (hB30.cell (p := ⟨w.heap.size, 1, none⟩) hx0).trans x1⟩) (fun hS30 => ?_)
          clear hK K
          try simp only [Act.put, List.setIfInBounds_toArray, List.set_cons_zero, List.set_cons_succ]
          have hF30 := hF29.below hb30
          clear hb30 ho
          refine takeY 7 (i := 7) (v := ?vx28) rfl rfl (by kernel_rfl) (by kernel_rfl) (by kernel_rfl) (fun _ _ _ h => h) (by kernel_rfl) ?yx28 hS30 ?_
          case yx28 =>
            intro w' hw'; (try dsimp only at hw'); obtain ⟨q1, q2, q3, q4⟩ := hw'; go_simp; try with_reducible rfl
          simp only [Act.put, List.setIfInBounds_toArray, List.set_cons_zero, List.set_cons_succ]
          refine takeY 15 (i := 8) (v := ?vx29) rfl rfl (by kernel_rfl) (by kernel_rfl) (by kernel_rfl) (fun _ _ _ h => h) (by kernel_rfl) ?yx29 hS30 ?_
          case yx29 =>
            intro w' hw'; (try dsimp only at hw'); obtain ⟨q1, q2, q3, q4⟩ := hw'; go_simp; try with_reducible rfl
          simp only [Act.put, List.setIfInBounds_toArray, List.set_cons_zero, List.set_cons_succ]
          refine takeY 16 (i := 9) (v := ?vx30) rfl rfl (by kernel_rfl) (by kernel_rfl) (by kernel_rfl) (fun _ _ _ h => h) (by kernel_rfl) ?yx30 hS30 ?_
          case yx30 =>
            intro w' hw'; (try dsimp only at hw'); obtain ⟨q1, q2, q3, q4⟩ := hw'; go_simp; try with_reducible rfl
          simp only [Act.put, List.setIfInBounds_toArray, List.set_cons_zero, List.set_cons_succ]
          obtain ⟨c0, c1, z0, z1⟩ := hF30.cells
          refine wpAnyH_ready (rs := [11]) (by kernel_rfl) (by simp) ?_
          refine (AllReadyH.cons rfl (fun K hK => ?_) AllReadyH.nil)
          go_simp
          refine hK.out _ _ (⟨((below_set2 hB30 hghF _ _).cell (p := ⟨g1, 0, none⟩) hbg1).trans f1, ((below_set2 hB30 hghF _ _).cell (p := ⟨g2, 0, none⟩) hbg2).trans f2, ((below_set2 hB30 hghF _ _).cell (p := ⟨w.heap.size, 0, none⟩) hx0).trans x0, ((below_set2 hB30 hghF _ _).cell (p := ⟨w.heap.size, 1, none⟩) hx0).trans x1⟩) (fun hS31 => ?_)
          clear hK K
          try simp only [Act.put, List.setIfInBounds_toArray, List.set_cons_zero, List.set_cons_succ]
          refine takeY 6 (i := 12) (v := ?vx31) rfl rfl (by kernel_rfl) (by kernel_rfl) (by kernel_rfl) (fun _ _ _ h => h) (by kernel_rfl) ?yx31 hS31 ?_
          case yx31 =>
            intro w' hw'; (try dsimp only at hw'); obtain ⟨q1, q2, q3, q4⟩ := hw'; go_simp; try with_reducible rfl
          simp only [Act.put, List.setIfInBounds_toArray, List.set_cons_zero, List.set_cons_succ]
          refine wpAnyH_done (by kernel_rfl) ?_ _
          go_wp2
          go_meet
          exact ⟨w20.heap.size, rfl, hF30.set _ _, hghF, (below_set2 hB30 hghF _ _)⟩
      · go_simp
        refine hK.out _ _ (⟨((hB19.alloc hB19.size _).cell (p := ⟨g1, 0, none⟩) hbg1).trans f1, ((hB19.alloc hB19.size _).cell (p := ⟨g2, 0, none⟩) hbg2).trans f2, ((hB19.alloc hB19.size _).cell (p := ⟨w.heap.size, 0, none⟩) hx0).trans x0, ((hB19.alloc hB19.size _).cell (p := ⟨w.heap.size, 1, none⟩) hx0).trans x1⟩) (fun hS32 => ?_)
        clear hK K
        try simp only [Act.put, List.setIfInBounds_toArray, List.set_cons_zero, List.set_cons_succ]
        obtain ⟨w32, hw32⟩ : ∃ w', World.alloc w19 (.cells #[.int .i64 0, .int .i64 0] 74) = w' := ⟨_, rfl⟩
        have hB32 : Below wR.heap.size wR w32 := by rw [← hw32]; exact hB19.alloc hB19.size _
        have hb32 : Below w19.heap.size w19 w32 := by rw [← hw32]; exact (Below.refl _ _).alloc (Nat.le_refl _) _
        have hE32 := hE19.below hb32
        have hF32 : FrB w32 (w19.heap.size) ⟨0, 0⟩ := by rw [← hw32]; exact FrB.new w19 ⟨0, 0⟩
        try rw [hw32]
        try rw [hw32] at hS32
        clear hw32 hb32
        have hghF : wR.heap.size ≤ w19.heap.size := hB19.size
        refine wpAnyH_ready (rs := [2]) (by kernel_rfl) (by simp) ?_
        refine (AllReadyH.cons rfl (fun K hK => ?_) AllReadyH.nil)
        go_simp
        go_at_call 71
        refine (HCl.out _ hB32).mono ?_
        rintro e w33 ⟨v, rfl, ho, hb33⟩
        have hB33 : Below wR.heap.size wR w33 := below_on hB32 hb33
        refine hK.out _ _ (⟨(hB33.cell (p := ⟨g1, 0, none⟩) hbg1).trans f1, (hB33.cell (p := ⟨g2, 0, none⟩) hbg2).trans f2, (hB33.cell (p := ⟨w.heap.size, 0, none⟩) hx0).trans x0, (hB33.cell (p := ⟨w.heap.size, 1, none⟩) hx0).trans x1⟩) (fun hS33 => ?_)
        clear hK K
        try simp only [Act.put, List.setIfInBounds_toArray, List.set_cons_zero, List.set_cons_succ]
        have hE33 := hE32.below hb33
        have hF33 := hF32.below hb33
        have hV33 : OwnTs w33 wR.heap.size v cs := ho.low hB32.size
        have hneV : ∀ k, v.ownBlock = some k → k ≠ w19.heap.size := fun k hk e => by
          have h1 := ho.lows k hk
          have h2 := hF32.lt
          omega
        clear hb33 ho
        refine wpAnyH_ready (rs := [5]) (by kernel_rfl) (by simp) ?_
        refine (AllReadyH.cons rfl (fun K hK => ?_) AllReadyH.nil)
        obtain ⟨v6, w34, hr34, ho34, hg34, -⟩ := run_spreadG itCs_len itCs_one (ty := 24) (c := 1) Try.underlying24 info_item rfl (by decide) (by decide) hV33 hE33.read (by omega) hB33.size
        rw [HLL.out] at ho34
        obtain ⟨A4, c4, rfl, -, -⟩ := ho34.shape
        have hB34 : Below wR.heap.size wR w34 := hB33.grown hg34 hB33.size (fun k hk => hV33.lows k hk)
        have hF34 : FrB w34 (w19.heap.size) ⟨0, 0⟩ := (hg34.block _ hF33.lt (fun e => hneV _ e.symm rfl)).trans hF33
        refine step_run _ (by rfl) (.tmp 10) (.tmp 12) 24 (by rfl) _ _ (by rfl) (by rfl) hr34 ?_
        refine hK.out _ _ (⟨(hB34.cell (p := ⟨g1, 0, none⟩) hbg1).trans f1, (hB34.cell (p := ⟨g2, 0, none⟩) hbg2).trans f2, (hB34.cell (p := ⟨w.heap.size, 0, none⟩) hx0).trans x0, (hB34.cell (p := ⟨w.heap.size, 1, none⟩) hx0).trans x1⟩) (fun hS34 => ?_)
        clear hK K
        try simp only [Act.put, List.setIfInBounds_toArray, List.set_cons_zero, List.set_cons_succ]
        have hT34 : Items w34 w34.heap.size A4 L.length L := Items.ofr (ho34.read itCs_len) (HIn.out _ hB34)
        clear hr34 hg34 ho34
        refine wpAnyH_ready (rs := [6]) (by kernel_rfl) (by simp) ?_
        refine (AllReadyH.cons rfl (fun K hK => ?_) AllReadyH.nil)
        go_simp
        go_at_call 52
        refine (HGr.out _ _ _ hB34 hT34).mono ?_
        rintro e w35 ⟨⟨v5, rfl, ho⟩, hb35⟩
        have hB35 : Below wR.heap.size wR w35 := below_on hB34 hb35
        refine hK.out _ _ (⟨(hB35.cell (p := ⟨g1, 0, none⟩) hbg1).trans f1, (hB35.cell (p := ⟨g2, 0, none⟩) hbg2).trans f2, (hB35.cell (p := ⟨w.heap.size, 0, none⟩) hx0).trans x0, (hB35.cell (p := ⟨w.heap.size, 1, none⟩) hx0).trans x1⟩) (fun hS35 => ?_)
        clear hK K
        try simp only [Act.put, List.setIfInBounds_toArray, List.set_cons_zero, List.set_cons_succ]
        have hF35 := hF34.below hb35
        clear hb35 ho
        refine takeY 7 (i := 7) (v := ?vx32) rfl rfl (by kernel_rfl) (by kernel_rfl) (by kernel_rfl) (fun _ _ _ h => h) (by kernel_rfl) ?yx32 hS35 ?_
        case yx32 =>
          intro w' hw'; (try dsimp only at hw'); obtain ⟨q1, q2, q3, q4⟩ := hw'; go_simp; try with_reducible rfl
        simp only [Act.put, List.setIfInBounds_toArray, List.set_cons_zero, List.set_cons_succ]
        refine takeY 15 (i := 8) (v := ?vx33) rfl rfl (by kernel_rfl) (by kernel_rfl) (by kernel_rfl) (fun _ _ _ h => h) (by kernel_rfl) ?yx33 hS35 ?_
        case yx33 =>
          intro w' hw'; (try dsimp only at hw'); obtain ⟨q1, q2, q3, q4⟩ := hw'; go_simp; try with_reducible rfl
        simp only [Act.put, List.setIfInBounds_toArray, List.set_cons_zero, List.set_cons_succ]
        refine takeY 16 (i := 9) (v := ?vx34) rfl rfl (by kernel_rfl) (by kernel_rfl) (by kernel_rfl) (fun _ _ _ h => h) (by kernel_rfl) ?yx34 hS35 ?_
        case yx34 =>
          intro w' hw'; (try dsimp only at hw'); obtain ⟨q1, q2, q3, q4⟩ := hw'; go_simp; try with_reducible rfl
        simp only [Act.put, List.setIfInBounds_toArray, List.set_cons_zero, List.set_cons_succ]
        obtain ⟨c0, c1, z0, z1⟩ := hF35.cells
        refine wpAnyH_ready (rs := [11]) (by kernel_rfl) (by simp) ?_
        refine (AllReadyH.cons rfl (fun K hK => ?_) AllReadyH.nil)
        go_simp
        refine hK.out _ _ (⟨((below_set2 hB35 hghF _ _).cell (p := ⟨g1, 0, none⟩) hbg1).trans f1, ((below_set2 hB35 hghF _ _).cell (p := ⟨g2, 0, none⟩) hbg2).trans f2, ((below_set2 hB35 hghF _ _).cell (p := ⟨w.heap.size, 0, none⟩) hx0).trans x0, ((below_set2 hB35 hghF _ _).cell (p := ⟨w.heap.size, 1, none⟩) hx0).trans x1⟩) (fun hS36 => ?_)
        clear hK K
        try simp only [Act.put, List.setIfInBounds_toArray, List.set_cons_zero, List.set_cons_succ]
        refine takeY 6 (i := 12) (v := ?vx35) rfl rfl (by kernel_rfl) (by kernel_rfl) (by kernel_rfl) (fun _ _ _ h => h) (by kernel_rfl) ?yx35 hS36 ?_
        case yx35 =>
          intro w' hw'; (try dsimp only at hw'); obtain ⟨q1, q2, q3, q4⟩ := hw'; go_simp; try with_reducible rfl
        simp only [Act.put, List.setIfInBounds_toArray, List.set_cons_zero, List.set_cons_succ]
        refine wpAnyH_done (by kernel_rfl) ?_ _
        go_wp2
        go_meet
        exact ⟨w19.heap.size, rfl, hF35.set _ _, hghF, (below_set2 hB35 hghF _ _)⟩
    · go_simp
      refine hK.out _ _ (⟨((hBD.alloc hBD.size _).cell (p := ⟨g1, 0, none⟩) hbg1).trans f1, ((hBD.alloc hBD.size _).cell (p := ⟨g2, 0, none⟩) hbg2).trans f2, ((hBD.alloc hBD.size _).cell (p := ⟨w.heap.size, 0, none⟩) hx0).trans x0, ((hBD.alloc hBD.size _).cell (p := ⟨w.heap.size, 1, none⟩) hx0).trans x1⟩) (fun hS37 => ?_)
      clear hK K
      try simp only [Act.put, List.setIfInBounds_toArray, List.set_cons_zero, List.set_cons_succ]
      obtain ⟨w37, hw37⟩ : ∃ w', World.alloc wD (.cells #[.int .i64 0, .int .i64 0] 74) = w' := ⟨_, rfl⟩
      have hB37 : Below wR.heap.size wR w37 := by rw [← hw37]; exact hBD.alloc hBD.size _
      have hb37 : Below wD.heap.size wD w37 := by rw [← hw37]; exact (Below.refl _ _).alloc (Nat.le_refl _) _
      have hF37 : FrB w37 (wD.heap.size) ⟨0, 0⟩ := by rw [← hw37]; exact FrB.new wD ⟨0, 0⟩
      try rw [hw37]
      try rw [hw37] at hS37
      clear hw37 hb37
      have hghF : wR.heap.size ≤ wD.heap.size := hBD.size
      refine wpAnyH_ready (rs := [2, 4]) (by kernel_rfl) (by simp) ?_
      refine (AllReadyH.cons rfl (fun K hK => ?_) (AllReadyH.cons rfl (fun K hK => ?_) AllReadyH.nil))
      · go_simp
        go_at_call 71
        refine (HCl.out _ hB37).mono ?_
        rintro e w38 ⟨v, rfl, ho, hb38⟩
        have hB38 : Below wR.heap.size wR w38 := below_on hB37 hb38
        refine hK.out _ _ (⟨(hB38.cell (p := ⟨g1, 0, none⟩) hbg1).trans f1, (hB38.cell (p := ⟨g2, 0, none⟩) hbg2).trans f2, (hB38.cell (p := ⟨w.heap.size, 0, none⟩) hx0).trans x0, (hB38.cell (p := ⟨w.heap.size, 1, none⟩) hx0).trans x1⟩) (fun hS38 => ?_)
        clear hK K
        try simp only [Act.put, List.setIfInBounds_toArray, List.set_cons_zero, List.set_cons_succ]
        have hF38 := hF37.below hb38
        have hV38 : OwnTs w38 wR.heap.size v cs := ho.low hB37.size
        have hneV : ∀ k, v.ownBlock = some k → k ≠ wD.heap.size := fun k hk e => by
          have h1 := ho.lows k hk
          have h2 := hF37.lt
          omega
        clear hb38 ho
        refine wpAnyH_ready (rs := [4]) (by kernel_rfl) (by simp) ?_
        refine (AllReadyH.cons rfl (fun K hK => ?_) AllReadyH.nil)
        go_simp
        refine hK.out _ _ (⟨((hB38.alloc hB38.size _).cell (p := ⟨g1, 0, none⟩) hbg1).trans f1, ((hB38.alloc hB38.size _).cell (p := ⟨g2, 0, none⟩) hbg2).trans f2, ((hB38.alloc hB38.size _).cell (p := ⟨w.heap.size, 0, none⟩) hx0).trans x0, ((hB38.alloc hB38.size _).cell (p := ⟨w.heap.size, 1, none⟩) hx0).trans x1⟩) (fun hS39 => ?_)
        clear hK K
        try simp only [Act.put, List.setIfInBounds_toArray, List.set_cons_zero, List.set_cons_succ]
        obtain ⟨w39, hw39⟩ : ∃ w', World.alloc w38 (.cells #[.int .i64 x.id, .slice x.A x.n x.c] 43) = w' := ⟨_, rfl⟩
        have hB39 : Below wR.heap.size wR w39 := by rw [← hw39]; exact hB38.alloc hB38.size _
        have hb39 : Below w38.heap.size w38 w39 := by rw [← hw39]; exact (Below.refl _ _).alloc (Nat.le_refl _) _
        have hF39 := hF38.below hb39
        have hV39 := OwnG.below hV38 hb39
        have hE39 : ItX w39 (w38.heap.size) x := by rw [← hw39]; exact ItX.new w38 x
        try rw [hw39]
        try rw [hw39] at hS39
        clear hw39 hb39
        refine wpAnyH_ready (rs := [5]) (by kernel_rfl) (by simp) ?_
        refine (AllReadyH.cons rfl (fun K hK => ?_) AllReadyH.nil)
        obtain ⟨v6, w40, hr40, ho40, hg40, -⟩ := run_spreadG itCs_len itCs_one (ty := 24) (c := 1) Try.underlying24 info_item rfl (by decide) (by decide) hV39 hE39.read (by omega) hB39.size
        rw [HLL.out] at ho40
        obtain ⟨A4, c4, rfl, -, -⟩ := ho40.shape
        have hB40 : Below wR.heap.size wR w40 := hB39.grown hg40 hB39.size (fun k hk => hV39.lows k hk)
        have hF40 : FrB w40 (wD.heap.size) ⟨0, 0⟩ := (hg40.block _ hF39.lt (fun e => hneV _ e.symm rfl)).trans hF39
        refine step_run _ (by rfl) (.tmp 10) (.tmp 12) 24 (by rfl) _ _ (by rfl) (by rfl) hr40 ?_
        refine hK.out _ _ (⟨(hB40.cell (p := ⟨g1, 0, none⟩) hbg1).trans f1, (hB40.cell (p := ⟨g2, 0, none⟩) hbg2).trans f2, (hB40.cell (p := ⟨w.heap.size, 0, none⟩) hx0).trans x0, (hB40.cell (p := ⟨w.heap.size, 1, none⟩) hx0).trans x1⟩) (fun hS40 => ?_)
        clear hK K
        try simp only [Act.put, List.setIfInBounds_toArray, List.set_cons_zero, List.set_cons_succ]
        have hT40 : Items w40 w40.heap.size A4 L.length L := Items.ofr (ho40.read itCs_len) (HIn.out _ hB40)
        clear hr40 hg40 ho40
        refine wpAnyH_ready (rs := [6]) (by kernel_rfl) (by simp) ?_
        refine (AllReadyH.cons rfl (fun K hK => ?_) AllReadyH.nil)
        go_simp
        go_at_call 52
        refine (HGr.out _ _ _ hB40 hT40).mono ?_
        rintro e w41 ⟨⟨v5, rfl, ho⟩, hb41⟩
        have hB41 : Below wR.heap.size wR w41 := below_on hB40 hb41
        refine hK.out _ _ (⟨(hB41.cell (p := ⟨g1, 0, none⟩) hbg1).trans f1, (hB41.cell (p := ⟨g2, 0, none⟩) hbg2).trans f2, (hB41.cell (p := ⟨w.heap.size, 0, none⟩) hx0).trans x0, (hB41.cell (p := ⟨w.heap.size, 1, none⟩) hx0).trans x1⟩) (fun hS41 => ?_)
        clear hK K
        try simp only [Act.put, List.setIfInBounds_toArray, List.set_cons_zero, List.set_cons_succ]
        have hF41 := hF40.below hb41
        clear hb41 ho
        refine takeY 7 (i := 7) (v := ?vx36) rfl rfl (by kernel_rfl) (by kernel_rfl) (by kernel_rfl) (fun _ _ _ h => h) (by kernel_rfl) ?yx36 hS41 ?_
        case yx36 =>
          intro w' hw'; (try dsimp only at hw'); obtain ⟨q1, q2, q3, q4⟩ := hw'; go_simp; try with_reducible rfl
        simp only [Act.put, List.setIfInBounds_toArray, List.set_cons_zero, List.set_cons_succ]
        refine takeY 15 (i := 8) (v := ?vx37) rfl rfl (by kernel_rfl) (by kernel_rfl) (by kernel_rfl) (fun _ _ _ h => h) (by kernel_rfl) ?yx37 hS41 ?_
        case yx37 =>
          intro w' hw'; (try dsimp only at hw'); obtain ⟨q1, q2, q3, q4⟩ := hw'; go_simp; try with_reducible rfl
        simp only [Act.put, List.setIfInBounds_toArray, List.set_cons_zero, List.set_cons_succ]
        refine takeY 16 (i := 9) (v := ?vx38) rfl rfl (by kernel_rfl) (by kernel_rfl) (by kernel_rfl) (fun _ _ _ h => h) (by kernel_rfl) ?yx38 hS41 ?_
        case yx38 =>
          intro w' hw'; (try dsimp only at hw'); obtain ⟨q1, q2, q3, q4⟩ := hw'; go_simp; try with_reducible rfl
        simp only [Act.put, List.setIfInBounds_toArray, List.set_cons_zero, List.set_cons_succ]
        obtain ⟨c0, c1, z0, z1⟩ := hF41.cells
        refine wpAnyH_ready (rs := [11]) (by kernel_rfl) (by simp) ?_
        refine (AllReadyH.cons rfl (fun K hK => ?_) AllReadyH.nil)
        go_simp
        refine hK.out _ _ (⟨((below_set2 hB41 hghF _ _).cell (p := ⟨g1, 0, none⟩) hbg1).trans f1, ((below_set2 hB41 hghF _ _).cell (p := ⟨g2, 0, none⟩) hbg2).trans f2, ((below_set2 hB41 hghF _ _).cell (p := ⟨w.heap.size, 0, none⟩) hx0).trans x0, ((below_set2 hB41 hghF _ _).cell (p := ⟨w.heap.size, 1, none⟩) hx0).trans x1⟩) (fun hS42 => ?_)
        clear hK K
        try simp only [Act.put, List.setIfInBounds_toArray, List.set_cons_zero, List.set_cons_succ]
        refine takeY 6 (i := 12) (v := ?vx39) rfl rfl (by kernel_rfl) (by kernel_rfl) (by kernel_rfl) (fun _ _ _ h => h) (by kernel_rfl) ?yx39 hS42 ?_
        case yx39 =>
          intro w' hw'; (try dsimp only at hw'); obtain ⟨q1, q2, q3, q4⟩ := hw'; go_simp; try with_reducible rfl
        simp only [Act.put, List.setIfInBounds_toArray, List.set_cons_zero, List.set_cons_succ]
        refine wpAnyH_done (by kernel_rfl) ?_ _
        go_wp2
        go_meet
        exact ⟨wD.heap.size, rfl, hF41.set _ _, hghF, (below_set2 hB41 hghF _ _)⟩
      · go_simp
        refine hK.out _ _ (⟨((hB37.alloc hB37.size _).cell (p := ⟨g1, 0, none⟩) hbg1).trans f1, ((hB37.alloc hB37.size _).cell (p := ⟨g2, 0, none⟩) hbg2).trans f2, ((hB37.alloc hB37.size _).cell (p := ⟨w.heap.size, 0, none⟩) hx0).trans x0, ((hB37.alloc hB37.size _).cell (p := ⟨w.heap.size, 1, none⟩) hx0).trans x1⟩) (fun hS43 => ?_)
        clear hK K
        try simp only [Act.put, List.setIfInBounds_toArray, List.set_cons_zero, List.set_cons_succ]
        obtain ⟨w43, hw43⟩ : ∃ w', World.alloc w37 (.cells #[.int .i64 x.id, .slice x.A x.n x.c] 43) = w' := ⟨_, rfl⟩
        have hB43 : Below wR.heap.size wR w43 := by rw [← hw43]; exact hB37.alloc hB37.size _
        have hb43 : Below w37.heap.size w37 w43 := by rw [← hw43]; exact (Below.refl _ _).alloc (Nat.le_refl _) _
        have hF43 := hF37.below hb43
        have hE43 : ItX w43 (w37.heap.size) x := by rw [← hw43]; exact ItX.new w37 x
        try rw [hw43]
        try rw [hw43] at hS43
        clear hw43 hb43
        refine wpAnyH_ready (rs := [2]) (by kernel_rfl) (by simp) ?_
        refine (AllReadyH.cons rfl (fun K hK => ?_) AllReadyH.nil)
        go_simp
        go_at_call 71
        refine (HCl.out _ hB43).mono ?_
        rintro e w44 ⟨v, rfl, ho, hb44⟩
        have hB44 : Below wR.heap.size wR w44 := below_on hB43 hb44
        refine hK.out _ _ (⟨(hB44.cell (p := ⟨g1, 0, none⟩) hbg1).trans f1, (hB44.cell (p := ⟨g2, 0, none⟩) hbg2).trans f2, (hB44.cell (p := ⟨w.heap.size, 0, none⟩) hx0).trans x0, (hB44.cell (p := ⟨w.heap.size, 1, none⟩) hx0).trans x1⟩) (fun hS44 => ?_)
        clear hK K
        try simp only [Act.put, List.setIfInBounds_toArray, List.set_cons_zero, List.set_cons_succ]
        have hF44 := hF43.below hb44
        have hE44 := hE43.below hb44
        have hV44 : OwnTs w44 wR.heap.size v cs := ho.low hB43.size
        have hneV : ∀ k, v.ownBlock = some k → k ≠ wD.heap.size := fun k hk e => by
          have h1 := ho.lows k hk
          have h2 := hF43.lt
          omega
        clear hb44 ho
        refine wpAnyH_ready (rs := [5]) (by kernel_rfl) (by simp) ?_
        refine (AllReadyH.cons rfl (fun K hK => ?_) AllReadyH.nil)
        obtain ⟨v6, w45, hr45, ho45, hg45, -⟩ := run_spreadG itCs_len itCs_one (ty := 24) (c := 1) Try.underlying24 info_item rfl (by decide) (by decide) hV44 hE44.read (by omega) hB44.size
        rw [HLL.out] at ho45
        obtain ⟨A4, c4, rfl, -, -⟩ := ho45.shape
        have hB45 : Below wR.heap.size wR w45 := hB44.grown hg45 hB44.size (fun k hk => hV44.lows k hk)
        have hF45 : FrB w45 (wD.heap.size) ⟨0, 0⟩ := (hg45.block _ hF44.lt (fun e => hneV _ e.symm rfl)).trans hF44
        refine step_run _ (by rfl) (.tmp 10) (.tmp 12) 24 (by rfl) _ _ (by rfl) (by rfl) hr45 ?_
        refine hK.out _ _ (⟨(hB45.cell (p := ⟨g1, 0, none⟩) hbg1).trans f1, (hB45.cell (p := ⟨g2, 0, none⟩) hbg2).trans f2, (hB45.cell (p := ⟨w.heap.size, 0, none⟩) hx0).trans x0, (hB45.cell (p := ⟨w.heap.size, 1, none⟩) hx0).trans x1⟩) (fun hS45 => ?_)
        clear hK K
        try simp only [Act.put, List.setIfInBounds_toArray, List.set_cons_zero, List.set_cons_succ]
        have hT45 : Items w45 w45.heap.size A4 L.length L := Items.ofr (ho45.read itCs_len) (HIn.out _ hB45)
        clear hr45 hg45 ho45
        refine wpAnyH_ready (rs := [6]) (by kernel_rfl) (by simp) ?_
        refine (AllReadyH.cons rfl (fun K hK => ?_) AllReadyH.nil)
        go_simp
        go_at_call 52
        refine (HGr.out _ _ _ hB45 hT45).mono ?_
        rintro e w46 ⟨⟨v5, rfl, ho⟩, hb46⟩
        have hB46 : Below wR.heap.size wR w46 := below_on hB45 hb46
        refine hK.out _ _ (⟨(hB46.cell (p := ⟨g1, 0, none⟩) hbg1).trans f1, (hB46.cell (p := ⟨g2, 0, none⟩) hbg2).trans f2, (hB46.cell (p := ⟨w.heap.size, 0, none⟩) hx0).trans x0, (hB46.cell (p := ⟨w.heap.size, 1, none⟩) hx0).trans x1⟩) (fun hS46 => ?_)
        clear hK K
        try simp only [Act.put, List.setIfInBounds_toArray, List.set_cons_zero, List.set_cons_succ]
        have hF46 := hF45.below hb46
        clear hb46 ho
        refine takeY 7 (i := 7) (v := ?vx40) rfl rfl (by kernel_rfl) (by kernel_rfl) (by kernel_rfl) (fun _ _ _ h => h) (by kernel_rfl) ?yx40 hS46 ?_
        case yx40 =>
          intro w' hw'; (try dsimp only at hw'); obtain ⟨q1, q2, q3, q4⟩ := hw'; go_simp; try with_reducible rfl
        simp only [Act.put, List.setIfInBounds_toArray, List.set_cons_zero, List.set_cons_succ]
        refine takeY 15 (i := 8) (v := ?vx41) rfl rfl (by kernel_rfl) (by kernel_rfl) (by kernel_rfl) (fun _ _ _ h => h) (by kernel_rfl) ?yx41 hS46 ?_
        case yx41 =>
          intro w' hw'; (try dsimp only at hw'); obtain ⟨q1, q2, q3, q4⟩ := hw'; go_simp; try with_reducible rfl
        simp only [Act.put, List.setIfInBounds_toArray, List.set_cons_zero, List.set_cons_succ]
        refine takeY 16 (i := 9) (v := ?vx42) rfl rfl (by kernel_rfl) (by kernel_rfl) (by kernel_rfl) (fun _ _ _ h => h) (by kernel_rfl) ?yx42 hS46 ?_
        case yx42 =>
          intro w' hw'; (try dsimp only at hw'); obtain ⟨q1, q2, q3, q4⟩ := hw'; go_simp; try with_reducible rfl
        simp only [Act.put, List.setIfInBounds_toArray, List.set_cons_zero, List.set_cons_succ]
        obtain ⟨c0, c1, z0, z1⟩ := hF46.cells
        refine wpAnyH_ready (rs := [11]) (by kernel_rfl) (by simp) ?_
        refine (AllReadyH.cons rfl (fun K hK => ?_) AllReadyH.nil)
        go_simp
        refine hK.out _ _ (⟨((below_set2 hB46 hghF _ _).cell (p := ⟨g1, 0, none⟩) hbg1).trans f1, ((below_set2 hB46 hghF _ _).cell (p := ⟨g2, 0, none⟩) hbg2).trans f2, ((below_set2 hB46 hghF _ _).cell (p := ⟨w.heap.size, 0, none⟩) hx0).trans x0, ((below_set2 hB46 hghF _ _).cell (p := ⟨w.heap.size, 1, none⟩) hx0).trans x1⟩) (fun hS47 => ?_)
        clear hK K
        try simp only [Act.put, List.setIfInBounds_toArray, List.set_cons_zero, List.set_cons_succ]
        refine takeY 6 (i := 12) (v := ?vx43) rfl rfl (by kernel_rfl) (by kernel_rfl) (by kernel_rfl) (fun _ _ _ h => h) (by kernel_rfl) ?yx43 hS47 ?_
        case yx43 =>
          intro w' hw'; (try dsimp only at hw'); obtain ⟨q1, q2, q3, q4⟩ := hw'; go_simp; try with_reducible rfl
        simp only [Act.put, List.setIfInBounds_toArray, List.set_cons_zero, List.set_cons_succ]
        refine wpAnyH_done (by kernel_rfl) ?_ _
        go_wp2
        go_meet
        exact ⟨wD.heap.size, rfl, hF46.set _ _, hghF, (below_set2 hB46 hghF _ _)⟩
  case rest =>
  obtain ⟨g, rfl, hfr, hg, hb9⟩ := hcut
  rename World => w9
  have HFr := Lib.hid hfr
  have HF9 := Lib.hid (HF0.out.below hb9)
  have HB9 := Lib.hid (below_on HBR.out hb9)
  obtain ⟨k0, k1, -, -⟩ := HFr.out.cells
  obtain ⟨c0, c1, z0, z1⟩ := HF9.out.cells
  clear hfr hb9 f1 f2 x0 x1 HGr HCl HIn HRd HX0 HF0
  go_wp2
  refine bodyPost_ret_by (results_cell_row rfl _ _ (w.heap.size + 1) 74 _ (0, 0) _ rfl (HF9.out.set R.num R.den) Try.underlying74 rfl (by kernel_rfl)) rfl ?_
  exact ⟨rfl, below_set2 HB9.out (Nat.le_succ _) _ _⟩
end Go.Proofs.Ytjjlhiaghjipcaa.num
