/-
  The program's RegretOf: contract.
-/
import Derived.BigQuiet
import Derived.Deep.Cut
import Derived.Deep.CutRange
import Derived.OwnWalk
import Derived.Test.YtjjlhiaghjipcaaRegretG
import Derived.Test.YtjjlhiaghjipcaaItemImplAre
import Derived.Test.YtjjlhiaghjipcaaItemFind
namespace Go.Proofs.Ytjjlhiaghjipcaa.num
set_option maxRecDepth 20000
open Go.RowKit
set_option linter.unusedVariables false
set_option linter.unusedSimpArgs false

theorem find_neg {ds : List Da} {x r : Int} (h : FindP ds x r) (q : Bool) (hq : q = true ↔ ∀ d ∈ ds, d.1 ≠ x) : decide (r < 0) = q := by
  rw [Bool.eq_iff_iff, hq, decide_eq_true_eq]
  rcases h with ⟨rfl, h⟩ | ⟨k, rfl, ⟨d, hd, he⟩, _⟩
  · exact ⟨fun _ => h, fun _ => by decide⟩
  · exact ⟨fun h => by omega, fun h => absurd he (h d (List.mem_of_getElem? hd))⟩
theorem known_iff {ds : List Da} {xs : List Int} : KnownP ds xs ↔ ¬ ∃ x ∈ xs, decide (∀ d ∈ ds, d.1 ≠ x) = true := by
  unfold KnownP
  constructor
  · rintro h ⟨x, hx, hn⟩
    obtain ⟨d, hd, he⟩ := h x hx
    exact (of_decide_eq_true hn) d hd he
  · intro h x hx
    by_cases hc : ∀ d ∈ ds, d.1 ≠ x
    · exact absurd ⟨x, hx, decide_eq_true hc⟩ h
    · simp only [Classical.not_forall, Decidable.not_not] at hc
      obtain ⟨d, hd, he⟩ := hc
      exact ⟨d, hd, he⟩
set_option maxRecDepth 20000 in
theorem noItem_c (w : World) (B : Nat) (A : Option Addr) (n c : Nat) (its : List It) (hi : Items w B A n its) (hB : B ≤ w.heap.size) (hn : n ≤ 1048576) (x : Int) (g : Nat) (h1 : SlB w g (.slice A n c)) :
    Calls Try.prog 48 #[.int .i64 x, .pointer (some ⟨g, 0, none⟩)] w fun e w' => e = .returned (.bool (decide (∀ d ∈ its.map It.dat, d.1 ≠ x))) ∧ Below w.heap.size w w' := by
  have HF := Lib.hid (iFind w B A n c its hi hB hn x)
  obtain ⟨l1, c1⟩ := h1
  obtain ⟨z, hz⟩ : ∃ z, decide (∀ d ∈ its.map It.dat, d.1 ≠ x) = z := ⟨_, rfl⟩
  rw [hz]
  have HZ : Hid (z = true ↔ ∀ d ∈ its.map It.dat, d.1 ≠ x) := Lib.hid (by rw [← hz]; exact decide_eq_true_iff)
  clear hi hz
  go_enter Try.func48, Try.ntmps48
  go_wp2_with fail
  refine HF.out.mono ?_
  rintro e w1 ⟨⟨r, rfl, hr⟩, hb1⟩
  have hd := find_neg hr z HZ.out
  have HD := Lib.hid hd
  clear hr HF
  go_wp2
  go_ret
  exact ⟨rfl, hb1⟩
set_option maxRecDepth 20000 in
set_option maxHeartbeats 3200000 in
theorem iRegretOf (w : World) (B : Nat) (A : Option Addr) (n c : Nat) (its : List It) (hi : Items w B A n its) (hB : B ≤ w.heap.size) (hn : n ≤ 1048576) (B2 : Nat) (A2 : Option Addr) (n2 c2 : Nat) (xs : List Int) (h2 : Ints w B2 A2 n2 xs) (hB2 : B2 ≤ w.heap.size) (hn2 : n2 ≤ 1048576) (N D : Int) (ws : List Int) (hD : RegP (its.map It.dat) xs N D ws) :
    Calls Try.prog 12 #[.slice A n c, .slice A2 n2 c2] w fun e w' => (∃ v, e = .returned (.tuple #[.int .i64 N, .int .i64 D, v]) ∧ OwnI w' w.heap.size v ws) ∧ Below w.heap.size w w' := by
  obtain ⟨qa, hqa⟩ := bool_of (AreP (its.map It.dat))
  obtain ⟨wR, hwR⟩ : ∃ wR, w.alloc (.cells #[.slice A n c] 24) = wR := ⟨_, rfl⟩
  have hbR : Below w.heap.size w wR := by rw [← hwR]; exact (Below.refl _ w).alloc (Nat.le_refl _) _
  have HBR := Lib.hid hbR
  have HS : Hid (SlB wR w.heap.size (.slice A n c)) := Lib.hid (by rw [← hwR]; exact SlB.new w _ _)
  have hiR := hi.below (hbR.mono hB)
  have hBR := Nat.le_trans hB hbR.size
  have HAr := Lib.hid (iAre wR B A n c its hiR hBR qa hqa)
  obtain ⟨qk, hqk⟩ := bool_of (∃ x ∈ xs, decide (∀ d ∈ its.map It.dat, d.1 ≠ x) = true)
  have HCo : Hid (∀ W, Below wR.heap.size wR W → Calls Try.prog 51 #[.slice A2 n2 c2, .func (.func 48) #[] #[.pointer (some ⟨w.heap.size, 0, none⟩)]] W fun e w' => e = .returned (.bool qk) ∧ Below W.heap.size W w') := Lib.hid fun W hW =>
    conInts W B2 A2 n2 c2 xs (h2.below ((hbR.trans (hW.mono hbR.size)).mono hB2)) (Nat.le_trans hB2 (Nat.le_trans hbR.size hW.size)) hn2 48 #[.pointer (some ⟨w.heap.size, 0, none⟩)] (fun x => decide (∀ d ∈ its.map It.dat, d.1 ≠ x)) (enters_of Try.func48 (by kernel_rfl) rfl)
      (fun W2 hW2 x _ => noItem_c W2 B A n c its (hiR.below ((below_on hW hW2).mono hBR)) (Nat.le_trans hBR (below_on hW hW2).size) hn x w.heap.size ((HS.out.below hW).below hW2)) qk hqk
  obtain ⟨L, hL⟩ : ∃ L, (its.filter fun u => decide (u.id ∈ xs)) = L := ⟨_, rfl⟩
  have hLl : L.length ≤ 1048576 := by rw [← hL]; exact Nat.le_trans (List.length_filter_le _ _) (by rw [hi.1]; exact hn)
  have hLs : ∀ u ∈ L, u ∈ its := fun u hu => by rw [← hL] at hu; exact (List.mem_filter.1 hu).1
  have HLd : Hid (L.map It.dat = pk xs (its.map It.dat)) := Lib.hid (by rw [← hL]; exact filter_dat its xs)
  have HIn : Hid (∀ W, Below wR.heap.size wR W → ∀ u ∈ L, Ints W W.heap.size u.A u.n u.xs) := Lib.hid fun W hW u hu => (hiR.all (hLs u hu)).more hBR |>.below hW |>.more hW.size
  have HWi : Hid (∀ W, Below wR.heap.size wR W → Calls Try.prog 53 #[.slice A n c, .slice A2 n2 c2] W fun e w' => (∃ v, e = .returned v ∧ OwnTs w' W.heap.size v L) ∧ Below W.heap.size W w') := Lib.hid fun W hW => by
    rw [← hL]
    exact iWith W B A n c its (hiR.below (hW.mono hBR)).readT (Nat.le_trans hBR hW.size) hn B2 A2 n2 c2 xs (h2.below ((hbR.trans (hW.mono hbR.size)).mono hB2)) (Nat.le_trans hB2 (Nat.le_trans hbR.size hW.size)) hn2
  obtain ⟨R, hR⟩ : ∃ R, reg (its.map It.dat) (L.map It.dat) = R := ⟨_, rfl⟩
  have HGr : Hid (∀ W A4 c4, Below wR.heap.size wR W → Items W W.heap.size A4 L.length L → Calls Try.prog 52 #[.slice A n c, .slice A4 L.length c4] W fun e w' => (∃ v, e = .returned (.tuple #[.agg #[.int .i64 R.num, .int .i64 R.den], v]) ∧ OwnI w' W.heap.size v R.ws) ∧ Below W.heap.size W w') := Lib.hid fun W A4 c4 hW hI =>
    iGR W W.heap.size A A4 n L.length c c4 its L ((hiR.below (hW.mono hBR)).up (Nat.le_trans hBR hW.size)) hI (Nat.le_refl _) hn hLl (fun d hd => by
      obtain ⟨u, hu, rfl⟩ := List.mem_map.1 hd
      exact List.mem_map_of_mem (hLs u hu)) R hR
  have HYes : Hid (qa = true → qk = false → N = R.num ∧ D = R.den ∧ ws = R.ws) := Lib.hid fun h1 h2 => by
    have h3 := hD.yes (hqa.1 h1) (known_iff.2 fun h => by rw [hqk.2 h] at h2; cases h2)
    rw [← HLd.out, hR] at h3
    exact h3
  have HNo : Hid (¬ (qa = true ∧ qk = false) → N = 0 ∧ D = 1 ∧ ws = []) := Lib.hid fun h => hD.no fun ⟨h1, h2⟩ => h ⟨hqa.2 h1, by
    cases qk
    · rfl
    · exact absurd (hqk.1 rfl) (known_iff.1 h2)⟩
  clear hi h2 hD hqa hqk hL hLl hLs hR hiR hBR hbR
  obtain ⟨hbl, f1⟩ := HS.out
  go_enter Try.func12, Try.ntmps12
  go_upto_region 1 with (fail)
  try rw [hwR]
  clear hwR
  go_wp2_with fail
  refine HAr.out.mono ?_
  rintro e w1 ⟨rfl, hb1⟩
  have HB1 := Lib.hid hb1
  have HB1w := Lib.hid (below_on HBR.out hb1)
  have HS1 := Lib.hid (HS.out.below hb1)
  clear hb1 HAr hbl f1
  cases qa
  · obtain ⟨rfl, rfl, rfl⟩ := HNo.out (fun h => by cases h.1)
    go_wp2
    go_ret3
    exact ⟨⟨_, rfl, ownI_nil _ _⟩, HB1w.out⟩
  · obtain ⟨hbl, f1⟩ := HS1.out
    go_wp2_with fail
    refine (HCo.out _ HB1.out).mono ?_
    rintro e w2 ⟨rfl, hb2⟩
    have HB2 := Lib.hid (below_on HB1.out hb2)
    have HB2w := Lib.hid (below_on HB1w.out hb2)
    have HS2 := Lib.hid (HS1.out.below hb2)
    clear hb2 HCo hbl f1
    cases qk
    · obtain ⟨rfl, rfl, rfl⟩ := HYes.out (by first | rfl | trivial) (by first | rfl | trivial)
      have HWi := Lib.hid fun W (hW : Below w2.heap.size w2 W) => HWi.out W (below_on HB2.out hW)
      have HGr := Lib.hid fun W A4 c4 (hW : Below w2.heap.size w2 W) => HGr.out W A4 c4 (below_on HB2.out hW)
      have HIn := Lib.hid fun W (hW : Below w2.heap.size w2 W) => HIn.out W (below_on HB2.out hW)
      clear HBR HS HS1 HYes HNo HB1 HB1w HB2
      rename_i wR0
      obtain ⟨wR, rfl⟩ : ∃ wR, wR = w2 := ⟨_, rfl⟩
      have HBR := HB2w
      clear HB2w
      obtain ⟨hbR, f1⟩ := HS2.out
      have hlo : w.heap.size ≤ wR.heap.size := HBR.out.size
      go_upto_region 4 with (fail)
      go_cut [8, 9] from 19 to 26 (fun s8 s9 wx => ∃ g v, s8 = .pointer (some ⟨g, 0, none⟩) ∧ s9 = v ∧ FrB wx g ⟨R.num, R.den⟩ ∧ OwnI wx w.heap.size v R.ws ∧ Below w.heap.size w wx)
      case first =>
        have hS0 : (fun w' => w'.cell? ⟨w.heap.size, 0, none⟩ = some (.slice A n c)) wR.drew := f1
        refine wp_region_held (S := fun w' => w'.cell? ⟨w.heap.size, 0, none⟩ = some (.slice A n c)) (by kernel_rfl) ?_
        change wpAnyH _ _ _ _ _ _ _ _ (World.drew _)
        have hBD0 : Below wR.heap.size wR wR.drew := (Below.refl _ wR).drew
        obtain ⟨wD, hwD⟩ : ∃ wD, World.drew wR = wD := ⟨_, rfl⟩
        rw [hwD] at hS0 ⊢
        have hBD : Below wR.heap.size wR wD := by rw [← hwD]; exact hBD0
        clear hwD hBD0
        refine takeY 20 (i := 0) (v := ?vx1) rfl rfl (by kernel_rfl) (by kernel_rfl) (by kernel_rfl) (fun _ _ _ h => h) (by kernel_rfl) ?yx1 hS0 ?_
        case yx1 =>
          intro w' hw'; (try dsimp only at hw'); obtain q1 := hw'; go_simp; try with_reducible rfl
        simp only [Act.put, List.setIfInBounds_toArray, List.set_cons_zero, List.set_cons_succ]
        refine takeY 21 (i := 1) (v := ?vx2) rfl rfl (by kernel_rfl) (by kernel_rfl) (by kernel_rfl) (fun _ _ _ h => h) (by kernel_rfl) ?yx2 hS0 ?_
        case yx2 =>
          intro w' hw'; (try dsimp only at hw'); obtain q1 := hw'; go_simp; try with_reducible rfl
        simp only [Act.put, List.setIfInBounds_toArray, List.set_cons_zero, List.set_cons_succ]
        refine takeY 22 (i := 2) (v := ?vx3) rfl rfl (by kernel_rfl) (by kernel_rfl) (by kernel_rfl) (fun _ _ _ h => h) (by kernel_rfl) ?yx3 hS0 ?_
        case yx3 =>
          intro w' hw'; (try dsimp only at hw'); obtain q1 := hw'; go_simp; try with_reducible rfl
        simp only [Act.put, List.setIfInBounds_toArray, List.set_cons_zero, List.set_cons_succ]
        refine wpAnyH_ready (rs := [3, 8]) (by kernel_rfl) (by simp) ?_
        refine (AllReadyH.cons rfl (fun K hK => ?_) (AllReadyH.cons rfl (fun K hK => ?_) AllReadyH.nil))
        · go_simp
          go_at_call 53
          refine (HWi.out _ hBD).mono ?_
          rintro e w1 ⟨⟨v, rfl, ho⟩, hb1⟩
          obtain ⟨A4, c4, rfl, -, -⟩ := ho.shape
          have hB1 : Below wR.heap.size wR w1 := below_on hBD hb1
          refine hK.out _ _ ((hB1.cell (p := ⟨w.heap.size, 0, none⟩) hbR).trans f1) (fun hS1 => ?_)
          clear hK K
          try simp only [Act.put, List.setIfInBounds_toArray, List.set_cons_zero, List.set_cons_succ]
          have hT1 : Items w1 w1.heap.size A4 L.length L := Items.ofr (ho.read itCs_len) (HIn.out _ hB1)
          clear hb1 ho
          refine wpAnyH_ready (rs := [4, 8]) (by kernel_rfl) (by simp) ?_
          refine (AllReadyH.cons rfl (fun K hK => ?_) (AllReadyH.cons rfl (fun K hK => ?_) AllReadyH.nil))
          · go_simp
            go_at_call 52
            refine (HGr.out _ _ _ hB1 hT1).mono ?_
            rintro e w2 ⟨⟨v5, rfl, ho⟩, hb2⟩
            have hB2 : Below wR.heap.size wR w2 := below_on hB1 hb2
            refine hK.out _ _ ((hB2.cell (p := ⟨w.heap.size, 0, none⟩) hbR).trans f1) (fun hS2 => ?_)
            clear hK K
            try simp only [Act.put, List.setIfInBounds_toArray, List.set_cons_zero, List.set_cons_succ]
            have hO2 : OwnI w2 wR.heap.size v5 R.ws := ownI_lower ho hB1.size
            clear hb2 ho
            refine takeY 19 (i := 5) (v := ?vx4) rfl rfl (by kernel_rfl) (by kernel_rfl) (by kernel_rfl) (fun _ _ _ h => h) (by kernel_rfl) ?yx4 hS2 ?_
            case yx4 =>
              intro w' hw'; (try dsimp only at hw'); obtain q1 := hw'; go_simp; try with_reducible rfl
            simp only [Act.put, List.setIfInBounds_toArray, List.set_cons_zero, List.set_cons_succ]
            refine takeY 25 (i := 6) (v := ?vx5) rfl rfl (by kernel_rfl) (by kernel_rfl) (by kernel_rfl) (fun _ _ _ h => h) (by kernel_rfl) ?yx5 hS2 ?_
            case yx5 =>
              intro w' hw'; (try dsimp only at hw'); obtain q1 := hw'; go_simp; try with_reducible rfl
            simp only [Act.put, List.setIfInBounds_toArray, List.set_cons_zero, List.set_cons_succ]
            refine takeY 26 (i := 7) (v := ?vx6) rfl rfl (by kernel_rfl) (by kernel_rfl) (by kernel_rfl) (fun _ _ _ h => h) (by kernel_rfl) ?yx6 hS2 ?_
            case yx6 =>
              intro w' hw'; (try dsimp only at hw'); obtain q1 := hw'; go_simp; try with_reducible rfl
            simp only [Act.put, List.setIfInBounds_toArray, List.set_cons_zero, List.set_cons_succ]
            refine wpAnyH_ready (rs := [8]) (by kernel_rfl) (by simp) ?_
            refine (AllReadyH.cons rfl (fun K hK => ?_) AllReadyH.nil)
            go_simp
            refine hK.out _ _ (((hB2.alloc hB2.size _).cell (p := ⟨w.heap.size, 0, none⟩) hbR).trans f1) (fun hS3 => ?_)
            clear hK K
            try simp only [Act.put, List.setIfInBounds_toArray, List.set_cons_zero, List.set_cons_succ]
            obtain ⟨w3, hw3⟩ : ∃ w', World.alloc w2 (.cells #[.int .i64 0, .int .i64 0] 74) = w' := ⟨_, rfl⟩
            have hB3 : Below wR.heap.size wR w3 := by rw [← hw3]; exact hB2.alloc hB2.size _
            have hb3 : Below w2.heap.size w2 w3 := by rw [← hw3]; exact (Below.refl _ _).alloc (Nat.le_refl _) _
            have hO3 := ownI_below hO2 hb3
            have hF3 : FrB w3 (w2.heap.size) ⟨0, 0⟩ := by rw [← hw3]; exact FrB.new w2 ⟨0, 0⟩
            try rw [hw3]
            try rw [hw3] at hS3
            clear hw3 hb3
            have hghF : wR.heap.size ≤ w2.heap.size := hB2.size
            have hne : ∀ k, v5.ownBlock = some k → k ≠ w2.heap.size := fun k hk e => by have h1 := ownI_tops hO2 k hk; omega
            obtain ⟨c0, c1, z0, z1⟩ := hF3.cells
            refine wpAnyH_ready (rs := [9]) (by kernel_rfl) (by simp) ?_
            refine (AllReadyH.cons rfl (fun K hK => ?_) AllReadyH.nil)
            go_simp
            refine hK.out _ _ (((hB3.setCell (p := ⟨w2.heap.size, 0, none⟩) hghF _).setCell (p := ⟨w2.heap.size, 1, none⟩) hghF _).cell (p := ⟨w.heap.size, 0, none⟩) hbR |>.trans f1) (fun hS4 => ?_)
            clear hK K
            try simp only [Act.put, List.setIfInBounds_toArray, List.set_cons_zero, List.set_cons_succ]
            refine takeY 9 (i := 10) (v := ?vx7) rfl rfl (by kernel_rfl) (by kernel_rfl) (by kernel_rfl) (fun _ _ _ h => h) (by kernel_rfl) ?yx7 hS4 ?_
            case yx7 =>
              intro w' hw'; (try dsimp only at hw'); obtain q1 := hw'; go_simp; try with_reducible rfl
            simp only [Act.put, List.setIfInBounds_toArray, List.set_cons_zero, List.set_cons_succ]
            refine wpAnyH_done (by kernel_rfl) ?_ _
            go_wp2
            go_meet
            exact ⟨w2.heap.size, v5, rfl, rfl, hF3.set _ _, ownI_lower (ownI_blocks hO3 fun k hk => by rw [heap_setCell_other _ _ _ _ (hne k hk), heap_setCell_other _ _ _ _ (hne k hk)]) hlo, below_on HBR.out ((hB3.setCell (p := ⟨w2.heap.size, 0, none⟩) hghF _).setCell (p := ⟨w2.heap.size, 1, none⟩) hghF _)⟩
          · go_simp
            refine hK.out _ _ (((hB1.alloc hB1.size _).cell (p := ⟨w.heap.size, 0, none⟩) hbR).trans f1) (fun hS5 => ?_)
            clear hK K
            try simp only [Act.put, List.setIfInBounds_toArray, List.set_cons_zero, List.set_cons_succ]
            obtain ⟨w5, hw5⟩ : ∃ w', World.alloc w1 (.cells #[.int .i64 0, .int .i64 0] 74) = w' := ⟨_, rfl⟩
            have hB5 : Below wR.heap.size wR w5 := by rw [← hw5]; exact hB1.alloc hB1.size _
            have hb5 : Below w1.heap.size w1 w5 := by rw [← hw5]; exact (Below.refl _ _).alloc (Nat.le_refl _) _
            have hT5 := Items.now hT1 hb5
            have hF5 : FrB w5 (w1.heap.size) ⟨0, 0⟩ := by rw [← hw5]; exact FrB.new w1 ⟨0, 0⟩
            try rw [hw5]
            try rw [hw5] at hS5
            clear hw5 hb5
            have hghF : wR.heap.size ≤ w1.heap.size := hB1.size
            refine wpAnyH_ready (rs := [4]) (by kernel_rfl) (by simp) ?_
            refine (AllReadyH.cons rfl (fun K hK => ?_) AllReadyH.nil)
            go_simp
            go_at_call 52
            refine (HGr.out _ _ _ hB5 hT5).mono ?_
            rintro e w6 ⟨⟨v5, rfl, ho⟩, hb6⟩
            have hB6 : Below wR.heap.size wR w6 := below_on hB5 hb6
            refine hK.out _ _ ((hB6.cell (p := ⟨w.heap.size, 0, none⟩) hbR).trans f1) (fun hS6 => ?_)
            clear hK K
            try simp only [Act.put, List.setIfInBounds_toArray, List.set_cons_zero, List.set_cons_succ]
            have hF6 := hF5.below hb6
            have hO6 : OwnI w6 wR.heap.size v5 R.ws := ownI_lower ho hB5.size
            have hne : ∀ k, v5.ownBlock = some k → k ≠ w1.heap.size := fun k hk e => by
              have h1 := ownI_lows ho k hk
              have h2 := hF5.lt
              omega
            clear hb6 ho
            refine takeY 19 (i := 5) (v := ?vx8) rfl rfl (by kernel_rfl) (by kernel_rfl) (by kernel_rfl) (fun _ _ _ h => h) (by kernel_rfl) ?yx8 hS6 ?_
            case yx8 =>
              intro w' hw'; (try dsimp only at hw'); obtain q1 := hw'; go_simp; try with_reducible rfl
            simp only [Act.put, List.setIfInBounds_toArray, List.set_cons_zero, List.set_cons_succ]
            refine takeY 25 (i := 6) (v := ?vx9) rfl rfl (by kernel_rfl) (by kernel_rfl) (by kernel_rfl) (fun _ _ _ h => h) (by kernel_rfl) ?yx9 hS6 ?_
            case yx9 =>
              intro w' hw'; (try dsimp only at hw'); obtain q1 := hw'; go_simp; try with_reducible rfl
            simp only [Act.put, List.setIfInBounds_toArray, List.set_cons_zero, List.set_cons_succ]
            refine takeY 26 (i := 7) (v := ?vx10) rfl rfl (by kernel_rfl) (by kernel_rfl) (by kernel_rfl) (fun _ _ _ h => h) (by kernel_rfl) ?yx10 hS6 ?_
            case yx10 =>
              intro w' hw'; (try dsimp only at hw'); obtain q1 := hw'; go_simp; try with_reducible rfl
            simp only [Act.put, List.setIfInBounds_toArray, List.set_cons_zero, List.set_cons_succ]
            obtain ⟨c0, c1, z0, z1⟩ := hF6.cells
            refine wpAnyH_ready (rs := [9]) (by kernel_rfl) (by simp) ?_
            refine (AllReadyH.cons rfl (fun K hK => ?_) AllReadyH.nil)
            go_simp
            refine hK.out _ _ (((hB6.setCell (p := ⟨w1.heap.size, 0, none⟩) hghF _).setCell (p := ⟨w1.heap.size, 1, none⟩) hghF _).cell (p := ⟨w.heap.size, 0, none⟩) hbR |>.trans f1) (fun hS7 => ?_)
            clear hK K
            try simp only [Act.put, List.setIfInBounds_toArray, List.set_cons_zero, List.set_cons_succ]
            refine takeY 9 (i := 10) (v := ?vx11) rfl rfl (by kernel_rfl) (by kernel_rfl) (by kernel_rfl) (fun _ _ _ h => h) (by kernel_rfl) ?yx11 hS7 ?_
            case yx11 =>
              intro w' hw'; (try dsimp only at hw'); obtain q1 := hw'; go_simp; try with_reducible rfl
            simp only [Act.put, List.setIfInBounds_toArray, List.set_cons_zero, List.set_cons_succ]
            refine wpAnyH_done (by kernel_rfl) ?_ _
            go_wp2
            go_meet
            exact ⟨w1.heap.size, v5, rfl, rfl, hF6.set _ _, ownI_lower (ownI_blocks hO6 fun k hk => by rw [heap_setCell_other _ _ _ _ (hne k hk), heap_setCell_other _ _ _ _ (hne k hk)]) hlo, below_on HBR.out ((hB6.setCell (p := ⟨w1.heap.size, 0, none⟩) hghF _).setCell (p := ⟨w1.heap.size, 1, none⟩) hghF _)⟩
        · go_simp
          refine hK.out _ _ (((hBD.alloc hBD.size _).cell (p := ⟨w.heap.size, 0, none⟩) hbR).trans f1) (fun hS8 => ?_)
          clear hK K
          try simp only [Act.put, List.setIfInBounds_toArray, List.set_cons_zero, List.set_cons_succ]
          obtain ⟨w8, hw8⟩ : ∃ w', World.alloc wD (.cells #[.int .i64 0, .int .i64 0] 74) = w' := ⟨_, rfl⟩
          have hB8 : Below wR.heap.size wR w8 := by rw [← hw8]; exact hBD.alloc hBD.size _
          have hb8 : Below wD.heap.size wD w8 := by rw [← hw8]; exact (Below.refl _ _).alloc (Nat.le_refl _) _
          have hF8 : FrB w8 (wD.heap.size) ⟨0, 0⟩ := by rw [← hw8]; exact FrB.new wD ⟨0, 0⟩
          try rw [hw8]
          try rw [hw8] at hS8
          clear hw8 hb8
          have hghF : wR.heap.size ≤ wD.heap.size := hBD.size
          refine wpAnyH_ready (rs := [3]) (by kernel_rfl) (by simp) ?_
          refine (AllReadyH.cons rfl (fun K hK => ?_) AllReadyH.nil)
          go_simp
          go_at_call 53
          refine (HWi.out _ hB8).mono ?_
          rintro e w9 ⟨⟨v, rfl, ho⟩, hb9⟩
          obtain ⟨A4, c4, rfl, -, -⟩ := ho.shape
          have hB9 : Below wR.heap.size wR w9 := below_on hB8 hb9
          refine hK.out _ _ ((hB9.cell (p := ⟨w.heap.size, 0, none⟩) hbR).trans f1) (fun hS9 => ?_)
          clear hK K
          try simp only [Act.put, List.setIfInBounds_toArray, List.set_cons_zero, List.set_cons_succ]
          have hF9 := hF8.below hb9
          have hT9 : Items w9 w9.heap.size A4 L.length L := Items.ofr (ho.read itCs_len) (HIn.out _ hB9)
          clear hb9 ho
          refine wpAnyH_ready (rs := [4]) (by kernel_rfl) (by simp) ?_
          refine (AllReadyH.cons rfl (fun K hK => ?_) AllReadyH.nil)
          go_simp
          go_at_call 52
          refine (HGr.out _ _ _ hB9 hT9).mono ?_
          rintro e w10 ⟨⟨v5, rfl, ho⟩, hb10⟩
          have hB10 : Below wR.heap.size wR w10 := below_on hB9 hb10
          refine hK.out _ _ ((hB10.cell (p := ⟨w.heap.size, 0, none⟩) hbR).trans f1) (fun hS10 => ?_)
          clear hK K
          try simp only [Act.put, List.setIfInBounds_toArray, List.set_cons_zero, List.set_cons_succ]
          have hF10 := hF9.below hb10
          have hO10 : OwnI w10 wR.heap.size v5 R.ws := ownI_lower ho hB9.size
          have hne : ∀ k, v5.ownBlock = some k → k ≠ wD.heap.size := fun k hk e => by
            have h1 := ownI_lows ho k hk
            have h2 := hF9.lt
            omega
          clear hb10 ho
          refine takeY 19 (i := 5) (v := ?vx12) rfl rfl (by kernel_rfl) (by kernel_rfl) (by kernel_rfl) (fun _ _ _ h => h) (by kernel_rfl) ?yx12 hS10 ?_
          case yx12 =>
            intro w' hw'; (try dsimp only at hw'); obtain q1 := hw'; go_simp; try with_reducible rfl
          simp only [Act.put, List.setIfInBounds_toArray, List.set_cons_zero, List.set_cons_succ]
          refine takeY 25 (i := 6) (v := ?vx13) rfl rfl (by kernel_rfl) (by kernel_rfl) (by kernel_rfl) (fun _ _ _ h => h) (by kernel_rfl) ?yx13 hS10 ?_
          case yx13 =>
            intro w' hw'; (try dsimp only at hw'); obtain q1 := hw'; go_simp; try with_reducible rfl
          simp only [Act.put, List.setIfInBounds_toArray, List.set_cons_zero, List.set_cons_succ]
          refine takeY 26 (i := 7) (v := ?vx14) rfl rfl (by kernel_rfl) (by kernel_rfl) (by kernel_rfl) (fun _ _ _ h => h) (by kernel_rfl) ?yx14 hS10 ?_
          case yx14 =>
            intro w' hw'; (try dsimp only at hw'); obtain q1 := hw'; go_simp; try with_reducible rfl
          simp only [Act.put, List.setIfInBounds_toArray, List.set_cons_zero, List.set_cons_succ]
          obtain ⟨c0, c1, z0, z1⟩ := hF10.cells
          refine wpAnyH_ready (rs := [9]) (by kernel_rfl) (by simp) ?_
          refine (AllReadyH.cons rfl (fun K hK => ?_) AllReadyH.nil)
          go_simp
          refine hK.out _ _ (((hB10.setCell (p := ⟨wD.heap.size, 0, none⟩) hghF _).setCell (p := ⟨wD.heap.size, 1, none⟩) hghF _).cell (p := ⟨w.heap.size, 0, none⟩) hbR |>.trans f1) (fun hS11 => ?_)
          clear hK K
          try simp only [Act.put, List.setIfInBounds_toArray, List.set_cons_zero, List.set_cons_succ]
          refine takeY 9 (i := 10) (v := ?vx15) rfl rfl (by kernel_rfl) (by kernel_rfl) (by kernel_rfl) (fun _ _ _ h => h) (by kernel_rfl) ?yx15 hS11 ?_
          case yx15 =>
            intro w' hw'; (try dsimp only at hw'); obtain q1 := hw'; go_simp; try with_reducible rfl
          simp only [Act.put, List.setIfInBounds_toArray, List.set_cons_zero, List.set_cons_succ]
          refine wpAnyH_done (by kernel_rfl) ?_ _
          go_wp2
          go_meet
          exact ⟨wD.heap.size, v5, rfl, rfl, hF10.set _ _, ownI_lower (ownI_blocks hO10 fun k hk => by rw [heap_setCell_other _ _ _ _ (hne k hk), heap_setCell_other _ _ _ _ (hne k hk)]) hlo, below_on HBR.out ((hB10.setCell (p := ⟨wD.heap.size, 0, none⟩) hghF _).setCell (p := ⟨wD.heap.size, 1, none⟩) hghF _)⟩
      case rest =>
      obtain ⟨g, v, rfl, rfl, hfr, hov, hb9⟩ := hcut
      rename World => w9
      have HFr := Lib.hid hfr
      have HOv := Lib.hid hov
      have HB9 := Lib.hid hb9
      obtain ⟨k0, k1, -, -⟩ := HFr.out.cells
      clear hfr hov hb9 f1 hbR HWi HGr HIn
      go_upto_region 5 with (fail)
      go_quiet (fail)
      go_wp2
      go_ret3
      exact ⟨⟨_, rfl, ownI_blocks HOv.out fun _ _ => rfl⟩, below_drewN HB9.out _⟩
    · obtain ⟨rfl, rfl, rfl⟩ := HNo.out (fun h => by cases h.2)
      go_wp2
      go_ret3
      exact ⟨⟨_, rfl, ownI_nil _ _⟩, HB2w.out⟩
end Go.Proofs.Ytjjlhiaghjipcaa.num
