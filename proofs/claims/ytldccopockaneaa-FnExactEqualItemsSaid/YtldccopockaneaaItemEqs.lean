/-
  EqualItems, the model's: contract; the comparison of slices of ints that the model and the library make.
-/
import Derived.Test.YtldccopockaneaaItemEq
import Derived.Test.YtldccopockaneaaRegion
namespace Go.Proofs.Ytldccopockaneaa.num
open Go.RowKit
set_option linter.unusedSimpArgs false

theorem sl2Ints (w : World) (B : Nat) (A A' : Option Addr) (n n' c c' : Nat) (xs ys : List Int) (hx : Ints w B A n xs) (hy : Ints w B A' n' ys) (hn : n ≤ 1048576) (b : Bool) (hb : b = true ↔ xs = ys) :
    Calls Try.prog 34 #[.slice A n c, .slice A' n' c'] w fun e w' => e = .returned (.bool b) ∧ ∃ m, w' = w.drewN m := by
  have HX := Lib.hid hx
  have HY := Lib.hid hy
  by_cases hl : n = n'
  · subst hl
    have HB := Lib.hid hb
    clear hx hy hb
    go_enter Try.func34, Try.ntmps34
    go_wp2
    go_loopw [5] (fun i wr => ∃ k : Nat, k ≤ n ∧ i = .int .i64 k ∧ xs.take k = ys.take k ∧ ∃ m, wr = w.drewN m) (fun i _ => n - (intOf i).toNat)
    case atStart => exact ⟨0, Nat.zero_le _, rfl, rfl, 0, rfl⟩
    case round =>
      obtain ⟨k, hk, rfl, htake, m, rfl⟩ := hrel
      have HT := Lib.hid htake
      clear htake
      by_cases hlt : k < n
      · obtain ⟨b1, off1, rfl, hb1, hc1⟩ := HX.out.2 k hlt
        obtain ⟨b2, off2, rfl, hb2, hc2⟩ := HY.out.2 k hlt
        generalize hv1 : xs.getD k 0 = v1 at *
        generalize hv2 : ys.getD k 0 = v2 at *
        have HV1 := Lib.hid hv1
        have HV2 := Lib.hid hv2
        clear hv1 hv2
        have hlt' : (k : Int) < (n : Int) := by omega
        by_cases he : v1 = v2
        · subst he
          go_wp2
          go_quiet (fail)
          go_wp2
          go_roundw
          case rel => exact ⟨k + 1, by omega, by go_num, by rw [take_snoc_getD HX.out.1 hlt, take_snoc_getD HY.out.1 hlt, HT.out, HV1.out, HV2.out], _, rfl⟩
          case measure => simp [intOf]; omega
        · have hne : (v1 != v2) = true := by simpa using he
          have hxy : xs ≠ ys := ne_at (k := k) (by rw [HV1.out, HV2.out]; exact he)
          obtain rfl : b = false := by
            cases b
            · rfl
            · exact absurd (HB.out.1 rfl) hxy
          have HE := Lib.hid he
          clear he hxy
          go_wp2
          go_quiet (fail)
          go_wp2
          go_ret
          exact ⟨rfl, _, World.drewN_drewN _ _ _⟩
      · obtain rfl : k = n := by omega
        obtain rfl : b = true := HB.out.2 (by
          have h1 := HT.out
          rwa [List.take_of_length_le (by rw [HX.out.1]; exact Nat.le_refl _), List.take_of_length_le (by rw [HY.out.1]; exact Nat.le_refl _)] at h1)
        go_wp2
        go_ret
        exact ⟨rfl, _, rfl⟩
  · obtain rfl : b = false := by
      cases b
      · rfl
      · exact absurd (by rw [← hx.1, hb.1 rfl, hy.1]) hl
    clear hx hy hb
    go_enter Try.func34, Try.ntmps34
    go_wp2
    go_ret
    exact ⟨rfl, 0, rfl⟩
theorem slEqual (w : World) (B : Nat) (A A' : Option Addr) (n n' c c' : Nat) (xs ys : List Int) (hx : Ints w B A n xs) (hy : Ints w B A' n' ys) (hn : n ≤ 1048576) (b : Bool) (hb : b = true ↔ xs = ys) :
    Calls Try.prog 37 #[.slice A n c, .slice A' n' c'] w fun e w' => e = .returned (.bool b) ∧ ∃ m, w' = w.drewN m := by
  have HX := Lib.hid hx
  have HY := Lib.hid hy
  by_cases hl : n = n'
  · subst hl
    have HB := Lib.hid hb
    clear hx hy hb
    go_enter Try.func37, Try.ntmps37
    go_wp2
    go_loopw [13] (fun i wr => ∃ k : Nat, k ≤ n ∧ i = .int .i64 k ∧ xs.take k = ys.take k ∧ ∃ m, wr = w.drewN m) (fun i _ => n - (intOf i).toNat)
    case atStart => exact ⟨0, Nat.zero_le _, rfl, rfl, 0, rfl⟩
    case round =>
      obtain ⟨k, hk, rfl, htake, m, rfl⟩ := hrel
      have HT := Lib.hid htake
      clear htake
      by_cases hlt : k < n
      · obtain ⟨b1, off1, rfl, hb1, hc1⟩ := HX.out.2 k hlt
        obtain ⟨b2, off2, rfl, hb2, hc2⟩ := HY.out.2 k hlt
        generalize hv1 : xs.getD k 0 = v1 at *
        generalize hv2 : ys.getD k 0 = v2 at *
        have HV1 := Lib.hid hv1
        have HV2 := Lib.hid hv2
        clear hv1 hv2
        have hlt' : (k : Int) < (n : Int) := by omega
        by_cases he : v1 = v2
        · subst he
          go_wp2
          go_quiet (fail)
          go_wp2
          go_roundw
          case rel => exact ⟨k + 1, by omega, by go_num, by rw [take_snoc_getD HX.out.1 hlt, take_snoc_getD HY.out.1 hlt, HT.out, HV1.out, HV2.out], _, rfl⟩
          case measure => simp [intOf]; omega
        · have hne : (v1 != v2) = true := by simpa using he
          have hxy : xs ≠ ys := ne_at (k := k) (by rw [HV1.out, HV2.out]; exact he)
          obtain rfl : b = false := by
            cases b
            · rfl
            · exact absurd (HB.out.1 rfl) hxy
          have HE := Lib.hid he
          clear he hxy
          go_wp2
          go_quiet (fail)
          go_wp2
          go_ret
          exact ⟨rfl, _, World.drewN_drewN _ _ _⟩
      · obtain rfl : k = n := by omega
        obtain rfl : b = true := HB.out.2 (by
          have h1 := HT.out
          rwa [List.take_of_length_le (by rw [HX.out.1]; exact Nat.le_refl _), List.take_of_length_le (by rw [HY.out.1]; exact Nat.le_refl _)] at h1)
        go_wp2
        go_ret
        exact ⟨rfl, _, rfl⟩
  · obtain rfl : b = false := by
      cases b
      · rfl
      · exact absurd (by rw [← hx.1, hb.1 rfl, hy.1]) hl
    clear hx hy hb
    go_enter Try.func37, Try.ntmps37
    go_wp2
    go_ret
    exact ⟨rfl, 0, rfl⟩

set_option maxRecDepth 20000 in
set_option maxHeartbeats 1600000 in
theorem sEq (w : World) (B : Nat) (A A' : Option Addr) (n n' c c' : Nat) (its its' : List It) (h1 : Items w B A n its) (h2 : Items w B A' n' its') (hB : B ≤ w.heap.size) (hn : n ≤ 1048576) (hN : ∀ t ∈ its, t.n ≤ 1048576)
    (b : Bool) (hb : b = true ↔ its.map It.dat = its'.map It.dat) :
    Calls Try.prog 26 #[.slice A n c, .slice A' n' c'] w fun e w' => e = .returned (.bool b) ∧ Below w.heap.size w w' := by
  have HX := Lib.hid h1
  have HY := Lib.hid h2
  have HN := Lib.hid hN
  by_cases hl : n = n'
  · subst hl
    have HBo := Lib.hid hb
    clear h1 h2 hN hb
    go_enter Try.func26, Try.ntmps26
    go_wp2
    go_loopw [5] (fun i wr => ∃ k : Nat, k ≤ n ∧ i = .int .i64 k ∧ (its.take k).map It.dat = (its'.take k).map It.dat ∧ Below w.heap.size w wr) (fun i _ => n - (intOf i).toNat)
    case atStart => exact ⟨0, Nat.zero_le _, rfl, rfl, Below.refl _ _⟩
    case round =>
      obtain ⟨k, hk, rfl, htake, hbel⟩ := hrel
      have HT := Lib.hid htake
      have HB := Lib.hid hbel
      clear htake
      by_cases hlt : k < n
      · obtain ⟨b1, off1, t1, rfl, hb1, hat1, hc1, hd1, hx1⟩ := HX.out.at k hlt
        obtain ⟨b2, off2, t2, rfl, hb2, hat2, hc2, hd2, hx2⟩ := HY.out.at k hlt
        have f1 := (hbel.cell (p := ⟨b1, off1 + k * 2, none⟩) (by exact Nat.lt_of_lt_of_le hb1 hB)).trans hc1
        have f2 := (hbel.cell (p := ⟨b1, off1 + k * 2 + 1, none⟩) (by exact Nat.lt_of_lt_of_le hb1 hB)).trans hd1
        have f3 := (hbel.cell (p := ⟨b2, off2 + k * 2, none⟩) (by exact Nat.lt_of_lt_of_le hb2 hB)).trans hc2
        have f4 := (hbel.cell (p := ⟨b2, off2 + k * 2 + 1, none⟩) (by exact Nat.lt_of_lt_of_le hb2 hB)).trans hd2
        have HI1 := Lib.hid (hx1.below (hbel.drew.mono hB))
        have HI2 := Lib.hid (hx2.below (hbel.drew.mono hB))
        have HA1 := Lib.hid hat1
        have HA2 := Lib.hid hat2
        have htn := Lib.hid (HN.out t1 (mem_of_at hat1))
        have hsz := Lib.hid hbel.size
        have hl1 : b1 < wr.heap.size := by have := hbel.size; omega
        have hl2 : b2 < wr.heap.size := by have := hbel.size; omega
        have hlt' : (k : Int) < (n : Int) := by omega
        obtain ⟨q, hq⟩ : ∃ q : Bool, q = true ↔ t1.xs = t2.xs := bool_of _
        have HQ := Lib.hid hq
        clear hc1 hd1 hc2 hd2 hx1 hx2 hat1 hat2 hbel hq
        by_cases he : t1.id = t2.id
        · have HE := Lib.hid he
          have hne : (t1.id != t2.id) = false := by simpa using he
          cases q
          · have HF := Lib.hid (ne_dat HA1.out HA2.out (fun e => by have := HQ.out.2 (congrArg Prod.snd e); cases this))
            obtain rfl : b = false := by
              cases b
              · rfl
              · exact absurd (HBo.out.1 rfl) HF.out
            clear he
            go_wp2
            have hs0 : Below wr.heap.size wr wr.drew ∧ wr.drew.cell? ⟨b1, off1 + k * 2, none⟩ = some (.int .i64 t1.id) ∧ wr.drew.cell? ⟨b1, off1 + k * 2 + 1, none⟩ = some (.slice t1.A t1.n t1.c) ∧ wr.drew.cell? ⟨b2, off2 + k * 2, none⟩ = some (.int .i64 t2.id) ∧ wr.drew.cell? ⟨b2, off2 + k * 2 + 1, none⟩ = some (.slice t2.A t2.n t2.c) := ⟨(Below.refl _ _).drew, f1, f2, f3, f4⟩
            refine wp_region_held (S := fun w' => Below wr.heap.size wr w' ∧ w'.cell? ⟨b1, off1 + k * 2, none⟩ = some (.int .i64 t1.id) ∧ w'.cell? ⟨b1, off1 + k * 2 + 1, none⟩ = some (.slice t1.A t1.n t1.c) ∧ w'.cell? ⟨b2, off2 + k * 2, none⟩ = some (.int .i64 t2.id) ∧ w'.cell? ⟨b2, off2 + k * 2 + 1, none⟩ = some (.slice t2.A t2.n t2.c)) (by kernel_rfl) ?_
            change wpAnyH _ _ _ _ _ _ _ _ (World.drew _)
            refine takeY 17 (i := 0) (v := ?v0a) rfl rfl (by kernel_rfl) (by kernel_rfl) (by kernel_rfl) (fun _ _ _ h => h) (by kernel_rfl) ?y0a hs0 ?_
            case y0a =>
              intro w' hw'; (try dsimp only at hw'); obtain ⟨e0, e1, e2, e3, e4⟩ := hw'; go_simp; try with_reducible rfl
            simp only [Act.put, List.setIfInBounds_toArray, List.set_cons_zero, List.set_cons_succ]
            refine takeY 18 (i := 1) (v := ?v1a) rfl rfl (by kernel_rfl) (by kernel_rfl) (by kernel_rfl) (fun _ _ _ h => h) (by kernel_rfl) ?y1a hs0 ?_
            case y1a =>
              intro w' hw'; (try dsimp only at hw'); obtain ⟨e0, e1, e2, e3, e4⟩ := hw'; go_simp; try with_reducible rfl
            simp only [Act.put, List.setIfInBounds_toArray, List.set_cons_zero, List.set_cons_succ]
            refine takeY 19 (i := 2) (v := ?v2a) rfl rfl (by kernel_rfl) (by kernel_rfl) (by kernel_rfl) (fun _ _ _ h => h) (by kernel_rfl) ?y2a hs0 ?_
            case y2a =>
              intro w' hw'; (try dsimp only at hw'); obtain ⟨e0, e1, e2, e3, e4⟩ := hw'; go_simp; try with_reducible rfl
            simp only [Act.put, List.setIfInBounds_toArray, List.set_cons_zero, List.set_cons_succ]
            refine takeY 20 (i := 3) (v := ?v3a) rfl rfl (by kernel_rfl) (by kernel_rfl) (by kernel_rfl) (fun _ _ _ h => h) (by kernel_rfl) ?y3a hs0 ?_
            case y3a =>
              intro w' hw'; (try dsimp only at hw'); obtain ⟨e0, e1, e2, e3, e4⟩ := hw'; go_simp; try with_reducible rfl
            simp only [Act.put, List.setIfInBounds_toArray, List.set_cons_zero, List.set_cons_succ]
            refine takeY 21 (i := 4) (v := ?v4a) rfl rfl (by kernel_rfl) (by kernel_rfl) (by kernel_rfl) (fun _ _ _ h => h) (by kernel_rfl) ?y4a hs0 ?_
            case y4a =>
              intro w' hw'; (try dsimp only at hw'); obtain ⟨e0, e1, e2, e3, e4⟩ := hw'; go_simp; try with_reducible rfl
            simp only [Act.put, List.setIfInBounds_toArray, List.set_cons_zero, List.set_cons_succ]
            refine takeY 22 (i := 5) (v := ?v5a) rfl rfl (by kernel_rfl) (by kernel_rfl) (by kernel_rfl) (fun _ _ _ h => h) (by kernel_rfl) ?y5a hs0 ?_
            case y5a =>
              intro w' hw'; (try dsimp only at hw'); obtain ⟨e0, e1, e2, e3, e4⟩ := hw'; go_simp; try with_reducible rfl
            simp only [Act.put, List.setIfInBounds_toArray, List.set_cons_zero, List.set_cons_succ]
            refine takeY 23 (i := 6) (v := ?v6a) rfl rfl (by kernel_rfl) (by kernel_rfl) (by kernel_rfl) (fun _ _ _ h => h) (by kernel_rfl) ?y6a hs0 ?_
            case y6a =>
              intro w' hw'; (try dsimp only at hw'); obtain ⟨e0, e1, e2, e3, e4⟩ := hw'; go_simp; try with_reducible rfl
            simp only [Act.put, List.setIfInBounds_toArray, List.set_cons_zero, List.set_cons_succ]
            refine takeY 24 (i := 7) (v := ?v7a) rfl rfl (by kernel_rfl) (by kernel_rfl) (by kernel_rfl) (fun _ _ _ h => h) (by kernel_rfl) ?y7a hs0 ?_
            case y7a =>
              intro w' hw'; (try dsimp only at hw'); obtain ⟨e0, e1, e2, e3, e4⟩ := hw'; go_simp; try with_reducible rfl
            simp only [Act.put, List.setIfInBounds_toArray, List.set_cons_zero, List.set_cons_succ]
            refine takeY 25 (i := 8) (v := ?v8a) rfl rfl (by kernel_rfl) (by kernel_rfl) (by kernel_rfl) (fun _ _ _ h => h) (by kernel_rfl) ?y8a hs0 ?_
            case y8a =>
              intro w' hw'; (try dsimp only at hw'); obtain ⟨e0, e1, e2, e3, e4⟩ := hw'; go_simp; try with_reducible rfl
            simp only [Act.put, List.setIfInBounds_toArray, List.set_cons_zero, List.set_cons_succ]
            refine takeY 26 (i := 9) (v := ?v9a) rfl rfl (by kernel_rfl) (by kernel_rfl) (by kernel_rfl) (fun _ _ _ h => h) (by kernel_rfl) ?y9a hs0 ?_
            case y9a =>
              intro w' hw'; (try dsimp only at hw'); obtain ⟨e0, e1, e2, e3, e4⟩ := hw'; go_simp; try with_reducible rfl
            simp only [Act.put, List.setIfInBounds_toArray, List.set_cons_zero, List.set_cons_succ]
            refine takeY 27 (i := 10) (v := ?v10a) rfl rfl (by kernel_rfl) (by kernel_rfl) (by kernel_rfl) (fun _ _ _ h => h) (by kernel_rfl) ?y10a hs0 ?_
            case y10a =>
              intro w' hw'; (try dsimp only at hw'); obtain ⟨e0, e1, e2, e3, e4⟩ := hw'; go_simp; try with_reducible rfl
            simp only [Act.put, List.setIfInBounds_toArray, List.set_cons_zero, List.set_cons_succ]
            refine takeY 28 (i := 11) (v := ?v11a) rfl rfl (by kernel_rfl) (by kernel_rfl) (by kernel_rfl) (fun _ _ _ h => h) (by kernel_rfl) ?y11a hs0 ?_
            case y11a =>
              intro w' hw'; (try dsimp only at hw'); obtain ⟨e0, e1, e2, e3, e4⟩ := hw'; go_simp; try with_reducible rfl
            simp only [Act.put, List.setIfInBounds_toArray, List.set_cons_zero, List.set_cons_succ]
            refine takeY 29 (i := 12) (v := ?v12a) rfl rfl (by kernel_rfl) (by kernel_rfl) (by kernel_rfl) (fun _ _ _ h => h) (by kernel_rfl) ?y12a hs0 ?_
            case y12a =>
              intro w' hw'; (try dsimp only at hw'); obtain ⟨e0, e1, e2, e3, e4⟩ := hw'; go_simp; try with_reducible rfl
            simp only [Act.put, List.setIfInBounds_toArray, List.set_cons_zero, List.set_cons_succ]
            refine takeY 30 (i := 13) (v := ?v13a) rfl rfl (by kernel_rfl) (by kernel_rfl) (by kernel_rfl) (fun _ _ _ h => h) (by kernel_rfl) ?y13a hs0 ?_
            case y13a =>
              intro w' hw'; (try dsimp only at hw'); obtain ⟨e0, e1, e2, e3, e4⟩ := hw'; go_simp; try with_reducible rfl
            simp only [Act.put, List.setIfInBounds_toArray, List.set_cons_zero, List.set_cons_succ]
            refine takeY 31 (i := 14) (v := ?v14a) rfl rfl (by kernel_rfl) (by kernel_rfl) (by kernel_rfl) (fun _ _ _ h => h) (by kernel_rfl) ?y14a hs0 ?_
            case y14a =>
              intro w' hw'; (try dsimp only at hw'); obtain ⟨e0, e1, e2, e3, e4⟩ := hw'; go_simp; try with_reducible rfl
            simp only [Act.put, List.setIfInBounds_toArray, List.set_cons_zero, List.set_cons_succ]
            refine takeY 32 (i := 15) (v := ?v15a) rfl rfl (by kernel_rfl) (by kernel_rfl) (by kernel_rfl) (fun _ _ _ h => h) (by kernel_rfl) ?y15a hs0 ?_
            case y15a =>
              intro w' hw'; (try dsimp only at hw'); obtain ⟨e0, e1, e2, e3, e4⟩ := hw'; go_simp; try with_reducible rfl
            simp only [Act.put, List.setIfInBounds_toArray, List.set_cons_zero, List.set_cons_succ]
            refine takeY 33 (i := 16) (v := ?v16a) rfl rfl (by kernel_rfl) (by kernel_rfl) (by kernel_rfl) (fun _ _ _ h => h) (by kernel_rfl) ?y16a hs0 ?_
            case y16a =>
              intro w' hw'; (try dsimp only at hw'); obtain ⟨e0, e1, e2, e3, e4⟩ := hw'; go_simp; try with_reducible rfl
            simp only [Act.put, List.setIfInBounds_toArray, List.set_cons_zero, List.set_cons_succ]
            refine takeY 34 (i := 17) (v := ?v17a) rfl rfl (by kernel_rfl) (by kernel_rfl) (by kernel_rfl) (fun _ _ _ h => h) (by kernel_rfl) ?y17a hs0 ?_
            case y17a =>
              intro w' hw'; (try dsimp only at hw'); obtain ⟨e0, e1, e2, e3, e4⟩ := hw'; go_simp; try with_reducible rfl
            simp only [Act.put, List.setIfInBounds_toArray, List.set_cons_zero, List.set_cons_succ]
            refine takeY 35 (i := 18) (v := ?v18a) rfl rfl (by kernel_rfl) (by kernel_rfl) (by kernel_rfl) (fun _ _ _ h => h) (by kernel_rfl) ?y18a hs0 ?_
            case y18a =>
              intro w' hw'; (try dsimp only at hw'); obtain ⟨e0, e1, e2, e3, e4⟩ := hw'; go_simp; try with_reducible rfl
            simp only [Act.put, List.setIfInBounds_toArray, List.set_cons_zero, List.set_cons_succ]
            refine takeY 36 (i := 19) (v := ?v19a) rfl rfl (by kernel_rfl) (by kernel_rfl) (by kernel_rfl) (fun _ _ _ h => h) (by kernel_rfl) ?y19a hs0 ?_
            case y19a =>
              intro w' hw'; (try dsimp only at hw'); obtain ⟨e0, e1, e2, e3, e4⟩ := hw'; go_simp; try with_reducible rfl
            simp only [Act.put, List.setIfInBounds_toArray, List.set_cons_zero, List.set_cons_succ]
            refine takeY 37 (i := 20) (v := ?v20a) rfl rfl (by kernel_rfl) (by kernel_rfl) (by kernel_rfl) (fun _ _ _ h => h) (by kernel_rfl) ?y20a hs0 ?_
            case y20a =>
              intro w' hw'; (try dsimp only at hw'); obtain ⟨e0, e1, e2, e3, e4⟩ := hw'; go_simp; try with_reducible rfl
            simp only [Act.put, List.setIfInBounds_toArray, List.set_cons_zero, List.set_cons_succ]
            refine takeY 38 (i := 21) (v := ?v21a) rfl rfl (by kernel_rfl) (by kernel_rfl) (by kernel_rfl) (fun _ _ _ h => h) (by kernel_rfl) ?y21a hs0 ?_
            case y21a =>
              intro w' hw'; (try dsimp only at hw'); obtain ⟨e0, e1, e2, e3, e4⟩ := hw'; go_simp; try with_reducible rfl
            simp only [Act.put, List.setIfInBounds_toArray, List.set_cons_zero, List.set_cons_succ]
            refine wpAnyH_ready (rs := [22]) (by kernel_rfl) (by simp) ?_
            refine AllReadyH.cons rfl (fun K hK => ?_) AllReadyH.nil
            go_simp; go_at_call 34; refine (sl2Ints _ B t1.A t2.A t1.n t2.n t1.c t2.c t1.xs t2.xs HI1.out HI2.out htn.out false HQ.out).mono ?_; rintro e w3 ⟨rfl, m3, hm3⟩; have hb3 : Below wr.heap.size wr w3 := hm3 ▸ below_drewN (Below.refl _ _).drew m3; clear hm3
            refine hK.out _ _ ⟨hb3, (hb3.cell (p := ⟨b1, off1 + k * 2, none⟩) hl1).trans f1, (hb3.cell (p := ⟨b1, off1 + k * 2 + 1, none⟩) hl1).trans f2, (hb3.cell (p := ⟨b2, off2 + k * 2, none⟩) hl2).trans f3, (hb3.cell (p := ⟨b2, off2 + k * 2 + 1, none⟩) hl2).trans f4⟩ (fun hS1 => ?_)
            clear hK K
            try simp only [Act.put, List.setIfInBounds_toArray, List.set_cons_zero, List.set_cons_succ]
            refine takeY 40 (i := 23) (v := ?v23a) rfl rfl (by kernel_rfl) (by kernel_rfl) (by kernel_rfl) (fun _ _ _ h => h) (by kernel_rfl) ?y23a hS1 ?_
            case y23a =>
              intro w' hw'; (try dsimp only at hw'); obtain ⟨e0, e1, e2, e3, e4⟩ := hw'; go_simp; try with_reducible rfl
            simp only [Act.put, List.setIfInBounds_toArray, List.set_cons_zero, List.set_cons_succ]
            refine takeY 41 (i := 24) (v := ?v24a) rfl rfl (by kernel_rfl) (by kernel_rfl) (by kernel_rfl) (fun _ _ _ h => h) (by kernel_rfl) ?y24a hS1 ?_
            case y24a =>
              intro w' hw'; (try dsimp only at hw'); obtain ⟨e0, e1, e2, e3, e4⟩ := hw'; go_simp; try with_reducible rfl
            simp only [Act.put, List.setIfInBounds_toArray, List.set_cons_zero, List.set_cons_succ]
            refine wpAnyH_done (by kernel_rfl) ?_ _
            go_wp2
            go_ret
            exact ⟨rfl, HB.out.trans (hb3.mono hsz.out)⟩
          · have HD := Lib.hid (HQ.out.1 rfl)
            clear he
            go_wp2
            have hs0 : Below wr.heap.size wr wr.drew ∧ wr.drew.cell? ⟨b1, off1 + k * 2, none⟩ = some (.int .i64 t1.id) ∧ wr.drew.cell? ⟨b1, off1 + k * 2 + 1, none⟩ = some (.slice t1.A t1.n t1.c) ∧ wr.drew.cell? ⟨b2, off2 + k * 2, none⟩ = some (.int .i64 t2.id) ∧ wr.drew.cell? ⟨b2, off2 + k * 2 + 1, none⟩ = some (.slice t2.A t2.n t2.c) := ⟨(Below.refl _ _).drew, f1, f2, f3, f4⟩
            refine wp_region_held (S := fun w' => Below wr.heap.size wr w' ∧ w'.cell? ⟨b1, off1 + k * 2, none⟩ = some (.int .i64 t1.id) ∧ w'.cell? ⟨b1, off1 + k * 2 + 1, none⟩ = some (.slice t1.A t1.n t1.c) ∧ w'.cell? ⟨b2, off2 + k * 2, none⟩ = some (.int .i64 t2.id) ∧ w'.cell? ⟨b2, off2 + k * 2 + 1, none⟩ = some (.slice t2.A t2.n t2.c)) (by kernel_rfl) ?_
            change wpAnyH _ _ _ _ _ _ _ _ (World.drew _)
            refine takeY 17 (i := 0) (v := ?v0b) rfl rfl (by kernel_rfl) (by kernel_rfl) (by kernel_rfl) (fun _ _ _ h => h) (by kernel_rfl) ?y0b hs0 ?_
            case y0b =>
              intro w' hw'; (try dsimp only at hw'); obtain ⟨e0, e1, e2, e3, e4⟩ := hw'; go_simp; try with_reducible rfl
            simp only [Act.put, List.setIfInBounds_toArray, List.set_cons_zero, List.set_cons_succ]
            refine takeY 18 (i := 1) (v := ?v1b) rfl rfl (by kernel_rfl) (by kernel_rfl) (by kernel_rfl) (fun _ _ _ h => h) (by kernel_rfl) ?y1b hs0 ?_
            case y1b =>
              intro w' hw'; (try dsimp only at hw'); obtain ⟨e0, e1, e2, e3, e4⟩ := hw'; go_simp; try with_reducible rfl
            simp only [Act.put, List.setIfInBounds_toArray, List.set_cons_zero, List.set_cons_succ]
            refine takeY 19 (i := 2) (v := ?v2b) rfl rfl (by kernel_rfl) (by kernel_rfl) (by kernel_rfl) (fun _ _ _ h => h) (by kernel_rfl) ?y2b hs0 ?_
            case y2b =>
              intro w' hw'; (try dsimp only at hw'); obtain ⟨e0, e1, e2, e3, e4⟩ := hw'; go_simp; try with_reducible rfl
            simp only [Act.put, List.setIfInBounds_toArray, List.set_cons_zero, List.set_cons_succ]
            refine takeY 20 (i := 3) (v := ?v3b) rfl rfl (by kernel_rfl) (by kernel_rfl) (by kernel_rfl) (fun _ _ _ h => h) (by kernel_rfl) ?y3b hs0 ?_
            case y3b =>
              intro w' hw'; (try dsimp only at hw'); obtain ⟨e0, e1, e2, e3, e4⟩ := hw'; go_simp; try with_reducible rfl
            simp only [Act.put, List.setIfInBounds_toArray, List.set_cons_zero, List.set_cons_succ]
            refine takeY 21 (i := 4) (v := ?v4b) rfl rfl (by kernel_rfl) (by kernel_rfl) (by kernel_rfl) (fun _ _ _ h => h) (by kernel_rfl) ?y4b hs0 ?_
            case y4b =>
              intro w' hw'; (try dsimp only at hw'); obtain ⟨e0, e1, e2, e3, e4⟩ := hw'; go_simp; try with_reducible rfl
            simp only [Act.put, List.setIfInBounds_toArray, List.set_cons_zero, List.set_cons_succ]
            refine takeY 22 (i := 5) (v := ?v5b) rfl rfl (by kernel_rfl) (by kernel_rfl) (by kernel_rfl) (fun _ _ _ h => h) (by kernel_rfl) ?y5b hs0 ?_
            case y5b =>
              intro w' hw'; (try dsimp only at hw'); obtain ⟨e0, e1, e2, e3, e4⟩ := hw'; go_simp; try with_reducible rfl
            simp only [Act.put, List.setIfInBounds_toArray, List.set_cons_zero, List.set_cons_succ]
            refine takeY 23 (i := 6) (v := ?v6b) rfl rfl (by kernel_rfl) (by kernel_rfl) (by kernel_rfl) (fun _ _ _ h => h) (by kernel_rfl) ?y6b hs0 ?_
            case y6b =>
              intro w' hw'; (try dsimp only at hw'); obtain ⟨e0, e1, e2, e3, e4⟩ := hw'; go_simp; try with_reducible rfl
            simp only [Act.put, List.setIfInBounds_toArray, List.set_cons_zero, List.set_cons_succ]
            refine takeY 24 (i := 7) (v := ?v7b) rfl rfl (by kernel_rfl) (by kernel_rfl) (by kernel_rfl) (fun _ _ _ h => h) (by kernel_rfl) ?y7b hs0 ?_
            case y7b =>
              intro w' hw'; (try dsimp only at hw'); obtain ⟨e0, e1, e2, e3, e4⟩ := hw'; go_simp; try with_reducible rfl
            simp only [Act.put, List.setIfInBounds_toArray, List.set_cons_zero, List.set_cons_succ]
            refine takeY 25 (i := 8) (v := ?v8b) rfl rfl (by kernel_rfl) (by kernel_rfl) (by kernel_rfl) (fun _ _ _ h => h) (by kernel_rfl) ?y8b hs0 ?_
            case y8b =>
              intro w' hw'; (try dsimp only at hw'); obtain ⟨e0, e1, e2, e3, e4⟩ := hw'; go_simp; try with_reducible rfl
            simp only [Act.put, List.setIfInBounds_toArray, List.set_cons_zero, List.set_cons_succ]
            refine takeY 26 (i := 9) (v := ?v9b) rfl rfl (by kernel_rfl) (by kernel_rfl) (by kernel_rfl) (fun _ _ _ h => h) (by kernel_rfl) ?y9b hs0 ?_
            case y9b =>
              intro w' hw'; (try dsimp only at hw'); obtain ⟨e0, e1, e2, e3, e4⟩ := hw'; go_simp; try with_reducible rfl
            simp only [Act.put, List.setIfInBounds_toArray, List.set_cons_zero, List.set_cons_succ]
            refine takeY 27 (i := 10) (v := ?v10b) rfl rfl (by kernel_rfl) (by kernel_rfl) (by kernel_rfl) (fun _ _ _ h => h) (by kernel_rfl) ?y10b hs0 ?_
            case y10b =>
              intro w' hw'; (try dsimp only at hw'); obtain ⟨e0, e1, e2, e3, e4⟩ := hw'; go_simp; try with_reducible rfl
            simp only [Act.put, List.setIfInBounds_toArray, List.set_cons_zero, List.set_cons_succ]
            refine takeY 28 (i := 11) (v := ?v11b) rfl rfl (by kernel_rfl) (by kernel_rfl) (by kernel_rfl) (fun _ _ _ h => h) (by kernel_rfl) ?y11b hs0 ?_
            case y11b =>
              intro w' hw'; (try dsimp only at hw'); obtain ⟨e0, e1, e2, e3, e4⟩ := hw'; go_simp; try with_reducible rfl
            simp only [Act.put, List.setIfInBounds_toArray, List.set_cons_zero, List.set_cons_succ]
            refine takeY 29 (i := 12) (v := ?v12b) rfl rfl (by kernel_rfl) (by kernel_rfl) (by kernel_rfl) (fun _ _ _ h => h) (by kernel_rfl) ?y12b hs0 ?_
            case y12b =>
              intro w' hw'; (try dsimp only at hw'); obtain ⟨e0, e1, e2, e3, e4⟩ := hw'; go_simp; try with_reducible rfl
            simp only [Act.put, List.setIfInBounds_toArray, List.set_cons_zero, List.set_cons_succ]
            refine takeY 30 (i := 13) (v := ?v13b) rfl rfl (by kernel_rfl) (by kernel_rfl) (by kernel_rfl) (fun _ _ _ h => h) (by kernel_rfl) ?y13b hs0 ?_
            case y13b =>
              intro w' hw'; (try dsimp only at hw'); obtain ⟨e0, e1, e2, e3, e4⟩ := hw'; go_simp; try with_reducible rfl
            simp only [Act.put, List.setIfInBounds_toArray, List.set_cons_zero, List.set_cons_succ]
            refine takeY 31 (i := 14) (v := ?v14b) rfl rfl (by kernel_rfl) (by kernel_rfl) (by kernel_rfl) (fun _ _ _ h => h) (by kernel_rfl) ?y14b hs0 ?_
            case y14b =>
              intro w' hw'; (try dsimp only at hw'); obtain ⟨e0, e1, e2, e3, e4⟩ := hw'; go_simp; try with_reducible rfl
            simp only [Act.put, List.setIfInBounds_toArray, List.set_cons_zero, List.set_cons_succ]
            refine takeY 32 (i := 15) (v := ?v15b) rfl rfl (by kernel_rfl) (by kernel_rfl) (by kernel_rfl) (fun _ _ _ h => h) (by kernel_rfl) ?y15b hs0 ?_
            case y15b =>
              intro w' hw'; (try dsimp only at hw'); obtain ⟨e0, e1, e2, e3, e4⟩ := hw'; go_simp; try with_reducible rfl
            simp only [Act.put, List.setIfInBounds_toArray, List.set_cons_zero, List.set_cons_succ]
            refine takeY 33 (i := 16) (v := ?v16b) rfl rfl (by kernel_rfl) (by kernel_rfl) (by kernel_rfl) (fun _ _ _ h => h) (by kernel_rfl) ?y16b hs0 ?_
            case y16b =>
              intro w' hw'; (try dsimp only at hw'); obtain ⟨e0, e1, e2, e3, e4⟩ := hw'; go_simp; try with_reducible rfl
            simp only [Act.put, List.setIfInBounds_toArray, List.set_cons_zero, List.set_cons_succ]
            refine takeY 34 (i := 17) (v := ?v17b) rfl rfl (by kernel_rfl) (by kernel_rfl) (by kernel_rfl) (fun _ _ _ h => h) (by kernel_rfl) ?y17b hs0 ?_
            case y17b =>
              intro w' hw'; (try dsimp only at hw'); obtain ⟨e0, e1, e2, e3, e4⟩ := hw'; go_simp; try with_reducible rfl
            simp only [Act.put, List.setIfInBounds_toArray, List.set_cons_zero, List.set_cons_succ]
            refine takeY 35 (i := 18) (v := ?v18b) rfl rfl (by kernel_rfl) (by kernel_rfl) (by kernel_rfl) (fun _ _ _ h => h) (by kernel_rfl) ?y18b hs0 ?_
            case y18b =>
              intro w' hw'; (try dsimp only at hw'); obtain ⟨e0, e1, e2, e3, e4⟩ := hw'; go_simp; try with_reducible rfl
            simp only [Act.put, List.setIfInBounds_toArray, List.set_cons_zero, List.set_cons_succ]
            refine takeY 36 (i := 19) (v := ?v19b) rfl rfl (by kernel_rfl) (by kernel_rfl) (by kernel_rfl) (fun _ _ _ h => h) (by kernel_rfl) ?y19b hs0 ?_
            case y19b =>
              intro w' hw'; (try dsimp only at hw'); obtain ⟨e0, e1, e2, e3, e4⟩ := hw'; go_simp; try with_reducible rfl
            simp only [Act.put, List.setIfInBounds_toArray, List.set_cons_zero, List.set_cons_succ]
            refine takeY 37 (i := 20) (v := ?v20b) rfl rfl (by kernel_rfl) (by kernel_rfl) (by kernel_rfl) (fun _ _ _ h => h) (by kernel_rfl) ?y20b hs0 ?_
            case y20b =>
              intro w' hw'; (try dsimp only at hw'); obtain ⟨e0, e1, e2, e3, e4⟩ := hw'; go_simp; try with_reducible rfl
            simp only [Act.put, List.setIfInBounds_toArray, List.set_cons_zero, List.set_cons_succ]
            refine takeY 38 (i := 21) (v := ?v21b) rfl rfl (by kernel_rfl) (by kernel_rfl) (by kernel_rfl) (fun _ _ _ h => h) (by kernel_rfl) ?y21b hs0 ?_
            case y21b =>
              intro w' hw'; (try dsimp only at hw'); obtain ⟨e0, e1, e2, e3, e4⟩ := hw'; go_simp; try with_reducible rfl
            simp only [Act.put, List.setIfInBounds_toArray, List.set_cons_zero, List.set_cons_succ]
            refine wpAnyH_ready (rs := [22]) (by kernel_rfl) (by simp) ?_
            refine AllReadyH.cons rfl (fun K hK => ?_) AllReadyH.nil
            go_simp; go_at_call 34; refine (sl2Ints _ B t1.A t2.A t1.n t2.n t1.c t2.c t1.xs t2.xs HI1.out HI2.out htn.out true ⟨fun _ => HD.out, fun _ => rfl⟩).mono ?_; rintro e w3 ⟨rfl, m3, hm3⟩; have hb3 : Below wr.heap.size wr w3 := hm3 ▸ below_drewN (Below.refl _ _).drew m3; clear hm3
            refine hK.out _ _ ⟨hb3, (hb3.cell (p := ⟨b1, off1 + k * 2, none⟩) hl1).trans f1, (hb3.cell (p := ⟨b1, off1 + k * 2 + 1, none⟩) hl1).trans f2, (hb3.cell (p := ⟨b2, off2 + k * 2, none⟩) hl2).trans f3, (hb3.cell (p := ⟨b2, off2 + k * 2 + 1, none⟩) hl2).trans f4⟩ (fun hS1 => ?_)
            clear hK K
            try simp only [Act.put, List.setIfInBounds_toArray, List.set_cons_zero, List.set_cons_succ]
            refine takeY 40 (i := 23) (v := ?v23b) rfl rfl (by kernel_rfl) (by kernel_rfl) (by kernel_rfl) (fun _ _ _ h => h) (by kernel_rfl) ?y23b hS1 ?_
            case y23b =>
              intro w' hw'; (try dsimp only at hw'); obtain ⟨e0, e1, e2, e3, e4⟩ := hw'; go_simp; try with_reducible rfl
            simp only [Act.put, List.setIfInBounds_toArray, List.set_cons_zero, List.set_cons_succ]
            refine takeY 41 (i := 24) (v := ?v24b) rfl rfl (by kernel_rfl) (by kernel_rfl) (by kernel_rfl) (fun _ _ _ h => h) (by kernel_rfl) ?y24b hS1 ?_
            case y24b =>
              intro w' hw'; (try dsimp only at hw'); obtain ⟨e0, e1, e2, e3, e4⟩ := hw'; go_simp; try with_reducible rfl
            simp only [Act.put, List.setIfInBounds_toArray, List.set_cons_zero, List.set_cons_succ]
            refine wpAnyH_done (by kernel_rfl) ?_ _
            go_wp2
            go_roundw
            case rel => exact ⟨k + 1, by omega, by go_num, by rw [take_at HA1.out, take_at HA2.out, List.map_append, List.map_append, HT.out, List.map_singleton, List.map_singleton, It.dat, It.dat, HE.out, HD.out], HB.out.trans (hb3.mono hsz.out)⟩
            case measure => simp [intOf]; omega
        · have HF := Lib.hid (ne_dat HA1.out HA2.out (fun e => he (congrArg Prod.fst e)))
          obtain rfl : b = false := by
            cases b
            · rfl
            · exact absurd (HBo.out.1 rfl) HF.out
          have hne : (t1.id != t2.id) = true := by simpa using he
          clear he
          go_wp2
          have hs0 : Below wr.heap.size wr wr.drew ∧ wr.drew.cell? ⟨b1, off1 + k * 2, none⟩ = some (.int .i64 t1.id) ∧ wr.drew.cell? ⟨b1, off1 + k * 2 + 1, none⟩ = some (.slice t1.A t1.n t1.c) ∧ wr.drew.cell? ⟨b2, off2 + k * 2, none⟩ = some (.int .i64 t2.id) ∧ wr.drew.cell? ⟨b2, off2 + k * 2 + 1, none⟩ = some (.slice t2.A t2.n t2.c) := ⟨(Below.refl _ _).drew, f1, f2, f3, f4⟩
          refine wp_region_held (S := fun w' => Below wr.heap.size wr w' ∧ w'.cell? ⟨b1, off1 + k * 2, none⟩ = some (.int .i64 t1.id) ∧ w'.cell? ⟨b1, off1 + k * 2 + 1, none⟩ = some (.slice t1.A t1.n t1.c) ∧ w'.cell? ⟨b2, off2 + k * 2, none⟩ = some (.int .i64 t2.id) ∧ w'.cell? ⟨b2, off2 + k * 2 + 1, none⟩ = some (.slice t2.A t2.n t2.c)) (by kernel_rfl) ?_
          change wpAnyH _ _ _ _ _ _ _ _ (World.drew _)
          refine takeY 17 (i := 0) (v := ?v0c) rfl rfl (by kernel_rfl) (by kernel_rfl) (by kernel_rfl) (fun _ _ _ h => h) (by kernel_rfl) ?y0c hs0 ?_
          case y0c =>
            intro w' hw'; (try dsimp only at hw'); obtain ⟨e0, e1, e2, e3, e4⟩ := hw'; go_simp; try with_reducible rfl
          simp only [Act.put, List.setIfInBounds_toArray, List.set_cons_zero, List.set_cons_succ]
          refine takeY 18 (i := 1) (v := ?v1c) rfl rfl (by kernel_rfl) (by kernel_rfl) (by kernel_rfl) (fun _ _ _ h => h) (by kernel_rfl) ?y1c hs0 ?_
          case y1c =>
            intro w' hw'; (try dsimp only at hw'); obtain ⟨e0, e1, e2, e3, e4⟩ := hw'; go_simp; try with_reducible rfl
          simp only [Act.put, List.setIfInBounds_toArray, List.set_cons_zero, List.set_cons_succ]
          refine takeY 19 (i := 2) (v := ?v2c) rfl rfl (by kernel_rfl) (by kernel_rfl) (by kernel_rfl) (fun _ _ _ h => h) (by kernel_rfl) ?y2c hs0 ?_
          case y2c =>
            intro w' hw'; (try dsimp only at hw'); obtain ⟨e0, e1, e2, e3, e4⟩ := hw'; go_simp; try with_reducible rfl
          simp only [Act.put, List.setIfInBounds_toArray, List.set_cons_zero, List.set_cons_succ]
          refine takeY 20 (i := 3) (v := ?v3c) rfl rfl (by kernel_rfl) (by kernel_rfl) (by kernel_rfl) (fun _ _ _ h => h) (by kernel_rfl) ?y3c hs0 ?_
          case y3c =>
            intro w' hw'; (try dsimp only at hw'); obtain ⟨e0, e1, e2, e3, e4⟩ := hw'; go_simp; try with_reducible rfl
          simp only [Act.put, List.setIfInBounds_toArray, List.set_cons_zero, List.set_cons_succ]
          refine takeY 21 (i := 4) (v := ?v4c) rfl rfl (by kernel_rfl) (by kernel_rfl) (by kernel_rfl) (fun _ _ _ h => h) (by kernel_rfl) ?y4c hs0 ?_
          case y4c =>
            intro w' hw'; (try dsimp only at hw'); obtain ⟨e0, e1, e2, e3, e4⟩ := hw'; go_simp; try with_reducible rfl
          simp only [Act.put, List.setIfInBounds_toArray, List.set_cons_zero, List.set_cons_succ]
          refine takeY 22 (i := 5) (v := ?v5c) rfl rfl (by kernel_rfl) (by kernel_rfl) (by kernel_rfl) (fun _ _ _ h => h) (by kernel_rfl) ?y5c hs0 ?_
          case y5c =>
            intro w' hw'; (try dsimp only at hw'); obtain ⟨e0, e1, e2, e3, e4⟩ := hw'; go_simp; try with_reducible rfl
          simp only [Act.put, List.setIfInBounds_toArray, List.set_cons_zero, List.set_cons_succ]
          refine takeY 23 (i := 6) (v := ?v6c) rfl rfl (by kernel_rfl) (by kernel_rfl) (by kernel_rfl) (fun _ _ _ h => h) (by kernel_rfl) ?y6c hs0 ?_
          case y6c =>
            intro w' hw'; (try dsimp only at hw'); obtain ⟨e0, e1, e2, e3, e4⟩ := hw'; go_simp; try with_reducible rfl
          simp only [Act.put, List.setIfInBounds_toArray, List.set_cons_zero, List.set_cons_succ]
          refine takeY 24 (i := 7) (v := ?v7c) rfl rfl (by kernel_rfl) (by kernel_rfl) (by kernel_rfl) (fun _ _ _ h => h) (by kernel_rfl) ?y7c hs0 ?_
          case y7c =>
            intro w' hw'; (try dsimp only at hw'); obtain ⟨e0, e1, e2, e3, e4⟩ := hw'; go_simp; try with_reducible rfl
          simp only [Act.put, List.setIfInBounds_toArray, List.set_cons_zero, List.set_cons_succ]
          refine takeY 25 (i := 8) (v := ?v8c) rfl rfl (by kernel_rfl) (by kernel_rfl) (by kernel_rfl) (fun _ _ _ h => h) (by kernel_rfl) ?y8c hs0 ?_
          case y8c =>
            intro w' hw'; (try dsimp only at hw'); obtain ⟨e0, e1, e2, e3, e4⟩ := hw'; go_simp; try with_reducible rfl
          simp only [Act.put, List.setIfInBounds_toArray, List.set_cons_zero, List.set_cons_succ]
          refine takeY 26 (i := 9) (v := ?v9c) rfl rfl (by kernel_rfl) (by kernel_rfl) (by kernel_rfl) (fun _ _ _ h => h) (by kernel_rfl) ?y9c hs0 ?_
          case y9c =>
            intro w' hw'; (try dsimp only at hw'); obtain ⟨e0, e1, e2, e3, e4⟩ := hw'; go_simp; try with_reducible rfl
          simp only [Act.put, List.setIfInBounds_toArray, List.set_cons_zero, List.set_cons_succ]
          refine takeY 27 (i := 10) (v := ?v10c) rfl rfl (by kernel_rfl) (by kernel_rfl) (by kernel_rfl) (fun _ _ _ h => h) (by kernel_rfl) ?y10c hs0 ?_
          case y10c =>
            intro w' hw'; (try dsimp only at hw'); obtain ⟨e0, e1, e2, e3, e4⟩ := hw'; go_simp; try with_reducible rfl
          simp only [Act.put, List.setIfInBounds_toArray, List.set_cons_zero, List.set_cons_succ]
          refine takeY 28 (i := 11) (v := ?v11c) rfl rfl (by kernel_rfl) (by kernel_rfl) (by kernel_rfl) (fun _ _ _ h => h) (by kernel_rfl) ?y11c hs0 ?_
          case y11c =>
            intro w' hw'; (try dsimp only at hw'); obtain ⟨e0, e1, e2, e3, e4⟩ := hw'; go_simp; try with_reducible rfl
          simp only [Act.put, List.setIfInBounds_toArray, List.set_cons_zero, List.set_cons_succ]
          refine takeU 29 (i := 12) rfl rfl (by kernel_rfl) (by kernel_rfl) (by kernel_rfl) (fun _ _ _ h => h) (by kernel_rfl) hs0 ?_
          simp only [Act.put, List.setIfInBounds_toArray, List.set_cons_zero, List.set_cons_succ]
          refine takeU 30 (i := 13) rfl rfl (by kernel_rfl) (by kernel_rfl) (by kernel_rfl) (fun _ _ _ h => h) (by kernel_rfl) hs0 ?_
          simp only [Act.put, List.setIfInBounds_toArray, List.set_cons_zero, List.set_cons_succ]
          refine takeU 31 (i := 14) rfl rfl (by kernel_rfl) (by kernel_rfl) (by kernel_rfl) (fun _ _ _ h => h) (by kernel_rfl) hs0 ?_
          simp only [Act.put, List.setIfInBounds_toArray, List.set_cons_zero, List.set_cons_succ]
          refine takeU 32 (i := 15) rfl rfl (by kernel_rfl) (by kernel_rfl) (by kernel_rfl) (fun _ _ _ h => h) (by kernel_rfl) hs0 ?_
          simp only [Act.put, List.setIfInBounds_toArray, List.set_cons_zero, List.set_cons_succ]
          refine takeU 33 (i := 16) rfl rfl (by kernel_rfl) (by kernel_rfl) (by kernel_rfl) (fun _ _ _ h => h) (by kernel_rfl) hs0 ?_
          simp only [Act.put, List.setIfInBounds_toArray, List.set_cons_zero, List.set_cons_succ]
          refine takeU 34 (i := 17) rfl rfl (by kernel_rfl) (by kernel_rfl) (by kernel_rfl) (fun _ _ _ h => h) (by kernel_rfl) hs0 ?_
          simp only [Act.put, List.setIfInBounds_toArray, List.set_cons_zero, List.set_cons_succ]
          refine takeU 35 (i := 18) rfl rfl (by kernel_rfl) (by kernel_rfl) (by kernel_rfl) (fun _ _ _ h => h) (by kernel_rfl) hs0 ?_
          simp only [Act.put, List.setIfInBounds_toArray, List.set_cons_zero, List.set_cons_succ]
          refine takeU 36 (i := 19) rfl rfl (by kernel_rfl) (by kernel_rfl) (by kernel_rfl) (fun _ _ _ h => h) (by kernel_rfl) hs0 ?_
          simp only [Act.put, List.setIfInBounds_toArray, List.set_cons_zero, List.set_cons_succ]
          refine takeU 37 (i := 20) rfl rfl (by kernel_rfl) (by kernel_rfl) (by kernel_rfl) (fun _ _ _ h => h) (by kernel_rfl) hs0 ?_
          simp only [Act.put, List.setIfInBounds_toArray, List.set_cons_zero, List.set_cons_succ]
          refine takeU 38 (i := 21) rfl rfl (by kernel_rfl) (by kernel_rfl) (by kernel_rfl) (fun _ _ _ h => h) (by kernel_rfl) hs0 ?_
          simp only [Act.put, List.setIfInBounds_toArray, List.set_cons_zero, List.set_cons_succ]
          refine takeU 39 (i := 22) rfl rfl (by kernel_rfl) (by kernel_rfl) (by kernel_rfl) (fun _ _ _ h => h) (by kernel_rfl) hs0 ?_
          simp only [Act.put, List.setIfInBounds_toArray, List.set_cons_zero, List.set_cons_succ]
          refine takeU 40 (i := 23) rfl rfl (by kernel_rfl) (by kernel_rfl) (by kernel_rfl) (fun _ _ _ h => h) (by kernel_rfl) hs0 ?_
          simp only [Act.put, List.setIfInBounds_toArray, List.set_cons_zero, List.set_cons_succ]
          refine takeY 41 (i := 24) (v := ?v24c) rfl rfl (by kernel_rfl) (by kernel_rfl) (by kernel_rfl) (fun _ _ _ h => h) (by kernel_rfl) ?y24c hs0 ?_
          case y24c =>
            intro w' hw'; (try dsimp only at hw'); obtain ⟨e0, e1, e2, e3, e4⟩ := hw'; go_simp; try with_reducible rfl
          simp only [Act.put, List.setIfInBounds_toArray, List.set_cons_zero, List.set_cons_succ]
          refine wpAnyH_done (by kernel_rfl) ?_ _
          go_wp2
          go_ret
          exact ⟨rfl, HB.out.trans (hs0.1.mono hsz.out)⟩
      · obtain rfl : k = n := by omega
        obtain rfl : b = true := HBo.out.2 (by have := HT.out; rwa [take_all HX.out.1, take_all HY.out.1] at this)
        clear hbel
        go_wp2
        go_ret
        exact ⟨rfl, HB.out⟩
  · obtain rfl : b = false := by
      cases b
      · rfl
      · exact absurd (hb.1 rfl) (ne_len (by rw [h1.1, h2.1]; exact hl))
    clear h1 h2 hb
    go_enter Try.func26, Try.ntmps26
    go_wp2
    go_ret
    exact ⟨rfl, Below.refl _ _⟩
end Go.Proofs.Ytldccopockaneaa.num
