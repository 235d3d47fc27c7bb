/- Contracts of functions that the laws of this chapter call, packed. -/
import Derived.Test.YtnjnlcmddcjcfaaGreatPbA
import Derived.Test.YtnjnlcmddcjcfaaGreatItemIds
import Derived.Test.YtnjnlcmddcjcfaaGreatPairSpecB
import Derived.Test.YtnjnlcmddcjcfaaGreatWishImpl
import Derived.Test.YtnjnlcmddcjcfaaGreatPairMark
import Derived.Test.YtnjnlcmddcjcfaaGreatItemImpl
import Derived.Deep.QuietTactic
import Derived.BigQuiet
import Derived.Test.YtnjnlcmddcjcfaaGreatPairMarkI
import Derived.Conc.Holds
import Derived.Handed
import Derived.Test.YtnjnlcmddcjcfaaGreatRows
namespace Go.Proofs.YtnjnlcmddcjcfaaGreat.num
set_option maxRecDepth 20000
open Go.RowKit
set_option linter.unusedVariables false
set_option linter.unusedSimpArgs false

set_option maxRecDepth 20000 in
theorem sFine (w : World) (B : Nat) (A : Option Addr) (n c : Nat) (its : List It) (A2 : Option Addr) (n2 c2 : Nat) (ns : List Nd) (h : InB w B A n its A2 n2 c2 ns) (q : Bool) (hq : q = true ↔ IsE (datN ns) ∧ AreP (its.map It.dat)) :
    Calls Tryz.prog 45 #[.slice A n c, .slice A2 n2 c2] w fun e w' => e = .returned (.bool q) ∧ Below w.heap.size w w' := by
  obtain ⟨qa, hqa⟩ := bool_of (AreP (its.map It.dat))
  obtain ⟨qe, hqe⟩ := bool_of (IsE (datN ns))
  have HA : Hid (Calls Tryz.prog 20 #[.slice A n c] w fun e w' => e = .returned (.bool qa) ∧ Below w.heap.size w w') := Lib.hid (sAre w B A n c its h.i h.hB h.hn h.si qa hqa)
  have HE : Hid (∀ w1, Below w.heap.size w w1 → Calls Tryz.prog 21 #[.slice A2 n2 c2] w1 fun e w' => e = .returned (.bool qe) ∧ Below w1.heap.size w1 w') := Lib.hid fun w1 h1 => sIsE w1 B A2 n2 c2 ns (h.below h1).e (h.below h1).hB h.hn2 h.se qe hqe
  have HQ : Hid (q = (qa && qe)) := Lib.hid (by
    rw [Bool.eq_iff_iff, Bool.and_eq_true, hq, hqa, hqe]
    exact And.comm)
  clear hq hqa hqe h
  go_enter Tryz.func45, Tryz.ntmps45
  go_wp2_with fail
  refine HA.out.mono ?_
  rintro e w1 ⟨rfl, hb1⟩
  have HB1 := Lib.hid hb1
  clear hb1 HA
  cases qa
  · obtain rfl : q = false := HQ.out
    go_wp2
    go_ret
    exact ⟨rfl, HB1.out⟩
  · go_wp2_with fail
    refine (HE.out _ HB1.out).mono ?_
    rintro e w2 ⟨rfl, hb2⟩
    have HB2 := Lib.hid (below_on HB1.out hb2)
    clear hb2
    obtain rfl : q = qe := by rw [HQ.out]; rfl
    go_wp2
    go_ret
    exact ⟨rfl, HB2.out⟩
/-- The model's comparison of two of the items. -/
theorem sCmpIn (w : World) (B : Nat) (A : Option Addr) (n c : Nat) (its : List It) (A2 : Option Addr) (n2 c2 : Nat) (ns : List Nd) (h : InB w B A n its A2 n2 c2 ns) (he : IsE (datN ns)) (ha : AreP (its.map It.dat)) (t : Tr) (ht : Post (datN ns) t) (W : World) (hW : Below w.heap.size w W) (x y : It) (hx : x ∈ its) (hy : y ∈ its) :
    Calls Tryz.prog 56 #[.slice A2 n2 c2, .agg #[.int .i64 x.id, .slice x.A x.n x.c], .agg #[.int .i64 y.id, .slice y.A y.n y.c]] W fun e w' => e = .returned (.int .i64 (cmpD t x.dat y.dat)) ∧ Below W.heap.size W w' := by
  have h1 := h.below hW
  rw [← cmpD_it]
  exact sCompare W B A2 n2 c2 ns x y h1.e (h1.i.mem hx) (h1.i.mem hy) h1.hB h1.se (ha.1 _ (List.mem_map_of_mem hx)) (ha.1 _ (List.mem_map_of_mem hy)) t ht (by
    have h9 := he.1
    have hl : ns.length = n2 := h.e.len
    unfold datN at h9
    rw [List.length_map] at h9
    omega)
theorem all_snoc {its : List It} {f : It → Bool} {k : Nat} {t : It} (hat : its[k]? = some t) : (its.take (k + 1)).all f = ((its.take k).all f && f t) := by
  rw [take_at hat, List.all_append]
  simp
theorem fil_snoc {its : List It} {f : It → Bool} {k : Nat} {t : It} (hat : its[k]? = some t) : idL ((its.take (k + 1)).filter f) = idL ((its.take k).filter f) ++ (if f t then [t.id] else []) := by
  rw [take_at hat, List.filter_append]
  unfold idL
  rw [List.map_append]
  congr 1
  cases h : f t <;> simp [h]
theorem flt_snoc {its : List It} {f : It → Bool} {k : Nat} {t : It} (hat : its[k]? = some t) : ((its.take (k + 1)).filter f).length = ((its.take k).filter f).length + (if f t then 1 else 0) := by
  rw [take_at hat, List.filter_append, List.length_append]
  congr 1
  cases h : f t <;> simp [h]
theorem fil_len (its : List It) (f : It → Bool) (k : Nat) : (idL ((its.take k).filter f)).length ≤ k := by
  rw [idL_len]
  have h1 : ((its.take k).filter f).length ≤ (its.take k).length := List.length_filter_le _ _
  rw [List.length_take] at h1
  omega
theorem ids_fil (its : List It) (f : Dt → Bool) : idsD ((its.map It.dat).filter f) = idL (its.filter fun u => f u.dat) := by
  unfold idsD idL
  rw [List.filter_map, List.map_map]
  rfl
theorem best_ids (t : Tr) (its : List It) : idsD (bestD t (its.map It.dat)) = idL (its.filter fun x => its.all fun y => !btD t y.dat x.dat) := by
  unfold bestD
  rw [ids_fil]
  congr 1
  apply List.filter_congr
  intro x _
  unfold bestB
  rw [List.all_map]
  rfl
set_option maxRecDepth 20000 in
set_option maxHeartbeats 3200000 in
theorem sBestL (w : World) (B : Nat) (A : Option Addr) (n c : Nat) (its : List It) (A2 : Option Addr) (n2 c2 : Nat) (ns : List Nd) (h : InB w B A n its A2 n2 c2 ns) (he : IsE (datN ns)) (ha : AreP (its.map It.dat)) (t : Tr) (ht : Post (datN ns) t) :
    Calls Tryz.prog 46 #[.slice A n c, .slice A2 n2 c2] w fun e w' => (∃ v, e = .returned v ∧ OwnI w' w.heap.size v (idsD (bestD t (its.map It.dat)))) ∧ Below w.heap.size w w' := by
  have HC : Hid (∀ W, Below w.heap.size w W → ∀ x y, x ∈ its → y ∈ its → Calls Tryz.prog 56 #[.slice A2 n2 c2, .agg #[.int .i64 x.id, .slice x.A x.n x.c], .agg #[.int .i64 y.id, .slice y.A y.n y.c]] W fun e w' => e = .returned (.int .i64 (cmpD t x.dat y.dat)) ∧ Below W.heap.size W w') := Lib.hid fun W hW x y hx hy => sCmpIn w B A n c its A2 n2 c2 ns h he ha t ht W hW x y hx hy
  rw [best_ids]
  have HX := Lib.hid h.i
  have hB := h.hB
  have hn := h.hn
  clear h he ha ht
  go_enter Tryz.func46, Tryz.ntmps46
  go_wp2
  go_loopw [5, 6] (fun v i wr => ∃ k : Nat, k ≤ n ∧ i = .int .i64 k ∧ OwnI wr w.heap.size v (idL ((its.take k).filter fun x => its.all fun y => !btD t y.dat x.dat)) ∧ Below w.heap.size w wr) (fun _ i _ => n - (intOf i).toNat)
  case atStart => exact ⟨0, Nat.zero_le _, rfl, OwnI.empty w _ (Nat.le_refl _), (Below.refl _ _).alloc (Nat.le_refl _) _⟩
  case round =>
    obtain ⟨k, hk, rfl, hown, hbel⟩ := hrel
    have HO := Lib.hid hown
    have HB := Lib.hid hbel
    clear hown
    by_cases hlt : k < n
    · obtain ⟨b1, off, x, rfl, hb1, hat, d0, d1, -⟩ := HX.out.at k hlt
      have hbw : b1 < w.heap.size := Nat.lt_of_lt_of_le hb1 hB
      have HAt := Lib.hid hat
      have HD := Lib.hid (And.intro d0 d1)
      have hlt' : (k : Int) < (n : Int) := by omega
      have hk0 : (0 : Int) ≤ (k : Int) := by omega
      clear d0 d1 hat
      go_wp2
      go_loopw [7, 8] (fun v j wr => ∃ m : Nat, m ≤ n ∧ j = .int .i64 m ∧ v = .bool ((its.take m).all fun y => !btD t y.dat x.dat) ∧ Below w.heap.size w wr ∧ OwnI wr w.heap.size u5 (idL ((its.take k).filter fun x => its.all fun y => !btD t y.dat x.dat))) (fun _ j _ => n - (intOf j).toNat)
      case atStart => exact ⟨0, Nat.zero_le _, rfl, rfl, HB.out, HO.out⟩
      case round =>
        clear hbel
        obtain ⟨m, hm, rfl, rfl, hbel, hown⟩ := hrel
        have HBi := Lib.hid hbel
        have HOi := Lib.hid hown
        obtain ⟨bb, hbb⟩ : ∃ bb, ((its.take m).all fun y => !btD t y.dat x.dat) = bb := ⟨_, rfl⟩
        rw [hbb]
        have HBb := Lib.hid hbb
        clear hbb hown
        by_cases hmt : m < n
        · obtain ⟨b2, off2, y, hA2, hb2, hat, d0, d1, -⟩ := HX.out.at m hmt
          injection hA2 with hA2
          injection hA2 with e1 e2
          subst e1 e2
          have HAt2 := Lib.hid hat
          have HD2 := Lib.hid (And.intro d0 d1)
          have hmt' : (m : Int) < (n : Int) := by omega
          have hm0 : (0 : Int) ≤ (m : Int) := by omega
          have HS : Hid (∀ w', Below w.heap.size w w' → w'.cell? ⟨b1, off + k * 2, none⟩ = some (.int .i64 x.id) ∧ w'.cell? ⟨b1, off + k * 2 + 1, none⟩ = some (.slice x.A x.n x.c) ∧ w'.cell? ⟨b1, off + m * 2, none⟩ = some (.int .i64 y.id) ∧ w'.cell? ⟨b1, off + m * 2 + 1, none⟩ = some (.slice y.A y.n y.c)) := Lib.hid fun W h => ⟨(h.cell (p := ⟨b1, off + k * 2, none⟩) hbw).trans HD.out.1, (h.cell (p := ⟨b1, off + k * 2 + 1, none⟩) hbw).trans HD.out.2, (h.cell (p := ⟨b1, off + m * 2, none⟩) hbw).trans HD2.out.1, (h.cell (p := ⟨b1, off + m * 2 + 1, none⟩) hbw).trans HD2.out.2⟩
          clear d0 d1 hat
          cases bb
          · go_wp2
            have hS0 : (fun w' => w'.cell? ⟨b1, off + k * 2, none⟩ = some (.int .i64 x.id) ∧ w'.cell? ⟨b1, off + k * 2 + 1, none⟩ = some (.slice x.A x.n x.c) ∧ w'.cell? ⟨b1, off + m * 2, none⟩ = some (.int .i64 y.id) ∧ w'.cell? ⟨b1, off + m * 2 + 1, none⟩ = some (.slice y.A y.n y.c)) (World.drew wr) := HS.out _ HBi.out.drew
            clear hbel
            refine wp_region_held (S := fun w' => w'.cell? ⟨b1, off + k * 2, none⟩ = some (.int .i64 x.id) ∧ w'.cell? ⟨b1, off + k * 2 + 1, none⟩ = some (.slice x.A x.n x.c) ∧ w'.cell? ⟨b1, off + m * 2, none⟩ = some (.int .i64 y.id) ∧ w'.cell? ⟨b1, off + m * 2 + 1, none⟩ = some (.slice y.A y.n y.c)) (by kernel_rfl) ?_
            change wpAnyH _ _ _ _ _ _ _ _ (World.drew _)
            refine takeY 22 (i := 0) (v := ?v0b) rfl rfl (by kernel_rfl) (by kernel_rfl) (by kernel_rfl) (fun _ _ _ h => h) (by kernel_rfl) ?y0b hS0 ?_
            case y0b =>
              intro w' hw'; (try dsimp only at hw'); obtain ⟨x_0, x_1, y_0, y_1⟩ := hw'; go_simp; try with_reducible rfl
            simp only [Act.put, List.setIfInBounds_toArray, List.set_cons_zero, List.set_cons_succ]
            refine takeY 23 (i := 1) (v := ?v1b) rfl rfl (by kernel_rfl) (by kernel_rfl) (by kernel_rfl) (fun _ _ _ h => h) (by kernel_rfl) ?y1b hS0 ?_
            case y1b =>
              intro w' hw'; (try dsimp only at hw'); obtain ⟨x_0, x_1, y_0, y_1⟩ := hw'; go_simp; try with_reducible rfl
            simp only [Act.put, List.setIfInBounds_toArray, List.set_cons_zero, List.set_cons_succ]
            refine takeU 24 (i := 2) rfl rfl (by kernel_rfl) (by kernel_rfl) (by kernel_rfl) (fun _ _ _ h => h) (by kernel_rfl) hS0 ?_
            simp only [Act.put, List.setIfInBounds_toArray, List.set_cons_zero, List.set_cons_succ]
            refine takeU 25 (i := 3) rfl rfl (by kernel_rfl) (by kernel_rfl) (by kernel_rfl) (fun _ _ _ h => h) (by kernel_rfl) hS0 ?_
            simp only [Act.put, List.setIfInBounds_toArray, List.set_cons_zero, List.set_cons_succ]
            refine takeU 26 (i := 4) rfl rfl (by kernel_rfl) (by kernel_rfl) (by kernel_rfl) (fun _ _ _ h => h) (by kernel_rfl) hS0 ?_
            simp only [Act.put, List.setIfInBounds_toArray, List.set_cons_zero, List.set_cons_succ]
            refine takeU 27 (i := 5) rfl rfl (by kernel_rfl) (by kernel_rfl) (by kernel_rfl) (fun _ _ _ h => h) (by kernel_rfl) hS0 ?_
            simp only [Act.put, List.setIfInBounds_toArray, List.set_cons_zero, List.set_cons_succ]
            refine takeU 28 (i := 6) rfl rfl (by kernel_rfl) (by kernel_rfl) (by kernel_rfl) (fun _ _ _ h => h) (by kernel_rfl) hS0 ?_
            simp only [Act.put, List.setIfInBounds_toArray, List.set_cons_zero, List.set_cons_succ]
            refine takeU 29 (i := 7) rfl rfl (by kernel_rfl) (by kernel_rfl) (by kernel_rfl) (fun _ _ _ h => h) (by kernel_rfl) hS0 ?_
            simp only [Act.put, List.setIfInBounds_toArray, List.set_cons_zero, List.set_cons_succ]
            refine takeU 30 (i := 8) rfl rfl (by kernel_rfl) (by kernel_rfl) (by kernel_rfl) (fun _ _ _ h => h) (by kernel_rfl) hS0 ?_
            simp only [Act.put, List.setIfInBounds_toArray, List.set_cons_zero, List.set_cons_succ]
            refine takeU 31 (i := 9) rfl rfl (by kernel_rfl) (by kernel_rfl) (by kernel_rfl) (fun _ _ _ h => h) (by kernel_rfl) hS0 ?_
            simp only [Act.put, List.setIfInBounds_toArray, List.set_cons_zero, List.set_cons_succ]
            refine takeU 32 (i := 10) rfl rfl (by kernel_rfl) (by kernel_rfl) (by kernel_rfl) (fun _ _ _ h => h) (by kernel_rfl) hS0 ?_
            simp only [Act.put, List.setIfInBounds_toArray, List.set_cons_zero, List.set_cons_succ]
            refine takeU 33 (i := 11) rfl rfl (by kernel_rfl) (by kernel_rfl) (by kernel_rfl) (fun _ _ _ h => h) (by kernel_rfl) hS0 ?_
            simp only [Act.put, List.setIfInBounds_toArray, List.set_cons_zero, List.set_cons_succ]
            refine takeU 34 (i := 12) rfl rfl (by kernel_rfl) (by kernel_rfl) (by kernel_rfl) (fun _ _ _ h => h) (by kernel_rfl) hS0 ?_
            simp only [Act.put, List.setIfInBounds_toArray, List.set_cons_zero, List.set_cons_succ]
            refine takeY 35 (i := 13) (v := ?v13b) rfl rfl (by kernel_rfl) (by kernel_rfl) (by kernel_rfl) (fun _ _ _ h => h) (by kernel_rfl) ?y13b hS0 ?_
            case y13b =>
              intro w' hw'; (try dsimp only at hw'); obtain ⟨x_0, x_1, y_0, y_1⟩ := hw'; go_simp; try with_reducible rfl
            simp only [Act.put, List.setIfInBounds_toArray, List.set_cons_zero, List.set_cons_succ]
            refine takeY 7 (i := 14) (v := ?v14b) rfl rfl (by kernel_rfl) (by kernel_rfl) (by kernel_rfl) (fun _ _ _ h => h) (by kernel_rfl) ?y14b hS0 ?_
            case y14b =>
              intro w' hw'; (try dsimp only at hw'); obtain ⟨x_0, x_1, y_0, y_1⟩ := hw'; go_simp; try with_reducible rfl
            simp only [Act.put, List.setIfInBounds_toArray, List.set_cons_zero, List.set_cons_succ]
            refine wpAnyH_done (by kernel_rfl) ?_ _
            clear hS0
            go_wp2
            go_roundw
            case rel => exact ⟨m + 1, by omega, by go_num, by rw [all_snoc HAt2.out, HBb.out]; rfl, HBi.out.drew, ownI_below HOi.out (Below.refl _ _).drew⟩
            case measure => simp [intOf]; omega
          · go_wp2
            have hS0 : (fun w' => w'.cell? ⟨b1, off + k * 2, none⟩ = some (.int .i64 x.id) ∧ w'.cell? ⟨b1, off + k * 2 + 1, none⟩ = some (.slice x.A x.n x.c) ∧ w'.cell? ⟨b1, off + m * 2, none⟩ = some (.int .i64 y.id) ∧ w'.cell? ⟨b1, off + m * 2 + 1, none⟩ = some (.slice y.A y.n y.c)) (World.drew wr) := HS.out _ HBi.out.drew
            clear hbel
            refine wp_region_held (S := fun w' => w'.cell? ⟨b1, off + k * 2, none⟩ = some (.int .i64 x.id) ∧ w'.cell? ⟨b1, off + k * 2 + 1, none⟩ = some (.slice x.A x.n x.c) ∧ w'.cell? ⟨b1, off + m * 2, none⟩ = some (.int .i64 y.id) ∧ w'.cell? ⟨b1, off + m * 2 + 1, none⟩ = some (.slice y.A y.n y.c)) (by kernel_rfl) ?_
            change wpAnyH _ _ _ _ _ _ _ _ (World.drew _)
            refine takeY 22 (i := 0) (v := ?v0a) rfl rfl (by kernel_rfl) (by kernel_rfl) (by kernel_rfl) (fun _ _ _ h => h) (by kernel_rfl) ?y0a hS0 ?_
            case y0a =>
              intro w' hw'; (try dsimp only at hw'); obtain ⟨x_0, x_1, y_0, y_1⟩ := hw'; go_simp; try with_reducible rfl
            simp only [Act.put, List.setIfInBounds_toArray, List.set_cons_zero, List.set_cons_succ]
            refine takeY 23 (i := 1) (v := ?v1a) rfl rfl (by kernel_rfl) (by kernel_rfl) (by kernel_rfl) (fun _ _ _ h => h) (by kernel_rfl) ?y1a hS0 ?_
            case y1a =>
              intro w' hw'; (try dsimp only at hw'); obtain ⟨x_0, x_1, y_0, y_1⟩ := hw'; go_simp; try with_reducible rfl
            simp only [Act.put, List.setIfInBounds_toArray, List.set_cons_zero, List.set_cons_succ]
            refine takeY 24 (i := 2) (v := ?v2a) rfl rfl (by kernel_rfl) (by kernel_rfl) (by kernel_rfl) (fun _ _ _ h => h) (by kernel_rfl) ?y2a hS0 ?_
            case y2a =>
              intro w' hw'; (try dsimp only at hw'); obtain ⟨x_0, x_1, y_0, y_1⟩ := hw'; go_simp; try with_reducible rfl
            simp only [Act.put, List.setIfInBounds_toArray, List.set_cons_zero, List.set_cons_succ]
            refine takeY 25 (i := 3) (v := ?v3a) rfl rfl (by kernel_rfl) (by kernel_rfl) (by kernel_rfl) (fun _ _ _ h => h) (by kernel_rfl) ?y3a hS0 ?_
            case y3a =>
              intro w' hw'; (try dsimp only at hw'); obtain ⟨x_0, x_1, y_0, y_1⟩ := hw'; go_simp; try with_reducible rfl
            simp only [Act.put, List.setIfInBounds_toArray, List.set_cons_zero, List.set_cons_succ]
            refine takeY 26 (i := 4) (v := ?v4a) rfl rfl (by kernel_rfl) (by kernel_rfl) (by kernel_rfl) (fun _ _ _ h => h) (by kernel_rfl) ?y4a hS0 ?_
            case y4a =>
              intro w' hw'; (try dsimp only at hw'); obtain ⟨x_0, x_1, y_0, y_1⟩ := hw'; go_simp; try with_reducible rfl
            simp only [Act.put, List.setIfInBounds_toArray, List.set_cons_zero, List.set_cons_succ]
            refine takeY 27 (i := 5) (v := ?v5a) rfl rfl (by kernel_rfl) (by kernel_rfl) (by kernel_rfl) (fun _ _ _ h => h) (by kernel_rfl) ?y5a hS0 ?_
            case y5a =>
              intro w' hw'; (try dsimp only at hw'); obtain ⟨x_0, x_1, y_0, y_1⟩ := hw'; go_simp; try with_reducible rfl
            simp only [Act.put, List.setIfInBounds_toArray, List.set_cons_zero, List.set_cons_succ]
            refine takeY 28 (i := 6) (v := ?v6a) rfl rfl (by kernel_rfl) (by kernel_rfl) (by kernel_rfl) (fun _ _ _ h => h) (by kernel_rfl) ?y6a hS0 ?_
            case y6a =>
              intro w' hw'; (try dsimp only at hw'); obtain ⟨x_0, x_1, y_0, y_1⟩ := hw'; go_simp; try with_reducible rfl
            simp only [Act.put, List.setIfInBounds_toArray, List.set_cons_zero, List.set_cons_succ]
            refine takeY 29 (i := 7) (v := ?v7a) rfl rfl (by kernel_rfl) (by kernel_rfl) (by kernel_rfl) (fun _ _ _ h => h) (by kernel_rfl) ?y7a hS0 ?_
            case y7a =>
              intro w' hw'; (try dsimp only at hw'); obtain ⟨x_0, x_1, y_0, y_1⟩ := hw'; go_simp; try with_reducible rfl
            simp only [Act.put, List.setIfInBounds_toArray, List.set_cons_zero, List.set_cons_succ]
            refine takeY 30 (i := 8) (v := ?v8a) rfl rfl (by kernel_rfl) (by kernel_rfl) (by kernel_rfl) (fun _ _ _ h => h) (by kernel_rfl) ?y8a hS0 ?_
            case y8a =>
              intro w' hw'; (try dsimp only at hw'); obtain ⟨x_0, x_1, y_0, y_1⟩ := hw'; go_simp; try with_reducible rfl
            simp only [Act.put, List.setIfInBounds_toArray, List.set_cons_zero, List.set_cons_succ]
            refine takeY 31 (i := 9) (v := ?v9a) rfl rfl (by kernel_rfl) (by kernel_rfl) (by kernel_rfl) (fun _ _ _ h => h) (by kernel_rfl) ?y9a hS0 ?_
            case y9a =>
              intro w' hw'; (try dsimp only at hw'); obtain ⟨x_0, x_1, y_0, y_1⟩ := hw'; go_simp; try with_reducible rfl
            simp only [Act.put, List.setIfInBounds_toArray, List.set_cons_zero, List.set_cons_succ]
            refine takeY 32 (i := 10) (v := ?v10a) rfl rfl (by kernel_rfl) (by kernel_rfl) (by kernel_rfl) (fun _ _ _ h => h) (by kernel_rfl) ?y10a hS0 ?_
            case y10a =>
              intro w' hw'; (try dsimp only at hw'); obtain ⟨x_0, x_1, y_0, y_1⟩ := hw'; go_simp; try with_reducible rfl
            simp only [Act.put, List.setIfInBounds_toArray, List.set_cons_zero, List.set_cons_succ]
            refine wpAnyH_ready (rs := [11]) (by kernel_rfl) (by simp) ?_
            refine AllReadyH.cons rfl (fun K hK => ?_) AllReadyH.nil
            go_simp; go_at_call 56; refine (HC.out _ HBi.out.drew y x (mem_of_at HAt2.out) (mem_of_at HAt.out)).mono ?_; rintro e w3 ⟨rfl, hb3⟩; have HB3 := Lib.hid (below_on HBi.out.drew hb3); have HO3 := Lib.hid (ownI_below (ownI_below HOi.out (Below.refl _ _).drew) hb3); clear hb3
            refine hK.out _ _ (HS.out _ HB3.out) (fun hS1 => ?_)
            clear hK K
            try simp only [Act.put, List.setIfInBounds_toArray, List.set_cons_zero, List.set_cons_succ]
            refine takeY 34 (i := 12) (v := ?v12a) rfl rfl (by kernel_rfl) (by kernel_rfl) (by kernel_rfl) (fun _ _ _ h => h) (by kernel_rfl) ?y12a hS1 ?_
            case y12a =>
              intro w' hw'; (try dsimp only at hw'); obtain ⟨x_0, x_1, y_0, y_1⟩ := hw'; go_simp; try with_reducible rfl
            simp only [Act.put, List.setIfInBounds_toArray, List.set_cons_zero, List.set_cons_succ]
            refine takeY 35 (i := 13) (v := ?v13a) rfl rfl (by kernel_rfl) (by kernel_rfl) (by kernel_rfl) (fun _ _ _ h => h) (by kernel_rfl) ?y13a hS1 ?_
            case y13a =>
              intro w' hw'; (try dsimp only at hw'); obtain ⟨x_0, x_1, y_0, y_1⟩ := hw'; go_simp; try with_reducible rfl
            simp only [Act.put, List.setIfInBounds_toArray, List.set_cons_zero, List.set_cons_succ]
            refine takeY 7 (i := 14) (v := ?v14a) rfl rfl (by kernel_rfl) (by kernel_rfl) (by kernel_rfl) (fun _ _ _ h => h) (by kernel_rfl) ?y14a hS1 ?_
            case y14a =>
              intro w' hw'; (try dsimp only at hw'); obtain ⟨x_0, x_1, y_0, y_1⟩ := hw'; go_simp; try with_reducible rfl
            simp only [Act.put, List.setIfInBounds_toArray, List.set_cons_zero, List.set_cons_succ]
            refine wpAnyH_done (by kernel_rfl) ?_ _
            clear hS0 hS1
            go_wp2
            go_roundw
            case rel => exact ⟨m + 1, by omega, by go_num, by rw [all_snoc HAt2.out, HBb.out]; rfl, HB3.out, HO3.out⟩
            case measure => simp [intOf]; omega
        · obtain rfl : m = n := by omega
          have HBb2 : Hid ((its.all fun y => !btD t y.dat x.dat) = bb) := Lib.hid (by have h := HBb.out; rwa [take_all HX.out.1] at h)
          have f1 := (hbel.cell (p := ⟨b1, off + k * 2, none⟩) hbw).trans HD.out.1
          have HLn : Hid (((idL ((its.take k).filter fun x => its.all fun y => !btD t y.dat x.dat)).length + [x.id].length) * 8 ≤ 140737488355328) := Lib.hid (by
            have h1 := fil_len its (fun x => its.all fun y => !btD t y.dat x.dat) k
            simp only [List.length_cons, List.length_nil]
            omega)
          clear hbel HBb
          cases bb
          · go_wp2
            go_roundw
            case rel => exact ⟨k + 1, by omega, by go_num, by rw [fil_snoc HAt.out, HBb2.out]; simpa using HOi.out, HBi.out⟩
            case measure => simp [intOf]; omega
          · go_wp2_with (at_builtin; refine wp_appI wr (by rfl) (.tmp 37) (.tmp 43) (by rfl) w.heap.size _ _ (by rfl) HOi.out _ [x.id] (by rfl) 1 1 rfl (by rfl) HLn.out HBi.out.size ?_)
            intro v1 w2 hown2 hb2
            have HO2 := Lib.hid hown2
            have HB2 := Lib.hid (HBi.out.trans hb2)
            clear hown2 hb2 f1
            go_wp2
            go_roundw
            case rel => exact ⟨k + 1, by omega, by go_num, by rw [fil_snoc HAt.out, HBb2.out]; exact HO2.out, HB2.out⟩
            case measure => simp [intOf]; omega
    · obtain rfl : k = n := by omega
      have HO' : Hid (OwnI wr w.heap.size u5 (idL (its.filter fun x => its.all fun y => !btD t y.dat x.dat))) := Lib.hid (by have h := HO.out; rwa [take_all HX.out.1] at h)
      clear hbel
      go_wp2
      go_ret
      exact ⟨⟨_, rfl, HO'.out⟩, HB.out⟩
theorem ownI_lower {w : World} {B B' : Nat} {v : Value} {l : List Int} (h : OwnI w B v l) (hB : B' ≤ B) : OwnI w B' v l := ⟨h.1, h.2.imp id fun ⟨g, cap, cur, h1, h2, h3⟩ => ⟨g, cap, cur, h1, Nat.le_trans hB h2, h3⟩⟩
set_option maxRecDepth 20000 in
theorem sBest (w : World) (B : Nat) (A : Option Addr) (n c : Nat) (its : List It) (A2 : Option Addr) (n2 c2 : Nat) (ns : List Nd) (h : InB w B A n its A2 n2 c2 ns) (L : List Int) (hL : BestP (datN ns) (its.map It.dat) L) :
    Calls Tryz.prog 72 #[.slice A n c, .slice A2 n2 c2] w fun e w' => (∃ v, e = .returned v ∧ OwnI w' w.heap.size v L) ∧ Below w.heap.size w w' := by
  obtain ⟨q, hq⟩ := bool_of (IsE (datN ns) ∧ AreP (its.map It.dat))
  have HFn : Hid (∀ w1, Below w.heap.size w w1 → Calls Tryz.prog 45 #[.slice A n c, .slice A2 n2 c2] w1 fun e w' => e = .returned (.bool q) ∧ Below w1.heap.size w1 w') := Lib.hid fun w1 h1 => sFine w1 B A n c its A2 n2 c2 ns (h.below h1) q hq
  have HY : Hid (q = true → ∀ w1, Below w.heap.size w w1 → Calls Tryz.prog 46 #[.slice A n c, .slice A2 n2 c2] w1 fun e w' => (∃ v, e = .returned v ∧ OwnI w' w1.heap.size v L) ∧ Below w1.heap.size w1 w') := Lib.hid fun hqt w1 h1 => by
    obtain ⟨he, ha⟩ := hq.1 hqt
    obtain ⟨t, ht⟩ := he.2
    rw [hL.yes he ha ht]
    exact sBestL w1 B A n c its A2 n2 c2 ns (h.below h1) he ha t ht
  have HN : Hid (q = false → L = []) := Lib.hid fun hqf => hL.no (fun hh => by rw [hq.2 hh] at hqf; cases hqf)
  clear h hL hq
  go_enter Tryz.func72, Tryz.ntmps72
  go_wp2_with fail
  refine (HFn.out _ (Below.refl _ _)).mono ?_
  rintro e w1 ⟨rfl, hb1⟩
  have HB1 := Lib.hid hb1
  clear hb1
  cases q
  · obtain rfl := HN.out (by first | rfl | trivial)
    go_wp2
    go_ret
    exact ⟨⟨_, rfl, OwnI.empty w1 _ HB1.out.size⟩, HB1.out.alloc HB1.out.size _⟩
  · go_wp2_with fail
    refine (HY.out (by first | rfl | trivial) _ HB1.out).mono ?_
    rintro e w2 ⟨⟨v, rfl, ho⟩, hb2⟩
    have HB2 := Lib.hid (below_on HB1.out hb2)
    have HO := Lib.hid (ownI_lower ho HB1.out.size)
    clear ho hb2
    go_wp2
    go_ret
    exact ⟨⟨_, rfl, HO.out⟩, HB2.out⟩
set_option maxRecDepth 20000 in
set_option maxHeartbeats 6400000 in
theorem sDom (w : World) (B : Nat) (A : Option Addr) (n c : Nat) (its : List It) (A2 : Option Addr) (n2 c2 : Nat) (ns : List Nd) (h : InB w B A n its A2 n2 c2 ns) (x0 : Int) (L : List Int) (hL : DomP (datN ns) (its.map It.dat) x0 L) :
    Calls Tryz.prog 16 #[.slice A n c, .slice A2 n2 c2, .int .i64 x0] w fun e w' => (∃ v, e = .returned v ∧ OwnI w' w.heap.size v L) ∧ Below w.heap.size w w' := by
  obtain ⟨q, hq⟩ := bool_of (IsE (datN ns) ∧ AreP (its.map It.dat))
  have HFn : Hid (∀ w1, Below w.heap.size w w1 → Calls Tryz.prog 45 #[.slice A n c, .slice A2 n2 c2] w1 fun e w' => e = .returned (.bool q) ∧ Below w1.heap.size w1 w') := Lib.hid fun w1 h1 => sFine w1 B A n c its A2 n2 c2 ns (h.below h1) q hq
  have HFi : Hid (∀ w1, Below w.heap.size w w1 → Calls Tryz.prog 49 #[.slice A n c, .int .i64 x0] w1 fun e w' => (∃ r, e = .returned (.int .i64 r) ∧ FindP (its.map It.dat) x0 r) ∧ Below w1.heap.size w1 w') := Lib.hid fun w1 h1 => sFind w1 B A n c its (h.below h1).i (h.below h1).hB h.hn x0
  have HN : Hid (q = false → L = []) := Lib.hid fun hqf => hL.no (fun hh => by rw [hq.2 hh] at hqf; cases hqf)
  have HN2 : Hid (findD (its.map It.dat) x0 = none → L = []) := Lib.hid fun hf => hL.none hf
  have HK : Hid (∀ y, y ∈ its → findD (its.map It.dat) x0 = some y.dat → ∃ hold : It → Bool, q = true → L = idL (its.filter hold) ∧ ∀ W, Below w.heap.size w W → ∀ u, u ∈ its → Calls Tryz.prog 56 #[.slice A2 n2 c2, .agg #[.int .i64 u.id, .slice u.A u.n u.c], .agg #[.int .i64 y.id, .slice y.A y.n y.c]] W fun e w' => (∃ z : Int, e = .returned (.int .i64 z) ∧ (z == 1) = hold u) ∧ Below W.heap.size W w') := Lib.hid fun y hy hf => by
    by_cases hqt : q = true
    · obtain ⟨he, ha⟩ := hq.1 hqt
      obtain ⟨t, ht⟩ := he.2
      refine ⟨fun u => btD t u.dat y.dat, fun _ => ⟨?_, fun W hW u hu => ?_⟩⟩
      · rw [hL.yes he ha ht, onFind_some hf]
        exact ids_fil its _
      · exact (sCmpIn w B A n c its A2 n2 c2 ns h he ha t ht W hW _ _ hu hy).mono fun _ _ ⟨h1, h2⟩ => ⟨⟨_, h1, rfl⟩, h2⟩
    · exact ⟨fun _ => false, fun h => absurd h hqt⟩
  have HX := Lib.hid h.i
  have hB := h.hB
  have hn := h.hn
  have HE0 := Lib.hid (OwnI.empty w w.heap.size (Nat.le_refl _))
  have HB0 : Hid (Below w.heap.size w (w.alloc (.cells #[] 3))) := Lib.hid ((Below.refl _ _).alloc (Nat.le_refl _) _)
  clear h hL hq
  go_enter Tryz.func16, Tryz.ntmps16
  go_wp2_with fail
  refine (HFi.out _ HB0.out).mono ?_
  rintro e w1 ⟨⟨r, rfl, hr⟩, hb1⟩
  have HB1 := Lib.hid (below_on HB0.out hb1)
  have HO1 := Lib.hid (ownI_below HE0.out hb1)
  have hfd := hr.find
  clear hb1 hr
  rcases hfd with ⟨rfl, hf⟩ | ⟨m, d, rfl, hd, -, hf⟩
  · obtain rfl := HN2.out hf
    clear hf
    go_wp2
    go_loopw [7, 9] (fun v i wr => v = .slice (some ⟨w.heap.size, 0, none⟩) 0 0 ∧ i = .int .i64 0 ∧ wr = w1) (fun _ _ _ => 0)
    case atStart => exact ⟨rfl, rfl, rfl⟩
    case round =>
      obtain ⟨rfl, rfl, rfl⟩ := hrel
      by_cases hlt : 0 < n
      · have hlt' : (0 : Int) < (n : Int) := by omega
        go_wp2
        go_ret
        exact ⟨⟨_, rfl, HO1.out⟩, HB1.out⟩
      · obtain rfl : n = 0 := by omega
        go_wp2
        go_ret
        exact ⟨⟨_, rfl, HO1.out⟩, HB1.out⟩
  · rw [List.getElem?_map] at hd
    obtain ⟨y, hy, rfl⟩ := Option.map_eq_some_iff.1 hd
    obtain ⟨hold, hH⟩ := HK.out y (mem_of_at hy) hf
    have HH := Lib.hid hH
    have HY := Lib.hid hy
    have hmn : m < n := by
      rw [← HX.out.1]
      exact (List.getElem?_eq_some_iff.1 hy).1
    clear hd hf hH hy
    go_wp2
    go_loopw [7, 9] (fun v i wr => ∃ k : Nat, k ≤ n ∧ i = .int .i64 k ∧ (0 < k → q = true) ∧ OwnI wr w.heap.size v (idL ((its.take k).filter hold)) ∧ Below w.heap.size w wr) (fun _ i _ => n - (intOf i).toNat)
    case atStart => exact ⟨0, Nat.zero_le _, rfl, fun h => by omega, HO1.out, HB1.out⟩
    case round =>
      obtain ⟨k, hk, rfl, hkq, hown, hbel⟩ := hrel
      have HKq := Lib.hid hkq
      have HO := Lib.hid hown
      have HB := Lib.hid hbel
      clear hown hkq
      by_cases hlt : k < n
      · have hlt0 : (k : Int) < (n : Int) := by omega
        have hm0' : (0 : Int) ≤ (m : Int) := by omega
        clear hbel
        go_wp2_with fail
        refine (HFn.out _ HB.out).mono ?_
        rintro e w2 ⟨rfl, hb2⟩
        have HB2 := Lib.hid (below_on HB.out hb2)
        have HO2 := Lib.hid (ownI_below HO.out hb2)
        have hbel := HB2.out
        clear hb2 hlt0
        cases q
        · obtain rfl : k = 0 := by
            rcases Nat.eq_zero_or_pos k with e | e
            · exact e
            · cases HKq.out e
          obtain rfl := HN.out (by first | rfl | trivial)
          go_wp2
          go_ret
          exact ⟨⟨_, rfl, HO2.out⟩, HB2.out⟩
        · have HC := Lib.hid (HH.out (by first | rfl | trivial)).2
          clear HO HB
          have HO := HO2
          have HB := HB2
          clear HO2 HB2
          obtain ⟨b1, off, x, rfl, hb1, hat, d0, d1, -⟩ := HX.out.at k hlt
          have hbw : b1 < w.heap.size := Nat.lt_of_lt_of_le hb1 hB
          have HAt := Lib.hid hat
          have HD := Lib.hid (And.intro d0 d1)
          have hlt' : (k : Int) < (n : Int) := by omega
          have hk0 : (0 : Int) ≤ (k : Int) := by omega
          clear d0 d1 hat
          have hmt := hmn
          obtain ⟨b2, off2, y2, hA2, hb2, hat, d0, d1, -⟩ := HX.out.at m hmt
          injection hA2 with hA2
          injection hA2 with e1 e2
          subst e1 e2
          obtain rfl : y = y2 := Option.some.inj (HY.out.symm.trans hat)
          have HAt2 := Lib.hid hat
          have HD2 := Lib.hid (And.intro d0 d1)
          have hmt' : (m : Int) < (n : Int) := by omega
          have HS : Hid (∀ w', Below w.heap.size w w' → w'.cell? ⟨b1, off + k * 2, none⟩ = some (.int .i64 x.id) ∧ w'.cell? ⟨b1, off + k * 2 + 1, none⟩ = some (.slice x.A x.n x.c) ∧ w'.cell? ⟨b1, off + m * 2, none⟩ = some (.int .i64 y.id) ∧ w'.cell? ⟨b1, off + m * 2 + 1, none⟩ = some (.slice y.A y.n y.c)) := Lib.hid fun W h => ⟨(h.cell (p := ⟨b1, off + k * 2, none⟩) hbw).trans HD.out.1, (h.cell (p := ⟨b1, off + k * 2 + 1, none⟩) hbw).trans HD.out.2, (h.cell (p := ⟨b1, off + m * 2, none⟩) hbw).trans HD2.out.1, (h.cell (p := ⟨b1, off + m * 2 + 1, none⟩) hbw).trans HD2.out.2⟩
          clear d0 d1 hat
          have f1 := (hbel.cell (p := ⟨b1, off + k * 2, none⟩) hbw).trans HD.out.1
          have HF1 := Lib.hid f1
          have HLn : Hid (((idL ((its.take k).filter hold)).length + [x.id].length) * 8 ≤ 140737488355328) := Lib.hid (by
            have h1 := fil_len its hold k
            simp only [List.length_cons, List.length_nil]
            omega)
          clear f1 hbel
          go_wp2
          have hS0 : (fun w' => w'.cell? ⟨b1, off + k * 2, none⟩ = some (.int .i64 x.id) ∧ w'.cell? ⟨b1, off + k * 2 + 1, none⟩ = some (.slice x.A x.n x.c) ∧ w'.cell? ⟨b1, off + m * 2, none⟩ = some (.int .i64 y.id) ∧ w'.cell? ⟨b1, off + m * 2 + 1, none⟩ = some (.slice y.A y.n y.c)) (World.drew w2) := HS.out _ HB.out.drew
          refine wp_region_held (S := fun w' => w'.cell? ⟨b1, off + k * 2, none⟩ = some (.int .i64 x.id) ∧ w'.cell? ⟨b1, off + k * 2 + 1, none⟩ = some (.slice x.A x.n x.c) ∧ w'.cell? ⟨b1, off + m * 2, none⟩ = some (.int .i64 y.id) ∧ w'.cell? ⟨b1, off + m * 2 + 1, none⟩ = some (.slice y.A y.n y.c)) (by kernel_rfl) ?_
          change wpAnyH _ _ _ _ _ _ _ _ (World.drew _)
          refine takeY 29 (i := 0) (v := ?v0c) rfl rfl (by kernel_rfl) (by kernel_rfl) (by kernel_rfl) (fun _ _ _ h => h) (by kernel_rfl) ?y0c hS0 ?_
          case y0c =>
            intro w' hw'; (try dsimp only at hw'); obtain ⟨x_0, x_1, y_0, y_1⟩ := hw'; go_simp; try with_reducible rfl
          simp only [Act.put, List.setIfInBounds_toArray, List.set_cons_zero, List.set_cons_succ]
          refine takeY 30 (i := 1) (v := ?v1c) rfl rfl (by kernel_rfl) (by kernel_rfl) (by kernel_rfl) (fun _ _ _ h => h) (by kernel_rfl) ?y1c hS0 ?_
          case y1c =>
            intro w' hw'; (try dsimp only at hw'); obtain ⟨x_0, x_1, y_0, y_1⟩ := hw'; go_simp; try with_reducible rfl
          simp only [Act.put, List.setIfInBounds_toArray, List.set_cons_zero, List.set_cons_succ]
          refine takeY 31 (i := 2) (v := ?v2c) rfl rfl (by kernel_rfl) (by kernel_rfl) (by kernel_rfl) (fun _ _ _ h => h) (by kernel_rfl) ?y2c hS0 ?_
          case y2c =>
            intro w' hw'; (try dsimp only at hw'); obtain ⟨x_0, x_1, y_0, y_1⟩ := hw'; go_simp; try with_reducible rfl
          simp only [Act.put, List.setIfInBounds_toArray, List.set_cons_zero, List.set_cons_succ]
          refine takeY 32 (i := 3) (v := ?v3c) rfl rfl (by kernel_rfl) (by kernel_rfl) (by kernel_rfl) (fun _ _ _ h => h) (by kernel_rfl) ?y3c hS0 ?_
          case y3c =>
            intro w' hw'; (try dsimp only at hw'); obtain ⟨x_0, x_1, y_0, y_1⟩ := hw'; go_simp; try with_reducible rfl
          simp only [Act.put, List.setIfInBounds_toArray, List.set_cons_zero, List.set_cons_succ]
          refine takeY 33 (i := 4) (v := ?v4c) rfl rfl (by kernel_rfl) (by kernel_rfl) (by kernel_rfl) (fun _ _ _ h => h) (by kernel_rfl) ?y4c hS0 ?_
          case y4c =>
            intro w' hw'; (try dsimp only at hw'); obtain ⟨x_0, x_1, y_0, y_1⟩ := hw'; go_simp; try with_reducible rfl
          simp only [Act.put, List.setIfInBounds_toArray, List.set_cons_zero, List.set_cons_succ]
          refine takeY 34 (i := 5) (v := ?v5c) rfl rfl (by kernel_rfl) (by kernel_rfl) (by kernel_rfl) (fun _ _ _ h => h) (by kernel_rfl) ?y5c hS0 ?_
          case y5c =>
            intro w' hw'; (try dsimp only at hw'); obtain ⟨x_0, x_1, y_0, y_1⟩ := hw'; go_simp; try with_reducible rfl
          simp only [Act.put, List.setIfInBounds_toArray, List.set_cons_zero, List.set_cons_succ]
          refine takeY 35 (i := 6) (v := ?v6c) rfl rfl (by kernel_rfl) (by kernel_rfl) (by kernel_rfl) (fun _ _ _ h => h) (by kernel_rfl) ?y6c hS0 ?_
          case y6c =>
            intro w' hw'; (try dsimp only at hw'); obtain ⟨x_0, x_1, y_0, y_1⟩ := hw'; go_simp; try with_reducible rfl
          simp only [Act.put, List.setIfInBounds_toArray, List.set_cons_zero, List.set_cons_succ]
          refine takeY 36 (i := 7) (v := ?v7c) rfl rfl (by kernel_rfl) (by kernel_rfl) (by kernel_rfl) (fun _ _ _ h => h) (by kernel_rfl) ?y7c hS0 ?_
          case y7c =>
            intro w' hw'; (try dsimp only at hw'); obtain ⟨x_0, x_1, y_0, y_1⟩ := hw'; go_simp; try with_reducible rfl
          simp only [Act.put, List.setIfInBounds_toArray, List.set_cons_zero, List.set_cons_succ]
          refine takeY 37 (i := 8) (v := ?v8c) rfl rfl (by kernel_rfl) (by kernel_rfl) (by kernel_rfl) (fun _ _ _ h => h) (by kernel_rfl) ?y8c hS0 ?_
          case y8c =>
            intro w' hw'; (try dsimp only at hw'); obtain ⟨x_0, x_1, y_0, y_1⟩ := hw'; go_simp; try with_reducible rfl
          simp only [Act.put, List.setIfInBounds_toArray, List.set_cons_zero, List.set_cons_succ]
          refine wpAnyH_ready (rs := [9]) (by kernel_rfl) (by simp) ?_
          refine AllReadyH.cons rfl (fun K hK => ?_) AllReadyH.nil
          go_simp; go_at_call 56; refine (HC.out _ HB.out.drew x (mem_of_at HAt.out)).mono ?_; rintro e w3 ⟨⟨z, rfl, hz⟩, hb3⟩; have HZ := Lib.hid hz; clear hz; have HB3 := Lib.hid (below_on HB.out.drew hb3); have HO3 := Lib.hid (ownI_below (ownI_below HO.out (Below.refl _ _).drew) hb3); clear hb3
          refine hK.out _ _ (HS.out _ HB3.out) (fun hS1 => ?_)
          clear hK K
          try simp only [Act.put, List.setIfInBounds_toArray, List.set_cons_zero, List.set_cons_succ]
          refine takeY 39 (i := 10) (v := ?v10c) rfl rfl (by kernel_rfl) (by kernel_rfl) (by kernel_rfl) (fun _ _ _ h => h) (by kernel_rfl) ?y10c hS1 ?_
          case y10c =>
            intro w' hw'; (try dsimp only at hw'); obtain ⟨x_0, x_1, y_0, y_1⟩ := hw'; go_simp; try with_reducible rfl
          simp only [Act.put, List.setIfInBounds_toArray, List.set_cons_zero, List.set_cons_succ]
          refine wpAnyH_done (by kernel_rfl) ?_ _
          clear hS0 hS1
          obtain ⟨zz, hzz⟩ : ∃ zz, hold x = zz := ⟨_, rfl⟩
          have hz1 : (z == 1) = zz := HZ.out.trans hzz
          have HZz := Lib.hid hzz
          clear hzz
          cases zz
          · go_wp2
            go_roundw
            case rel => exact ⟨k + 1, by omega, by go_num, fun _ => by first | rfl | trivial, by rw [fil_snoc HAt.out, HZz.out]; simpa using HO3.out, HB3.out⟩
            case measure => simp [intOf]; omega
          · have f1 := (HB3.out.cell (p := ⟨b1, off + k * 2, none⟩) hbw).trans HD.out.1
            go_wp2_with (at_builtin; refine wp_appI w3 (by rfl) (.tmp 40) (.tmp 46) (by rfl) w.heap.size _ _ (by rfl) HO3.out _ [x.id] (by rfl) 1 1 rfl (by rfl) HLn.out HB3.out.size ?_)
            intro v1 w4 hown4 hb4
            have HO4 := Lib.hid hown4
            have HB4 := Lib.hid (HB3.out.trans hb4)
            clear hown4 hb4 f1
            go_wp2
            go_roundw
            case rel => exact ⟨k + 1, by omega, by go_num, fun _ => by first | rfl | trivial, by rw [fil_snoc HAt.out, HZz.out]; exact HO4.out, HB4.out⟩
            case measure => simp [intOf]; omega
      · obtain rfl : k = n := by omega
        have HO' : Hid (OwnI wr w.heap.size u7 (idL (its.filter hold))) := Lib.hid (by have h := HO.out; rwa [take_all HX.out.1] at h)
        have hq' : q = true := HKq.out (by omega)
        obtain rfl := (HH.out hq').1
        clear hbel
        go_wp2
        go_ret
        exact ⟨⟨_, rfl, HO'.out⟩, HB.out⟩
set_option maxRecDepth 20000 in
set_option maxHeartbeats 6400000 in
theorem sSub (w : World) (B : Nat) (A : Option Addr) (n c : Nat) (its : List It) (A2 : Option Addr) (n2 c2 : Nat) (ns : List Nd) (h : InB w B A n its A2 n2 c2 ns) (x0 : Int) (L : List Int) (hL : SubP (datN ns) (its.map It.dat) x0 L) :
    Calls Tryz.prog 73 #[.slice A n c, .slice A2 n2 c2, .int .i64 x0] w fun e w' => (∃ v, e = .returned v ∧ OwnI w' w.heap.size v L) ∧ Below w.heap.size w w' := by
  obtain ⟨q, hq⟩ := bool_of (IsE (datN ns) ∧ AreP (its.map It.dat))
  have HFn : Hid (∀ w1, Below w.heap.size w w1 → Calls Tryz.prog 45 #[.slice A n c, .slice A2 n2 c2] w1 fun e w' => e = .returned (.bool q) ∧ Below w1.heap.size w1 w') := Lib.hid fun w1 h1 => sFine w1 B A n c its A2 n2 c2 ns (h.below h1) q hq
  have HFi : Hid (∀ w1, Below w.heap.size w w1 → Calls Tryz.prog 49 #[.slice A n c, .int .i64 x0] w1 fun e w' => (∃ r, e = .returned (.int .i64 r) ∧ FindP (its.map It.dat) x0 r) ∧ Below w1.heap.size w1 w') := Lib.hid fun w1 h1 => sFind w1 B A n c its (h.below h1).i (h.below h1).hB h.hn x0
  have HN : Hid (q = false → L = []) := Lib.hid fun hqf => hL.no (fun hh => by rw [hq.2 hh] at hqf; cases hqf)
  have HN2 : Hid (findD (its.map It.dat) x0 = none → L = []) := Lib.hid fun hf => hL.none hf
  have HK : Hid (∀ y, y ∈ its → findD (its.map It.dat) x0 = some y.dat → ∃ hold : It → Bool, q = true → L = idL (its.filter hold) ∧ ∀ W, Below w.heap.size w W → ∀ u, u ∈ its → Calls Tryz.prog 56 #[.slice A2 n2 c2, .agg #[.int .i64 y.id, .slice y.A y.n y.c], .agg #[.int .i64 u.id, .slice u.A u.n u.c]] W fun e w' => (∃ z : Int, e = .returned (.int .i64 z) ∧ (z == 1) = hold u) ∧ Below W.heap.size W w') := Lib.hid fun y hy hf => by
    by_cases hqt : q = true
    · obtain ⟨he, ha⟩ := hq.1 hqt
      obtain ⟨t, ht⟩ := he.2
      refine ⟨fun u => btD t y.dat u.dat, fun _ => ⟨?_, fun W hW u hu => ?_⟩⟩
      · rw [hL.yes he ha ht, onFind_some hf]
        exact ids_fil its _
      · exact (sCmpIn w B A n c its A2 n2 c2 ns h he ha t ht W hW _ _ hy hu).mono fun _ _ ⟨h1, h2⟩ => ⟨⟨_, h1, rfl⟩, h2⟩
    · exact ⟨fun _ => false, fun h => absurd h hqt⟩
  have HX := Lib.hid h.i
  have hB := h.hB
  have hn := h.hn
  have HE0 := Lib.hid (OwnI.empty w w.heap.size (Nat.le_refl _))
  have HB0 : Hid (Below w.heap.size w (w.alloc (.cells #[] 3))) := Lib.hid ((Below.refl _ _).alloc (Nat.le_refl _) _)
  clear h hL hq
  go_enter Tryz.func73, Tryz.ntmps73
  go_wp2_with fail
  refine (HFi.out _ HB0.out).mono ?_
  rintro e w1 ⟨⟨r, rfl, hr⟩, hb1⟩
  have HB1 := Lib.hid (below_on HB0.out hb1)
  have HO1 := Lib.hid (ownI_below HE0.out hb1)
  have hfd := hr.find
  clear hb1 hr
  rcases hfd with ⟨rfl, hf⟩ | ⟨m, d, rfl, hd, -, hf⟩
  · obtain rfl := HN2.out hf
    clear hf
    go_wp2
    go_loopw [7, 9] (fun v i wr => v = .slice (some ⟨w.heap.size, 0, none⟩) 0 0 ∧ i = .int .i64 0 ∧ wr = w1) (fun _ _ _ => 0)
    case atStart => exact ⟨rfl, rfl, rfl⟩
    case round =>
      obtain ⟨rfl, rfl, rfl⟩ := hrel
      by_cases hlt : 0 < n
      · have hlt' : (0 : Int) < (n : Int) := by omega
        go_wp2
        go_ret
        exact ⟨⟨_, rfl, HO1.out⟩, HB1.out⟩
      · obtain rfl : n = 0 := by omega
        go_wp2
        go_ret
        exact ⟨⟨_, rfl, HO1.out⟩, HB1.out⟩
  · rw [List.getElem?_map] at hd
    obtain ⟨y, hy, rfl⟩ := Option.map_eq_some_iff.1 hd
    obtain ⟨hold, hH⟩ := HK.out y (mem_of_at hy) hf
    have HH := Lib.hid hH
    have HY := Lib.hid hy
    have hmn : m < n := by
      rw [← HX.out.1]
      exact (List.getElem?_eq_some_iff.1 hy).1
    clear hd hf hH hy
    go_wp2
    go_loopw [7, 9] (fun v i wr => ∃ k : Nat, k ≤ n ∧ i = .int .i64 k ∧ (0 < k → q = true) ∧ OwnI wr w.heap.size v (idL ((its.take k).filter hold)) ∧ Below w.heap.size w wr) (fun _ i _ => n - (intOf i).toNat)
    case atStart => exact ⟨0, Nat.zero_le _, rfl, fun h => by omega, HO1.out, HB1.out⟩
    case round =>
      obtain ⟨k, hk, rfl, hkq, hown, hbel⟩ := hrel
      have HKq := Lib.hid hkq
      have HO := Lib.hid hown
      have HB := Lib.hid hbel
      clear hown hkq
      by_cases hlt : k < n
      · have hlt0 : (k : Int) < (n : Int) := by omega
        have hm0' : (0 : Int) ≤ (m : Int) := by omega
        clear hbel
        go_wp2_with fail
        refine (HFn.out _ HB.out).mono ?_
        rintro e w2 ⟨rfl, hb2⟩
        have HB2 := Lib.hid (below_on HB.out hb2)
        have HO2 := Lib.hid (ownI_below HO.out hb2)
        have hbel := HB2.out
        clear hb2 hlt0
        cases q
        · obtain rfl : k = 0 := by
            rcases Nat.eq_zero_or_pos k with e | e
            · exact e
            · cases HKq.out e
          obtain rfl := HN.out (by first | rfl | trivial)
          go_wp2
          go_ret
          exact ⟨⟨_, rfl, HO2.out⟩, HB2.out⟩
        · have HC := Lib.hid (HH.out (by first | rfl | trivial)).2
          clear HO HB
          have HO := HO2
          have HB := HB2
          clear HO2 HB2
          obtain ⟨b1, off, x, rfl, hb1, hat, d0, d1, -⟩ := HX.out.at k hlt
          have hbw : b1 < w.heap.size := Nat.lt_of_lt_of_le hb1 hB
          have HAt := Lib.hid hat
          have HD := Lib.hid (And.intro d0 d1)
          have hlt' : (k : Int) < (n : Int) := by omega
          have hk0 : (0 : Int) ≤ (k : Int) := by omega
          clear d0 d1 hat
          have hmt := hmn
          obtain ⟨b2, off2, y2, hA2, hb2, hat, d0, d1, -⟩ := HX.out.at m hmt
          injection hA2 with hA2
          injection hA2 with e1 e2
          subst e1 e2
          obtain rfl : y = y2 := Option.some.inj (HY.out.symm.trans hat)
          have HAt2 := Lib.hid hat
          have HD2 := Lib.hid (And.intro d0 d1)
          have hmt' : (m : Int) < (n : Int) := by omega
          have HS : Hid (∀ w', Below w.heap.size w w' → w'.cell? ⟨b1, off + k * 2, none⟩ = some (.int .i64 x.id) ∧ w'.cell? ⟨b1, off + k * 2 + 1, none⟩ = some (.slice x.A x.n x.c) ∧ w'.cell? ⟨b1, off + m * 2, none⟩ = some (.int .i64 y.id) ∧ w'.cell? ⟨b1, off + m * 2 + 1, none⟩ = some (.slice y.A y.n y.c)) := Lib.hid fun W h => ⟨(h.cell (p := ⟨b1, off + k * 2, none⟩) hbw).trans HD.out.1, (h.cell (p := ⟨b1, off + k * 2 + 1, none⟩) hbw).trans HD.out.2, (h.cell (p := ⟨b1, off + m * 2, none⟩) hbw).trans HD2.out.1, (h.cell (p := ⟨b1, off + m * 2 + 1, none⟩) hbw).trans HD2.out.2⟩
          clear d0 d1 hat
          have f1 := (hbel.cell (p := ⟨b1, off + k * 2, none⟩) hbw).trans HD.out.1
          have HF1 := Lib.hid f1
          have HLn : Hid (((idL ((its.take k).filter hold)).length + [x.id].length) * 8 ≤ 140737488355328) := Lib.hid (by
            have h1 := fil_len its hold k
            simp only [List.length_cons, List.length_nil]
            omega)
          clear f1 hbel
          go_wp2
          have hS0 : (fun w' => w'.cell? ⟨b1, off + k * 2, none⟩ = some (.int .i64 x.id) ∧ w'.cell? ⟨b1, off + k * 2 + 1, none⟩ = some (.slice x.A x.n x.c) ∧ w'.cell? ⟨b1, off + m * 2, none⟩ = some (.int .i64 y.id) ∧ w'.cell? ⟨b1, off + m * 2 + 1, none⟩ = some (.slice y.A y.n y.c)) (World.drew w2) := HS.out _ HB.out.drew
          refine wp_region_held (S := fun w' => w'.cell? ⟨b1, off + k * 2, none⟩ = some (.int .i64 x.id) ∧ w'.cell? ⟨b1, off + k * 2 + 1, none⟩ = some (.slice x.A x.n x.c) ∧ w'.cell? ⟨b1, off + m * 2, none⟩ = some (.int .i64 y.id) ∧ w'.cell? ⟨b1, off + m * 2 + 1, none⟩ = some (.slice y.A y.n y.c)) (by kernel_rfl) ?_
          change wpAnyH _ _ _ _ _ _ _ _ (World.drew _)
          refine takeY 29 (i := 0) (v := ?v0d) rfl rfl (by kernel_rfl) (by kernel_rfl) (by kernel_rfl) (fun _ _ _ h => h) (by kernel_rfl) ?y0d hS0 ?_
          case y0d =>
            intro w' hw'; (try dsimp only at hw'); obtain ⟨x_0, x_1, y_0, y_1⟩ := hw'; go_simp; try with_reducible rfl
          simp only [Act.put, List.setIfInBounds_toArray, List.set_cons_zero, List.set_cons_succ]
          refine takeY 30 (i := 1) (v := ?v1d) rfl rfl (by kernel_rfl) (by kernel_rfl) (by kernel_rfl) (fun _ _ _ h => h) (by kernel_rfl) ?y1d hS0 ?_
          case y1d =>
            intro w' hw'; (try dsimp only at hw'); obtain ⟨x_0, x_1, y_0, y_1⟩ := hw'; go_simp; try with_reducible rfl
          simp only [Act.put, List.setIfInBounds_toArray, List.set_cons_zero, List.set_cons_succ]
          refine takeY 31 (i := 2) (v := ?v2d) rfl rfl (by kernel_rfl) (by kernel_rfl) (by kernel_rfl) (fun _ _ _ h => h) (by kernel_rfl) ?y2d hS0 ?_
          case y2d =>
            intro w' hw'; (try dsimp only at hw'); obtain ⟨x_0, x_1, y_0, y_1⟩ := hw'; go_simp; try with_reducible rfl
          simp only [Act.put, List.setIfInBounds_toArray, List.set_cons_zero, List.set_cons_succ]
          refine takeY 32 (i := 3) (v := ?v3d) rfl rfl (by kernel_rfl) (by kernel_rfl) (by kernel_rfl) (fun _ _ _ h => h) (by kernel_rfl) ?y3d hS0 ?_
          case y3d =>
            intro w' hw'; (try dsimp only at hw'); obtain ⟨x_0, x_1, y_0, y_1⟩ := hw'; go_simp; try with_reducible rfl
          simp only [Act.put, List.setIfInBounds_toArray, List.set_cons_zero, List.set_cons_succ]
          refine takeY 33 (i := 4) (v := ?v4d) rfl rfl (by kernel_rfl) (by kernel_rfl) (by kernel_rfl) (fun _ _ _ h => h) (by kernel_rfl) ?y4d hS0 ?_
          case y4d =>
            intro w' hw'; (try dsimp only at hw'); obtain ⟨x_0, x_1, y_0, y_1⟩ := hw'; go_simp; try with_reducible rfl
          simp only [Act.put, List.setIfInBounds_toArray, List.set_cons_zero, List.set_cons_succ]
          refine takeY 34 (i := 5) (v := ?v5d) rfl rfl (by kernel_rfl) (by kernel_rfl) (by kernel_rfl) (fun _ _ _ h => h) (by kernel_rfl) ?y5d hS0 ?_
          case y5d =>
            intro w' hw'; (try dsimp only at hw'); obtain ⟨x_0, x_1, y_0, y_1⟩ := hw'; go_simp; try with_reducible rfl
          simp only [Act.put, List.setIfInBounds_toArray, List.set_cons_zero, List.set_cons_succ]
          refine takeY 35 (i := 6) (v := ?v6d) rfl rfl (by kernel_rfl) (by kernel_rfl) (by kernel_rfl) (fun _ _ _ h => h) (by kernel_rfl) ?y6d hS0 ?_
          case y6d =>
            intro w' hw'; (try dsimp only at hw'); obtain ⟨x_0, x_1, y_0, y_1⟩ := hw'; go_simp; try with_reducible rfl
          simp only [Act.put, List.setIfInBounds_toArray, List.set_cons_zero, List.set_cons_succ]
          refine takeY 36 (i := 7) (v := ?v7d) rfl rfl (by kernel_rfl) (by kernel_rfl) (by kernel_rfl) (fun _ _ _ h => h) (by kernel_rfl) ?y7d hS0 ?_
          case y7d =>
            intro w' hw'; (try dsimp only at hw'); obtain ⟨x_0, x_1, y_0, y_1⟩ := hw'; go_simp; try with_reducible rfl
          simp only [Act.put, List.setIfInBounds_toArray, List.set_cons_zero, List.set_cons_succ]
          refine takeY 37 (i := 8) (v := ?v8d) rfl rfl (by kernel_rfl) (by kernel_rfl) (by kernel_rfl) (fun _ _ _ h => h) (by kernel_rfl) ?y8d hS0 ?_
          case y8d =>
            intro w' hw'; (try dsimp only at hw'); obtain ⟨x_0, x_1, y_0, y_1⟩ := hw'; go_simp; try with_reducible rfl
          simp only [Act.put, List.setIfInBounds_toArray, List.set_cons_zero, List.set_cons_succ]
          refine wpAnyH_ready (rs := [9]) (by kernel_rfl) (by simp) ?_
          refine AllReadyH.cons rfl (fun K hK => ?_) AllReadyH.nil
          go_simp; go_at_call 56; refine (HC.out _ HB.out.drew x (mem_of_at HAt.out)).mono ?_; rintro e w3 ⟨⟨z, rfl, hz⟩, hb3⟩; have HZ := Lib.hid hz; clear hz; have HB3 := Lib.hid (below_on HB.out.drew hb3); have HO3 := Lib.hid (ownI_below (ownI_below HO.out (Below.refl _ _).drew) hb3); clear hb3
          refine hK.out _ _ (HS.out _ HB3.out) (fun hS1 => ?_)
          clear hK K
          try simp only [Act.put, List.setIfInBounds_toArray, List.set_cons_zero, List.set_cons_succ]
          refine takeY 39 (i := 10) (v := ?v10d) rfl rfl (by kernel_rfl) (by kernel_rfl) (by kernel_rfl) (fun _ _ _ h => h) (by kernel_rfl) ?y10d hS1 ?_
          case y10d =>
            intro w' hw'; (try dsimp only at hw'); obtain ⟨x_0, x_1, y_0, y_1⟩ := hw'; go_simp; try with_reducible rfl
          simp only [Act.put, List.setIfInBounds_toArray, List.set_cons_zero, List.set_cons_succ]
          refine wpAnyH_done (by kernel_rfl) ?_ _
          clear hS0 hS1
          obtain ⟨zz, hzz⟩ : ∃ zz, hold x = zz := ⟨_, rfl⟩
          have hz1 : (z == 1) = zz := HZ.out.trans hzz
          have HZz := Lib.hid hzz
          clear hzz
          cases zz
          · go_wp2
            go_roundw
            case rel => exact ⟨k + 1, by omega, by go_num, fun _ => by first | rfl | trivial, by rw [fil_snoc HAt.out, HZz.out]; simpa using HO3.out, HB3.out⟩
            case measure => simp [intOf]; omega
          · have f1 := (HB3.out.cell (p := ⟨b1, off + k * 2, none⟩) hbw).trans HD.out.1
            go_wp2_with (at_builtin; refine wp_appI w3 (by rfl) (.tmp 40) (.tmp 46) (by rfl) w.heap.size _ _ (by rfl) HO3.out _ [x.id] (by rfl) 1 1 rfl (by rfl) HLn.out HB3.out.size ?_)
            intro v1 w4 hown4 hb4
            have HO4 := Lib.hid hown4
            have HB4 := Lib.hid (HB3.out.trans hb4)
            clear hown4 hb4 f1
            go_wp2
            go_roundw
            case rel => exact ⟨k + 1, by omega, by go_num, fun _ => by first | rfl | trivial, by rw [fil_snoc HAt.out, HZz.out]; exact HO4.out, HB4.out⟩
            case measure => simp [intOf]; omega
      · obtain rfl : k = n := by omega
        have HO' : Hid (OwnI wr w.heap.size u7 (idL (its.filter hold))) := Lib.hid (by have h := HO.out; rwa [take_all HX.out.1] at h)
        have hq' : q = true := HKq.out (by omega)
        obtain rfl := (HH.out hq').1
        clear hbel
        go_wp2
        go_ret
        exact ⟨⟨_, rfl, HO'.out⟩, HB.out⟩
set_option maxRecDepth 20000 in
set_option maxHeartbeats 1600000 in
theorem sRankB (w : World) (B : Nat) (A : Option Addr) (n c : Nat) (its : List It) (A2 : Option Addr) (n2 c2 : Nat) (ns : List Nd) (h : InB w B A n its A2 n2 c2 ns) (x0 : Int) (L : Int) (hL : RankP (datN ns) (its.map It.dat) x0 L) :
    Calls Tryz.prog 66 #[.slice A n c, .slice A2 n2 c2, .int .i64 x0] w fun e w' => e = .returned (.int .i64 L) ∧ Below w.heap.size w w' := by
  obtain ⟨q, hq⟩ := bool_of (IsE (datN ns) ∧ AreP (its.map It.dat))
  have HFn : Hid (∀ w1, Below w.heap.size w w1 → Calls Tryz.prog 45 #[.slice A n c, .slice A2 n2 c2] w1 fun e w' => e = .returned (.bool q) ∧ Below w1.heap.size w1 w') := Lib.hid fun w1 h1 => sFine w1 B A n c its A2 n2 c2 ns (h.below h1) q hq
  have HFi : Hid (∀ w1, Below w.heap.size w w1 → Calls Tryz.prog 49 #[.slice A n c, .int .i64 x0] w1 fun e w' => (∃ r, e = .returned (.int .i64 r) ∧ FindP (its.map It.dat) x0 r) ∧ Below w1.heap.size w1 w') := Lib.hid fun w1 h1 => sFind w1 B A n c its (h.below h1).i (h.below h1).hB h.hn x0
  obtain ⟨D, hD⟩ := AnsP.some (datN ns) (its.map It.dat) (fun t => onFind (its.map It.dat) x0 [] fun d => idsD (domD t (its.map It.dat) d)) []
  replace hD : DomP (datN ns) (its.map It.dat) x0 D := hD
  have HDo : Hid (∀ w1, Below w.heap.size w w1 → Calls Tryz.prog 16 #[.slice A n c, .slice A2 n2 c2, .int .i64 x0] w1 fun e w' => (∃ v, e = .returned v ∧ OwnI w' w1.heap.size v D) ∧ Below w1.heap.size w1 w') := Lib.hid fun w1 h1 => sDom w1 B A n c its A2 n2 c2 ns (h.below h1) x0 D hD
  have HN : Hid (q = false → L = -1) := Lib.hid fun hqf => hL.no (fun hh => by rw [hq.2 hh] at hqf; cases hqf)
  have HN2 : Hid (q = true → findD (its.map It.dat) x0 = none → L = -1) := Lib.hid fun hqt hf => by
    obtain ⟨t, ht⟩ := (hq.1 hqt).1.2
    rw [hL.yes (hq.1 hqt).1 (hq.1 hqt).2 ht, onFind_none hf]
  have HY : Hid (q = true → ∀ d, findD (its.map It.dat) x0 = some d → L = D.length) := Lib.hid fun hqt d hf => rank_dom hL hD (hq.1 hqt).1 (hq.1 hqt).2 hf
  clear h hL hq hD
  go_enter Tryz.func66, Tryz.ntmps66
  go_wp2_with fail
  refine (HFn.out _ (Below.refl _ _)).mono ?_
  rintro e w1 ⟨rfl, hb1⟩
  have HB1 := Lib.hid hb1
  clear hb1
  cases q
  · obtain rfl := HN.out (by first | rfl | trivial)
    go_wp2
    go_ret
    exact ⟨rfl, HB1.out⟩
  · go_wp2_with fail
    refine (HFi.out _ HB1.out).mono ?_
    rintro e w2 ⟨⟨r, rfl, hr⟩, hb2⟩
    have HB2 := Lib.hid (below_on HB1.out hb2)
    have hfd := hr.find
    clear hb2 hr
    rcases hfd with ⟨rfl, hf⟩ | ⟨m, d, rfl, -, -, hf⟩
    · obtain rfl := HN2.out (by first | rfl | trivial) hf
      clear hf
      go_wp2
      go_ret
      exact ⟨rfl, HB2.out⟩
    · obtain rfl := HY.out (by first | rfl | trivial) d hf
      clear hf
      have hm : decide ((m : Int) < 0) = false := by simp
      go_wp2_with fail
      refine (HDo.out _ HB2.out).mono ?_
      rintro e w3 ⟨⟨v, rfl, ho⟩, hb3⟩
      have HB3 := Lib.hid (below_on HB2.out hb3)
      obtain ⟨A', n', c', rfl, hi⟩ := ho.ints
      have HL := Lib.hid hi.1
      clear ho hb3 hi
      go_wp2
      go_ret
      exact ⟨by rw [HL.out]; rfl, HB3.out⟩
end Go.Proofs.YtnjnlcmddcjcfaaGreat.num
namespace Go.Proofs.YtnjnlcmddcjcfaaGreat.num
set_option maxRecDepth 20000
open Go.RowKit Go.Maps
set_option linter.unusedVariables false
set_option linter.unusedSimpArgs false

theorem ownI_G {w : World} {B : Nat} {v : Value} {l : List Int} : OwnI w B v l ↔ OwnG 3 (fun x : Int => [Value.int .i64 x]) 1 w B v l := by
  have e : l.flatMap (fun x : Int => [Value.int .i64 x]) = l.map (Value.int .i64) := by
    induction l with
    | nil => rfl
    | cons a r ih => rw [List.flatMap_cons, ih]; rfl
  unfold OwnI OwnG
  rw [e]
/-- append of one int: the new slice lies in the old one's row or in a new block. -/
theorem wp_appI1 {ops : Array Oper} {rest : List Oper} {o : Oper} {a : Act} {Q : Exit → Act → World → Prop} (w : World) (hgd : o.guard = none) (sl x : Operand)
    (ho : o.op = .call { callee := .builtin .append, args := #[sl, x], argTypes := #[32, 32] })
    (B : Nat) (v : Value) (l : List Int) (hs : a.eval sl = v) (hown : OwnI w B v l) (cs : Array Value) (y : Int) (hcs : cs = #[Value.int .i64 y]) (c : Nat)
    (hx : a.eval x = .slice (some ⟨w.heap.size, 0, none⟩) 1 c) (hlen : (l.length + 1) * 8 ≤ 140737488355328) (hB : B ≤ w.heap.size)
    (h : ∀ v' w', OwnI w' B v' (l ++ [y]) → w.grownBy w' v.ownBlock → (v'.ownBlock = v.ownBlock ∨ v'.ownBlock = some (w.heap.size + 1)) → wpList Tryz.prog ops Q rest (a.put o.dst v') w') :
    wpList Tryz.prog ops Q (o :: rest) a (w.alloc (.cells cs 3)) :=
  wp_appG (f := fun x : Int => [Value.int .i64 x]) (fun _ => rfl) (fun x u hu => by rw [List.mem_singleton.1 hu]; rfl) (T := 3) (tS := 32) Tryz.underlying32 info_int rfl (by decide) w hgd sl x ho B v l hs (ownI_G.1 hown) cs y (by rw [hcs]) c _ rfl hx hlen (by decide) hB
    fun v' w' ho hg hat => h v' w' (ownI_G.2 ho) hg hat
end Go.Proofs.YtnjnlcmddcjcfaaGreat.num
namespace Go.Proofs.YtnjnlcmddcjcfaaGreat.num
set_option maxRecDepth 20000
open Go.RowKit
set_option linter.unusedVariables false
set_option linter.unusedSimpArgs false

theorem any_step {its : List It} {hold : It → Bool} {k : Nat} {t : It} (hat : its[k]? = some t) (h : ∀ u ∈ its.take k, hold u = false) (h1 : hold t = false) : ∀ u ∈ its.take (k + 1), hold u = false := by
  rw [take_at hat]
  intro u hu
  rcases List.mem_append.1 hu with h2 | h2
  · exact h u h2
  · obtain rfl := List.mem_singleton.1 h2
    exact h1
set_option maxRecDepth 20000 in
set_option maxHeartbeats 800000 in
/-- slices.IndexFunc by a test with a bound receiver. -/
theorem ctIndex (w : World) (B lo p : Nat) (t : Tr) (A : Option Addr) (n c : Nat) (its : List It) (h : CtIn w B lo p t A n its) (hn : n ≤ 1048576) (rv : Value) (hold : It → Bool)
    (HC : ∀ W, Below w.heap.size w W → ∀ u ∈ its, Calls Tryz.prog 54 #[rv, ctV p u] W fun e w' => e = .returned (.bool (hold u)) ∧ Below W.heap.size W w') :
    Calls Tryz.prog 122 #[.slice A n c, .func (.func 54) #[rv] #[]] w fun e w' => (∃ r : Int, e = .returned (.int .i64 r) ∧ (0 ≤ r ↔ its.any hold = true)) ∧ Below w.heap.size w w' := by
  have HX := Lib.hid h
  have HF := Lib.hid HC
  clear h HC
  go_enter Tryz.func122, Tryz.ntmps122
  go_wp2
  go_loopw [8] (fun i wr => ∃ k : Nat, k ≤ n ∧ i = .int .i64 k ∧ (∀ u ∈ its.take k, hold u = false) ∧ Below w.heap.size w wr) (fun i _ => n - (intOf i).toNat)
  case atStart => exact ⟨0, Nat.zero_le _, rfl, by simp, Below.refl _ _⟩
  case round =>
    obtain ⟨k, hk, rfl, hall, hbel⟩ := hrel
    have HA := Lib.hid hall
    have HB := Lib.hid hbel
    clear hall
    by_cases hlt : k < n
    · obtain ⟨b, off, x, rfl, hb, hat, d0, d1, d2⟩ := ct_at HX.out.r k hlt
      have f0 := (hbel.cell (p := ⟨b, off + k * 3, none⟩) hb).trans d0
      have f1 := (hbel.cell (p := ⟨b, off + k * 3 + 1, none⟩) hb).trans d1
      have f2 := (hbel.cell (p := ⟨b, off + k * 3 + 2, none⟩) hb).trans d2
      have HAt := Lib.hid hat
      have hlt' : (k : Int) < (n : Int) := by omega
      have HC1 := HF.out wr HB.out x (mem_of_at hat)
      obtain ⟨z, hz⟩ : ∃ z, hold x = z := ⟨_, rfl⟩
      rw [hz] at HC1
      have hvx : ctV p x = .agg #[.int .i64 x.id, .slice x.A x.n x.c, .pointer (some ⟨p, 0, none⟩)] := rfl
      rw [hvx] at HC1
      have HZ := Lib.hid hz
      have HC2 := Lib.hid HC1
      clear d0 d1 d2 hat hbel hz hvx HC1
      go_wp2_with fail
      refine HC2.out.mono ?_
      rintro e w2 ⟨rfl, hb2⟩
      have HB2 := Lib.hid (below_on HB.out hb2)
      clear hb2 f0 f1 f2 HC2
      cases z
      · go_wp2
        go_roundw
        case rel => exact ⟨k + 1, by omega, by go_num, any_step HAt.out HA.out HZ.out, HB2.out⟩
        case measure => simp [intOf]; omega
      · go_wp2
        go_ret
        exact ⟨⟨k, rfl, ⟨fun _ => List.any_eq_true.2 ⟨x, mem_of_at HAt.out, HZ.out⟩, fun _ => by omega⟩⟩, HB2.out⟩
    · obtain rfl : k = n := by omega
      have h := HA.out
      rw [take_all HX.out.r.len] at h
      have HH := Lib.hid h
      clear h hbel
      go_wp2
      go_ret
      refine ⟨⟨-1, rfl, ⟨fun h => by omega, fun h => ?_⟩⟩, HB.out⟩
      obtain ⟨u, hu, hh⟩ := List.any_eq_true.1 h
      rw [HH.out u hu] at hh
      cases hh
set_option maxRecDepth 20000 in
theorem ctContains (w : World) (B lo p : Nat) (t : Tr) (A : Option Addr) (n c : Nat) (its : List It) (h : CtIn w B lo p t A n its) (hn : n ≤ 1048576) (rv : Value) (hold : It → Bool)
    (HC : ∀ W, Below w.heap.size w W → ∀ u ∈ its, Calls Tryz.prog 54 #[rv, ctV p u] W fun e w' => e = .returned (.bool (hold u)) ∧ Below W.heap.size W w') :
    Calls Tryz.prog 101 #[.slice A n c, .func (.func 54) #[rv] #[]] w fun e w' => e = .returned (.bool (its.any hold)) ∧ Below w.heap.size w w' := by
  have HI := Lib.hid (ctIndex w B lo p t A n c its h hn rv hold HC)
  clear h HC
  go_enter Tryz.func101, Tryz.ntmps101
  go_wp2_with fail
  refine HI.out.mono ?_
  rintro e w1 ⟨⟨r, rfl, hr⟩, hb1⟩
  have HB1 := Lib.hid hb1
  have HR := Lib.hid hr
  clear hr hb1
  by_cases h0 : 0 ≤ r
  · have hd : decide (r ≥ 0) = true := by simpa using h0
    go_wp2
    go_ret
    exact ⟨by rw [HR.out.1 h0]; rfl, HB1.out⟩
  · have hd : decide (r ≥ 0) = false := by simpa using h0
    have hlt : r < 0 := by omega
    go_wp2
    go_ret
    refine ⟨?_, HB1.out⟩
    cases hq : its.any hold
    · rfl
    · exact absurd (HR.out.2 hq) (by omega)
theorem bestB_any (t : Tr) (its : List It) (x : It) : bestB t (its.map It.dat) x.dat = !its.any fun y => btD t y.dat x.dat := by
  unfold bestB
  rw [List.all_map, List.not_any_eq_all_not]
  rfl
set_option maxRecDepth 20000 in
theorem iBestOf (w : World) (B lo p : Nat) (t : Tr) (A : Option Addr) (n c : Nat) (its : List It) (h : CtIn w B lo p t A n its) (hn : n ≤ 1048576) (x : It) (hx : Ints w B x.A x.n x.xs) (px : IsP x.dat) :
    Calls Tryz.prog 67 #[.slice A n c, ctV p x] w fun e w' => e = .returned (.bool (bestB t (its.map It.dat) x.dat)) ∧ Below w.heap.size w w' := by
  have HC : Hid (∀ w1, Below w.heap.size w w1 → Calls Tryz.prog 101 #[.slice A n c, .func (.func 54) #[.agg #[.int .i64 x.id, .slice x.A x.n x.c, .pointer (some ⟨p, 0, none⟩)]] #[]] w1 fun e w' => e = .returned (.bool (its.any fun y => btD t y.dat x.dat)) ∧ Below w1.heap.size w1 w') := Lib.hid fun w1 h1 =>
    ctContains w1 B lo p t A n c its (h.step h1) hn _ _ fun W hW u hu => by
      have h2 := h.step (below_on h1 hW)
      exact iBeaten W B lo p t x u h2.t h2.hB (hx.below ((below_on h1 hW).mono h.hB)) (h2.x u hu).1 px (h2.x u hu).2
  rw [bestB_any]
  generalize (its.any fun y => btD t y.dat x.dat) = z at *
  have hvx : ctV p x = .agg #[.int .i64 x.id, .slice x.A x.n x.c, .pointer (some ⟨p, 0, none⟩)] := rfl
  rw [hvx]
  clear hvx h hx px
  have HB0 : Hid (Below w.heap.size w (w.alloc (.cells #[.int .i64 x.id, .slice x.A x.n x.c, .pointer (some ⟨p, 0, none⟩)] 67))) := Lib.hid ((Below.refl _ w).alloc (Nat.le_refl _) _)
  go_enter Tryz.func67, Tryz.ntmps67
  go_wp2_with fail
  refine (HC.out _ HB0.out).mono ?_
  rintro e w1 ⟨rfl, hb1⟩
  have HB1 := Lib.hid (below_on HB0.out hb1)
  clear hb1
  go_wp2
  go_ret
  exact ⟨rfl, HB1.out⟩
theorem filter_step {its : List It} {hold : It → Bool} {k : Nat} {t : It} (hat : its[k]? = some t) : (its.take (k + 1)).filter hold = (its.take k).filter hold ++ (if hold t then [t] else []) := by
  rw [take_at hat, List.filter_append]
  congr 1
  cases h : hold t <;> simp [h]
set_option maxRecDepth 20000 in
set_option maxHeartbeats 800000 in
/-- Those that pass a test with a bound receiver. -/
theorem ctWhere (w : World) (p : Nat) (A : Option Addr) (n c : Nat) (its : List It) (h : ReadG (ctCells p) 3 w w.heap.size A n its) (hn : n ≤ 1048576) (f : FuncId) (hf : f = 67 ∨ f = 54 ∨ f = 71 ∨ False) (rv : Value) (hold : It → Bool)
    (HC : ∀ W, Below w.heap.size w W → ∀ u ∈ its, Calls Tryz.prog f #[rv, ctV p u] W fun e w' => e = .returned (.bool (hold u)) ∧ Below W.heap.size W w') :
    Calls Tryz.prog 53 #[.slice A n c, .func (.func f) #[rv] #[]] w fun e w' => (∃ v, e = .returned v ∧ OwnG 67 (ctCells p) 3 w' w.heap.size v (its.filter hold)) ∧ Below w.heap.size w w' := by
  have HX := Lib.hid h
  have HF : Hid (∀ W, Below w.heap.size w W → ∀ u ∈ its, ∀ z, hold u = z → Calls Tryz.prog f #[rv, .agg #[.int .i64 u.id, .slice u.A u.n u.c, .pointer (some ⟨p, 0, none⟩)]] W fun e w' => e = .returned (.bool z) ∧ Below W.heap.size W w') := Lib.hid fun W hW u hu z hz => by rw [← hz]; exact HC W hW u hu
  clear h HC
  repeat' (first | exact hf.elim | subst hf | rcases hf with hf | hf)
  all_goals
    go_enter Tryz.func53, Tryz.ntmps53
    go_wp2
    go_loopw [5, 10] (fun v i wr => ∃ k : Nat, k ≤ n ∧ i = .int .i64 k ∧ OwnG 67 (ctCells p) 3 wr w.heap.size v ((its.take k).filter hold) ∧ Below w.heap.size w wr) (fun _ i _ => n - (intOf i).toNat)
    case atStart => exact ⟨0, Nat.zero_le _, rfl, OwnG.nil _ _, Below.refl _ _⟩
    case round =>
      obtain ⟨k, hk, rfl, hown, hbel⟩ := hrel
      have HO := Lib.hid hown
      have HB := Lib.hid hbel
      clear hown
      by_cases hlt : k < n
      · obtain ⟨b, off, x, rfl, hb, hat, d0, d1, d2⟩ := ct_at HX.out k hlt
        have f0 := (hbel.cell (p := ⟨b, off + k * 3, none⟩) hb).trans d0
        have f1 := (hbel.cell (p := ⟨b, off + k * 3 + 1, none⟩) hb).trans d1
        have f2 := (hbel.cell (p := ⟨b, off + k * 3 + 2, none⟩) hb).trans d2
        have HAt := Lib.hid hat
        have hlt' : (k : Int) < (n : Int) := by omega
        obtain ⟨z, hz⟩ : ∃ z, hold x = z := ⟨_, rfl⟩
        have HZ := Lib.hid hz
        have HC1 := Lib.hid (fun W (hW : Below w.heap.size w W) => HF.out W hW x (mem_of_at hat) z hz)
        have HBa : Hid (Below w.heap.size w (wr.alloc (.cells #[.int .i64 x.id, .slice x.A x.n x.c, .pointer (some ⟨p, 0, none⟩)] 67))) := Lib.hid (HB.out.alloc HB.out.size _)
        have Xx : Hid (Box3 (wr.alloc (.cells #[.int .i64 x.id, .slice x.A x.n x.c, .pointer (some ⟨p, 0, none⟩)] 67)) wr.heap.size p x) := Lib.hid (Box3.new _ _ _ _)
        have HOa := Lib.hid (HO.out.below ((Below.refl _ wr).alloc (Nat.le_refl _) (.cells #[.int .i64 x.id, .slice x.A x.n x.c, .pointer (some ⟨p, 0, none⟩)] 67)))
        have HLn : Hid ((((its.take k).filter hold).length + 1) * 40 ≤ 140737488355328) := Lib.hid (by
          have h1 : ((its.take k).filter hold).length ≤ (its.take k).length := List.length_filter_le _ _
          rw [List.length_take] at h1
          omega)
        clear d0 d1 d2 hat hbel hz
        go_wp2_with fail
        refine (HC1.out _ HBa.out).mono ?_
        rintro e w2 ⟨rfl, hb2⟩
        have HB2 := Lib.hid (below_on HBa.out hb2)
        have HO2 := Lib.hid (HOa.out.below hb2)
        have Xx2 := Lib.hid (Xx.out.below hb2)
        clear hb2 f0 f1 f2 HC1 HBa HOa Xx
        cases z
        · go_wp2
          go_roundw
          case rel => exact ⟨k + 1, by omega, by go_num, by rw [filter_step HAt.out, HZ.out]; simpa using HO2.out, HB2.out⟩
          case measure => simp [intOf]; omega
        · obtain ⟨x_g, x_0, x_1, x_2⟩ := Xx2.out
          go_wp2_with (at_builtin; refine wp_appG (ctCells_len p) (ctCells_one p) (T := 67) (tS := 56) Tryz.underlying56 info_ct rfl (by decide) w2 (by rfl) (.tmp 17) (.tmp 19) (by rfl) w.heap.size _ _ (by rfl) HO2.out _ x (by rfl) 1 _ rfl (by rfl) HLn.out (by decide) HB2.out.size ?_)
          intro v' w3 hr hg hat
          have HO3 := Lib.hid hr
          have HB3 := Lib.hid (HB2.out.grown hg HB2.out.size (fun k hk => HO2.out.lows k hk))
          clear hr hg hat x_g x_0 x_1 x_2
          go_wp2
          go_roundw
          case rel => exact ⟨k + 1, by omega, by go_num, by rw [filter_step HAt.out, HZ.out]; exact HO3.out, HB3.out⟩
          case measure => simp [intOf]; omega
      · obtain rfl : k = n := by omega
        have HO1 : Hid (OwnG 67 (ctCells p) 3 wr w.heap.size u5 (its.filter hold)) := Lib.hid (by have h := HO.out; rwa [take_all HX.out.len] at h)
        clear hbel
        go_wp2
        go_ret
        exact ⟨⟨_, rfl, HO1.out⟩, HB.out⟩
set_option maxRecDepth 20000 in
set_option maxHeartbeats 800000 in
theorem ctIds (w : World) (p : Nat) (A : Option Addr) (n c : Nat) (l : List It) (h : ReadG (ctCells p) 3 w w.heap.size A n l) (hn : n ≤ 1048576) :
    Calls Tryz.prog 44 #[.slice A n c] w fun e w' => (∃ v, e = .returned v ∧ OwnI w' w.heap.size v (idL l)) ∧ Below w.heap.size w w' := by
  have hmk := run_make_row' (P := Tryz.prog) 32 3 (.int .i64 0) 8 Tryz.underlying32 info_int rfl .i64 .i64 n (by omega) (by omega)
  have HX := Lib.hid h
  clear h
  go_enter Tryz.func44, Tryz.ntmps44
  go_wp2
  clear hmk
  go_loopw [11] (fun i wr => ∃ k : Nat, k ≤ n ∧ i = .int .i64 k ∧ wr.rowIs w.heap.size 3 n (fun j => if j < k then .int .i64 ((idL l).getD j 0) else .int .i64 0) ∧ Below w.heap.size w wr) (fun i _ => n - (intOf i).toNat)
  case atStart =>
    exact ⟨0, Nat.zero_le _, rfl, by simpa using World.rowIs_made w (.int .i64 0) n 3, (Below.refl _ _).alloc (Nat.le_refl _) _⟩
  case round =>
    obtain ⟨k, hk, rfl, hrow, hbel⟩ := hrel
    have HR := Lib.hid hrow
    have HB := Lib.hid hbel
    by_cases hlt : k < n
    · obtain ⟨x, hat⟩ := HX.out.get hlt
      obtain ⟨b, off, rfl, hb, hc⟩ := HX.out.at' k x hat
      have f0 := (hbel.cell (p := ⟨b, off + k * 3, none⟩) hb).trans (hc 0 _ rfl)
      have f1 := (hbel.cell (p := ⟨b, off + k * 3 + 1, none⟩) hb).trans (hc 1 _ rfl)
      have f2 := (hbel.cell (p := ⟨b, off + k * 3 + 2, none⟩) hb).trans (hc 2 _ rfl)
      have hl1 := World.rowIs.lt hrow
      have g1 : wr.cell? ⟨w.heap.size, k, none⟩ = some (.int .i64 0) := by rw [World.rowIs.cell hrow hlt, if_neg (by omega)]
      have g2 := World.rowIs.frozen hrow k
      have HAt := Lib.hid hat
      have hsz := Lib.hid hbel.size
      clear hrow hbel hc hat
      go_wp2
      go_roundw
      case rel =>
        refine ⟨k + 1, by omega, by go_num, ?_, ?_⟩
        · first
          | exact (World.rowIs.set (World.rowIs.alloc HR.out _) k (.int .i64 x.id)).congr (fun j _ => by rw [← idL_get HAt.out]; exact getD_prefix (idL l) k j)
          | exact (World.rowIs.alloc (World.rowIs.set HR.out k (.int .i64 x.id)) _).congr (fun j _ => by rw [← idL_get HAt.out]; exact getD_prefix (idL l) k j)
        · first
          | exact (HB.out.alloc hsz.out _).setCell (Nat.le_refl _) _
          | exact (HB.out.setCell (p := ⟨w.heap.size, k, none⟩) (Nat.le_refl _) _).alloc (by simp [World.setCell]; exact hsz.out) _
      case measure => simp [intOf]; omega
    · obtain rfl : k = n := by omega
      clear hrow hbel
      go_wp2
      go_ret
      refine ⟨⟨_, rfl, ?_⟩, HB.out⟩
      have hl : (idL l).length = k := by rw [idL_len, HX.out.len]
      refine ownI_of_row (Nat.le_refl _) hl (Nat.le_refl _) (by unfold maxLen; omega) HR.out fun j hj => ?_
      rw [if_pos hj, List.getElem?_map, List.getD_eq_getElem?_getD, List.getElem?_eq_getElem (by omega)]; rfl
end Go.Proofs.YtnjnlcmddcjcfaaGreat.num
namespace Go.Proofs.YtnjnlcmddcjcfaaGreat.num
set_option maxRecDepth 20000
open Go.RowKit
set_option linter.unusedVariables false
set_option linter.unusedSimpArgs false

theorem sub_at {nds : List ND} {its : List It} (he : IsE nds) (ha : AreP (its.map It.dat)) {t : Tr} (ht : Post nds t) {u : It} (hu : u ∈ its) : SubP nds (its.map It.dat) u.id (idsD (subD t (its.map It.dat) u.dat)) := by
  refine .inl ⟨t, he, ha, ht, ?_⟩
  have hf : findD (its.map It.dat) u.id = some u.dat := findD_of ha (List.mem_map_of_mem hu)
  show _ = onFind (its.map It.dat) u.id [] fun d => idsD (subD t (its.map It.dat) d)
  rw [onFind_some hf]
theorem idL_app (a b : List It) : idL (a ++ b) = idL a ++ idL b := by unfold idL; rw [List.map_append]
theorem idL_at {l : List It} {k : Nat} {x : Int} (h : (idL l)[k]? = some x) : ∃ u, l[k]? = some u ∧ u.id = x := by
  unfold idL at h
  rw [List.getElem?_map] at h
  exact Option.map_eq_some_iff.1 h
/-- Where it lies: not among what another one lies in. -/
def Out (lo hi : Nat) (v : Value) : Prop := ∀ g, v.ownBlock = some g → g < lo ∨ hi ≤ g
def Kept (lo hi : Nat) (w w' : World) : Prop := ∀ k, lo ≤ k → k < hi → w'.heap[k]? = w.heap[k]?
theorem Kept.below {lo hi : Nat} {w w1 w2 : World} (h : Kept lo hi w w1) (hb : Below w1.heap.size w1 w2) (hs : hi ≤ w1.heap.size) : Kept lo hi w w2 := fun k h1 h2 => (hb.block k (by omega)).trans (h k h1 h2)
theorem Kept.own {lo : Nat} {w w' : World} {v : Value} {l : List Int} (h : OwnI w lo v l) (hk : Kept lo w.heap.size w w') : OwnI w' lo v l := ownI_blocks h fun k h1 => hk k (ownI_lows h k h1) (ownI_tops h k h1)

set_option maxRecDepth 20000 in
set_option maxHeartbeats 6400000 in
theorem sProg (w : World) (B : Nat) (A : Option Addr) (n c : Nat) (its : List It) (A2 : Option Addr) (n2 c2 : Nat) (ns : List Nd) (h : InB w B A n its A2 n2 c2 ns) (L : List Int) (hL : ProgP (datN ns) (its.map It.dat) L) :
    Calls Tryz.prog 25 #[.slice A n c, .slice A2 n2 c2] w fun e w' => (∃ v, e = .returned v ∧ OwnI w' w.heap.size v L) ∧ Below w.heap.size w w' := by
  have HK : Hid (∃ (Lb : List Int) (bl : List It) (f : It → Nat), BestP (datN ns) (its.map It.dat) Lb ∧ Lb = idL bl ∧ bl.length ≤ 16 ∧ L = idL (topB f n bl (n + 1)) ∧ ∀ W, Below w.heap.size w W → ∀ u, u ∈ bl → Calls Tryz.prog 73 #[.slice A n c, .slice A2 n2 c2, .int .i64 u.id] W fun e w' => (∃ v M, e = .returned v ∧ OwnI w' W.heap.size v M ∧ M.length = f u) ∧ Below W.heap.size W w') := Lib.hid (by
    by_cases hq : IsE (datN ns) ∧ AreP (its.map It.dat)
    · obtain ⟨he, ha⟩ := hq
      obtain ⟨t, ht⟩ := he.2
      have hln : its.length = n := h.i.1
      refine ⟨idsD (bestD t (its.map It.dat)), bestI t its, subI t its, .inl ⟨t, he, ha, ht, rfl⟩, by rw [best_map]; unfold idsD idL; rw [List.map_map]; rfl, Nat.le_trans (List.length_filter_le _ _) (by have h1 := ha.2.2; rwa [List.length_map] at h1), ?_, fun W hW u hu => ?_⟩
      · rw [hL.yes he ha ht, prog_ids, hln]
      · have hu' : u ∈ its := (List.mem_filter.1 hu).1
        refine (sSub W B A n c its A2 n2 c2 ns (h.below hW) u.id _ (sub_at he ha ht hu')).mono ?_
        rintro e w' ⟨⟨v, h1, h2⟩, h3⟩
        exact ⟨⟨v, _, h1, h2, by unfold idsD; rw [List.length_map, subI_dat]⟩, h3⟩
    · exact ⟨[], [], fun _ => 0, .inr ⟨hq, rfl⟩, rfl, by simp, by rw [hL.no hq, top_nil]; rfl, fun W hW u hu => by cases hu⟩)
  have hB := h.hB
  have hn := h.hn
  have HIB := Lib.hid h
  have HE0 := Lib.hid (OwnI.empty w w.heap.size (Nat.le_refl _))
  have HB0 : Hid (Below w.heap.size w (w.alloc (.cells #[] 3))) := Lib.hid ((Below.refl _ _).alloc (Nat.le_refl _) _)
  obtain ⟨Lb, bl, f, hbp, hLb, hb16, hLt, hsub⟩ := HK.out
  have HS := Lib.hid hsub
  have HLt := Lib.hid hLt
  have HLb := Lib.hid hLb
  have HBs : Hid (∀ W, Below w.heap.size w W → Calls Tryz.prog 72 #[.slice A n c, .slice A2 n2 c2] W fun e w' => (∃ v, e = .returned v ∧ OwnI w' W.heap.size v Lb) ∧ Below W.heap.size W w') := Lib.hid fun W hW => sBest W B A n c its A2 n2 c2 ns (HIB.out.below hW) Lb hbp
  clear h hL HK hsub hLt hLb hbp HIB
  obtain ⟨w0, hw0⟩ : ∃ w0, w.alloc (.cells #[] 3) = w0 := ⟨_, rfl⟩
  have HZ : Hid (w.heap.size < w0.heap.size) := Lib.hid (by rw [← hw0]; simp)
  rw [hw0] at HE0 HB0
  go_enter Tryz.func25, Tryz.ntmps25
  go_wp2_with fail
  try rw [hw0]
  clear hw0
  refine (HBs.out _ HB0.out).mono ?_
  rintro e w2 ⟨⟨vb, rfl, hob⟩, hb2⟩
  have HO2 := Lib.hid (ownI_below HE0.out hb2)
  have HB2 := Lib.hid (below_on HB0.out hb2)
  have HOb := Lib.hid hob
  have hs02 := hb2.size
  obtain ⟨Ab, nb, cb, rfl, hib⟩ := hob.ints
  have hnb : nb = bl.length := by rw [← hib.1, HLb.out, idL_len]
  subst hnb
  clear hob hb2 hib
  go_wp2
  go_loopw [5, 7] (fun v a wr => ∃ m : Nat, m ≤ n + 1 ∧ a = .int .i64 ((n : Int) - (m : Int)) ∧ OwnI wr w.heap.size v (idL (topB f n bl m)) ∧ Out w0.heap.size w2.heap.size v ∧ Kept w0.heap.size w2.heap.size w2 wr ∧ w2.heap.size ≤ wr.heap.size ∧ Below w.heap.size w wr) (fun _ a _ => (intOf a + 1).toNat)
  case atStart =>
    refine ⟨0, Nat.zero_le _, by simp, HO2.out, ?_, fun k _ _ => rfl, Nat.le_refl _, HB2.out⟩
    intro g hg
    have h1 := HZ.out
    cases hg
    exact .inl h1
  case round =>
    obtain ⟨m, hm, rfl, hown, hout, hkept, hsz, hbel⟩ := hrel
    obtain ⟨a, ha⟩ : ∃ a : Int, (n : Int) - (m : Int) = a := ⟨_, rfl⟩
    have HAe := Lib.hid ha
    rw [ha]
    have HO := Lib.hid hown
    have HT := Lib.hid hout
    have HKp := Lib.hid hkept
    have HZ2 := Lib.hid hsz
    have HB := Lib.hid hbel
    clear hown hout hkept hsz hbel ha
    by_cases hlt : 0 ≤ a
    · have hge : decide (a ≥ 0) = true := by simpa using hlt
      have hmn : m ≤ n := by have := HAe.out; omega
      have hau : a ≤ 1048576 := by have := HAe.out; omega
      clear hm
      go_wp2
      go_loopw [5, 8] (fun v i wr => ∃ j : Nat, j ≤ bl.length ∧ i = .int .i64 j ∧ OwnI wr w.heap.size v (idL (topB f n bl m ++ (bl.take j).filter fun x => f x == n - m)) ∧ Out w0.heap.size w2.heap.size v ∧ Kept w0.heap.size w2.heap.size w2 wr ∧ w2.heap.size ≤ wr.heap.size ∧ Below w.heap.size w wr) (fun _ i _ => bl.length - (intOf i).toNat)
      case atStart => exact ⟨0, Nat.zero_le _, rfl, by rw [List.take_zero, List.filter_nil, List.append_nil]; exact HO.out, HT.out, HKp.out, HZ2.out, HB.out⟩
      case round =>
        obtain ⟨j, hj, rfl, hown, hout, hkept, hsz, hbel⟩ := hrel
        clear HO HT HKp HZ2 HB
        have HO := Lib.hid hown
        have HT := Lib.hid hout
        have HKp := Lib.hid hkept
        have HZ2 := Lib.hid hsz
        have HB := Lib.hid hbel
        clear hown hout hkept hsz hbel
        by_cases hjt : j < bl.length
        · have hjt' : (j : Int) < (bl.length : Int) := by omega
          have hj0 : (0 : Int) ≤ (j : Int) := by omega
          have HIb : Hid (∀ W, Kept w0.heap.size w2.heap.size w2 W → Ints W W.heap.size Ab bl.length Lb) := Lib.hid fun W hk => ownI_at (hk.own HOb.out)
          obtain ⟨b1, off, x, rfl, hb1, hat, d0⟩ := (HIb.out _ HKp.out).at j hjt
          rw [HLb.out] at hat
          obtain ⟨u, hu, rfl⟩ := idL_at hat
          have HU := Lib.hid hu
          have hum := mem_of_at hu
          have HDb : Hid (∀ W, Kept w0.heap.size w2.heap.size w2 W → W.cell? ⟨b1, off + j, none⟩ = some (.int .i64 u.id)) := Lib.hid fun W hk => by
            obtain ⟨b', o', x', e, -, hat', d'⟩ := (HIb.out W hk).at j hjt
            cases e
            rw [HLb.out] at hat'
            rw [d', Option.some.inj (hat'.symm.trans hat)]
          clear hat hu
          go_wp2_with fail
          refine (HS.out _ HB.out u hum).mono ?_
          rintro e w3 ⟨⟨v3, M, rfl, ho3, hM⟩, hb3⟩
          have HK3 := Lib.hid (HKp.out.below hb3 HZ2.out)
          have HO3 := Lib.hid (ownI_below HO.out hb3)
          have HB3 := Lib.hid (below_on HB.out hb3)
          have HZ3 := Lib.hid (Nat.le_trans HZ2.out hb3.size)
          obtain ⟨A3, n3, c3, rfl, hi3⟩ := ho3.ints
          have hn3 : n3 = f u := by rw [← hi3.1, hM]
          subst hn3
          clear d0 hb3 ho3 hi3 hM hum
          have HLn : Hid (((idL (topB f n bl m ++ (bl.take j).filter fun x => f x == n - m)).length + 1) * 8 ≤ 140737488355328) := Lib.hid (by
            rw [idL_len, List.length_append]
            have h1 := top_len f n bl m
            have h2 : ((bl.take j).filter fun x => f x == n - m).length ≤ (bl.take j).length := List.length_filter_le _ _
            rw [List.length_take] at h2
            have h3 : m * bl.length ≤ 1048577 * 16 := Nat.mul_le_mul (by omega) hb16
            omega)
          obtain ⟨fu, hfu⟩ : ∃ fu, f u = fu := ⟨_, rfl⟩
          have HFu := Lib.hid hfu
          rw [hfu]
          clear hfu
          by_cases he : (fu : Int) = a
          · have hee : ((fu : Int) == a) = true := by simpa using he
            have HE : Hid ((f u == n - m) = true) := Lib.hid (by have := HAe.out; have := HFu.out; rw [beq_iff_eq]; omega)
            have d1 := HDb.out _ HK3.out
            clear he
            go_wp2_with (at_builtin; refine wp_appI1 w3 (by rfl) (.tmp 35) (.tmp 40) (by rfl) w.heap.size _ _ (by rfl) HO3.out _ u.id (by rfl) 1 (by rfl) HLn.out HB3.out.size ?_)
            intro v4 w4 ho4 hg4 hat4
            have HO4 := Lib.hid ho4
            have HB4 := Lib.hid (HB3.out.grown hg4 HB3.out.size (fun k hk => ownI_lows HO3.out k hk))
            have HK4 : Hid (Kept w0.heap.size w2.heap.size w2 w4) := Lib.hid fun k h1 h2 => (hg4.block k (by have := HZ3.out; omega) (fun e => by rcases HT.out k e.symm with q | q <;> omega)).trans (HK3.out k h1 h2)
            have HZ4 : Hid (w2.heap.size ≤ w4.heap.size) := Lib.hid (Nat.le_trans HZ3.out hg4.size)
            have HT4 : Hid (Out w0.heap.size w2.heap.size v4) := Lib.hid fun k hk => by
              rcases hat4 with q | q
              · exact HT.out k (q ▸ hk)
              · rw [q] at hk
                have h1 := Option.some.inj hk
                have h2 := HZ3.out
                exact .inr (by omega)
            clear ho4 hg4 hat4 d1
            go_wp2
            go_roundw
            case rel => exact ⟨j + 1, by omega, by go_num, by rw [filter_step HU.out, HE.out, ← List.append_assoc, idL_app]; exact HO4.out, HT4.out, HK4.out, HZ4.out, HB4.out⟩
            case measure => simp [intOf] <;> omega
          · have hee : ((fu : Int) == a) = false := by simpa using he
            have HE : Hid ((f u == n - m) = false) := Lib.hid (by have h1 := HAe.out; have h2 := HFu.out; rw [beq_eq_false_iff_ne]; omega)
            clear he
            go_wp2
            go_roundw
            case rel => exact ⟨j + 1, by omega, by go_num, by rw [filter_step HU.out, HE.out]; simpa using HO3.out, HT.out, HK3.out, HZ3.out, HB3.out⟩
            case measure => simp [intOf] <;> omega
        · obtain rfl : bl.length = j := by omega
          have HO1 : Hid (OwnI wr w.heap.size u5 (idL (topB f n bl (m + 1)))) := Lib.hid (by
            have h := HO.out
            rw [List.take_length] at h
            exact h)
          go_wp2
          go_roundw
          case rel => exact ⟨m + 1, by omega, by first | (have := HAe.out; congr 1; omega) | (have := HAe.out; go_num), HO1.out, HT.out, HKp.out, HZ2.out, HB.out⟩
          case measure => have := HAe.out; simp [intOf] <;> omega
    · have hge : decide (a ≥ 0) = false := by simpa using hlt
      obtain rfl : m = n + 1 := by have := HAe.out; omega
      have HO1 : Hid (OwnI wr w.heap.size u5 L) := Lib.hid (by rw [HLt.out]; exact HO.out)
      go_wp2
      go_ret
      exact ⟨⟨_, rfl, HO1.out⟩, HB.out⟩
end Go.Proofs.YtnjnlcmddcjcfaaGreat.num
namespace Go.Proofs.YtnjnlcmddcjcfaaGreat.num
set_option maxRecDepth 20000
open Go.RowKit
set_option linter.unusedVariables false
set_option linter.unusedSimpArgs false

def cmpI (x y : Int) : Int := if x < y then -1 else if y < x then 1 else 0
theorem cmpI_lt (x y : Int) : decide (cmpI x y < 0) = decide (x < y) := by
  unfold cmpI
  rw [Bool.eq_iff_iff, decide_eq_true_iff, decide_eq_true_iff]
  repeat' split
  all_goals omega
def ltK (key : It → Int) (x y : It) : Bool := decide (key x < key y)
theorem nan_int (x : Int) (w : World) : Calls Tryz.prog 103 #[.int .i64 x] w fun e w' => e = .returned (.bool false) ∧ w' = w := by
  go_enter Tryz.func103, Tryz.ntmps103
  go_wp2
  go_ret
  exact ⟨by simp, rfl⟩
theorem cmp_int (x y : Int) (w : World) : Calls Tryz.prog 70 #[.int .i64 x, .int .i64 y] w fun e w' => e = .returned (.int .i64 (cmpI x y)) ∧ w' = w := by
  have HZ : Hid (∀ z, cmpI x y = z → z = if x < y then -1 else if y < x then 1 else 0) := Lib.hid fun z h => h.symm
  generalize hz : cmpI x y = z at *
  have h := HZ.out z rfl
  clear HZ hz
  by_cases h1 : x < y
  · rw [if_pos h1] at h
    subst h
    go_enter Tryz.func70, Tryz.ntmps70
    go_wp2_with (go_at_call 103; refine (nan_int _ _).mono ?_; rintro e w1 ⟨rfl, rfl⟩)
    go_ret
    exact ⟨rfl, rfl⟩
  · rw [if_neg h1] at h
    by_cases h2 : y < x
    · rw [if_pos h2] at h
      subst h
      go_enter Tryz.func70, Tryz.ntmps70
      go_wp2_with (go_at_call 103; refine (nan_int _ _).mono ?_; rintro e w1 ⟨rfl, rfl⟩)
      go_ret
      exact ⟨rfl, rfl⟩
    · rw [if_neg h2] at h
      subst h
      go_enter Tryz.func70, Tryz.ntmps70
      go_wp2_with (go_at_call 103; refine (nan_int _ _).mono ?_; rintro e w1 ⟨rfl, rfl⟩)
      go_ret
      exact ⟨rfl, rfl⟩
end Go.Proofs.YtnjnlcmddcjcfaaGreat.num
namespace Go.Proofs.YtnjnlcmddcjcfaaGreat.num
set_option maxRecDepth 20000
open Go.RowKit
set_option linter.unusedVariables false
set_option linter.unusedSimpArgs false

theorem fm_set3 {α : Type} {f : α → List Value} {s : Nat} (hf : ∀ x, (f x).length = s) (hs : 0 < s) (l : List α) (k : Nat) (y : α) (hk : k < l.length) (j : Nat) (hj : j < l.length * s) :
    ((l.set k y).flatMap f)[j]? = if j / s = k then (f y)[j % s]? else (l.flatMap f)[j]? := by
  have hd : j / s * s + j % s = j := by rw [Nat.mul_comm]; exact Nat.div_add_mod j s
  have hm := Nat.mod_lt j hs
  have hq : j / s < l.length := by rw [Nat.div_lt_iff_lt_mul hs]; exact hj
  by_cases e : j / s = k
  · rw [if_pos e]
    have h := fm_at hf (l.set k y) (j / s) (j % s) y (by rw [e, List.getElem?_set_self hk]) hm
    rwa [hd] at h
  · rw [if_neg e]
    have h1 : (l.set k y)[j / s]? = l[j / s]? := List.getElem?_set_ne (fun h => e h.symm)
    have h2 : l[j / s]? = some l[j / s] := List.getElem?_eq_getElem hq
    have h3 := fm_at hf (l.set k y) (j / s) (j % s) l[j / s] (by rw [h1, h2]) hm
    have h4 := fm_at hf l (j / s) (j % s) l[j / s] h2 hm
    rw [hd] at h3 h4
    rw [h3, h4]
/-- One element of three cells set anew. -/
theorem OwnG.set3 {α : Type} {f : α → List Value} (hf : ∀ x, (f x).length = 3) {T : TypeId} {w : World} {B g n c k : Nat} {v0 v1 v2 : Value} {l : List α} {y : α} (h : OwnG T f 3 w B (.slice (some ⟨g, 0, none⟩) n c) l) (hk : k < l.length) (hy : f y = [v0, v1, v2]) :
    OwnG T f 3 (((w.setCell ⟨g, k * 3, none⟩ v0).setCell ⟨g, k * 3 + 1, none⟩ v1).setCell ⟨g, k * 3 + 2, none⟩ v2) B (.slice (some ⟨g, 0, none⟩) n c) (l.set k y) := by
  rcases h.row with ⟨e, _⟩ | ⟨g', cap, F, e, hB, hle, hcap, hrow, hF⟩
  · cases e
  · injection e with e1 e2 e3
    injection e1 with e1
    injection e1 with e1
    subst e1 e2 e3
    refine OwnG.of_row hf hB (by simp) hle hcap (World.rowIs.set (World.rowIs.set (World.rowIs.set hrow (k * 3) v0) (k * 3 + 1) v1) (k * 3 + 2) v2) fun j hj => ?_
    rw [fm_set3 hf (by decide) l k y hk j hj]
    have hd : j / 3 * 3 + j % 3 = j := by rw [Nat.mul_comm]; exact Nat.div_add_mod j 3
    have hm := Nat.mod_lt j (show 0 < 3 by decide)
    by_cases e : j / 3 = k
    · rw [if_pos e, hy]
      have hc : j % 3 = 0 ∨ j % 3 = 1 ∨ j % 3 = 2 := by omega
      rcases hc with q | q | q
      · rw [q, if_neg (by omega), if_neg (by omega), if_pos (by omega)]; rfl
      · rw [q, if_neg (by omega), if_pos (by omega)]; rfl
      · rw [q, if_pos (by omega)]; rfl
    · rw [if_neg e, hF j hj, if_neg (by omega), if_neg (by omega), if_neg (by omega)]
theorem grown_cut {g : Nat} : ∀ (vs : List Value) (o : Nat) (w a : World), a.grownBy w (some g) → a.grownBy (w.setCells g o vs) (some g)
  | [], o, w, a, h => h
  | v :: r, o, w, a, h => by
    refine grown_cut r (o + 1) _ a ?_
    refine ⟨h.os, h.tape, h.output, by simp [World.setCell]; exact h.size, fun k hk hne => ?_⟩
    rw [← h.block k hk hne]
    simp only [World.setCell]
    have hne' : g ≠ k := fun e => hne (by rw [e])
    rw [Array.getElem?_modify, if_neg hne']
theorem grown_set {g : Nat} {w a : World} (h : a.grownBy w (some g)) (o : Nat) (v : Value) : a.grownBy (w.setCell ⟨g, o, none⟩ v) (some g) := grown_cut [v] o w a h
end Go.Proofs.YtnjnlcmddcjcfaaGreat.num
namespace Go.Proofs.YtnjnlcmddcjcfaaGreat.num
set_option maxRecDepth 20000
open Go.RowKit
set_option linter.unusedVariables false

/-- A world that keeps all that was there. -/
structure BW (W : World) where
  w : World
  h : Below W.heap.size W w
instance (W : World) : Inhabited (BW W) := ⟨⟨W, Below.refl _ W⟩⟩
theorem wp_quiet_bw {P : Program} {id : Nat} {Q : Exit → Act → World → Prop} {a : Act} {w : World} {l : List Oper} (hm : P.follows .mixedOrders = true) (hB : Region.lexB .any l.toArray = true)
    (h : wpQuiet P l.toArray (fun w' => ∃ p : BW w, w' = p.w) (fun a' => ∀ w', (∃ p : BW w, w' = p.w) → Q .normal a' w') l a) : (Code.region id l.toArray true).wp P Q a w := by
  refine wp_region_quiet (ops := l.toArray) (C := fun w' => ∃ p : BW w, w' = p.w) hm hB ⟨⟨w.drew, (Below.refl _ w).drew⟩, rfl⟩ ?_
  exact h
theorem BW.calls {P : Program} {f : FuncId} {args : Array Value} {W : World} {p : BW W} {v : Value}
    (h : Calls P f args p.w fun e w' => e = .returned v ∧ Below p.w.heap.size p.w w') : Calls P f args p.w fun e w' => e = .returned v ∧ ∃ q : BW W, w' = q.w :=
  h.mono fun _ w' ⟨he, hb⟩ => ⟨he, ⟨w', below_on p.h hb⟩, rfl⟩

end Go.Proofs.YtnjnlcmddcjcfaaGreat.num
namespace Go.Proofs.YtnjnlcmddcjcfaaGreat.num
set_option maxRecDepth 20000
open Go.RowKit
set_option linter.unusedVariables false
set_option linter.unusedSimpArgs false

section
variable {α : Type}
/-- The row on the way: x has come down to place j of the sorted ones. -/
def InsAt (lt : α → α → Bool) (o : List α) (x : α) (r : List α) (j : Nat) (m : List α) : Prop := j ≤ o.length ∧ m = o.take j ++ x :: (o.drop j ++ r) ∧ ∀ y ∈ o.drop j, lt x y = true
theorem InsAt.start (lt : α → α → Bool) (o : List α) (x : α) (r : List α) : InsAt lt o x r o.length (o ++ x :: r) := ⟨Nat.le_refl _, by simp, by simp⟩
theorem InsAt.len {lt : α → α → Bool} {o : List α} {x : α} {r : List α} {j : Nat} {m : List α} (h : InsAt lt o x r j m) : m.length = o.length + 1 + r.length := by
  rw [h.2.1]
  simp only [List.length_append, List.length_cons, List.length_take, List.length_drop]
  have := h.1
  omega
theorem InsAt.at {lt : α → α → Bool} {o : List α} {x : α} {r : List α} {j : Nat} {m : List α} (h : InsAt lt o x r j m) : m[j]? = some x := by
  have h1 := h.1
  rw [h.2.1, List.getElem?_append_right (by rw [List.length_take]; omega), List.length_take]
  have e : j - min j o.length = 0 := by omega
  rw [e]
  rfl
theorem InsAt.pre {lt : α → α → Bool} {o : List α} {x : α} {r : List α} {j : Nat} {m : List α} (h : InsAt lt o x r (j + 1) m) : ∃ y, o[j]? = some y ∧ m[j]? = some y := by
  have h1 := h.1
  refine ⟨o[j], List.getElem?_eq_getElem (by omega), ?_⟩
  rw [h.2.1, List.getElem?_append_left (by rw [List.length_take]; omega), List.getElem?_take_of_lt (by omega), List.getElem?_eq_getElem (by omega)]
theorem InsAt.down {lt : α → α → Bool} {o : List α} {x y : α} {r : List α} {j : Nat} {m : List α} (h : InsAt lt o x r (j + 1) m) (hy : o[j]? = some y) (hl : lt x y = true) : InsAt lt o x r j ((m.set (j + 1) y).set j x) := by
  have h1 := h.1
  have hd : o.drop j = y :: o.drop (j + 1) := by
    obtain ⟨hl', rfl⟩ := List.getElem?_eq_some_iff.1 hy
    exact List.drop_eq_getElem_cons hl'
  have ht : o.take (j + 1) = o.take j ++ [y] := by rw [List.take_add_one, hy]; rfl
  refine ⟨by omega, ?_, fun u hu => ?_⟩
  · have hlen : (o.take j).length = j := by rw [List.length_take]; omega
    rw [h.2.1, ht, hd, List.append_assoc, List.singleton_append, List.set_append_right _ _ (by omega), List.set_append_right _ _ (by omega), hlen]
    have e1 : j + 1 - j = 1 := by omega
    rw [e1, Nat.sub_self]
    rfl
  · rw [hd] at hu
    rcases List.mem_cons.1 hu with rfl | hu
    · exact hl
    · exact h.2.2 u hu
theorem InsAt.done {lt : α → α → Bool} {o : List α} {x : α} {r : List α} {j : Nat} {m : List α} (h : InsAt lt o x r j m) (hs : j = 0 ∨ ∃ y, o[j - 1]? = some y ∧ 0 < j ∧ lt x y = false) : m = insE lt x o ++ r := by
  have e : insE lt x o = o.take j ++ [x] ++ o.drop j := by
    conv => lhs; rw [← List.take_append_drop j o]
    refine insE_split h.2.2 ?_
    rcases hs with rfl | ⟨y, hy, h0, hl⟩
    · exact .inl (by simp)
    · refine .inr ⟨o.take (j - 1), y, ?_, hl⟩
      have e1 : j = j - 1 + 1 := by omega
      conv => lhs; rw [e1]
      rw [List.take_add_one, hy]
      rfl
  rw [h.2.1, e]
  simp
theorem sort_step {lt : α → α → Bool} {l : List α} {i : Nat} {x : α} (h : l[i]? = some x) : sortL lt (l.take (i + 1)) = insE lt x (sortL lt (l.take i)) := by
  rw [List.take_add_one, h]
  exact sortL_snoc _ _ _
end

theorem grown_drew (w : World) (g : Nat) : w.grownBy w.drew (some g) := ⟨rfl, rfl, rfl, Nat.le_refl _, fun _ _ _ => rfl⟩
/-- What is asked of the function that compares. -/
def CmpB (w : World) (v : Value) (p : Nat) (l : List It) (key : It → Int) (g : FuncId) (cb : Array Value) : Prop :=
  ∀ W, w.grownBy W v.ownBlock → ∀ x ∈ l, ∀ y ∈ l, Calls Tryz.prog g (#[ctV p x, ctV p y] ++ cb) W fun e w' => e = .returned (.int .i64 (cmpI (key x) (key y))) ∧ Below W.heap.size W w'
set_option maxRecDepth 20000 in
set_option maxHeartbeats 6400000 in
theorem insB (w : World) (B p : Nat) (A : Option Addr) (n c : Nat) (l : List It) (h : OwnG 67 (ctCells p) 3 w B (.slice A n c) l) (hn : n ≤ 1048576) (key : It → Int) (bc : Nat)
    (hcmp : CmpB w (.slice A n c) p l key 69 #[.pointer (some ⟨bc, 0, none⟩)]) :
    Calls Tryz.prog 123 #[.slice A n c, .int .i64 0, .int .i64 n, .func (.func 69) #[] #[.pointer (some ⟨bc, 0, none⟩)]] w fun e w' => e = .returned (.tuple #[]) ∧ OwnG 67 (ctCells p) 3 w' B (.slice A n c) (sortL (ltK key) l) ∧ w.grownBy w' (Value.slice A n c).ownBlock := by
  have hln : l.length = n := by
    obtain ⟨A', c', e, _⟩ := h.shape
    injection e with _ e _
    exact e.symm
  by_cases h0 : n = 0
  · subst h0
    have hl : l = [] := List.eq_nil_of_length_eq_zero hln
    subst hl
    have HO := Lib.hid h
    clear h hcmp hln
    go_enter Tryz.func123, Tryz.ntmps123
    go_wp2
    go_loopw [8] (fun i wr => i = .int .i64 1 ∧ wr = w) (fun _ _ => 0)
    case atStart => exact ⟨rfl, rfl⟩
    case round =>
      obtain ⟨rfl, rfl⟩ := hrel
      go_wp2
      go_end0
      exact ⟨rfl, HO.out, ⟨rfl, rfl, rfl, Nat.le_refl _, fun _ _ _ => rfl⟩⟩
  obtain ⟨g, rfl⟩ : ∃ g, A = some ⟨g, 0, none⟩ := by
    rcases h.row with ⟨e, _⟩ | ⟨g, cap, F, e, _⟩
    · injection e with e1 e2 e3
      exact absurd e2 h0
    · injection e with e1 e2 e3
      exact ⟨g, e1⟩
  have HO0 := Lib.hid h
  have HC := Lib.hid hcmp
  have HG0 : Hid (w.grownBy w (some g)) := Lib.hid ⟨rfl, rfl, rfl, Nat.le_refl _, fun _ _ _ => rfl⟩
  have HLn := Lib.hid hln
  clear h hcmp hln
  go_enter Tryz.func123, Tryz.ntmps123
  go_wp2
  go_loopw [8] (fun iv wr => ∃ (i : Nat) (m : List It), iv = .int .i64 i ∧ 1 ≤ i ∧ i ≤ n ∧ m = sortL (ltK key) (l.take i) ++ l.drop i ∧ OwnG 67 (ctCells p) 3 wr B (.slice (some ⟨g, 0, none⟩) n c) m ∧ w.grownBy wr (some g)) (fun iv _ => n - (intOf iv).toNat)
  case atStart =>
    refine ⟨1, l, rfl, Nat.le_refl _, by omega, ?_, HO0.out, HG0.out⟩
    cases l with
    | nil => rfl
    | cons x r => rfl
  case round =>
    obtain ⟨i, m, rfl, hi1, hin, hm, hown, hgr⟩ := hrel
    have HO := Lib.hid hown
    have HG := Lib.hid hgr
    have HM := Lib.hid hm
    clear hown hgr hm
    by_cases hlt : i < n
    · have hlt' : (i : Int) < (n : Int) := by omega
      obtain ⟨x, hx⟩ : ∃ x, l[i]? = some x := ⟨_, List.getElem?_eq_getElem (by rw [HLn.out]; exact hlt)⟩
      have HX := Lib.hid hx
      obtain ⟨o, ho⟩ : ∃ o, sortL (ltK key) (l.take i) = o := ⟨_, rfl⟩
      have hol : o.length = i := by rw [← ho, sortL_len, List.length_take, HLn.out]; omega
      have hom : ∀ y ∈ o, y ∈ l := fun y hy => by rw [← ho] at hy; exact List.mem_of_mem_take (sortL_mem.1 hy)
      have HOm := Lib.hid hom
      have HOl := Lib.hid hol
      have HI0 : Hid (InsAt (ltK key) o x (l.drop (i + 1)) i m) := Lib.hid (by
        have e : l.drop i = x :: l.drop (i + 1) := by
          obtain ⟨hl, rfl⟩ := List.getElem?_eq_some_iff.1 hx
          exact List.drop_eq_getElem_cons hl
        have h1 := InsAt.start (ltK key) o x (l.drop (i + 1))
        rw [hol] at h1
        rw [HM.out, ho, e]
        exact h1)
      have HNx : Hid (∀ m', m' = insE (ltK key) x o ++ l.drop (i + 1) → m' = sortL (ltK key) (l.take (i + 1)) ++ l.drop (i + 1)) := Lib.hid fun m' h => by rw [h, sort_step hx, ho]
      clear hx ho hol hom
      go_wp2
      go_loopw [9] (fun jv wr => ∃ (j : Nat) (m : List It), jv = .int .i64 j ∧ InsAt (ltK key) o x (l.drop (i + 1)) j m ∧ OwnG 67 (ctCells p) 3 wr B (.slice (some ⟨g, 0, none⟩) n c) m ∧ w.grownBy wr (some g)) (fun jv _ => (intOf jv).toNat)
      case atStart => exact ⟨i, m, rfl, HI0.out, HO.out, HG.out⟩
      case round =>
        obtain ⟨j, m2, rfl, hins, hown, hgr⟩ := hrel
        clear HO HG HI0 HM
        have HI := Lib.hid hins
        have HO := Lib.hid hown
        have HG := Lib.hid hgr
        have hjo : j ≤ i := by rw [← HOl.out]; exact hins.1
        have hml : m2.length = n := by rw [hins.len, HOl.out, List.length_drop, HLn.out]; omega
        have HMl := Lib.hid hml
        have HD : Hid (∀ q, InsAt (ltK key) o x (l.drop (i + 1)) j q → (j = 0 ∨ ∃ y, o[j - 1]? = some y ∧ 0 < j ∧ ltK key x y = false) → q = sortL (ltK key) (l.take (i + 1)) ++ l.drop (i + 1)) := Lib.hid fun q h1 h2 => HNx.out q (h1.done h2)
        clear hins hown hgr hml
        by_cases hj0 : j = 0
        · subst hj0
          have HO1 : Hid (OwnG 67 (ctCells p) 3 wr B (.slice (some ⟨g, 0, none⟩) n c) (sortL (ltK key) (l.take (i + 1)) ++ l.drop (i + 1))) := Lib.hid (by rw [← HD.out m2 HI.out (.inl rfl)]; exact HO.out)
          go_wp2_with fail
          refine wp_quiet_bw (by kernel_rfl) (by kernel_rfl) ?_
          repeat (go_big_quiet_step (fail))
          refine wpQuiet_nil ?_
          rintro _ ⟨q, rfl⟩
          have HO2 := Lib.hid (HO1.out.below q.h)
          have HG2 : Hid (w.grownBy q.w (some g)) := Lib.hid (HG.out.trans ⟨q.h.os, q.h.tape, q.h.output, q.h.size, fun i hi _ => q.h.block i hi⟩)
          go_wp2
          go_roundw
          case rel => exact ⟨i + 1, _, by go_num, by omega, by omega, rfl, HO2.out, HG2.out⟩
          case measure => simp [intOf] <;> omega
        · obtain ⟨jp, rfl⟩ : ∃ jp, j = jp + 1 := ⟨j - 1, by omega⟩
          obtain ⟨y, hy, hmy⟩ := HI.out.pre
          have HY := Lib.hid hy
          obtain ⟨b1, o1, x1, e1, hb1, hat1, d0, d1, d2⟩ := ct_at (HO.out.read (ctCells_len p)) (jp + 1) (by omega)
          cases e1
          obtain rfl : x = x1 := Option.some.inj (HI.out.at.symm.trans hat1)
          obtain ⟨b2, o2, y1, e2, hb2, hat2, q0, q1, q2⟩ := ct_at (HO.out.read (ctCells_len p)) jp (by omega)
          cases e2
          obtain rfl : y = y1 := Option.some.inj (hmy.symm.trans hat2)
          rw [Nat.zero_add] at d0 d1 d2 q0 q1 q2
          have hwp : IntKind.i64.wrap (jp : Int) = (jp : Int) := by rw [IntKind.wrap_i64]; omega
          have jz : (jp : Int) + 1 < (n : Int) := by omega
          have jz1 : (jp : Int) < (n : Int) := by omega
          have p0 : (0 : Int) ≤ (jp : Int) + 1 := by omega
          have p1 : (0 : Int) < (jp : Int) + 1 := by omega
          have p2 : decide ((jp : Int) + 1 > 0) = true := decide_eq_true (by omega)
          have e0 : ((jp : Int) + 1).toNat = jp + 1 := by omega
          have f0 : ∀ q : BW wr, q.w.cell? ⟨g, (jp + 1) * 3, none⟩ = some (.int .i64 x.id) := fun q => (q.h.cell (p := ⟨g, (jp + 1) * 3, none⟩) hb1).trans d0
          have f1 : ∀ q : BW wr, q.w.cell? ⟨g, (jp + 1) * 3 + 1, none⟩ = some (.slice x.A x.n x.c) := fun q => (q.h.cell (p := ⟨g, (jp + 1) * 3 + 1, none⟩) hb1).trans d1
          have f2 : ∀ q : BW wr, q.w.cell? ⟨g, (jp + 1) * 3 + 2, none⟩ = some (.pointer (some ⟨p, 0, none⟩)) := fun q => (q.h.cell (p := ⟨g, (jp + 1) * 3 + 2, none⟩) hb1).trans d2
          have r0 : ∀ q : BW wr, q.w.cell? ⟨g, jp * 3, none⟩ = some (.int .i64 y.id) := fun q => (q.h.cell (p := ⟨g, jp * 3, none⟩) hb1).trans q0
          have r1 : ∀ q : BW wr, q.w.cell? ⟨g, jp * 3 + 1, none⟩ = some (.slice y.A y.n y.c) := fun q => (q.h.cell (p := ⟨g, jp * 3 + 1, none⟩) hb1).trans q1
          have r2 : ∀ q : BW wr, q.w.cell? ⟨g, jp * 3 + 2, none⟩ = some (.pointer (some ⟨p, 0, none⟩)) := fun q => (q.h.cell (p := ⟨g, jp * 3 + 2, none⟩) hb1).trans q2
          have hcf : cmpI (key x) (key y) < 0 ↔ ltK key x y = true := by
            have h := cmpI_lt (key x) (key y)
            unfold ltK
            rw [← h]
            simp
          have HCF := Lib.hid hcf
          have HCx : Hid (∀ W, Below wr.heap.size wr W → Calls Tryz.prog 69 #[.agg #[.int .i64 x.id, .slice x.A x.n x.c, .pointer (some ⟨p, 0, none⟩)], .agg #[.int .i64 y.id, .slice y.A y.n y.c, .pointer (some ⟨p, 0, none⟩)], .pointer (some ⟨bc, 0, none⟩)] W fun e w' => e = .returned (.int .i64 (cmpI (key x) (key y))) ∧ Below W.heap.size W w') := Lib.hid fun W hW =>
            HC.out W (HG.out.trans ⟨hW.os, hW.tape, hW.output, hW.size, fun i hi _ => hW.block i hi⟩) x (mem_of_at HX.out) y (HOm.out y (mem_of_at hy))
          generalize cmpI (key x) (key y) = z at *
          clear hat1 hat2 hmy hy d0 d1 d2 q0 q1 q2 hcf
          by_cases hz : z < 0
          · have hzd : decide (z < 0) = true := by simpa using hz
            have HLT := Lib.hid (HCF.out.1 hz)
            go_wp2_with fail
            refine wp_quiet_bw (by kernel_rfl) (by kernel_rfl) ?_
            repeat (go_big_quiet_step ((rename_i q; go_at_call 69; exact BW.calls (HCx.out q.w q.h))))
            refine wpQuiet_nil ?_
            rintro _ ⟨q, rfl⟩
            have HO2 := Lib.hid (HO.out.below q.h)
            have HG2 : Hid (w.grownBy q.w (some g)) := Lib.hid (HG.out.trans ⟨q.h.os, q.h.tape, q.h.output, q.h.size, fun i hi _ => q.h.block i hi⟩)
            have HI2 := Lib.hid (HI.out.down HY.out HLT.out)
            have g0 := f0 q
            have g1 := f1 q
            have g2 := f2 q
            have s0 := r0 q
            have s1 := r1 q
            have s2 := r2 q
            obtain ⟨F3, hrow3⟩ : ∃ F, q.w.rowIs g 67 (c * 3) F := by
              rcases HO2.out.row with ⟨e, _⟩ | ⟨g', cap, F, e, _, _, _, hrow, _⟩
              · cases e
              · injection e with e1 e2 e3
                injection e1 with e1
                injection e1 with e1
                subst e1 e3
                exact ⟨F, hrow⟩
            have z0 := World.rowIs.frozen hrow3 ((jp + 1) * 3)
            have z1 := World.rowIs.frozen hrow3 ((jp + 1) * 3 + 1)
            have z2 := World.rowIs.frozen hrow3 ((jp + 1) * 3 + 2)
            have z3 := World.rowIs.frozen hrow3 (jp * 3)
            have z4 := World.rowIs.frozen hrow3 (jp * 3 + 1)
            have z5 := World.rowIs.frozen hrow3 (jp * 3 + 2)
            clear f0 f1 f2 r0 r1 r2 hrow3 HCx hwp
            generalize q.w = W3 at *
            go_wp2_with fail
            go_region
            all_goals go_wp2
            go_roundw
            case rel =>
              have hl1 : jp + 1 < m2.length := by rw [HMl.out]; omega
              have hl2 : jp < (m2.set (jp + 1) y).length := by rw [List.length_set]; omega
              have ho3 := OwnG.set3 (v0 := .int .i64 y.id) (v1 := .slice y.A y.n y.c) (v2 := .pointer (some ⟨p, 0, none⟩)) (y := y) (ctCells_len p) HO2.out hl1 rfl
              have ho4 := OwnG.set3 (v0 := .int .i64 x.id) (v1 := .slice x.A x.n x.c) (v2 := .pointer (some ⟨p, 0, none⟩)) (y := x) (ctCells_len p) ho3 hl2 rfl
              have ho5 := ho4.below (Below.refl _ _).drew
              have hg6 := grown_set (grown_set (grown_set (grown_set (grown_set (grown_set HG2.out ((jp + 1) * 3) (.int .i64 y.id)) ((jp + 1) * 3 + 1) (.slice y.A y.n y.c)) ((jp + 1) * 3 + 2) (.pointer (some ⟨p, 0, none⟩))) (jp * 3) (.int .i64 x.id)) (jp * 3 + 1) (.slice x.A x.n x.c)) (jp * 3 + 2) (.pointer (some ⟨p, 0, none⟩))
              have hg7 := hg6.trans (grown_drew _ g)
              refine ⟨jp, _, rfl, HI2.out, ?_, ?_⟩
              · exact ho5
              · exact hg7
            case measure => simp [intOf] <;> omega
          · have hzd : decide (z < 0) = false := by simpa using hz
            have HLT : Hid (ltK key x y = false) := Lib.hid (by
              cases h : ltK key x y
              · rfl
              · exact absurd (HCF.out.2 h) hz)
            have HM2 := Lib.hid (HD.out _ HI.out (.inr ⟨y, HY.out, by omega, HLT.out⟩))
            go_wp2_with fail
            refine wp_quiet_bw (by kernel_rfl) (by kernel_rfl) ?_
            repeat (go_big_quiet_step ((rename_i q; go_at_call 69; exact BW.calls (HCx.out q.w q.h))))
            refine wpQuiet_nil ?_
            rintro _ ⟨q, rfl⟩
            have HO2 : Hid (OwnG 67 (ctCells p) 3 q.w B (.slice (some ⟨g, 0, none⟩) n c) (sortL (ltK key) (l.take (i + 1)) ++ l.drop (i + 1))) := Lib.hid (by rw [← HM2.out]; exact HO.out.below q.h)
            have HG2 : Hid (w.grownBy q.w (some g)) := Lib.hid (HG.out.trans ⟨q.h.os, q.h.tape, q.h.output, q.h.size, fun i hi _ => q.h.block i hi⟩)
            clear f0 f1 f2 r0 r1 r2
            go_wp2
            go_roundw
            case rel => exact ⟨i + 1, _, by go_num, by omega, by omega, rfl, HO2.out, HG2.out⟩
            case measure => simp [intOf] <;> omega
    · obtain rfl : i = n := by omega
      have HO1 : Hid (OwnG 67 (ctCells p) 3 wr B (.slice (some ⟨g, 0, none⟩) i c) (sortL (ltK key) l)) := Lib.hid (by
        have h := HO.out
        rw [HM.out, ← HLn.out, List.take_length, List.drop_length, List.append_nil] at h
        rw [← HLn.out]
        exact h)
      go_wp2
      go_end0
      exact ⟨rfl, HO1.out, HG.out⟩
end Go.Proofs.YtnjnlcmddcjcfaaGreat.num
namespace Go.Proofs.YtnjnlcmddcjcfaaGreat.num
set_option maxRecDepth 20000
open Go.RowKit
set_option linter.unusedVariables false
set_option linter.unusedSimpArgs false

def zC (j : Nat) : Value := (#[.int .i64 0, .slice none 0 0, .pointer none] : Array Value)[j % 3]!
def ctCell (p : Nat) (l : List It) (j : Nat) : Value := cellG (ctCells p) zC l j
theorem make_ct (n : Nat) (hn : n ≤ 1048576) (w : World) :
    (Instr.makeSlice 56 (.int .i64 (n : Int)) (.int .i64 (n : Int))).run Tryz.prog w = .ok (.slice (some ⟨w.heap.size, 0, none⟩) n n) (w.alloc (.cells (madeCells #[.int .i64 0, .slice none 0 0, .pointer none] (n * 3)) 67)) := by
  obtain ⟨i, hi, hzz⟩ := Option.map_eq_some_iff.1 info_ct
  simp only [Prod.mk.injEq] at hzz
  obtain ⟨hz, hs, hb⟩ := hzz
  have hr := run_make (P := Tryz.prog) w _ _ i _ Tryz.underlying56 hi hz .i64 .i64 n n (by omega) (Int.le_refl _) (by rw [hb]; omega) (by omega)
  rw [hs] at hr
  simp only [Int.toNat_natCast] at hr
  exact hr
theorem made_ct (w : World) (n p : Nat) : (w.alloc (.cells (madeCells #[.int .i64 0, .slice none 0 0, .pointer none] (n * 3)) 67)).rowIs w.heap.size 67 (n * 3) (ctCell p []) :=
  ⟨_, heap_alloc_new w _, size_madeCells _ _, fun i hi => by simp [madeCells, hi, ctCell, cellG, zC]⟩
theorem ctCell_snoc {p : Nat} {l : List It} {k : Nat} (h : l.length = k) (x : It) (j : Nat) :
    (if j = k * 3 + 2 then .pointer (some ⟨p, 0, none⟩) else if j = k * 3 + 1 then .slice x.A x.n x.c else if j = k * 3 then .int .i64 x.id else ctCell p l j) = ctCell p (l ++ [x]) j := by
  have e : ∀ i v, (ctCells p x)[i]? = some v → ctCell p (l ++ [x]) (k * 3 + i) = v := fun i v hv => cellG_last (ctCells_len p) zC h x hv
  by_cases h2 : j = k * 3 + 2
  · subst h2; rw [if_pos rfl, e 2 _ rfl]
  rw [if_neg h2]
  by_cases h1 : j = k * 3 + 1
  · subst h1; rw [if_pos rfl, e 1 _ rfl]
  rw [if_neg h1]
  by_cases h0 : j = k * 3
  · subst h0; rw [if_pos rfl]; exact (e 0 _ rfl).symm
  rw [if_neg h0]
  exact (cellG_more (ctCells_len p) zC h x (by omega)).symm
theorem ctCell_zero {p : Nat} {l : List It} {k : Nat} (h : l.length = k) : ctCell p l (k * 3) = .int .i64 0 ∧ ctCell p l (k * 3 + 1) = .slice none 0 0 ∧ ctCell p l (k * 3 + 2) = .pointer none := by
  refine ⟨?_, ?_, ?_⟩
  · rw [ctCell, cellG_none (ctCells_len p) zC (by omega)]; unfold zC; rw [show k * 3 % 3 = 0 by omega]; rfl
  · rw [ctCell, cellG_none (ctCells_len p) zC (by omega)]; unfold zC; rw [show (k * 3 + 1) % 3 = 1 by omega]; rfl
  · rw [ctCell, cellG_none (ctCells_len p) zC (by omega)]; unfold zC; rw [show (k * 3 + 2) % 3 = 2 by omega]; rfl
/-- What contestOf hands back. -/
def ContOut (B lo : Nat) (nds : List ND) (its : List It) (n : Nat) (e : Ending) (w' : World) : Prop :=
  (∃ (t : Tr) (p g : Nat), IsE nds ∧ AreP (its.map It.dat) ∧ Post nds t ∧ e = .returned (.slice (some ⟨g, 0, none⟩) n n) ∧ CtIn w' B lo p t (some ⟨g, 0, none⟩) n its) ∨ (¬ (IsE nds ∧ AreP (its.map It.dat)) ∧ e = .returned (.slice none 0 0))
set_option maxRecDepth 20000 in
set_option maxHeartbeats 1600000 in
theorem iContest (w : World) (B : Nat) (A : Option Addr) (n c : Nat) (its : List It) (A2 : Option Addr) (n2 c2 : Nat) (ns : List Nd) (h : InB w B A n its A2 n2 c2 ns) :
    Calls Tryz.prog 42 #[.slice A n c, .slice A2 n2 c2] w fun e w' => ContOut B w.heap.size (datN ns) its n e w' ∧ Below w.heap.size w w' := by
  have HT := Lib.hid (iTreeOfW w B A2 n2 c2 ns h.e h.hB h.hnc h.hc h.se)
  obtain ⟨qa, hqa⟩ := bool_of (AreP (its.map It.dat))
  have HA : Hid (∀ w1, Below w.heap.size w w1 → Calls Tryz.prog 83 #[.slice A n c] w1 fun e w' => e = .returned (.bool qa) ∧ Below w1.heap.size w1 w') := Lib.hid fun w1 h1 => iAre w1 B A n c its (h.below h1).i (h.below h1).hB qa hqa
  have HX := Lib.hid h.i
  have hB := h.hB
  have hn := h.hn
  have HQ := Lib.hid hqa
  generalize datN ns = nds at *
  clear h hqa
  go_enter Tryz.func42, Tryz.ntmps42
  go_wp2_with fail
  refine HT.out.mono ?_
  rintro e w1 ⟨hout, hb1⟩
  have HB1 := Lib.hid hb1
  clear hb1 HT
  rcases hout with ⟨he, t, p, ht, rfl, hpa⟩ | ⟨he, rfl⟩
  · have HE := Lib.hid he
    have HPo := Lib.hid ht
    have HPa := Lib.hid hpa
    clear he ht hpa
    go_wp2_with fail
    refine (HA.out _ HB1.out).mono ?_
    rintro e w2 ⟨rfl, hb2⟩
    have HB2 := Lib.hid (below_on HB1.out hb2)
    have HPa2 := Lib.hid (HPa.out.below (Nat.le_trans hB HB1.out.size) hb2)
    clear hb2 HPa
    cases qa
    · go_wp2
      go_ret
      exact ⟨.inr ⟨(fun hh => by have := HQ.out.2 hh.2; cases this), rfl⟩, HB2.out⟩
    · have HAr : Hid (AreP (its.map It.dat)) := Lib.hid (HQ.out.1 (by first | rfl | trivial))
      have hmk := make_ct n hn
      go_wp2
      clear hmk
      obtain ⟨g, hg⟩ : ∃ g, g = w2.heap.size := ⟨_, rfl⟩
      have HR0 : Hid ((w2.alloc (.cells (madeCells #[.int .i64 0, .slice none 0 0, .pointer none] (n * 3)) 67)).rowIs g 67 (n * 3) (ctCell p (its.take 0))) := Lib.hid (hg ▸ made_ct w2 n p)
      have HW0 : Hid (Below w2.heap.size w2 (w2.alloc (.cells (madeCells #[.int .i64 0, .slice none 0 0, .pointer none] (n * 3)) 67))) := Lib.hid ((Below.refl _ _).alloc (Nat.le_refl _) _)
      rw [← hg]
      generalize (w2.alloc (.cells (madeCells #[.int .i64 0, .slice none 0 0, .pointer none] (n * 3)) 67)) = w3 at *
      have HG := Lib.hid hg
      clear hg
      go_loopw [23] (fun i wr => ∃ k : Nat, k ≤ n ∧ i = .int .i64 k ∧ wr.rowIs g 67 (n * 3) (ctCell p (its.take k)) ∧ Below w2.heap.size w2 wr) (fun i _ => n - (intOf i).toNat)
      case atStart => exact ⟨0, Nat.zero_le _, rfl, HR0.out, HW0.out⟩
      case round =>
        obtain ⟨k, hk, rfl, hrow, hbel⟩ := hrel
        have HR := Lib.hid hrow
        have HB := Lib.hid hbel
        by_cases hlt : k < n
        · obtain ⟨b1, off, x, rfl, hb1, hat, d0, d1, -⟩ := HX.out.at k hlt
          have hbw : b1 < w2.heap.size := Nat.lt_of_lt_of_le hb1 (Nat.le_trans hB HB2.out.size)
          have f0 := (hbel.cell (p := ⟨b1, off + k * 2, none⟩) hbw).trans ((HB2.out.cell (p := ⟨b1, off + k * 2, none⟩) (Nat.lt_of_lt_of_le hb1 hB)).trans d0)
          have f1 := (hbel.cell (p := ⟨b1, off + k * 2 + 1, none⟩) hbw).trans ((HB2.out.cell (p := ⟨b1, off + k * 2 + 1, none⟩) (Nat.lt_of_lt_of_le hb1 hB)).trans d1)
          have HAt := Lib.hid hat
          have hlk : (its.take k).length = k := by rw [List.length_take, HX.out.1]; omega
          have hz := ctCell_zero (p := p) hlk
          have g0 : wr.cell? ⟨g, k * 3, none⟩ = some (.int .i64 0) := by rw [World.rowIs.cell hrow (by omega), hz.1]
          have g1 : wr.cell? ⟨g, k * 3 + 1, none⟩ = some (.slice none 0 0) := by rw [World.rowIs.cell hrow (by omega), hz.2.1]
          have g2 : wr.cell? ⟨g, k * 3 + 2, none⟩ = some (.pointer none) := by rw [World.rowIs.cell hrow (by omega), hz.2.2]
          have z0 := World.rowIs.frozen hrow (k * 3)
          have z1 := World.rowIs.frozen hrow (k * 3 + 1)
          have z2 := World.rowIs.frozen hrow (k * 3 + 2)
          have hgl := World.rowIs.lt hrow
          have HLk := Lib.hid hlk
          have hsz := Lib.hid hbel.size
          clear hrow hbel d0 d1 hat hlk hz
          go_wp2
          go_roundw
          case rel =>
            refine ⟨k + 1, by omega, by go_num, ?_, ?_⟩
            · rw [take_at HAt.out]
              exact (World.rowIs.alloc (World.rowIs.set (World.rowIs.set (World.rowIs.set HR.out (k * 3) (.int .i64 x.id)) (k * 3 + 1) (.slice x.A x.n x.c)) (k * 3 + 2) (.pointer (some ⟨p, 0, none⟩))) _).congr (fun j _ => ctCell_snoc HLk.out x j)
            · exact (((HB.out.setCell (by rw [HG.out]; exact Nat.le_refl _) _).setCell (by rw [HG.out]; exact Nat.le_refl _) _).setCell (by rw [HG.out]; exact Nat.le_refl _) _).alloc (by simp [World.setCell]; exact hsz.out) _
          case measure => simp [intOf]; omega
        · obtain rfl : k = n := by omega
          clear hrow hbel
          go_wp2
          go_ret
          have HBw := HB2.out.trans (HB.out.mono HB2.out.size)
          refine ⟨.inl ⟨t, p, g, HE.out, HAr.out, HPo.out, rfl, ?_⟩, HBw⟩
          have hR := HR.out
          rw [take_all HX.out.1] at hR
          have hown : OwnG 67 (ctCells p) 3 wr g (.slice (some ⟨g, 0, none⟩) k k) its := OwnG.of_row (ctCells_len p) (Nat.le_refl _) HX.out.1 (Nat.le_refl _) (by unfold maxLen; omega) hR fun j hj => cellG_own (ctCells_len p) zC HX.out.1 hj
          exact ⟨OwnG.read (ctCells_len p) hown, fun u hu => ⟨(HX.out.mem hu).below (HBw.mono hB), HAr.out.1 _ (List.mem_map_of_mem hu)⟩, HPa2.out.below (Nat.le_trans hB HB2.out.size) HB.out, Nat.le_trans hB HBw.size⟩
  · have HE := Lib.hid he
    clear he
    go_wp2
    go_ret
    exact ⟨.inr ⟨fun hh => HE.out hh.1, rfl⟩, HB1.out⟩
/-! The functions. -/
theorem three_set {w : World} {g : Nat} {T : TypeId} {u0 u1 u2 v0 v1 v2 : Value} (h : w.heap[g]? = some (.cells #[u0, u1, u2] T (0, 0))) : (((w.setCell ⟨g, 0, none⟩ v0).setCell ⟨g, 1, none⟩ v1).setCell ⟨g, 2, none⟩ v2).heap[g]? = some (.cells #[v0, v1, v2] T (0, 0)) := by
  have h := heap_setCell_same _ g 2 _ _ v2 (heap_setCell_same _ g 1 _ _ v1 (heap_setCell_same w g 0 _ _ v0 h))
  simpa using h
theorem block_alloc {w : World} {g : Nat} {o : Obj} (h : w.heap[g]? = some o) (o2 : Obj) : (w.alloc o2).heap[g]? = some o := (Below.heap_alloc _ _ _ (lt_of_block h)).trans h
set_option maxRecDepth 20000 in
set_option maxHeartbeats 1600000 in
theorem ctFind (w : World) (p : Nat) (A : Option Addr) (n c : Nat) (its : List It) (h : ReadG (ctCells p) 3 w w.heap.size A n its) (hn : n ≤ 1048576) (x0 : Int) :
    Calls Tryz.prog 51 #[.slice A n c, .int .i64 x0] w fun e w' => ((∃ x, x ∈ its ∧ findD (its.map It.dat) x0 = some x.dat ∧ e = .returned (.tuple #[.agg #[.int .i64 x.id, .slice x.A x.n x.c, .pointer (some ⟨p, 0, none⟩)], .bool true])) ∨ (findD (its.map It.dat) x0 = none ∧ e = .returned (.tuple #[.agg #[.int .i64 0, .slice none 0 0, .pointer none], .bool false]))) ∧ Below w.heap.size w w' := by
  have HX := Lib.hid h
  have HR0 : Hid ((w.alloc (.cells #[.int .i64 0, .slice none 0 0, .pointer none] 67)).heap[w.heap.size]? = some (.cells #[.int .i64 0, .slice none 0 0, .pointer none] 67 (0, 0))) := Lib.hid (heap_alloc_new w _)
  have HB0 : Hid (Below w.heap.size w (w.alloc (.cells #[.int .i64 0, .slice none 0 0, .pointer none] 67))) := Lib.hid ((Below.refl _ w).alloc (Nat.le_refl _) _)
  clear h
  go_enter Tryz.func51, Tryz.ntmps51
  go_wp2
  go_loopw [10] (fun i wr => ∃ k : Nat, k ≤ n ∧ i = .int .i64 k ∧ (∀ u ∈ its.take k, u.id ≠ x0) ∧ wr.heap[w.heap.size]? = some (.cells #[.int .i64 0, .slice none 0 0, .pointer none] 67 (0, 0)) ∧ Below w.heap.size w wr) (fun i _ => n - (intOf i).toNat)
  case atStart => exact ⟨0, Nat.zero_le _, rfl, by simp, HR0.out, HB0.out⟩
  case round =>
    obtain ⟨k, hk, rfl, hall, hrow, hbel⟩ := hrel
    have HA := Lib.hid hall
    have HB := Lib.hid hbel
    have HR := Lib.hid hrow
    have hsz := Lib.hid hbel.size
    have g0 : wr.cell? ⟨w.heap.size, 0, none⟩ = some (.int .i64 0) := cell_of_row wr _ 0 _ _ (0, 0) hrow
    have g1 : wr.cell? ⟨w.heap.size, 1, none⟩ = some (.slice none 0 0) := cell_of_row wr _ 1 _ _ (0, 0) hrow
    have g2 : wr.cell? ⟨w.heap.size, 2, none⟩ = some (.pointer none) := cell_of_row wr _ 2 _ _ (0, 0) hrow
    have z0 : wr.frozen? ⟨w.heap.size, 0, none⟩ = false := frozen_of_row wr _ 0 _ _ hrow
    have z1 : wr.frozen? ⟨w.heap.size, 1, none⟩ = false := frozen_of_row wr _ 1 _ _ hrow
    have z2 : wr.frozen? ⟨w.heap.size, 2, none⟩ = false := frozen_of_row wr _ 2 _ _ hrow
    have hgl := lt_of_block hrow
    clear hall hrow
    by_cases hlt : k < n
    · obtain ⟨b, off, x, rfl, hb, hat, d0, d1, d2⟩ := ct_at HX.out k hlt
      have f0 := (hbel.cell (p := ⟨b, off + k * 3, none⟩) hb).trans d0
      have f1 := (hbel.cell (p := ⟨b, off + k * 3 + 1, none⟩) hb).trans d1
      have f2 := (hbel.cell (p := ⟨b, off + k * 3 + 2, none⟩) hb).trans d2
      have HAt := Lib.hid hat
      have hlt' : (k : Int) < (n : Int) := by omega
      clear d0 d1 d2 hat hbel
      by_cases he : x.id = x0
      · have he' : (x.id == x0) = true := by simpa using he
        have HE := Lib.hid he
        have HF : Hid (findD (its.map It.dat) x0 = some x.dat) := Lib.hid (findD_yes (k := k) (by rw [List.getElem?_map, HAt.out]; rfl) he fun u hu => by
          rw [← List.map_take] at hu
          obtain ⟨v, hv, rfl⟩ := List.mem_map.1 hu
          exact HA.out v hv)
        clear he
        go_wp2
        refine bodyPost_ret_by (results_row_tmp rfl _ _ w.heap.size 67 #[.int .i64 x.id, .slice x.A x.n x.c, .pointer (some ⟨p, 0, none⟩)] (0, 0) _ rfl (by first | exact three_set (block_alloc HR.out _) | exact block_alloc (three_set HR.out) _) Tryz.underlying67 rfl (by kernel_rfl)) rfl ?_
        exact ⟨.inl ⟨x, mem_of_at HAt.out, HF.out, rfl⟩, by first | exact (((HB.out.alloc hsz.out _).setCell (Nat.le_refl _) _).setCell (Nat.le_refl _) _).setCell (Nat.le_refl _) _ | exact (((HB.out.setCell (Nat.le_refl _) _).setCell (Nat.le_refl _) _).setCell (Nat.le_refl _) _).alloc (by simp [World.setCell]; exact hsz.out) _⟩
      · have he' : (x.id == x0) = false := by simpa using he
        have HE := Lib.hid he
        clear he
        go_wp2
        go_roundw
        case rel => exact ⟨k + 1, by omega, by go_num, ne_step HAt.out HA.out HE.out, block_alloc HR.out _, HB.out.alloc hsz.out _⟩
        case measure => simp [intOf]; omega
    · obtain rfl : k = n := by omega
      have HF : Hid (findD (its.map It.dat) x0 = none) := Lib.hid (findD_no fun d hd => by
        obtain ⟨u, hu, rfl⟩ := List.mem_map.1 hd
        have h := HA.out
        rw [take_all HX.out.len] at h
        exact h u hu)
      clear hbel
      go_wp2
      refine bodyPost_ret_by (results_row_tmp rfl _ _ w.heap.size 67 #[.int .i64 0, .slice none 0 0, .pointer none] (0, 0) _ rfl (three_set HR.out) Tryz.underlying67 rfl (by kernel_rfl)) rfl ?_
      exact ⟨.inr ⟨HF.out, rfl⟩, ((HB.out.setCell (Nat.le_refl _) _).setCell (Nat.le_refl _) _).setCell (Nat.le_refl _) _⟩
end Go.Proofs.YtnjnlcmddcjcfaaGreat.num
namespace Go.Proofs.YtnjnlcmddcjcfaaGreat.num
set_option maxRecDepth 20000
open Go.RowKit
set_option linter.unusedVariables false
set_option linter.unusedSimpArgs false

theorem cmpI_neg (a b : Int) : cmpI (-a) (-b) = cmpI b a := by
  unfold cmpI
  repeat' split
  all_goals first | rfl | omega
theorem ctSub (w : World) (B lo p : Nat) (t : Tr) (A : Option Addr) (n c : Nat) (its : List It) (h : CtIn w B lo p t A n its) (hn : n ≤ 1048576) (x : It) (hx : Ints w B x.A x.n x.xs) (px : IsP x.dat) :
    Calls Tryz.prog 53 #[.slice A n c, .func (.func 71) #[.agg #[.int .i64 x.id, .slice x.A x.n x.c, .pointer (some ⟨p, 0, none⟩)]] #[]] w fun e w' => (∃ A' c', e = .returned (.slice A' (subI t its x) c')) ∧ Below w.heap.size w w' := by
  refine (ctWhere w p A n c its h.r hn _ (by simp) _ (fun u => btD t x.dat u.dat) fun W hW u hu => ?_).mono ?_
  · have h2 := h.step hW
    exact iBeats W B lo p t x u h2.t h2.hB (hx.below (hW.mono h.hB)) (h2.x u hu).1 px (h2.x u hu).2
  · rintro e w' ⟨⟨v, rfl, ho⟩, hb⟩
    obtain ⟨A', c', rfl, -, -⟩ := ho.shape
    exact ⟨⟨A', c', rfl⟩, hb⟩
set_option maxRecDepth 20000 in
set_option maxHeartbeats 3200000 in
theorem progCls (W : World) (B lo p : Nat) (t : Tr) (A : Option Addr) (n c : Nat) (its : List It) (h : CtIn W B lo p t A n its) (hn : n ≤ 1048576) (bc : Nat)
    (hbc : W.cell? ⟨bc, 0, none⟩ = some (.slice A n c)) (hcl : bc < W.heap.size) (x y : It) (hx : Ints W B x.A x.n x.xs) (hy : Ints W B y.A y.n y.xs) (px : IsP x.dat) (py : IsP y.dat) :
    Calls Tryz.prog 69 #[ctV p x, ctV p y, .pointer (some ⟨bc, 0, none⟩)] W fun e w' => e = .returned (.int .i64 (cmpI (-(subI t its x : Int)) (-(subI t its y : Int)))) ∧ Below W.heap.size W w' := by
  rw [cmpI_neg]
  have HCx : Hid (∀ W1, Below W.heap.size W W1 → Calls Tryz.prog 53 #[.slice A n c, .func (.func 71) #[.agg #[.int .i64 x.id, .slice x.A x.n x.c, .pointer (some ⟨p, 0, none⟩)]] #[]] W1 fun e w' => (∃ A' c', e = .returned (.slice A' (subI t its x) c')) ∧ Below W1.heap.size W1 w') := Lib.hid fun W1 h1 => ctSub W1 B lo p t A n c its (h.step h1) hn x (hx.below (h1.mono h.hB)) px
  have HCy : Hid (∀ W1, Below W.heap.size W W1 → Calls Tryz.prog 53 #[.slice A n c, .func (.func 71) #[.agg #[.int .i64 y.id, .slice y.A y.n y.c, .pointer (some ⟨p, 0, none⟩)]] #[]] W1 fun e w' => (∃ A' c', e = .returned (.slice A' (subI t its y) c')) ∧ Below W1.heap.size W1 w') := Lib.hid fun W1 h1 => ctSub W1 B lo p t A n c its (h.step h1) hn y (hy.below (h1.mono h.hB)) py
  generalize subI t its x = sx at *
  generalize subI t its y = sy at *
  have hvx : ctV p x = .agg #[.int .i64 x.id, .slice x.A x.n x.c, .pointer (some ⟨p, 0, none⟩)] := rfl
  have hvy : ctV p y = .agg #[.int .i64 y.id, .slice y.A y.n y.c, .pointer (some ⟨p, 0, none⟩)] := rfl
  rw [hvx, hvy]
  clear hvx hvy hx hy px py h
  obtain ⟨W2, hW2⟩ : ∃ W2, (W.alloc (.cells #[.int .i64 x.id, .slice x.A x.n x.c, .pointer (some ⟨p, 0, none⟩)] 67)).alloc (.cells #[.int .i64 y.id, .slice y.A y.n y.c, .pointer (some ⟨p, 0, none⟩)] 67) = W2 := ⟨_, rfl⟩
  have hb0 : Below W.heap.size W W2 := by rw [← hW2]; exact ((Below.refl _ W).alloc (Nat.le_refl _) _).alloc (by simp) _
  have hX : Box3 W2 W.heap.size p x := by rw [← hW2]; exact (Box3.new W p x 67).alloc _
  have hY : Box3 W2 (W.heap.size + 1) p y := by
    rw [← hW2]
    have h := Box3.new (W.alloc (.cells #[.int .i64 x.id, .slice x.A x.n x.c, .pointer (some ⟨p, 0, none⟩)] 67)) p y 67
    rwa [World.size_alloc] at h
  have HB2 := Lib.hid hb0
  have HS : Hid (∀ w', Below W2.heap.size W2 w' → (fun w' => w'.cell? ⟨bc, 0, none⟩ = some (.slice A n c) ∧ w'.cell? ⟨W.heap.size, 0, none⟩ = some (.int .i64 x.id) ∧ w'.cell? ⟨W.heap.size, 1, none⟩ = some (.slice x.A x.n x.c) ∧ w'.cell? ⟨W.heap.size, 2, none⟩ = some (.pointer (some ⟨p, 0, none⟩)) ∧ w'.cell? ⟨W.heap.size + 1, 0, none⟩ = some (.int .i64 y.id) ∧ w'.cell? ⟨W.heap.size + 1, 1, none⟩ = some (.slice y.A y.n y.c) ∧ w'.cell? ⟨W.heap.size + 1, 2, none⟩ = some (.pointer (some ⟨p, 0, none⟩))) w') := Lib.hid fun w' h => ⟨(h.cell (p := ⟨bc, 0, none⟩) (Nat.lt_of_lt_of_le hcl hb0.size)).trans ((hb0.cell (p := ⟨bc, 0, none⟩) hcl).trans hbc), (hX.below h).2.1, (hX.below h).2.2.1, (hX.below h).2.2.2, (hY.below h).2.1, (hY.below h).2.2.1, (hY.below h).2.2.2⟩
  clear hb0 hX hY hbc hcl
  go_enter Tryz.func69, Tryz.ntmps69
  go_wp2_with fail
  try rw [hW2]
  clear hW2
  have hS0 : (fun w' => w'.cell? ⟨bc, 0, none⟩ = some (.slice A n c) ∧ w'.cell? ⟨W.heap.size, 0, none⟩ = some (.int .i64 x.id) ∧ w'.cell? ⟨W.heap.size, 1, none⟩ = some (.slice x.A x.n x.c) ∧ w'.cell? ⟨W.heap.size, 2, none⟩ = some (.pointer (some ⟨p, 0, none⟩)) ∧ w'.cell? ⟨W.heap.size + 1, 0, none⟩ = some (.int .i64 y.id) ∧ w'.cell? ⟨W.heap.size + 1, 1, none⟩ = some (.slice y.A y.n y.c) ∧ w'.cell? ⟨W.heap.size + 1, 2, none⟩ = some (.pointer (some ⟨p, 0, none⟩))) (World.drew W2) := HS.out _ (Below.refl _ _).drew
  refine wp_region_held (S := (fun w' => w'.cell? ⟨bc, 0, none⟩ = some (.slice A n c) ∧ w'.cell? ⟨W.heap.size, 0, none⟩ = some (.int .i64 x.id) ∧ w'.cell? ⟨W.heap.size, 1, none⟩ = some (.slice x.A x.n x.c) ∧ w'.cell? ⟨W.heap.size, 2, none⟩ = some (.pointer (some ⟨p, 0, none⟩)) ∧ w'.cell? ⟨W.heap.size + 1, 0, none⟩ = some (.int .i64 y.id) ∧ w'.cell? ⟨W.heap.size + 1, 1, none⟩ = some (.slice y.A y.n y.c) ∧ w'.cell? ⟨W.heap.size + 1, 2, none⟩ = some (.pointer (some ⟨p, 0, none⟩)))) (by kernel_rfl) ?_
  change wpAnyH _ _ _ _ _ _ _ _ (World.drew _)
  refine takeY 6 (i := 0) (v := ?vx1) rfl rfl (by kernel_rfl) (by kernel_rfl) (by kernel_rfl) (fun _ _ _ h => h) (by kernel_rfl) ?yx1 hS0 ?_
  case yx1 =>
    intro w' hw'; (try dsimp only at hw'); obtain ⟨c_0, x_0, x_1, x_2, y_0, y_1, y_2⟩ := hw'; go_simp; try with_reducible rfl
  simp only [Act.put, List.setIfInBounds_toArray, List.set_cons_zero, List.set_cons_succ]
  refine takeY 7 (i := 1) (v := ?vx2) rfl rfl (by kernel_rfl) (by kernel_rfl) (by kernel_rfl) (fun _ _ _ h => h) (by kernel_rfl) ?yx2 hS0 ?_
  case yx2 =>
    intro w' hw'; (try dsimp only at hw'); obtain ⟨c_0, x_0, x_1, x_2, y_0, y_1, y_2⟩ := hw'; go_simp; try with_reducible rfl
  simp only [Act.put, List.setIfInBounds_toArray, List.set_cons_zero, List.set_cons_succ]
  refine takeY 8 (i := 2) (v := ?vx3) rfl rfl (by kernel_rfl) (by kernel_rfl) (by kernel_rfl) (fun _ _ _ h => h) (by kernel_rfl) ?yx3 hS0 ?_
  case yx3 =>
    intro w' hw'; (try dsimp only at hw'); obtain ⟨c_0, x_0, x_1, x_2, y_0, y_1, y_2⟩ := hw'; go_simp; try with_reducible rfl
  simp only [Act.put, List.setIfInBounds_toArray, List.set_cons_zero, List.set_cons_succ]
  refine takeY 11 (i := 5) (v := ?vx4) rfl rfl (by kernel_rfl) (by kernel_rfl) (by kernel_rfl) (fun _ _ _ h => h) (by kernel_rfl) ?yx4 hS0 ?_
  case yx4 =>
    intro w' hw'; (try dsimp only at hw'); obtain ⟨c_0, x_0, x_1, x_2, y_0, y_1, y_2⟩ := hw'; go_simp; try with_reducible rfl
  simp only [Act.put, List.setIfInBounds_toArray, List.set_cons_zero, List.set_cons_succ]
  refine takeY 12 (i := 6) (v := ?vx5) rfl rfl (by kernel_rfl) (by kernel_rfl) (by kernel_rfl) (fun _ _ _ h => h) (by kernel_rfl) ?yx5 hS0 ?_
  case yx5 =>
    intro w' hw'; (try dsimp only at hw'); obtain ⟨c_0, x_0, x_1, x_2, y_0, y_1, y_2⟩ := hw'; go_simp; try with_reducible rfl
  simp only [Act.put, List.setIfInBounds_toArray, List.set_cons_zero, List.set_cons_succ]
  refine takeY 13 (i := 7) (v := ?vx6) rfl rfl (by kernel_rfl) (by kernel_rfl) (by kernel_rfl) (fun _ _ _ h => h) (by kernel_rfl) ?yx6 hS0 ?_
  case yx6 =>
    intro w' hw'; (try dsimp only at hw'); obtain ⟨c_0, x_0, x_1, x_2, y_0, y_1, y_2⟩ := hw'; go_simp; try with_reducible rfl
  simp only [Act.put, List.setIfInBounds_toArray, List.set_cons_zero, List.set_cons_succ]
  refine wpAnyH_ready (rs := [3]) (by kernel_rfl) (by simp) ?_
  refine (AllReadyH.cons rfl (fun K hK => ?_) AllReadyH.nil)
  go_simp; go_at_call 53; refine (HCy.out _ (HB2.out.drew)).mono ?_; rintro e w3 ⟨⟨A3, c3, rfl⟩, hb3⟩; have HB3 := Lib.hid (below_on (HB2.out.drew) hb3); have HQ3 := Lib.hid (below_on (Below.refl _ W2).drew hb3); clear hb3
  refine hK.out _ _ (HS.out _ HQ3.out) (fun hS1 => ?_)
  clear hK K
  try simp only [Act.put, List.setIfInBounds_toArray, List.set_cons_zero, List.set_cons_succ]
  refine takeY 10 (i := 4) (v := ?vx7) rfl rfl (by kernel_rfl) (by kernel_rfl) (by kernel_rfl) (fun _ _ _ h => h) (by kernel_rfl) ?yx7 hS1 ?_
  case yx7 =>
    intro w' hw'; (try dsimp only at hw'); obtain ⟨c_0, x_0, x_1, x_2, y_0, y_1, y_2⟩ := hw'; go_simp; try with_reducible rfl
  simp only [Act.put, List.setIfInBounds_toArray, List.set_cons_zero, List.set_cons_succ]
  refine wpAnyH_ready (rs := [8]) (by kernel_rfl) (by simp) ?_
  refine (AllReadyH.cons rfl (fun K hK => ?_) AllReadyH.nil)
  go_simp; go_at_call 53; refine (HCx.out _ (HB3.out)).mono ?_; rintro e w4 ⟨⟨A4, c4, rfl⟩, hb4⟩; have HB4 := Lib.hid (below_on (HB3.out) hb4); have HQ4 := Lib.hid (below_on HQ3.out hb4); clear hb4
  refine hK.out _ _ (HS.out _ HQ4.out) (fun hS2 => ?_)
  clear hK K
  try simp only [Act.put, List.setIfInBounds_toArray, List.set_cons_zero, List.set_cons_succ]
  refine takeY 15 (i := 9) (v := ?vx8) rfl rfl (by kernel_rfl) (by kernel_rfl) (by kernel_rfl) (fun _ _ _ h => h) (by kernel_rfl) ?yx8 hS2 ?_
  case yx8 =>
    intro w' hw'; (try dsimp only at hw'); obtain ⟨c_0, x_0, x_1, x_2, y_0, y_1, y_2⟩ := hw'; go_simp; try with_reducible rfl
  simp only [Act.put, List.setIfInBounds_toArray, List.set_cons_zero, List.set_cons_succ]
  refine wpAnyH_ready (rs := [10]) (by kernel_rfl) (by simp) ?_
  refine (AllReadyH.cons rfl (fun K hK => ?_) AllReadyH.nil)
  go_simp; go_at_call 70; refine (cmp_int _ _ _).mono ?_; rintro e w5 ⟨rfl, rfl⟩
  refine hK.out _ _ (HS.out _ HQ4.out) (fun hS3 => ?_)
  clear hK K
  try simp only [Act.put, List.setIfInBounds_toArray, List.set_cons_zero, List.set_cons_succ]
  refine takeY 5 (i := 11) (v := ?vx9) rfl rfl (by kernel_rfl) (by kernel_rfl) (by kernel_rfl) (fun _ _ _ h => h) (by kernel_rfl) ?yx9 hS3 ?_
  case yx9 =>
    intro w' hw'; (try dsimp only at hw'); obtain ⟨c_0, x_0, x_1, x_2, y_0, y_1, y_2⟩ := hw'; go_simp; try with_reducible rfl
  simp only [Act.put, List.setIfInBounds_toArray, List.set_cons_zero, List.set_cons_succ]
  refine wpAnyH_done (by kernel_rfl) ?_ _
  clear hS0 hS1 hS2 hS3
  go_wp2
  go_ret
  exact ⟨rfl, HB4.out⟩
set_option maxRecDepth 20000 in
set_option maxHeartbeats 1600000 in
theorem stableB (w : World) (B p : Nat) (A : Option Addr) (n c : Nat) (l : List It) (h : OwnG 67 (ctCells p) 3 w B (.slice A n c) l) (hn : n ≤ 16) (key : It → Int) (bc : Nat)
    (hcmp : CmpB w (.slice A n c) p l key 69 #[.pointer (some ⟨bc, 0, none⟩)]) :
    Calls Tryz.prog 102 #[.slice A n c, .int .i64 n, .func (.func 69) #[] #[.pointer (some ⟨bc, 0, none⟩)]] w fun e w' => e = .returned (.tuple #[]) ∧ OwnG 67 (ctCells p) 3 w' B (.slice A n c) (sortL (ltK key) l) ∧ w.grownBy w' (Value.slice A n c).ownBlock := by
  have HI := Lib.hid (insB w B p A n c l h (by omega) key bc hcmp)
  clear h hcmp
  go_enter Tryz.func102, Tryz.ntmps102
  go_wp2
  go_loopw [7, 8] (fun a b wr => a = .int .i64 0 ∧ b = .int .i64 20 ∧ wr = w) (fun _ _ _ => 0)
  case atStart => exact ⟨rfl, rfl, rfl⟩
  case round =>
    obtain ⟨rfl, rfl, rfl⟩ := hrel
    have h20 : ¬ ((20 : Int) ≤ (n : Int)) := by omega
    go_wp2_with fail
    refine HI.out.mono ?_
    rintro e w2 ⟨rfl, ho, hg⟩
    have HO := Lib.hid ho
    have HG := Lib.hid hg
    clear ho hg HI
    go_wp2
    go_loopw [6] (fun a wq => a = .int .i64 20 ∧ wq = w2) (fun _ _ => 0)
    case atStart => exact ⟨rfl, rfl⟩
    case round =>
      obtain ⟨rfl, rfl⟩ := hrel
      have h21 : ¬ ((20 : Int) < (n : Int)) := by omega
      go_wp2
      go_end0
      exact ⟨rfl, HO.out, HG.out⟩
set_option maxRecDepth 20000 in
theorem sortStableB (w : World) (B p : Nat) (A : Option Addr) (n c : Nat) (l : List It) (h : OwnG 67 (ctCells p) 3 w B (.slice A n c) l) (hn : n ≤ 16) (key : It → Int) (bc : Nat)
    (hcmp : CmpB w (.slice A n c) p l key 69 #[.pointer (some ⟨bc, 0, none⟩)]) :
    Calls Tryz.prog 68 #[.slice A n c, .func (.func 69) #[] #[.pointer (some ⟨bc, 0, none⟩)]] w fun e w' => e = .returned (.tuple #[]) ∧ OwnG 67 (ctCells p) 3 w' B (.slice A n c) (sortL (ltK key) l) ∧ w.grownBy w' (Value.slice A n c).ownBlock := by
  have HI := Lib.hid (stableB w B p A n c l h hn key bc hcmp)
  clear h hcmp
  go_enter Tryz.func68, Tryz.ntmps68
  go_wp2_with fail
  refine HI.out.mono ?_
  rintro e w2 ⟨rfl, ho, hg⟩
  have HO := Lib.hid ho
  have HG := Lib.hid hg
  clear ho hg HI
  go_wp2
  go_end0
  exact ⟨rfl, HO.out, HG.out⟩
set_option maxRecDepth 20000 in
set_option maxHeartbeats 3200000 in
theorem iProg (w : World) (B : Nat) (A : Option Addr) (n c : Nat) (its : List It) (A2 : Option Addr) (n2 c2 : Nat) (ns : List Nd) (h : InB w B A n its A2 n2 c2 ns) (L : List Int) (hL : ProgP (datN ns) (its.map It.dat) L) :
    Calls Tryz.prog 24 #[.slice A n c, .slice A2 n2 c2] w fun e w' => (∃ v, e = .returned v ∧ OwnI w' w.heap.size v L) ∧ Below w.heap.size w w' := by
  have HC := Lib.hid (iContest w B A n c its A2 n2 c2 ns h)
  have HX := Lib.hid h.i
  have hn := h.hn
  have HL := Lib.hid hL
  clear h hL
  go_enter Tryz.func24, Tryz.ntmps24
  go_wp2_with fail
  refine HC.out.mono ?_
  rintro e w1 ⟨hout, hb1⟩
  have HB1 := Lib.hid hb1
  clear hb1 HC
  rcases hout with ⟨t, p, g, he, ha, ht, rfl, hct⟩ | ⟨hno, rfl⟩
  · have HLe : Hid (L = idL (sortL (ltK fun u => -(subI t its u : Int)) (bestI t its))) := Lib.hid (by
      rw [HL.out.yes he ha ht, prog_ids, top_sort _ _ _ (fun x _ => subI_le t its x)]
      congr 2
      funext x y
      unfold ltK
      rw [Bool.eq_iff_iff, decide_eq_true_iff, decide_eq_true_iff]
      show subI t its y < subI t its x ↔ -(subI t its x : Int) < -(subI t its y : Int)
      omega)
    have h16 : its.length ≤ 16 := by have h1 := ha.2.2; rwa [List.length_map] at h1
    have HCt := Lib.hid hct
    clear he ha ht hct
    obtain ⟨W2, hW2⟩ : ∃ W2, w1.alloc (.cells #[.slice (some ⟨g, 0, none⟩) n n] 56) = W2 := ⟨_, rfl⟩
    have hb2 : Below w1.heap.size w1 W2 := by rw [← hW2]; exact (Below.refl _ w1).alloc (Nat.le_refl _) _
    have hc0 : W2.cell? ⟨w1.heap.size, 0, none⟩ = some (.slice (some ⟨g, 0, none⟩) n n) := by rw [← hW2]; exact World.cell?_alloc_at _ _ _ _ rfl
    have hcl : w1.heap.size < W2.heap.size := by rw [← hW2]; simp
    have HB2 := Lib.hid (below_on HB1.out hb2)
    have HB12 := Lib.hid hb2
    have HC0 := Lib.hid (And.intro hc0 hcl)
    have HW2 := Lib.hid hW2
    clear hb2 hcl hc0 hW2
    go_wp2_with fail
    try rw [HW2.out]
    clear HW2
    refine (ctWhere W2 p (some ⟨g, 0, none⟩) n n its (HCt.out.step HB12.out).r (by omega) _ (by simp) _ (fun u => bestB t (its.map It.dat) u.dat) (fun W hW u hu => by
        have hs := (HCt.out.step HB12.out).step hW
        exact iBestOf W B w.heap.size p t _ n n its hs hn u (hs.x u hu).1 (hs.x u hu).2)).mono ?_
    rintro e w3 ⟨⟨v3, rfl, ho⟩, hb3⟩
    have HB3 := Lib.hid (below_on HB2.out hb3)
    have HB23 := Lib.hid hb3
    obtain ⟨A3, c3, rfl, -, -⟩ := ho.shape
    have HOw := Lib.hid ho
    have hle : (its.filter fun u => bestB t (its.map It.dat) u.dat).length ≤ 16 := Nat.le_trans (List.length_filter_le _ _) h16
    clear ho hb3
    go_wp2_with fail
    refine (sortStableB w3 W2.heap.size p A3 _ c3 _ HOw.out hle (fun u => -((subI t its u : Int))) w1.heap.size (fun W hW x hx y hy => by
        have hbW : Below W2.heap.size W2 W := HB23.out.grown hW HB23.out.size fun k hk => HOw.out.lows k hk
        have hs := (HCt.out.step HB12.out).step hbW
        have hxm := (List.mem_filter.1 hx).1
        have hym := (List.mem_filter.1 hy).1
        exact progCls W B w.heap.size p t _ n n its hs hn w1.heap.size ((hbW.cell (p := ⟨w1.heap.size, 0, none⟩) HC0.out.2).trans HC0.out.1) (Nat.lt_of_lt_of_le HC0.out.2 hbW.size) x y (hs.x x hxm).1 (hs.x y hym).1 (hs.x x hxm).2 (hs.x y hym).2)).mono ?_
    rintro e w4 ⟨rfl, ho4, hg4⟩
    have HB4 : Hid (Below w.heap.size w w4) := Lib.hid (HB3.out.grown hg4 HB3.out.size fun k hk => Nat.le_trans HB2.out.size (HOw.out.lows k hk))
    have hrd := OwnG.read (ctCells_len p) ho4
    have HRd := Lib.hid hrd
    clear hrd hg4 ho4
    go_wp2_with fail
    refine (ctIds w4 p A3 _ c3 _ HRd.out (by omega)).mono ?_
    rintro e w5 ⟨⟨v, rfl, ho⟩, hb5⟩
    have HB5 := Lib.hid (below_on HB4.out hb5)
    have HI := Lib.hid (ownI_lower ho HB4.out.size)
    clear ho hb5 hle
    go_wp2
    go_ret
    exact ⟨⟨_, rfl, by rw [HLe.out]; exact HI.out⟩, HB5.out⟩
  · obtain rfl := HL.out.no hno
    clear hno
    obtain ⟨W2, hW2⟩ : ∃ W2, w1.alloc (.cells #[.slice none 0 0] 56) = W2 := ⟨_, rfl⟩
    have hb2 : Below w1.heap.size w1 W2 := by rw [← hW2]; exact (Below.refl _ w1).alloc (Nat.le_refl _) _
    have hc0 : W2.cell? ⟨w1.heap.size, 0, none⟩ = some (.slice none 0 0) := by rw [← hW2]; exact World.cell?_alloc_at _ _ _ _ rfl
    have hcl : w1.heap.size < W2.heap.size := by rw [← hW2]; simp
    have HB2 := Lib.hid (below_on HB1.out hb2)
    have HB12 := Lib.hid hb2
    have HC0 := Lib.hid (And.intro hc0 hcl)
    have HW2 := Lib.hid hW2
    clear hb2 hcl hc0 hW2
    go_wp2_with fail
    try rw [HW2.out]
    clear HW2
    refine (ctWhere W2 0 none 0 0 ([] : List It) (ReadG.nil _ _ _) (by omega) _ (by simp) _ (fun u => false) (fun W hW u hu => absurd hu (by simp))).mono ?_
    rintro e w3 ⟨⟨v3, rfl, ho⟩, hb3⟩
    have HB3 := Lib.hid (below_on HB2.out hb3)
    have HB23 := Lib.hid hb3
    obtain ⟨A3, c3, rfl, -, -⟩ := ho.shape
    have HOw := Lib.hid ho
    have hle : (([] : List It).filter fun u => false).length ≤ 16 := by simp
    clear ho hb3
    go_wp2_with fail
    refine (sortStableB w3 W2.heap.size 0 A3 _ c3 _ HOw.out hle (fun u => -((0 : Int))) w1.heap.size (fun W hW x hx y hy => absurd hx (by simp))).mono ?_
    rintro e w4 ⟨rfl, ho4, hg4⟩
    have HB4 : Hid (Below w.heap.size w w4) := Lib.hid (HB3.out.grown hg4 HB3.out.size fun k hk => Nat.le_trans HB2.out.size (HOw.out.lows k hk))
    have hrd := OwnG.read (ctCells_len 0) ho4
    have HRd := Lib.hid hrd
    clear hrd hg4 ho4
    go_wp2_with fail
    refine (ctIds w4 0 A3 _ c3 _ HRd.out (by omega)).mono ?_
    rintro e w5 ⟨⟨v, rfl, ho⟩, hb5⟩
    have HB5 := Lib.hid (below_on HB4.out hb5)
    have HI := Lib.hid (ownI_lower ho HB4.out.size)
    clear ho hb5 hle
    go_wp2
    go_ret
    exact ⟨⟨_, rfl, HI.out⟩, HB5.out⟩
end Go.Proofs.YtnjnlcmddcjcfaaGreat.num
namespace Go.Proofs.YtnjnlcmddcjcfaaGreat
set_option maxRecDepth 20000
open Go

theorem leaving_alone {P : Program} {last : Machine} {w : World} {t : Trace} (h : aloneAtReturn P last w t) : leavingAtReturn P last w t := by
  obtain ⟨⟨h1, h0⟩, h2, h3⟩ := h
  refine ⟨h2, ⟨fun g hg => ?_, h0⟩, h3⟩
  refine ⟨0, ?_⟩
  unfold Machine.othersDone at h1
  unfold Goroutine.LeavesIn
  have := List.all_eq_true.1 h1 g (by simpa using hg)
  simpa using this
theorem leaving_handed {a : Assume} {C : Checked} {os : Os} {f : FuncId} {r : Reach} {Pre : World → Array Value → Prop} {Post : World → Array Value → Value → World → Prop}
    (h : ReturnsInHanded a C os f r Pre Post) : ReturnsInLeavingWide a C os f r Pre Post := fun enter =>
  ReturnsInOpen.mono (fun _ _ _ x => leaving_alone x) (fun _ x => x) (h enter)
end Go.Proofs.YtnjnlcmddcjcfaaGreat
