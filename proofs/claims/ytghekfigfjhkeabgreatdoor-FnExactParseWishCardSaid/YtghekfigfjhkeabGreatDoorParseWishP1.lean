/- What the law FnExactParseWish leans on, part 1: contracts of the functions that it calls. -/
import Derived.Test.YtghekfigfjhkeabGreatDoorPairText
import Derived.Test.YtghekfigfjhkeabGreatDoorPairProg
import Derived.Test.YtghekfigfjhkeabGreatDoorRegion
import Derived.Test.YtghekfigfjhkeabGreatDoorWishText
import Derived.Test.YtghekfigfjhkeabGreatDoorWishSpecB
import Derived.Test.YtghekfigfjhkeabGreatDoorWishSpec
import Derived.Test.YtghekfigfjhkeabGreatDoorWishVal
import Derived.Test.YtghekfigfjhkeabGreatDoorPairOpen
import Derived.Test.YtghekfigfjhkeabGreatDoorWishMem
import Derived.Test.YtghekfigfjhkeabGreatDoorItemCut
import Derived.Test.YtghekfigfjhkeabGreatDoorWishRead
import Derived.Test.YtghekfigfjhkeabGreatDoorPairParseI
import Derived.Maps.AppendAt
import Derived.Test.YtghekfigfjhkeabGreatDoorItemIds
import Derived.Test.YtghekfigfjhkeabGreatDoorItemParseI
import Derived.Deep.RegionLaw
import Derived.Deep.Cut
import Derived.Test.YtghekfigfjhkeabGreatDoorPairMarkI
namespace Go.Proofs.YtghekfigfjhkeabGreatDoor.num
open Go.RowKit Go.Maps
set_option linter.unusedVariables false
set_option linter.unusedSimpArgs false

theorem pair_bytes (x y : Int) : fmtB x ++ ⟨#[62]⟩ ++ fmtB y = ⟨(pairT (x, y)).toArray⟩ := by
  apply bytes_ext
  simp [pairT, fmtB, ByteArray.data_append]
theorem fmt_R {n : Int} (h : InR n) : (fmtB n).size ≤ 2 := fmt_small n (inR2 h).1 (inR2 h).2
set_option maxRecDepth 20000 in
set_option maxHeartbeats 1600000 in
theorem iFmtPair (w : World) (x y : Int) (hx : InR x) (hy : InR y) (hpow : Pow w) :
    Calls Tryz.prog 53 #[.agg #[.int .i64 x, .int .i64 y]] w fun e w' => e = .returned (.string ⟨(pairT (x, y)).toArray⟩) ∧ Below w.heap.size w w' := by
  have HPw := Lib.hid hpow
  have hfx := fmt_R hx
  have hfy := fmt_R hy
  have hx0 := inR2 hx
  have hy0 := inR2 hy
  have hcat1 : ¬ (9223372036854775807 < (fmtB x).size + 1) := by omega
  have hcat2 : ¬ (9223372036854775807 < (fmtB x).size + 1 + (fmtB y).size) := by omega
  clear hpow hx hy
  go_enter Tryz.func53, Tryz.ntmps53
  go_wp2
  obtain ⟨wg, hwg⟩ : ∃ wg, wg = w.alloc (.cells #[.int .i64 x, .int .i64 y] 45) := ⟨_, rfl⟩
  rw [← hwg]
  have HB1 : Hid (Below w.heap.size w wg) := Lib.hid (by rw [hwg]; exact (Below.refl _ w).alloc (Nat.le_refl _) _)
  have hg : w.heap.size < wg.heap.size := by rw [hwg]; simp
  have q0 : wg.cell? ⟨w.heap.size, 0, none⟩ = some (.int .i64 x) := by rw [hwg]; exact World.cell?_alloc_at _ _ _ _ rfl
  have q1 : wg.cell? ⟨w.heap.size, 1, none⟩ = some (.int .i64 y) := by rw [hwg]; exact World.cell?_alloc_at _ _ _ _ rfl
  clear hwg
  have hs0 : Below wg.heap.size wg wg.drew ∧ wg.drew.cell? ⟨w.heap.size, 0, none⟩ = some (.int .i64 x) ∧ wg.drew.cell? ⟨w.heap.size, 1, none⟩ = some (.int .i64 y) := ⟨(Below.refl _ _).drew, q0, q1⟩
  refine wp_region_held (S := fun w' => Below wg.heap.size wg w' ∧ w'.cell? ⟨w.heap.size, 0, none⟩ = some (.int .i64 x) ∧ w'.cell? ⟨w.heap.size, 1, none⟩ = some (.int .i64 y)) (by kernel_rfl) ?_
  change wpAnyH _ _ _ _ _ _ _ _ (World.drew _)
  refine takeY 3 (i := 0) (v := ?v0a) rfl rfl (by kernel_rfl) (by kernel_rfl) (by kernel_rfl) (fun _ _ _ h => h) (by kernel_rfl) ?y0a hs0 ?_
  case y0a =>
    intro w' hw'; (try dsimp only at hw'); obtain ⟨e0, e1, e2⟩ := hw'; go_simp; try with_reducible rfl
  simp only [Act.put, List.setIfInBounds_toArray, List.set_cons_zero, List.set_cons_succ]
  refine takeY 4 (i := 1) (v := ?v1a) rfl rfl (by kernel_rfl) (by kernel_rfl) (by kernel_rfl) (fun _ _ _ h => h) (by kernel_rfl) ?y1a hs0 ?_
  case y1a =>
    intro w' hw'; (try dsimp only at hw'); obtain ⟨e0, e1, e2⟩ := hw'; go_simp; try with_reducible rfl
  simp only [Act.put, List.setIfInBounds_toArray, List.set_cons_zero, List.set_cons_succ]
  refine takeY 7 (i := 4) (v := ?v4a) rfl rfl (by kernel_rfl) (by kernel_rfl) (by kernel_rfl) (fun _ _ _ h => h) (by kernel_rfl) ?y4a hs0 ?_
  case y4a =>
    intro w' hw'; (try dsimp only at hw'); obtain ⟨e0, e1, e2⟩ := hw'; go_simp; try with_reducible rfl
  simp only [Act.put, List.setIfInBounds_toArray, List.set_cons_zero, List.set_cons_succ]
  refine takeY 8 (i := 5) (v := ?v5a) rfl rfl (by kernel_rfl) (by kernel_rfl) (by kernel_rfl) (fun _ _ _ h => h) (by kernel_rfl) ?y5a hs0 ?_
  case y5a =>
    intro w' hw'; (try dsimp only at hw'); obtain ⟨e0, e1, e2⟩ := hw'; go_simp; try with_reducible rfl
  simp only [Act.put, List.setIfInBounds_toArray, List.set_cons_zero, List.set_cons_succ]
  refine wpAnyH_ready (rs := [2]) (by kernel_rfl) (by simp) ?_
  refine AllReadyH.cons rfl (fun K hK => ?_) AllReadyH.nil
  go_simp; go_at_call 34; refine (iFormat x (by omega) (by omega) _ (HPw.out.below HB1.out.drew)).mono ?_; rintro e w3 ⟨rfl, h3⟩; replace h3 := (Below.refl wg.heap.size wg).drew.trans (h3.mono (Nat.le_refl _))
  refine hK.out _ _ ⟨h3, (h3.cell (p := ⟨w.heap.size, 0, none⟩) hg).trans q0, (h3.cell (p := ⟨w.heap.size, 1, none⟩) hg).trans q1⟩ (fun hS1 => ?_)
  clear hK K
  try simp only [Act.put, List.setIfInBounds_toArray, List.set_cons_zero, List.set_cons_succ]
  refine takeY 6 (i := 3) (v := ?v3a) rfl rfl (by kernel_rfl) (by kernel_rfl) (by kernel_rfl) (fun _ _ _ h => h) (by kernel_rfl) ?y3a hS1 ?_
  case y3a =>
    intro w' hw'; (try dsimp only at hw'); obtain ⟨e0, e1, e2⟩ := hw'; go_simp; try with_reducible rfl
  simp only [Act.put, List.setIfInBounds_toArray, List.set_cons_zero, List.set_cons_succ]
  refine wpAnyH_ready (rs := [6]) (by kernel_rfl) (by simp) ?_
  refine AllReadyH.cons rfl (fun K hK => ?_) AllReadyH.nil
  go_simp; go_at_call 34; refine (iFormat y (by omega) (by omega) _ (HPw.out.below (HB1.out.trans (h3.mono HB1.out.size)))).mono ?_; rintro e w4 ⟨rfl, h4⟩; replace h4 := h3.trans (h4.mono h3.size)
  refine hK.out _ _ ⟨h4, (h4.cell (p := ⟨w.heap.size, 0, none⟩) hg).trans q0, (h4.cell (p := ⟨w.heap.size, 1, none⟩) hg).trans q1⟩ (fun hS2 => ?_)
  clear hK K
  try simp only [Act.put, List.setIfInBounds_toArray, List.set_cons_zero, List.set_cons_succ]
  refine takeY 10 (i := 7) (v := ?v7a) rfl rfl (by kernel_rfl) (by kernel_rfl) (by kernel_rfl) (fun _ _ _ h => h) (by kernel_rfl) ?y7a hS2 ?_
  case y7a =>
    intro w' hw'; (try dsimp only at hw'); obtain ⟨e0, e1, e2⟩ := hw'; go_simp; try with_reducible rfl
  simp only [Act.put, List.setIfInBounds_toArray, List.set_cons_zero, List.set_cons_succ]
  refine takeY 2 (i := 8) (v := ?v8a) rfl rfl (by kernel_rfl) (by kernel_rfl) (by kernel_rfl) (fun _ _ _ h => h) (by kernel_rfl) ?y8a hS2 ?_
  case y8a =>
    intro w' hw'; (try dsimp only at hw'); obtain ⟨e0, e1, e2⟩ := hw'; go_simp; try with_reducible rfl
  simp only [Act.put, List.setIfInBounds_toArray, List.set_cons_zero, List.set_cons_succ]
  refine wpAnyH_done (by kernel_rfl) ?_ _
  clear hcat1 hcat2 hfx hfy
  go_wp2
  go_ret
  exact ⟨by rw [← pair_bytes]; rfl, HB1.out.trans (h4.mono HB1.out.size)⟩

def wordP (ps : List (Int × Int)) (j : Nat) : ByteArray := ⟨(pairT (ps.getD j (0, 0))).toArray⟩
theorem wordP_at {ps : List (Int × Int)} {k : Nat} {p : Int × Int} (h : ps[k]? = some p) : wordP ps k = ⟨(pairT p).toArray⟩ := by
  unfold wordP
  rw [List.getD_eq_getElem?_getD, h]; rfl
set_option maxHeartbeats 1600000 in
theorem iJoinP (w : World) (B : Nat) (A : Option Addr) (n cc : Nat) (ps : List (Int × Int)) (hi : Pairs w B A n ps) (hB : B ≤ w.heap.size) (h8 : n ≤ 8) (h : ∀ p, p ∈ ps → InR p.1 ∧ InR p.2) (hpow : Pow w) :
    Calls Tryz.prog 52 #[.slice A n cc, .string ⟨#[44]⟩, .func (.func 53) #[] #[]] w fun e w' => e = .returned (.string ⟨(Lib.join (ps.map pairT) [44]).toArray⟩) ∧ Below w.heap.size w w' := by
  have hmk := run_make_row' (P := Tryz.prog) 31 9 (.string ⟨#[]⟩) 16 Tryz.underlying31 info_string rfl .i64 .i64 n (by omega) (by omega)
  have HX := Lib.hid hi
  have HP := Lib.hid hpow
  have HR0 := Lib.hid h
  clear hi hpow h
  go_enter Tryz.func52, Tryz.ntmps52
  go_wp2
  clear hmk
  go_loopw [15] (fun i wr => ∃ k : Nat, k ≤ n ∧ i = .int .i64 k ∧ wr.rowIs w.heap.size 9 n (fun j => if j < k then .string (wordP ps j) else .string ⟨#[]⟩) ∧ Below w.heap.size w wr) (fun i _ => n - (intOf i).toNat)
  case atStart =>
    exact ⟨0, Nat.zero_le _, rfl, by simpa using World.rowIs_made w (.string ⟨#[]⟩) n 9, (Below.refl _ _).alloc (Nat.le_refl _) _⟩
  case round =>
    obtain ⟨k, hk, rfl, hrow, hbel⟩ := hrel
    have HR := Lib.hid hrow
    have HB := Lib.hid hbel
    by_cases hlt : k < n
    · obtain ⟨b1, off, x, y, rfl, hb1, hat, hc1, hc2⟩ := HX.out.at k hlt
      have f1 := (hbel.cell (p := ⟨b1, off + k * 2, none⟩) (by exact Nat.lt_of_lt_of_le hb1 hB)).trans hc1
      have f2 := (hbel.cell (p := ⟨b1, off + k * 2 + 1, none⟩) (by exact Nat.lt_of_lt_of_le hb1 hB)).trans hc2
      have HT := Lib.hid hat
      have HRng := Lib.hid (HR0.out (x, y) (List.mem_of_getElem? hat))
      have hx1 := hbel.alloc hbel.size (.cells #[.int .i64 x, .int .i64 y] 45)
      have hx2 := (Below.refl wr.heap.size wr).alloc (Nat.le_refl _) (.cells #[.int .i64 x, .int .i64 y] 45)
      have HX1 := Lib.hid hx1
      have HX2 := Lib.hid hx2
      have hlt' : (k : Int) < (n : Int) := by omega
      clear hrow hbel hc1 hc2 hat hx1 hx2
      go_wp2_with fail
      refine (iFmtPair _ x y HRng.out.1 HRng.out.2 (HP.out.below HX1.out)).mono ?_
      rintro e w1 ⟨rfl, hb⟩
      have HB2 := Lib.hid (HX2.out.trans (hb.mono HX2.out.size))
      have hrow1 := rowIs_below HR.out HB2.out (World.rowIs.lt HR.out)
      have g1 : w1.cell? ⟨w.heap.size, k, none⟩ = some (.string ⟨#[]⟩) := by rw [World.rowIs.cell hrow1 hlt, if_neg (by omega)]
      have g2 := World.rowIs.frozen hrow1 k
      have HR1 := Lib.hid hrow1
      have HB1 := Lib.hid (HX1.out.trans (hb.mono HX1.out.size))
      clear hb hrow1 f1 f2
      go_wp2
      go_roundw
      case rel =>
        refine ⟨k + 1, by omega, by go_num, (World.rowIs.set HR1.out k (.string ⟨(pairT (x, y)).toArray⟩)).congr (fun j _ => ?_), HB1.out.setCell (Nat.le_refl _) _⟩
        by_cases h1 : j = k
        · subst h1; rw [if_pos rfl, if_pos (by omega), wordP_at HT.out]
        · by_cases h2 : j < k
          · rw [if_neg h1, if_pos h2, if_pos (by omega)]
          · rw [if_neg h1, if_neg h2, if_neg (by omega)]
      case measure => simp [intOf]; omega
    · obtain rfl : k = n := by omega
      obtain ⟨xs, hxs⟩ : ∃ xs : List ByteArray, xs = ps.map fun p => ⟨(pairT p).toArray⟩ := ⟨_, rfl⟩
      have hxl : xs.length = k := by rw [hxs, List.length_map]; exact HX.out.1
      have hmap : xs.map (·.data.toList) = ps.map pairT := by rw [hxs, List.map_map]; rfl
      have hcells : ∀ (j : Nat) x, xs[j]? = some x → wr.cell? ⟨w.heap.size, 0 + j, none⟩ = some (.string x) := by
        intro j x hx
        have hj : j < k := by
          rcases Nat.lt_or_ge j xs.length with h' | h'
          · omega
          · rw [List.getElem?_eq_none h'] at hx; cases hx
        rw [hxs, List.getElem?_map] at hx
        obtain ⟨p, hp, rfl⟩ := Option.map_eq_some_iff.1 hx
        rw [Nat.zero_add, World.rowIs.cell hrow hj, if_pos hj, wordP_at hp]
      have hsz : (Lib.join (xs.map (·.data.toList)) (⟨#[44]⟩ : ByteArray).data.toList).length ≤ 140737488355328 := by
        rw [hmap]
        have := join_le (m := 5) 44 (ps.map pairT) fun x hx => by
          obtain ⟨p, hp, rfl⟩ := List.mem_map.1 hx
          exact pairT_len (HR0.out p hp)
        rw [List.length_map, HX.out.1] at this
        show (Lib.join (ps.map pairT) [44]).length ≤ _
        omega
      have hJ := Tryz.strings_Join w.heap.size 0 k xs ⟨#[44]⟩ wr hcells (World.rowIs.lt hrow) (by omega) (by omega) hsz
      rw [hxl, hmap] at hJ
      have HJ := Lib.hid hJ
      clear hrow hbel hcells hJ hsz hmap hxl hxs
      go_wp2_with fail
      refine HJ.out.mono ?_
      rintro e w1 ⟨rfl, hb⟩
      have HB1 := Lib.hid (HB.out.trans (hb.mono HB.out.size))
      clear hb
      go_wp2
      go_ret
      exact ⟨rfl, HB1.out⟩

theorem OkP.n8 {w : World} {B : Nat} {A : Option Addr} {n : Nat} {ps : List (Int × Int)} (h : OkP ps) (hi : Pairs w B A n ps) : n ≤ 8 := by have := h.2; have := hi.1; omega
set_option maxHeartbeats 1600000 in
theorem iFmtP (w : World) (B : Nat) (A : Option Addr) (n c : Nat) (ps : List (Int × Int)) (hi : Pairs w B A n ps) (hB : B ≤ w.heap.size) (hn : n ≤ 1048576) (q : Bool) (hq : q = true ↔ OkP ps) (hpow : Pow w) :
    Calls Tryz.prog 36 #[.slice A n c] w fun e w' => e = .returned (.string (fmtP ps q)) ∧ Below w.heap.size w w' := by
  have HX := Lib.hid hi
  have HQ := Lib.hid hq
  have HP := Lib.hid hpow
  clear hi hq hpow
  go_enter Tryz.func36, Tryz.ntmps36
  go_wp2_with fail
  refine (iArePairs w B A n c ps HX.out hB hn q HQ.out).mono ?_
  rintro e w1 ⟨rfl, hb1⟩
  have HB1 := Lib.hid hb1
  clear hb1
  cases q
  · go_wp2
    go_ret
    exact ⟨rfl, HB1.out⟩
  · have hok := HQ.out.1 (by first | rfl | trivial)
    have h8 := hok.n8 HX.out
    have HOk := Lib.hid hok
    clear hok
    by_cases h0 : n = 0
    · have hps : Hid (ps = []) := Lib.hid (List.eq_nil_of_length_eq_zero (HX.out.1.trans h0))
      subst h0
      go_wp2
      go_ret
      exact ⟨by rw [hps.out]; rfl, HB1.out⟩
    · have hps : Hid (ps ≠ []) := Lib.hid fun e => h0 (by rw [← HX.out.1, e]; rfl)
      have hne : ((n : Int) == 0) = false := by simpa using h0
      go_wp2_with fail
      refine (iJoinP w1 B A n c ps (HX.out.below (HB1.out.mono hB)) (Nat.le_trans hB HB1.out.size) h8 HOk.out.1.rng (HP.out.below HB1.out)).mono ?_
      rintro e w2 ⟨rfl, hb2⟩
      have HB2 := Lib.hid (HB1.out.trans (hb2.mono HB1.out.size))
      clear hb2
      go_wp2
      go_ret
      exact ⟨by unfold fmtP pairsT; rw [if_pos rfl, if_neg hps.out]; rfl, HB2.out⟩

set_option maxRecDepth 20000 in
set_option maxHeartbeats 3200000 in
theorem sFmtP (w : World) (B : Nat) (A : Option Addr) (n c : Nat) (ps : List (Int × Int)) (hi : Pairs w B A n ps) (hB : B ≤ w.heap.size) (hn : n ≤ 1048576) (q : Bool) (hq : q = true ↔ OkP ps) :
    Calls Tryz.prog 23 #[.slice A n c] w fun e w' => e = .returned (.string (fmtP ps q)) ∧ Below w.heap.size w w' := by
  have HX := Lib.hid hi
  have HQ := Lib.hid hq
  clear hi hq
  go_enter Tryz.func23, Tryz.ntmps23
  go_wp2_with fail
  refine (sArePairs w B A n c ps HX.out hB hn q HQ.out).mono ?_
  rintro e w1 ⟨rfl, hb1⟩
  have HB1 := Lib.hid hb1
  clear hb1
  cases q
  · go_wp2
    go_ret
    exact ⟨rfl, HB1.out⟩
  · have hok := HQ.out.1 (by first | rfl | trivial)
    have h8 := hok.n8 HX.out
    have HOk := Lib.hid hok
    clear hok
    go_wp2
    go_loopw [3, 4] (fun s i wr => ∃ k : Nat, k ≤ n ∧ i = .int .i64 k ∧ s = .string (preP ps k) ∧ Below w.heap.size w wr) (fun _ i _ => n - (intOf i).toNat)
    case atStart => exact ⟨0, Nat.zero_le _, rfl, rfl, HB1.out⟩
    case round =>
      clear HB1
      obtain ⟨k, hk, rfl, rfl, hbel⟩ := hrel
      have HB := Lib.hid hbel
      have hpre := preP_small HOk.out.1.rng k
      by_cases hlt : k < n
      · obtain ⟨b1, off, x, y, rfl, hb1, hat, hc1, hc2⟩ := HX.out.at k hlt
        have f1 := (hbel.cell (p := ⟨b1, off + k * 2, none⟩) (by exact Nat.lt_of_lt_of_le hb1 hB)).trans hc1
        have f2 := (hbel.cell (p := ⟨b1, off + k * 2 + 1, none⟩) (by exact Nat.lt_of_lt_of_le hb1 hB)).trans hc2
        have hl1 : b1 < wr.heap.size := Nat.lt_of_lt_of_le hb1 (Nat.le_trans hB hbel.size)
        have hrng := HOk.out.1.rng (x, y) (List.mem_of_getElem? hat)
        have hfx := fmt_R hrng.1
        have hfy := fmt_R hrng.2
        obtain ⟨hx0, hx1⟩ := inR2 hrng.1
        obtain ⟨hy0, hy1⟩ := inR2 hrng.2
        have hlt' : (k : Int) < (n : Int) := by omega
        dsimp only at hfx hfy hx0 hx1 hy0 hy1
        by_cases hk0 : k = 0
        · have hstep : preP ps k ++ fmtB x ++ ⟨#[62]⟩ ++ fmtB y = preP ps (k + 1) := by
            subst hk0
            rw [preP_zero]
            exact preP_one hat
          obtain ⟨sb, hsb⟩ : ∃ sb : ByteArray, sb = preP ps k := ⟨_, rfl⟩
          rw [← hsb] at hstep hpre ⊢
          have HStep := Lib.hid hstep
          have hsz : sb.size ≤ 50 := by omega
          have hkn : ¬ ((0 : Int) < (k : Int)) := by omega
          clear hsb hat hrng hc1 hc2 hbel hpre hstep hk0
          go_wp2
          clear hkn
          have hc1 : ¬ (9223372036854775807 < sb.size + (fmtB x).size) := by omega
          have hc2 : ¬ (9223372036854775807 < sb.size + (fmtB x).size + 1) := by omega
          have hc3 : ¬ (9223372036854775807 < sb.size + (fmtB x).size + 1 + (fmtB y).size) := by omega
          have hs0 : Below wr.heap.size wr wr.drew ∧ wr.drew.cell? ⟨b1, off + k * 2, none⟩ = some (.int .i64 x) ∧ wr.drew.cell? ⟨b1, off + k * 2 + 1, none⟩ = some (.int .i64 y) := ⟨(Below.refl _ _).drew, f1, f2⟩
          refine wp_region_held (S := fun w' => Below wr.heap.size wr w' ∧ w'.cell? ⟨b1, off + k * 2, none⟩ = some (.int .i64 x) ∧ w'.cell? ⟨b1, off + k * 2 + 1, none⟩ = some (.int .i64 y)) (by kernel_rfl) ?_
          change wpAnyH _ _ _ _ _ _ _ _ (World.drew _)
          refine takeY 18 (i := 0) (v := ?v0b) rfl rfl (by kernel_rfl) (by kernel_rfl) (by kernel_rfl) (fun _ _ _ h => h) (by kernel_rfl) ?y0b hs0 ?_
          case y0b =>
            intro w' hw'; (try dsimp only at hw'); obtain ⟨e0, e1, e2⟩ := hw'; go_simp; try with_reducible rfl
          simp only [Act.put, List.setIfInBounds_toArray, List.set_cons_zero, List.set_cons_succ]
          refine takeY 19 (i := 1) (v := ?v1b) rfl rfl (by kernel_rfl) (by kernel_rfl) (by kernel_rfl) (fun _ _ _ h => h) (by kernel_rfl) ?y1b hs0 ?_
          case y1b =>
            intro w' hw'; (try dsimp only at hw'); obtain ⟨e0, e1, e2⟩ := hw'; go_simp; try with_reducible rfl
          simp only [Act.put, List.setIfInBounds_toArray, List.set_cons_zero, List.set_cons_succ]
          refine takeY 20 (i := 2) (v := ?v2b) rfl rfl (by kernel_rfl) (by kernel_rfl) (by kernel_rfl) (fun _ _ _ h => h) (by kernel_rfl) ?y2b hs0 ?_
          case y2b =>
            intro w' hw'; (try dsimp only at hw'); obtain ⟨e0, e1, e2⟩ := hw'; go_simp; try with_reducible rfl
          simp only [Act.put, List.setIfInBounds_toArray, List.set_cons_zero, List.set_cons_succ]
          refine takeY 21 (i := 3) (v := ?v3b) rfl rfl (by kernel_rfl) (by kernel_rfl) (by kernel_rfl) (fun _ _ _ h => h) (by kernel_rfl) ?y3b hs0 ?_
          case y3b =>
            intro w' hw'; (try dsimp only at hw'); obtain ⟨e0, e1, e2⟩ := hw'; go_simp; try with_reducible rfl
          simp only [Act.put, List.setIfInBounds_toArray, List.set_cons_zero, List.set_cons_succ]
          refine takeY 22 (i := 4) (v := ?v4b) rfl rfl (by kernel_rfl) (by kernel_rfl) (by kernel_rfl) (fun _ _ _ h => h) (by kernel_rfl) ?y4b hs0 ?_
          case y4b =>
            intro w' hw'; (try dsimp only at hw'); obtain ⟨e0, e1, e2⟩ := hw'; go_simp; try with_reducible rfl
          simp only [Act.put, List.setIfInBounds_toArray, List.set_cons_zero, List.set_cons_succ]
          refine takeY 23 (i := 5) (v := ?v5b) rfl rfl (by kernel_rfl) (by kernel_rfl) (by kernel_rfl) (fun _ _ _ h => h) (by kernel_rfl) ?y5b hs0 ?_
          case y5b =>
            intro w' hw'; (try dsimp only at hw'); obtain ⟨e0, e1, e2⟩ := hw'; go_simp; try with_reducible rfl
          simp only [Act.put, List.setIfInBounds_toArray, List.set_cons_zero, List.set_cons_succ]
          refine takeY 27 (i := 9) (v := ?v9b) rfl rfl (by kernel_rfl) (by kernel_rfl) (by kernel_rfl) (fun _ _ _ h => h) (by kernel_rfl) ?y9b hs0 ?_
          case y9b =>
            intro w' hw'; (try dsimp only at hw'); obtain ⟨e0, e1, e2⟩ := hw'; go_simp; try with_reducible rfl
          simp only [Act.put, List.setIfInBounds_toArray, List.set_cons_zero, List.set_cons_succ]
          refine takeY 28 (i := 10) (v := ?v10b) rfl rfl (by kernel_rfl) (by kernel_rfl) (by kernel_rfl) (fun _ _ _ h => h) (by kernel_rfl) ?y10b hs0 ?_
          case y10b =>
            intro w' hw'; (try dsimp only at hw'); obtain ⟨e0, e1, e2⟩ := hw'; go_simp; try with_reducible rfl
          simp only [Act.put, List.setIfInBounds_toArray, List.set_cons_zero, List.set_cons_succ]
          refine takeY 29 (i := 11) (v := ?v11b) rfl rfl (by kernel_rfl) (by kernel_rfl) (by kernel_rfl) (fun _ _ _ h => h) (by kernel_rfl) ?y11b hs0 ?_
          case y11b =>
            intro w' hw'; (try dsimp only at hw'); obtain ⟨e0, e1, e2⟩ := hw'; go_simp; try with_reducible rfl
          simp only [Act.put, List.setIfInBounds_toArray, List.set_cons_zero, List.set_cons_succ]
          refine takeY 30 (i := 12) (v := ?v12b) rfl rfl (by kernel_rfl) (by kernel_rfl) (by kernel_rfl) (fun _ _ _ h => h) (by kernel_rfl) ?y12b hs0 ?_
          case y12b =>
            intro w' hw'; (try dsimp only at hw'); obtain ⟨e0, e1, e2⟩ := hw'; go_simp; try with_reducible rfl
          simp only [Act.put, List.setIfInBounds_toArray, List.set_cons_zero, List.set_cons_succ]
          refine takeY 31 (i := 13) (v := ?v13b) rfl rfl (by kernel_rfl) (by kernel_rfl) (by kernel_rfl) (fun _ _ _ h => h) (by kernel_rfl) ?y13b hs0 ?_
          case y13b =>
            intro w' hw'; (try dsimp only at hw'); obtain ⟨e0, e1, e2⟩ := hw'; go_simp; try with_reducible rfl
          simp only [Act.put, List.setIfInBounds_toArray, List.set_cons_zero, List.set_cons_succ]
          refine wpAnyH_ready (rs := [6]) (by kernel_rfl) (by simp) ?_
          refine AllReadyH.cons rfl (fun K hK => ?_) AllReadyH.nil
          go_simp; go_at_call 25; refine (sFormat x (by omega) (by omega) _).mono ?_; rintro e w3 ⟨rfl, h3⟩; replace h3 := (Below.refl wr.heap.size wr).drew.trans (h3.mono (Nat.le_refl _))
          refine hK.out _ _ ⟨h3, (h3.cell (p := ⟨b1, off + k * 2, none⟩) hl1).trans f1, (h3.cell (p := ⟨b1, off + k * 2 + 1, none⟩) hl1).trans f2⟩ (fun hS1 => ?_)
          clear hK K
          try simp only [Act.put, List.setIfInBounds_toArray, List.set_cons_zero, List.set_cons_succ]
          refine takeY 25 (i := 7) (v := ?v7b) rfl rfl (by kernel_rfl) (by kernel_rfl) (by kernel_rfl) (fun _ _ _ h => h) (by kernel_rfl) ?y7b hS1 ?_
          case y7b =>
            intro w' hw'; (try dsimp only at hw'); obtain ⟨e0, e1, e2⟩ := hw'; go_simp; try with_reducible rfl
          simp only [Act.put, List.setIfInBounds_toArray, List.set_cons_zero, List.set_cons_succ]
          refine takeY 26 (i := 8) (v := ?v8b) rfl rfl (by kernel_rfl) (by kernel_rfl) (by kernel_rfl) (fun _ _ _ h => h) (by kernel_rfl) ?y8b hS1 ?_
          case y8b =>
            intro w' hw'; (try dsimp only at hw'); obtain ⟨e0, e1, e2⟩ := hw'; go_simp; try with_reducible rfl
          simp only [Act.put, List.setIfInBounds_toArray, List.set_cons_zero, List.set_cons_succ]
          refine wpAnyH_ready (rs := [14]) (by kernel_rfl) (by simp) ?_
          refine AllReadyH.cons rfl (fun K hK => ?_) AllReadyH.nil
          go_simp; go_at_call 25; refine (sFormat y (by omega) (by omega) _).mono ?_; rintro e w4 ⟨rfl, h4⟩; replace h4 := h3.trans (h4.mono h3.size)
          refine hK.out _ _ ⟨h4, (h4.cell (p := ⟨b1, off + k * 2, none⟩) hl1).trans f1, (h4.cell (p := ⟨b1, off + k * 2 + 1, none⟩) hl1).trans f2⟩ (fun hS2 => ?_)
          clear hK K
          try simp only [Act.put, List.setIfInBounds_toArray, List.set_cons_zero, List.set_cons_succ]
          refine takeY 33 (i := 15) (v := ?v15b) rfl rfl (by kernel_rfl) (by kernel_rfl) (by kernel_rfl) (fun _ _ _ h => h) (by kernel_rfl) ?y15b hS2 ?_
          case y15b =>
            intro w' hw'; (try dsimp only at hw'); obtain ⟨e0, e1, e2⟩ := hw'; go_simp; try with_reducible rfl
          simp only [Act.put, List.setIfInBounds_toArray, List.set_cons_zero, List.set_cons_succ]
          refine takeY 3 (i := 16) (v := ?v16b) rfl rfl (by kernel_rfl) (by kernel_rfl) (by kernel_rfl) (fun _ _ _ h => h) (by kernel_rfl) ?y16b hS2 ?_
          case y16b =>
            intro w' hw'; (try dsimp only at hw'); obtain ⟨e0, e1, e2⟩ := hw'; go_simp; try with_reducible rfl
          simp only [Act.put, List.setIfInBounds_toArray, List.set_cons_zero, List.set_cons_succ]
          refine wpAnyH_done (by kernel_rfl) ?_ _
          have HB' := Lib.hid (HB.out.trans (h4.mono HB.out.size))
          clear hc1 hc2 hc3 hs0 hS1 hS2 h3 h4 f1 f2 HB
          go_wp2
          go_roundw
          case rel => exact ⟨k + 1, by omega, by go_num, by rw [← HStep.out], HB'.out⟩
          case measure => simp [intOf]; omega
        · have HStep := Lib.hid (preP_step (by omega) hat)
          have hkp : (0 : Int) < (k : Int) := by omega
          have hc0 : ¬ (9223372036854775807 < (preP ps k).size + 1) := by omega
          obtain ⟨sb, hsb⟩ : ∃ sb : ByteArray, sb = preP ps k ++ ⟨#[44]⟩ := ⟨_, rfl⟩
          have hsz : sb.size ≤ 50 := by
            rw [hsb, ByteArray.size_append]
            have : (⟨#[44]⟩ : ByteArray).size = 1 := rfl
            omega
          rw [← hsb] at HStep
          clear hat hrng hc1 hc2 hbel hpre
          go_wp2
          rw [← hsb]
          clear hsb hc0
          have hc1 : ¬ (9223372036854775807 < sb.size + (fmtB x).size) := by omega
          have hc2 : ¬ (9223372036854775807 < sb.size + (fmtB x).size + 1) := by omega
          have hc3 : ¬ (9223372036854775807 < sb.size + (fmtB x).size + 1 + (fmtB y).size) := by omega
          have hs0 : Below wr.heap.size wr wr.drew ∧ wr.drew.cell? ⟨b1, off + k * 2, none⟩ = some (.int .i64 x) ∧ wr.drew.cell? ⟨b1, off + k * 2 + 1, none⟩ = some (.int .i64 y) := ⟨(Below.refl _ _).drew, f1, f2⟩
          refine wp_region_held (S := fun w' => Below wr.heap.size wr w' ∧ w'.cell? ⟨b1, off + k * 2, none⟩ = some (.int .i64 x) ∧ w'.cell? ⟨b1, off + k * 2 + 1, none⟩ = some (.int .i64 y)) (by kernel_rfl) ?_
          change wpAnyH _ _ _ _ _ _ _ _ (World.drew _)
          refine takeY 18 (i := 0) (v := ?v0c) rfl rfl (by kernel_rfl) (by kernel_rfl) (by kernel_rfl) (fun _ _ _ h => h) (by kernel_rfl) ?y0c hs0 ?_
          case y0c =>
            intro w' hw'; (try dsimp only at hw'); obtain ⟨e0, e1, e2⟩ := hw'; go_simp; try with_reducible rfl
          simp only [Act.put, List.setIfInBounds_toArray, List.set_cons_zero, List.set_cons_succ]
          refine takeY 19 (i := 1) (v := ?v1c) rfl rfl (by kernel_rfl) (by kernel_rfl) (by kernel_rfl) (fun _ _ _ h => h) (by kernel_rfl) ?y1c hs0 ?_
          case y1c =>
            intro w' hw'; (try dsimp only at hw'); obtain ⟨e0, e1, e2⟩ := hw'; go_simp; try with_reducible rfl
          simp only [Act.put, List.setIfInBounds_toArray, List.set_cons_zero, List.set_cons_succ]
          refine takeY 20 (i := 2) (v := ?v2c) rfl rfl (by kernel_rfl) (by kernel_rfl) (by kernel_rfl) (fun _ _ _ h => h) (by kernel_rfl) ?y2c hs0 ?_
          case y2c =>
            intro w' hw'; (try dsimp only at hw'); obtain ⟨e0, e1, e2⟩ := hw'; go_simp; try with_reducible rfl
          simp only [Act.put, List.setIfInBounds_toArray, List.set_cons_zero, List.set_cons_succ]
          refine takeY 21 (i := 3) (v := ?v3c) rfl rfl (by kernel_rfl) (by kernel_rfl) (by kernel_rfl) (fun _ _ _ h => h) (by kernel_rfl) ?y3c hs0 ?_
          case y3c =>
            intro w' hw'; (try dsimp only at hw'); obtain ⟨e0, e1, e2⟩ := hw'; go_simp; try with_reducible rfl
          simp only [Act.put, List.setIfInBounds_toArray, List.set_cons_zero, List.set_cons_succ]
          refine takeY 22 (i := 4) (v := ?v4c) rfl rfl (by kernel_rfl) (by kernel_rfl) (by kernel_rfl) (fun _ _ _ h => h) (by kernel_rfl) ?y4c hs0 ?_
          case y4c =>
            intro w' hw'; (try dsimp only at hw'); obtain ⟨e0, e1, e2⟩ := hw'; go_simp; try with_reducible rfl
          simp only [Act.put, List.setIfInBounds_toArray, List.set_cons_zero, List.set_cons_succ]
          refine takeY 23 (i := 5) (v := ?v5c) rfl rfl (by kernel_rfl) (by kernel_rfl) (by kernel_rfl) (fun _ _ _ h => h) (by kernel_rfl) ?y5c hs0 ?_
          case y5c =>
            intro w' hw'; (try dsimp only at hw'); obtain ⟨e0, e1, e2⟩ := hw'; go_simp; try with_reducible rfl
          simp only [Act.put, List.setIfInBounds_toArray, List.set_cons_zero, List.set_cons_succ]
          refine takeY 27 (i := 9) (v := ?v9c) rfl rfl (by kernel_rfl) (by kernel_rfl) (by kernel_rfl) (fun _ _ _ h => h) (by kernel_rfl) ?y9c hs0 ?_
          case y9c =>
            intro w' hw'; (try dsimp only at hw'); obtain ⟨e0, e1, e2⟩ := hw'; go_simp; try with_reducible rfl
          simp only [Act.put, List.setIfInBounds_toArray, List.set_cons_zero, List.set_cons_succ]
          refine takeY 28 (i := 10) (v := ?v10c) rfl rfl (by kernel_rfl) (by kernel_rfl) (by kernel_rfl) (fun _ _ _ h => h) (by kernel_rfl) ?y10c hs0 ?_
          case y10c =>
            intro w' hw'; (try dsimp only at hw'); obtain ⟨e0, e1, e2⟩ := hw'; go_simp; try with_reducible rfl
          simp only [Act.put, List.setIfInBounds_toArray, List.set_cons_zero, List.set_cons_succ]
          refine takeY 29 (i := 11) (v := ?v11c) rfl rfl (by kernel_rfl) (by kernel_rfl) (by kernel_rfl) (fun _ _ _ h => h) (by kernel_rfl) ?y11c hs0 ?_
          case y11c =>
            intro w' hw'; (try dsimp only at hw'); obtain ⟨e0, e1, e2⟩ := hw'; go_simp; try with_reducible rfl
          simp only [Act.put, List.setIfInBounds_toArray, List.set_cons_zero, List.set_cons_succ]
          refine takeY 30 (i := 12) (v := ?v12c) rfl rfl (by kernel_rfl) (by kernel_rfl) (by kernel_rfl) (fun _ _ _ h => h) (by kernel_rfl) ?y12c hs0 ?_
          case y12c =>
            intro w' hw'; (try dsimp only at hw'); obtain ⟨e0, e1, e2⟩ := hw'; go_simp; try with_reducible rfl
          simp only [Act.put, List.setIfInBounds_toArray, List.set_cons_zero, List.set_cons_succ]
          refine takeY 31 (i := 13) (v := ?v13c) rfl rfl (by kernel_rfl) (by kernel_rfl) (by kernel_rfl) (fun _ _ _ h => h) (by kernel_rfl) ?y13c hs0 ?_
          case y13c =>
            intro w' hw'; (try dsimp only at hw'); obtain ⟨e0, e1, e2⟩ := hw'; go_simp; try with_reducible rfl
          simp only [Act.put, List.setIfInBounds_toArray, List.set_cons_zero, List.set_cons_succ]
          refine wpAnyH_ready (rs := [6]) (by kernel_rfl) (by simp) ?_
          refine AllReadyH.cons rfl (fun K hK => ?_) AllReadyH.nil
          go_simp; go_at_call 25; refine (sFormat x (by omega) (by omega) _).mono ?_; rintro e w3 ⟨rfl, h3⟩; replace h3 := (Below.refl wr.heap.size wr).drew.trans (h3.mono (Nat.le_refl _))
          refine hK.out _ _ ⟨h3, (h3.cell (p := ⟨b1, off + k * 2, none⟩) hl1).trans f1, (h3.cell (p := ⟨b1, off + k * 2 + 1, none⟩) hl1).trans f2⟩ (fun hS1 => ?_)
          clear hK K
          try simp only [Act.put, List.setIfInBounds_toArray, List.set_cons_zero, List.set_cons_succ]
          refine takeY 25 (i := 7) (v := ?v7c) rfl rfl (by kernel_rfl) (by kernel_rfl) (by kernel_rfl) (fun _ _ _ h => h) (by kernel_rfl) ?y7c hS1 ?_
          case y7c =>
            intro w' hw'; (try dsimp only at hw'); obtain ⟨e0, e1, e2⟩ := hw'; go_simp; try with_reducible rfl
          simp only [Act.put, List.setIfInBounds_toArray, List.set_cons_zero, List.set_cons_succ]
          refine takeY 26 (i := 8) (v := ?v8c) rfl rfl (by kernel_rfl) (by kernel_rfl) (by kernel_rfl) (fun _ _ _ h => h) (by kernel_rfl) ?y8c hS1 ?_
          case y8c =>
            intro w' hw'; (try dsimp only at hw'); obtain ⟨e0, e1, e2⟩ := hw'; go_simp; try with_reducible rfl
          simp only [Act.put, List.setIfInBounds_toArray, List.set_cons_zero, List.set_cons_succ]
          refine wpAnyH_ready (rs := [14]) (by kernel_rfl) (by simp) ?_
          refine AllReadyH.cons rfl (fun K hK => ?_) AllReadyH.nil
          go_simp; go_at_call 25; refine (sFormat y (by omega) (by omega) _).mono ?_; rintro e w4 ⟨rfl, h4⟩; replace h4 := h3.trans (h4.mono h3.size)
          refine hK.out _ _ ⟨h4, (h4.cell (p := ⟨b1, off + k * 2, none⟩) hl1).trans f1, (h4.cell (p := ⟨b1, off + k * 2 + 1, none⟩) hl1).trans f2⟩ (fun hS2 => ?_)
          clear hK K
          try simp only [Act.put, List.setIfInBounds_toArray, List.set_cons_zero, List.set_cons_succ]
          refine takeY 33 (i := 15) (v := ?v15c) rfl rfl (by kernel_rfl) (by kernel_rfl) (by kernel_rfl) (fun _ _ _ h => h) (by kernel_rfl) ?y15c hS2 ?_
          case y15c =>
            intro w' hw'; (try dsimp only at hw'); obtain ⟨e0, e1, e2⟩ := hw'; go_simp; try with_reducible rfl
          simp only [Act.put, List.setIfInBounds_toArray, List.set_cons_zero, List.set_cons_succ]
          refine takeY 3 (i := 16) (v := ?v16c) rfl rfl (by kernel_rfl) (by kernel_rfl) (by kernel_rfl) (fun _ _ _ h => h) (by kernel_rfl) ?y16c hS2 ?_
          case y16c =>
            intro w' hw'; (try dsimp only at hw'); obtain ⟨e0, e1, e2⟩ := hw'; go_simp; try with_reducible rfl
          simp only [Act.put, List.setIfInBounds_toArray, List.set_cons_zero, List.set_cons_succ]
          refine wpAnyH_done (by kernel_rfl) ?_ _
          have HB' := Lib.hid (HB.out.trans (h4.mono HB.out.size))
          clear hc1 hc2 hc3 hs0 hS1 hS2 h3 h4 f1 f2 HB
          go_wp2
          go_roundw
          case rel => exact ⟨k + 1, by omega, by go_num, by rw [← HStep.out], HB'.out⟩
          case measure => simp [intOf]; omega
      · obtain rfl : k = n := by omega
        clear hbel hpre
        by_cases h0 : k = 0
        · have hps : Hid (ps = []) := Lib.hid (List.eq_nil_of_length_eq_zero (HX.out.1.trans h0))
          subst h0
          rw [preP_zero]
          go_wp2
          go_ret
          exact ⟨by rw [hps.out]; rfl, HB.out⟩
        · have hps : ps ≠ [] := fun e => h0 (by rw [← HX.out.1, e]; rfl)
          obtain ⟨h1, h2, h3⟩ := preP_all HX.out.1 hps
          rw [h1]
          obtain ⟨sb, hsb⟩ : ∃ sb : ByteArray, sb = fmtP ps true := ⟨_, rfl⟩
          rw [← hsb] at h2 h3 ⊢
          have HSb := Lib.hid hsb
          clear hsb h1 hps
          go_wp2
          go_ret
          exact ⟨by rw [← HSb.out]; rfl, HB.out⟩
end Go.Proofs.YtghekfigfjhkeabGreatDoor.num
namespace Go.Proofs.YtghekfigfjhkeabGreatDoor.num
open Go.RowKit
set_option linter.unusedVariables false

theorem fmt_R' {n : Int} (h : InR n) : (fmtB n).size ≤ 2 := fmt_small n (inR2 h).1 (inR2 h).2
set_option maxHeartbeats 1600000 in
theorem sInts (w : World) (B : Nat) (A : Option Addr) (n c : Nat) (l : List Int) (hi : Ints w B A n l) (hB : B ≤ w.heap.size) (hn : n ≤ 1048576) (h : ∀ v ∈ l, InR v) :
    Calls Tryz.prog 26 #[.slice A n c] w fun e w' => e = .returned (.string ⟨(intsT l).toArray⟩) ∧ Below w.heap.size w w' := by
  have HX := Lib.hid hi
  have HR := Lib.hid h
  clear hi h
  go_enter Tryz.func26, Tryz.ntmps26
  go_wp2
  go_loopw [3, 4] (fun s i wr => ∃ k : Nat, k ≤ n ∧ i = .int .i64 k ∧ s = .string (preI l k) ∧ Below w.heap.size w wr) (fun _ i _ => n - (intOf i).toNat)
  case atStart => exact ⟨0, Nat.zero_le _, rfl, rfl, Below.refl _ _⟩
  case round =>
    obtain ⟨k, hk, rfl, rfl, hbel⟩ := hrel
    have HB := Lib.hid hbel
    have hpre := preI_small HR.out k
    by_cases hlt : k < n
    · obtain ⟨b1, off, x, rfl, hb1, hat, hc1⟩ := HX.out.at k hlt
      have f1 := (hbel.cell (p := ⟨b1, off + k, none⟩) (by exact Nat.lt_of_lt_of_le hb1 hB)).trans hc1
      have hrng := HR.out x (List.mem_of_getElem? hat)
      have hfx := fmt_R' hrng
      obtain ⟨hx0, hx1⟩ := inR2 hrng
      have hlt' : (k : Int) < (n : Int) := by omega
      by_cases hk0 : k = 0
      · have hstep : preI l k ++ fmtB x = preI l (k + 1) := by
          subst hk0
          rw [preI_zero]
          exact preI_one hat
        obtain ⟨sb, hsb⟩ : ∃ sb : ByteArray, sb = preI l k := ⟨_, rfl⟩
        rw [← hsb] at hstep hpre ⊢
        have HStep := Lib.hid hstep
        have hsz : sb.size ≤ 3145728 := by omega
        have hkn : ¬ ((0 : Int) < (k : Int)) := by omega
        clear hsb hat hrng hc1 hbel hpre hstep hk0
        go_wp2_with fail
        refine (sFormat x (by omega) (by omega) _).mono ?_
        rintro e w1 ⟨rfl, hb⟩
        have HB1 := Lib.hid (HB.out.trans (hb.mono HB.out.size))
        have hc1 : ¬ (9223372036854775807 < sb.size + (fmtB x).size) := by omega
        clear hb f1 hkn
        go_wp2
        go_roundw
        case rel => exact ⟨k + 1, by omega, by go_num, by rw [HStep.out], HB1.out⟩
        case measure => simp [intOf]; omega
      · have hstep : preI l k ++ ⟨#[44]⟩ ++ fmtB x = preI l (k + 1) := preI_step (by omega) hat
        obtain ⟨sb, hsb⟩ : ∃ sb : ByteArray, sb = preI l k := ⟨_, rfl⟩
        rw [← hsb] at hstep hpre ⊢
        have HStep := Lib.hid hstep
        have hsz : sb.size ≤ 3145728 := by omega
        have hkn : (0 : Int) < (k : Int) := by omega
        have hc0 : ¬ (9223372036854775807 < sb.size + 1) := by omega
        have hc1 : ¬ (9223372036854775807 < sb.size + 1 + (fmtB x).size) := by omega
        clear hsb hat hrng hbel hpre hstep hk0
        go_wp2_with fail
        refine (sFormat x (by omega) (by omega) _).mono ?_
        rintro e w1 ⟨rfl, hb⟩
        have HB1 := Lib.hid (HB.out.trans (hb.mono HB.out.size))
        clear hb f1 hkn
        go_wp2
        go_roundw
        case rel => exact ⟨k + 1, by omega, by go_num, by rw [HStep.out], HB1.out⟩
        case measure => simp [intOf]; omega
    · obtain rfl : k = n := by omega
      clear hbel hpre
      go_wp2
      go_ret
      exact ⟨by unfold preI; rw [ptake_all HX.out.1]; rfl, HB.out⟩

def wordI (l : List Int) (j : Nat) : ByteArray := fmtB (l.getD j 0)
theorem wordI_at {l : List Int} {k : Nat} {x : Int} (h : l[k]? = some x) : wordI l k = fmtB x := by
  unfold wordI
  rw [List.getD_eq_getElem?_getD, h]; rfl
set_option maxHeartbeats 1600000 in
theorem iInts (w : World) (B : Nat) (A : Option Addr) (n cc : Nat) (l : List Int) (hi : Ints w B A n l) (hB : B ≤ w.heap.size) (hn : n ≤ 1048576) (h : ∀ v ∈ l, InR v) (hpow : Pow w) :
    Calls Tryz.prog 35 #[.slice A n cc, .string ⟨#[44]⟩, .func (.func 34) #[] #[]] w fun e w' => e = .returned (.string ⟨(intsT l).toArray⟩) ∧ Below w.heap.size w w' := by
  have hmk := run_make_row' (P := Tryz.prog) 31 9 (.string ⟨#[]⟩) 16 Tryz.underlying31 info_string rfl .i64 .i64 n (by omega) (by omega)
  have HX := Lib.hid hi
  have HP := Lib.hid hpow
  have HR0 := Lib.hid h
  clear hi hpow h
  go_enter Tryz.func35, Tryz.ntmps35
  go_wp2
  clear hmk
  go_loopw [15] (fun i wr => ∃ k : Nat, k ≤ n ∧ i = .int .i64 k ∧ wr.rowIs w.heap.size 9 n (fun j => if j < k then .string (wordI l j) else .string ⟨#[]⟩) ∧ Below w.heap.size w wr) (fun i _ => n - (intOf i).toNat)
  case atStart =>
    exact ⟨0, Nat.zero_le _, rfl, by simpa using World.rowIs_made w (.string ⟨#[]⟩) n 9, (Below.refl _ _).alloc (Nat.le_refl _) _⟩
  case round =>
    obtain ⟨k, hk, rfl, hrow, hbel⟩ := hrel
    have HR := Lib.hid hrow
    have HB := Lib.hid hbel
    by_cases hlt : k < n
    · obtain ⟨b1, off, x, rfl, hb1, hat, hc1⟩ := HX.out.at k hlt
      have f1 := (hbel.cell (p := ⟨b1, off + k, none⟩) (by exact Nat.lt_of_lt_of_le hb1 hB)).trans hc1
      have HT := Lib.hid hat
      have hrng := HR0.out x (List.mem_of_getElem? hat)
      obtain ⟨hx0, hx1⟩ := inR2 hrng
      have hlt' : (k : Int) < (n : Int) := by omega
      clear hrow hbel hc1 hat hrng
      go_wp2_with fail
      refine (iFormat x (by omega) (by omega) _ (HP.out.below HB.out)).mono ?_
      rintro e w1 ⟨rfl, hb⟩
      have HB2 := Lib.hid hb
      have hrow1 := rowIs_below HR.out HB2.out (World.rowIs.lt HR.out)
      have g1 : w1.cell? ⟨w.heap.size, k, none⟩ = some (.string ⟨#[]⟩) := by rw [World.rowIs.cell hrow1 hlt, if_neg (by omega)]
      have g2 := World.rowIs.frozen hrow1 k
      have HR1 := Lib.hid hrow1
      have HB1 := Lib.hid (HB.out.trans (hb.mono HB.out.size))
      clear hb hrow1 f1
      go_wp2
      go_roundw
      case rel =>
        refine ⟨k + 1, by omega, by go_num, (World.rowIs.set HR1.out k (.string (fmtB x))).congr (fun j _ => ?_), HB1.out.setCell (Nat.le_refl _) _⟩
        by_cases h1 : j = k
        · subst h1; rw [if_pos rfl, if_pos (by omega), wordI_at HT.out]
        · by_cases h2 : j < k
          · rw [if_neg h1, if_pos h2, if_pos (by omega)]
          · rw [if_neg h1, if_neg h2, if_neg (by omega)]
      case measure => simp [intOf]; omega
    · obtain rfl : k = n := by omega
      obtain ⟨xs, hxs⟩ : ∃ xs : List ByteArray, xs = l.map fmtB := ⟨_, rfl⟩
      have hxl : xs.length = k := by rw [hxs, List.length_map]; exact HX.out.1
      have hmap : xs.map (·.data.toList) = l.map Lib.itoa := by rw [hxs, List.map_map]; rfl
      have hcells : ∀ (j : Nat) x, xs[j]? = some x → wr.cell? ⟨w.heap.size, 0 + j, none⟩ = some (.string x) := by
        intro j x hx
        have hj : j < k := by
          rcases Nat.lt_or_ge j xs.length with h' | h'
          · omega
          · rw [List.getElem?_eq_none h'] at hx; cases hx
        rw [hxs, List.getElem?_map] at hx
        obtain ⟨p, hp, rfl⟩ := Option.map_eq_some_iff.1 hx
        rw [Nat.zero_add, World.rowIs.cell hrow hj, if_pos hj, wordI_at hp]
      have hsz : (Lib.join (xs.map (·.data.toList)) (⟨#[44]⟩ : ByteArray).data.toList).length ≤ 140737488355328 := by
        rw [hmap]
        have := intsT_len HR0.out
        rw [HX.out.1] at this
        show (intsT l).length ≤ _
        omega
      have hJ : Calls Tryz.prog 37 #[.slice (some ⟨w.heap.size, 0, none⟩) k k, .string ⟨#[44]⟩] wr fun e w' => e = .returned (.string ⟨(intsT l).toArray⟩) ∧ Below wr.heap.size wr w' := by
        have h0 := Tryz.strings_Join w.heap.size 0 k xs ⟨#[44]⟩ wr hcells (World.rowIs.lt hrow) (by omega) (by omega) hsz
        rw [hxl, hmap] at h0
        exact h0
      have HJ := Lib.hid hJ
      clear hrow hbel hcells hJ hsz hmap hxl hxs
      go_wp2_with fail
      refine HJ.out.mono ?_
      rintro e w1 ⟨rfl, hb⟩
      have HB1 := Lib.hid (HB.out.trans (hb.mono HB.out.size))
      clear hb
      go_wp2
      go_ret
      exact ⟨rfl, HB1.out⟩
end Go.Proofs.YtghekfigfjhkeabGreatDoor.num
namespace Go.Proofs.YtghekfigfjhkeabGreatDoor.num
open Go.RowKit
set_option linter.unusedVariables false

/-- The cells of a box of five that the call laid, behind calls. -/
theorem box5 {w w' : World} {v0 v1 v2 v3 v4 : Value} {T : TypeId} (hb : Below (w.alloc (.cells #[v0, v1, v2, v3, v4] T)).heap.size (w.alloc (.cells #[v0, v1, v2, v3, v4] T)) w') :
    w'.cell? ⟨w.heap.size, 0, none⟩ = some v0 ∧ w'.cell? ⟨w.heap.size, 1, none⟩ = some v1 ∧ w'.cell? ⟨w.heap.size, 2, none⟩ = some v2 ∧ w'.cell? ⟨w.heap.size, 3, none⟩ = some v3 ∧ w'.cell? ⟨w.heap.size, 4, none⟩ = some v4 ∧ w.heap.size < w'.heap.size := by
  have hc : ∀ j v, #[v0, v1, v2, v3, v4][j]? = some v → w'.cell? ⟨w.heap.size, j, none⟩ = some v := fun j v h => (hb.cell (p := ⟨w.heap.size, j, none⟩) (by simp)).trans (by rw [World.cell?_alloc_at _ _ _ _ rfl]; exact h)
  exact ⟨hc 0 _ rfl, hc 1 _ rfl, hc 2 _ rfl, hc 3 _ rfl, hc 4 _ rfl, by have := hb.size; simp at this; omega⟩

theorem IsW.val2 {d : WD} (h : IsW d) (hk : d.kind = 2) : InR d.value := by have := h.v; rwa [if_pos hk] at this
theorem rankW3 {f x v : Int} {ls : List Int} {ps : List (Int × Int)} : rankW ⟨3, f, x, ls, ps⟩ v = if v ∈ ls then 0 else 1 := rfl
theorem rankW2 {f x v : Int} {ls : List Int} {ps : List (Int × Int)} : rankW ⟨2, f, x, ls, ps⟩ v = if v < x then x - v else v - x := rfl
theorem rankW_le {d : WD} (hw : IsW d) (h4 : d.kind ≠ 4) {x : Int} (hx : InR x) : 0 ≤ rankW d x ∧ rankW d x ≤ 9 := by
  have hv := fun hk => hw.val2 hk
  have hk := hw.k
  obtain ⟨x0, x9⟩ := hx
  unfold rankW
  split
  · omega
  · split
    · omega
    · split
      · rename_i h
        obtain ⟨v0, v9⟩ := hv h
        split <;> omega
      · split <;> omega
end Go.Proofs.YtghekfigfjhkeabGreatDoor.num
namespace Go.Proofs.YtghekfigfjhkeabGreatDoor.num
open Go.RowKit
set_option linter.unusedVariables false
set_option linter.unusedSimpArgs false

theorem fmtW_ext {d : WD} {b : ByteArray} (h : b.data.toList = wishT d) : b = fmtW d true := by
  apply bytes_ext
  rw [h]
  simp [fmtW]
theorem wishT0 {f v : Int} {ls : List Int} {ps : List (Int × Int)} : wishT ⟨0, f, v, ls, ps⟩ = [108, 111, 119] ++ 32 :: 102 :: Lib.itoa f := by
  show [108, 111, 119] ++ 32 :: 102 :: (Lib.itoa f ++ []) = _
  rw [List.append_nil]
theorem wishT1 {f v : Int} {ls : List Int} {ps : List (Int × Int)} : wishT ⟨1, f, v, ls, ps⟩ = [104, 105, 103, 104] ++ 32 :: 102 :: Lib.itoa f := by
  show [104, 105, 103, 104] ++ 32 :: 102 :: (Lib.itoa f ++ []) = _
  rw [List.append_nil]
theorem wishT2 {f v : Int} {ls : List Int} {ps : List (Int × Int)} : wishT ⟨2, f, v, ls, ps⟩ = [110, 101, 97, 114] ++ 32 :: 102 :: (Lib.itoa f ++ 32 :: Lib.itoa v) := rfl
theorem wishT3 {f v : Int} {ls : List Int} {ps : List (Int × Int)} : wishT ⟨3, f, v, ls, ps⟩ = [97, 109, 111, 110, 103] ++ 32 :: 102 :: (Lib.itoa f ++ 32 :: intsT ls) := rfl
theorem wishT4 {f v : Int} {ls : List Int} {ps : List (Int × Int)} : wishT ⟨4, f, v, ls, ps⟩ = [111, 114, 100, 101, 114] ++ 32 :: 102 :: (Lib.itoa f ++ 32 :: pairsT ps) := rfl
theorem pairsT_len {ps : List (Int × Int)} (h : OkP ps) : (pairsT ps).length ≤ 60 := by
  unfold pairsT
  split
  · decide
  · have := join_le (m := 5) 44 (ps.map pairT) fun x hx => by
      obtain ⟨p, hp, rfl⟩ := List.mem_map.1 hx
      exact pairT_len (h.1.rng p hp)
    rw [List.length_map] at this
    have := h.2
    omega
theorem IsW.asc {d : WD} (h : IsW d) (hk : d.kind = 3) : Asc d.ls := by have := h.l; rwa [if_pos hk] at this
theorem IsW.okp {d : WD} (h : IsW d) (hk : d.kind = 4) : OkP d.ps := by have := h.p; rwa [if_pos hk] at this
set_option maxRecDepth 20000 in
set_option maxHeartbeats 1600000 in
theorem sFmtW (w : World) (B : Nat) (t : Wi) (hi : WiIn w B t) (hB : B ≤ w.heap.size) (hn : t.Short) (q : Bool) (hq : q = true ↔ IsW t.dat) :
    Calls Tryz.prog 13 #[t.val] w fun e w' => e = .returned (.string (fmtW t.dat q)) ∧ Below w.heap.size w w' := by
  have HI := Lib.hid hi
  have HQ := Lib.hid hq
  have HB1 : Hid (∀ o : Obj, Below B w (w.alloc o)) := Lib.hid fun o => (Below.refl B w).alloc hB _
  have HW1 : Hid (∀ o : Obj, Below w.heap.size w (w.alloc o)) := Lib.hid fun o => (Below.refl _ w).alloc (Nat.le_refl _) _
  have HS : Hid (∀ w1 : World, WiIn w1 B t → B ≤ w1.heap.size → Calls Tryz.prog 24 #[t.val] w1 fun e w' => e = .returned (.bool q) ∧ Below w1.heap.size w1 w') := Lib.hid fun w1 h1 h2 => sIsWish w1 B t h1 h2 hn q hq
  have HN := Lib.hid hn
  clear hi hq hn
  obtain ⟨k, f, v, LA, Ln, Lc, ls, PA, Pn, Pc, ps⟩ := t
  unfold Wi.val at HS ⊢
  simp only [Wi.dat] at HQ ⊢
  have CALL := HS
  cases q
  · go_enter Tryz.func13, Tryz.ntmps13
    go_wp2_with fail
    refine (HS.out _ (HI.out.below (HB1.out _)) (by simp; omega)).mono ?_
    rintro e w1 ⟨rfl, hb1⟩
    have HBB := Lib.hid ((HW1.out _).trans (hb1.mono (by simp)))
    clear hb1
    go_wp2
    go_ret
    exact ⟨rfl, HBB.out⟩
  · have HW := Lib.hid (HQ.out.1 rfl)
    have hk := HW.out.k
    have hf := HW.out.f
    have hv : k = 2 → InR v := fun h => HW.out.val2 h
    have ha : k = 3 → Asc ls := fun h => HW.out.asc h
    have ho : k = 4 → OkP ps := fun h => HW.out.okp h
    have HP : Hid (Pairs w B PA Pn ps) := Lib.hid HI.out.p
    have HL : Hid (Ints w B LA Ln ls) := Lib.hid HI.out.l
    have HNN : Hid (Ln ≤ 1048576 ∧ Pn ≤ 1048576) := Lib.hid HN.out
    have hff : (fmtB f).size ≤ 2 := fmt_R' ⟨hf.1, by have := hf.2; dsimp only at this; omega⟩
    have hf1 : -9223372036854775808 ≤ f := by have := hf.1; dsimp only at this; omega
    have hf2 : f ≤ 9223372036854775807 := by have := hf.2; dsimp only at this; omega
    dsimp only at hk
    clear hf HQ CALL HN
    rcases (show k = 0 ∨ k = 1 ∨ k = 2 ∨ k = 3 ∨ k = 4 by omega) with rfl | rfl | rfl | rfl | rfl
    · clear hk hv ha ho
      go_enter Tryz.func13, Tryz.ntmps13
      go_wp2_with fail
      refine (HS.out _ (HI.out.below (HB1.out _)) (by simp; omega)).mono ?_
      rintro e w1 ⟨rfl, hb1⟩
      obtain ⟨c0, c1, c2, c3, c4, hg⟩ := box5 hb1
      have HBB := Lib.hid (And.intro ((HW1.out _).trans (hb1.mono (by simp))) ((HB1.out _).trans (hb1.mono (by simp; omega))))
      clear hb1
      go_wp2_with fail
      refine (sFormat f hf1 hf2 _).mono ?_
      rintro e w2 ⟨rfl, hb2⟩
      have d0 := (hb2.cell (p := ⟨w.heap.size, 0, none⟩) hg).trans c0
      have d2 := (hb2.cell (p := ⟨w.heap.size, 2, none⟩) hg).trans c2
      have d3 := (hb2.cell (p := ⟨w.heap.size, 3, none⟩) hg).trans c3
      have d4 := (hb2.cell (p := ⟨w.heap.size, 4, none⟩) hg).trans c4
      have HB2 := Lib.hid (And.intro (HBB.out.1.trans (hb2.mono HBB.out.1.size)) (HBB.out.2.trans (hb2.mono (Nat.le_trans hB HBB.out.1.size))))
      clear hb2 c0 c1 c2 c3 c4
      go_wp2
      go_ret
      refine ⟨congrArg (fun x => Ending.returned (.string x)) (fmtW_ext ?_), HB2.out.1⟩
      rw [wishT0]
      simp [fmtB, ByteArray.data_append]
    · clear hk hv ha ho
      go_enter Tryz.func13, Tryz.ntmps13
      go_wp2_with fail
      refine (HS.out _ (HI.out.below (HB1.out _)) (by simp; omega)).mono ?_
      rintro e w1 ⟨rfl, hb1⟩
      obtain ⟨c0, c1, c2, c3, c4, hg⟩ := box5 hb1
      have HBB := Lib.hid (And.intro ((HW1.out _).trans (hb1.mono (by simp))) ((HB1.out _).trans (hb1.mono (by simp; omega))))
      clear hb1
      go_wp2_with fail
      refine (sFormat f hf1 hf2 _).mono ?_
      rintro e w2 ⟨rfl, hb2⟩
      have d0 := (hb2.cell (p := ⟨w.heap.size, 0, none⟩) hg).trans c0
      have d2 := (hb2.cell (p := ⟨w.heap.size, 2, none⟩) hg).trans c2
      have d3 := (hb2.cell (p := ⟨w.heap.size, 3, none⟩) hg).trans c3
      have d4 := (hb2.cell (p := ⟨w.heap.size, 4, none⟩) hg).trans c4
      have HB2 := Lib.hid (And.intro (HBB.out.1.trans (hb2.mono HBB.out.1.size)) (HBB.out.2.trans (hb2.mono (Nat.le_trans hB HBB.out.1.size))))
      clear hb2 c0 c1 c2 c3 c4
      go_wp2
      go_ret
      refine ⟨congrArg (fun x => Ending.returned (.string x)) (fmtW_ext ?_), HB2.out.1⟩
      rw [wishT1]
      simp [fmtB, ByteArray.data_append]
    · obtain ⟨v0, v9⟩ := hv rfl
      clear hk hv ha ho
      have hfv : (fmtB v).size ≤ 2 := fmt_R' ⟨v0, v9⟩
      go_enter Tryz.func13, Tryz.ntmps13
      go_wp2_with fail
      refine (HS.out _ (HI.out.below (HB1.out _)) (by simp; omega)).mono ?_
      rintro e w1 ⟨rfl, hb1⟩
      obtain ⟨c0, c1, c2, c3, c4, hg⟩ := box5 hb1
      have HBB := Lib.hid (And.intro ((HW1.out _).trans (hb1.mono (by simp))) ((HB1.out _).trans (hb1.mono (by simp; omega))))
      clear hb1
      go_wp2_with fail
      refine (sFormat f hf1 hf2 _).mono ?_
      rintro e w2 ⟨rfl, hb2⟩
      have d0 := (hb2.cell (p := ⟨w.heap.size, 0, none⟩) hg).trans c0
      have d2 := (hb2.cell (p := ⟨w.heap.size, 2, none⟩) hg).trans c2
      have d3 := (hb2.cell (p := ⟨w.heap.size, 3, none⟩) hg).trans c3
      have d4 := (hb2.cell (p := ⟨w.heap.size, 4, none⟩) hg).trans c4
      have HB2 := Lib.hid (And.intro (HBB.out.1.trans (hb2.mono HBB.out.1.size)) (HBB.out.2.trans (hb2.mono (Nat.le_trans hB HBB.out.1.size))))
      clear hb2 c0 c1 c2 c3 c4
      go_wp2_with fail
      refine (sFormat v (by omega) (by omega) _).mono ?_
      rintro e w3 ⟨rfl, hb3⟩
      have HB3 := Lib.hid (HB2.out.1.trans (hb3.mono HB2.out.1.size))
      clear hb3 d0 d2 d3 d4
      go_wp2
      go_ret
      refine ⟨congrArg (fun x => Ending.returned (.string x)) (fmtW_ext ?_), HB3.out⟩
      rw [wishT2]
      simp [fmtB, fmtP, ByteArray.data_append]
    · have hasc := ha rfl
      have HA := Lib.hid hasc.2.1
      have hln := HNN.out.1
      have hlen := HL.out.1
      have hT := intsT_len HA.out
      clear hk hv ha ho hasc
      go_enter Tryz.func13, Tryz.ntmps13
      go_wp2_with fail
      refine (HS.out _ (HI.out.below (HB1.out _)) (by simp; omega)).mono ?_
      rintro e w1 ⟨rfl, hb1⟩
      obtain ⟨c0, c1, c2, c3, c4, hg⟩ := box5 hb1
      have HBB := Lib.hid (And.intro ((HW1.out _).trans (hb1.mono (by simp))) ((HB1.out _).trans (hb1.mono (by simp; omega))))
      clear hb1
      go_wp2_with fail
      refine (sFormat f hf1 hf2 _).mono ?_
      rintro e w2 ⟨rfl, hb2⟩
      have d0 := (hb2.cell (p := ⟨w.heap.size, 0, none⟩) hg).trans c0
      have d2 := (hb2.cell (p := ⟨w.heap.size, 2, none⟩) hg).trans c2
      have d3 := (hb2.cell (p := ⟨w.heap.size, 3, none⟩) hg).trans c3
      have d4 := (hb2.cell (p := ⟨w.heap.size, 4, none⟩) hg).trans c4
      have HB2 := Lib.hid (And.intro (HBB.out.1.trans (hb2.mono HBB.out.1.size)) (HBB.out.2.trans (hb2.mono (Nat.le_trans hB HBB.out.1.size))))
      clear hb2 c0 c1 c2 c3 c4
      go_wp2_with fail
      refine (sInts _ B LA Ln Lc ls (HL.out.below HB2.out.2) (Nat.le_trans hB HB2.out.1.size) HNN.out.1 HA.out).mono ?_
      rintro e w3 ⟨rfl, hb3⟩
      have HB3 := Lib.hid (HB2.out.1.trans (hb3.mono HB2.out.1.size))
      clear hb3 d0 d2 d3 d4
      have hsz : (⟨(intsT ls).toArray⟩ : ByteArray).size ≤ 3145728 := by
        show (intsT ls).toArray.size ≤ _
        rw [List.size_toArray]
        omega
      go_wp2
      go_ret
      refine ⟨congrArg (fun x => Ending.returned (.string x)) (fmtW_ext ?_), HB3.out⟩
      rw [wishT3]
      simp [fmtB, fmtP, ByteArray.data_append]
    · have hok := ho rfl
      have HOk := Lib.hid hok
      have hT := pairsT_len hok
      clear hk hv ha ho hok
      go_enter Tryz.func13, Tryz.ntmps13
      go_wp2_with fail
      refine (HS.out _ (HI.out.below (HB1.out _)) (by simp; omega)).mono ?_
      rintro e w1 ⟨rfl, hb1⟩
      obtain ⟨c0, c1, c2, c3, c4, hg⟩ := box5 hb1
      have HBB := Lib.hid (And.intro ((HW1.out _).trans (hb1.mono (by simp))) ((HB1.out _).trans (hb1.mono (by simp; omega))))
      clear hb1
      go_wp2_with fail
      refine (sFormat f hf1 hf2 _).mono ?_
      rintro e w2 ⟨rfl, hb2⟩
      have d0 := (hb2.cell (p := ⟨w.heap.size, 0, none⟩) hg).trans c0
      have d2 := (hb2.cell (p := ⟨w.heap.size, 2, none⟩) hg).trans c2
      have d3 := (hb2.cell (p := ⟨w.heap.size, 3, none⟩) hg).trans c3
      have d4 := (hb2.cell (p := ⟨w.heap.size, 4, none⟩) hg).trans c4
      have HB2 := Lib.hid (And.intro (HBB.out.1.trans (hb2.mono HBB.out.1.size)) (HBB.out.2.trans (hb2.mono (Nat.le_trans hB HBB.out.1.size))))
      clear hb2 c0 c1 c2 c3 c4
      go_wp2_with fail
      refine (sFmtP _ B PA Pn Pc ps (HP.out.below HB2.out.2) (Nat.le_trans hB HB2.out.1.size) HNN.out.2 true ⟨fun _ => HOk.out, fun _ => rfl⟩).mono ?_
      rintro e w3 ⟨rfl, hb3⟩
      have HB3 := Lib.hid (HB2.out.1.trans (hb3.mono HB2.out.1.size))
      clear hb3 d0 d2 d3 d4
      have hsz : (fmtP ps true).size ≤ 60 := by
        show (pairsT ps).toArray.size ≤ _
        rw [List.size_toArray]
        omega
      go_wp2
      go_ret
      refine ⟨congrArg (fun x => Ending.returned (.string x)) (fmtW_ext ?_), HB3.out⟩
      rw [wishT4]
      simp [fmtB, fmtP, ByteArray.data_append]
end Go.Proofs.YtghekfigfjhkeabGreatDoor.num
namespace Go.Proofs.YtghekfigfjhkeabGreatDoor.num
open Go.RowKit Go.Maps
set_option linter.unusedVariables false


set_option maxRecDepth 20000 in
theorem iList (w : World) (B : Nat) (A : Option Addr) (n c : Nat) (xs : List Int) (hi : Ints w B A n xs) (hn : n ≤ 1048576) (b : Bool) (hb : b = true ↔ Asc xs) :
    Calls Tryz.prog 66 #[.slice A n c] w fun e w' => e = .returned (.bool b) ∧ w' = w := by
  have HX := Lib.hid hi
  have HB := Lib.hid hb
  clear hi hb
  have HNo : Hid (¬ AscUp xs → b = false) := Lib.hid fun h => by
    cases b
    · rfl
    · exact absurd (HB.out.1 rfl).2 h
  go_enter Tryz.func66, Tryz.ntmps66
  go_wp2
  go_loopw [7] (fun i wr => ∃ k : Nat, k ≤ n ∧ i = .int .i64 k ∧ AscUp (xs.take k) ∧ wr = w) (fun i _ => n - (intOf i).toNat)
  case atStart => exact ⟨0, Nat.zero_le _, rfl, by rw [List.take_zero]; exact AscUp.nil, rfl⟩
  case round =>
    obtain ⟨k, hk, rfl, hasc, rfl⟩ := hrel
    have HA := Lib.hid hasc
    clear hasc
    by_cases hlt : k < n
    · obtain ⟨b1, off, x, hA1, hb1, hat, hc⟩ := HX.out.at k hlt
      have HT := Lib.hid hat
      have hlt' : (k : Int) < (n : Int) := by omega
      obtain ⟨q, hq⟩ := bool_of (InR x)
      have HQ := Lib.hid hq
      clear hat hq
      cases q
      · obtain rfl : b = false := HNo.out fun h => by have := HQ.out.2 (h.1 x (List.mem_of_getElem? HT.out)); cases this
        subst hA1
        go_wp2_with fail
        refine (isValue_of x false HQ.out _).mono ?_
        rintro e w1 ⟨rfl, rfl⟩
        go_wp2
        go_ret
        exact ⟨rfl, rfl⟩
      · have HD := Lib.hid (HQ.out.1 rfl)
        rcases Nat.eq_zero_or_pos k with h0 | h0
        · have HK := Lib.hid h0
          subst hA1
          clear h0
          have hk0 : decide (0 < k) = false := decide_eq_false (by have := HK.out; omega)
          go_wp2_with fail
          refine (isValue_of x true ⟨fun _ => HD.out, fun _ => rfl⟩ _).mono ?_
          rintro e w1 ⟨rfl, rfl⟩
          go_wp2
          clear hk0
          go_roundw
          case rel => exact ⟨k + 1, by omega, by go_num, ascUp_snoc HA.out HT.out HD.out (fun j u hj _ => by have := HK.out; omega), by first | rfl | trivial⟩
          case measure => simp [intOf]; omega
        · obtain ⟨j, hj⟩ : ∃ j, j + 1 = k := ⟨k - 1, by omega⟩
          obtain ⟨b2, off2, y, hA2, hb2, hat2, hc2⟩ := HX.out.at j (by omega)
          obtain ⟨rfl, rfl⟩ : b1 = b2 ∧ off = off2 := by rw [hA1] at hA2; injection hA2 with h; injection h with h1 h2; exact ⟨h1, h2⟩
          have HT0 := Lib.hid hat2
          have HJ := Lib.hid hj
          have HK0 : Hid ((0 : Int) < (k : Int)) := by show _ < _; omega
          have hkj : (k : Int) - 1 = (j : Int) := by omega
          have hkw : IntKind.i64.wrap ((k : Int) - 1) = (j : Int) := by rw [hkj]; exact IntWalk.i64_in _ ⟨by omega, by omega⟩
          have hjw : IntKind.i64.wrap (j : Int) = (j : Int) := IntWalk.i64_in _ ⟨by omega, by omega⟩
          have hjn : (j : Int) < (n : Int) := by omega
          have hjn' : j < n := by omega
          have hk0 : decide (0 < k) = true := decide_eq_true (by have := HK0.out; omega)
          subst hA1
          clear h0 hj hat2 hA2
          by_cases hle : x ≤ y
          · obtain rfl : b = false := HNo.out (asc_bad (by rw [HJ.out]; exact HT.out) HT0.out hle)
            go_wp2_with fail
            refine (isValue_of x true ⟨fun _ => HD.out, fun _ => rfl⟩ _).mono ?_
            rintro e w1 ⟨rfl, rfl⟩
            go_wp2
            go_ret
            exact ⟨rfl, rfl⟩
          · have HLe : Hid (y < x) := by show _ < _; omega
            go_wp2_with fail
            refine (isValue_of x true ⟨fun _ => HD.out, fun _ => rfl⟩ _).mono ?_
            rintro e w1 ⟨rfl, rfl⟩
            go_wp2
            clear hk0
            go_roundw
            case rel => exact ⟨k + 1, by omega, by go_num, ascUp_snoc HA.out HT.out HD.out (asc_next HJ.out HT0.out HLe.out), by first | rfl | trivial⟩
            case measure => simp [intOf]; omega
    · obtain rfl : k = n := by omega
      have h := HA.out
      rw [ptake_all HX.out.1] at h
      have HH := Lib.hid h
      clear h
      by_cases h0 : (0 : Int) < (k : Int)
      · have hd : decide (0 < k) = true := by simp; omega
        obtain rfl : b = true := HB.out.2 ⟨fun e => by have := HX.out.1; rw [e] at this; simp at this; omega, HH.out⟩
        go_wp2
        go_ret
        exact ⟨by simp, rfl⟩
      · obtain rfl : b = false := by
          cases b
          · rfl
          · exact absurd (List.length_eq_zero_iff.1 (by rw [HX.out.1]; omega)) (HB.out.1 rfl).1
        go_wp2
        go_ret
        exact ⟨by simp; omega, rfl⟩

set_option maxRecDepth 20000 in
theorem iOther (w : World) (t : Wi) (hl : t.Ln ≤ 1048576) (hp : t.Pn ≤ 1048576) (q : Bool) (hq : q = true ↔ (t.kind ≠ 2 ∧ t.value ≠ 0) ∨ (t.kind ≠ 3 ∧ t.Ln ≠ 0) ∨ (t.kind ≠ 4 ∧ t.Pn ≠ 0)) :
    Calls Tryz.prog 64 #[t.val] w fun e w' => e = .returned (.bool q) ∧ Below w.heap.size w w' := by
  obtain ⟨k, f, v, LA, Ln, Lc, ls, PA, Pn, Pc, ps⟩ := t
  unfold Wi.val
  simp only [] at hl hp hq ⊢
  have HW1 : Hid (∀ o : Obj, Below w.heap.size w (w.alloc o)) := Lib.hid fun o => (Below.refl _ w).alloc (Nat.le_refl _) _
  by_cases k2 : k = 2
  · subst k2
    by_cases hL : Ln = 0
    · have hL' : decide (0 < Ln) = false := by simp [hL]
      have hL2 : ¬ ((0 : Int) < (Ln : Int)) := by omega
      by_cases hP : Pn = 0
      · have hP' : decide (0 < Pn) = false := by simp [hP]
        have hP2 : ¬ ((0 : Int) < (Pn : Int)) := by omega
        obtain rfl : q = false := by
          cases q
          · rfl
          · exact absurd (hq.1 rfl) (by omega)
        clear hq hL hP
        go_enter Tryz.func64, Tryz.ntmps64
        go_wp2
        go_ret
        exact ⟨by first | rfl | simp, HW1.out _⟩
      · have hP' : decide (0 < Pn) = true := by simp; omega
        have hP2 : (0 : Int) < (Pn : Int) := by omega
        obtain rfl : q = true := hq.2 (by omega)
        clear hq hL hP
        go_enter Tryz.func64, Tryz.ntmps64
        go_wp2
        go_ret
        exact ⟨by first | rfl | simp, HW1.out _⟩
    · have hL' : decide (0 < Ln) = true := by simp; omega
      have hL2 : (0 : Int) < (Ln : Int) := by omega
      obtain rfl : q = true := hq.2 (by omega)
      clear hq hL
      go_enter Tryz.func64, Tryz.ntmps64
      go_wp2
      go_ret
      exact ⟨by first | rfl | simp, HW1.out _⟩
  · by_cases k3 : k = 3
    · subst k3
      clear k2
      by_cases hv : v = 0
      · have hv' : (v != 0) = false := by simp [hv]
        by_cases hP : Pn = 0
        · have hP' : decide (0 < Pn) = false := by simp [hP]
          have hP2 : ¬ ((0 : Int) < (Pn : Int)) := by omega
          obtain rfl : q = false := by
            cases q
            · rfl
            · exact absurd (hq.1 rfl) (by omega)
          clear hq hv hP
          go_enter Tryz.func64, Tryz.ntmps64
          go_wp2
          go_ret
          exact ⟨by first | rfl | simp, HW1.out _⟩
        · have hP' : decide (0 < Pn) = true := by simp; omega
          have hP2 : (0 : Int) < (Pn : Int) := by omega
          obtain rfl : q = true := hq.2 (by omega)
          clear hq hv hP
          go_enter Tryz.func64, Tryz.ntmps64
          go_wp2
          go_ret
          exact ⟨by first | rfl | simp, HW1.out _⟩
      · have hv' : (v != 0) = true := by simp [hv]
        obtain rfl : q = true := hq.2 (by omega)
        clear hq hv
        go_enter Tryz.func64, Tryz.ntmps64
        go_wp2
        go_ret
        exact ⟨by first | rfl | simp, HW1.out _⟩
    · by_cases k4 : k = 4
      · subst k4
        clear k2 k3
        by_cases hv : v = 0
        · have hv' : (v != 0) = false := by simp [hv]
          by_cases hL : Ln = 0
          · have hL' : decide (0 < Ln) = false := by simp [hL]
            have hL2 : ¬ ((0 : Int) < (Ln : Int)) := by omega
            obtain rfl : q = false := by
              cases q
              · rfl
              · exact absurd (hq.1 rfl) (by omega)
            clear hq hv hL
            go_enter Tryz.func64, Tryz.ntmps64
            go_wp2
            go_ret
            exact ⟨by first | rfl | simp, HW1.out _⟩
          · have hL' : decide (0 < Ln) = true := by simp; omega
            have hL2 : (0 : Int) < (Ln : Int) := by omega
            obtain rfl : q = true := hq.2 (by omega)
            clear hq hv hL
            go_enter Tryz.func64, Tryz.ntmps64
            go_wp2
            go_ret
            exact ⟨by first | rfl | simp, HW1.out _⟩
        · have hv' : (v != 0) = true := by simp [hv]
          obtain rfl : q = true := hq.2 (by omega)
          clear hq hv
          go_enter Tryz.func64, Tryz.ntmps64
          go_wp2
          go_ret
          exact ⟨by first | rfl | simp, HW1.out _⟩
      · have f2 : (k != 2) = true := by simpa using k2
        have f3 : (k != 3) = true := by simpa using k3
        have f4 : (k != 4) = true := by simpa using k4
        by_cases hv : v = 0
        · have hv' : (v != 0) = false := by simp [hv]
          by_cases hL : Ln = 0
          · have hL' : decide (0 < Ln) = false := by simp [hL]
            have hL2 : ¬ ((0 : Int) < (Ln : Int)) := by omega
            by_cases hP : Pn = 0
            · have hP' : decide (0 < Pn) = false := by simp [hP]
              have hP2 : ¬ ((0 : Int) < (Pn : Int)) := by omega
              obtain rfl : q = false := by
                cases q
                · rfl
                · exact absurd (hq.1 rfl) (by omega)
              clear hq k2 k3 k4 hv hL hP
              go_enter Tryz.func64, Tryz.ntmps64
              go_wp2
              go_ret
              exact ⟨by first | rfl | simp, HW1.out _⟩
            · have hP' : decide (0 < Pn) = true := by simp; omega
              have hP2 : (0 : Int) < (Pn : Int) := by omega
              obtain rfl : q = true := hq.2 (by omega)
              clear hq k2 k3 k4 hv hL hP
              go_enter Tryz.func64, Tryz.ntmps64
              go_wp2
              go_ret
              exact ⟨by first | rfl | simp, HW1.out _⟩
          · have hL' : decide (0 < Ln) = true := by simp; omega
            have hL2 : (0 : Int) < (Ln : Int) := by omega
            obtain rfl : q = true := hq.2 (by omega)
            clear hq k2 k3 k4 hv hL
            go_enter Tryz.func64, Tryz.ntmps64
            go_wp2
            go_ret
            exact ⟨by first | rfl | simp, HW1.out _⟩
        · have hv' : (v != 0) = true := by simp [hv]
          obtain rfl : q = true := hq.2 (by omega)
          clear hq k2 k3 k4 hv
          go_enter Tryz.func64, Tryz.ntmps64
          go_wp2
          go_ret
          exact ⟨by first | rfl | simp, HW1.out _⟩
end Go.Proofs.YtghekfigfjhkeabGreatDoor.num
namespace Go.Proofs.YtghekfigfjhkeabGreatDoor.num
open Go.RowKit Go.Maps
set_option linter.unusedVariables false

/-- v is the taste of the valid wish t. -/
def TasteAt (w : World) (t : Wi) (v : Value) : Prop :=
  (t.kind ≠ 4 ∧ ∃ b, InR b ∧ v = nearI b ∧ ∀ x, InR x → rankW t.dat x = if x < b then b - x else x - b) ∨
  (t.kind ≠ 4 ∧ v = amongI t.LA t.Ln t.Lc ∧ ∀ x, rankW t.dat x = if x ∈ t.ls then 0 else 1) ∨
  (t.kind = 4 ∧ ∃ o B, v = orderI o ∧ AboveP t.ps B true o w)
theorem TasteAt.below {w w' : World} {t : Wi} {v : Value} (h : TasteAt w t v) (hb : Below w.heap.size w w') : TasteAt w' t v := by
  rcases h with h | h | ⟨h, o, B, e, a⟩
  · exact .inl h
  · exact .inr (.inl h)
  · exact .inr (.inr ⟨h, o, B, e, a.below hb⟩)
theorem value_same (v : Int) (q : Bool) (hq : q = true ↔ InR v) (w : World) :
    Calls Tryz.prog 65 #[.int .i64 v] w fun e w' => e = .returned (.bool q) ∧ w' = w :=
  (isValue_of v q hq w).mono fun _ _ h => ⟨h.1, h.2.symm⟩

/-- .. and what it holds lies from block lo on. -/
def TasteFrom (w : World) (lo : Nat) (t : Wi) (v : Value) : Prop :=
  (t.kind ≠ 4 ∧ ∃ b, InR b ∧ v = nearI b ∧ ∀ x, InR x → rankW t.dat x = if x < b then b - x else x - b) ∨
  (t.kind ≠ 4 ∧ v = amongI t.LA t.Ln t.Lc ∧ ∀ x, rankW t.dat x = if x ∈ t.ls then 0 else 1) ∨
  (t.kind = 4 ∧ ∃ o B, lo ≤ B ∧ v = orderI o ∧ AboveP t.ps B true o w)
theorem TasteFrom.at' {w : World} {lo : Nat} {t : Wi} {v : Value} (h : TasteFrom w lo t v) : TasteAt w t v := by
  rcases h with h | h | ⟨h, o, B, _, e, a⟩
  · exact .inl h
  · exact .inr (.inl h)
  · exact .inr (.inr ⟨h, o, B, e, a⟩)
theorem TasteFrom.low {w : World} {lo lo' : Nat} {t : Wi} {v : Value} (h : TasteFrom w lo t v) (hl : lo' ≤ lo) : TasteFrom w lo' t v := by
  rcases h with h | h | ⟨h, o, B, hB, e, a⟩
  · exact .inl h
  · exact .inr (.inl h)
  · exact .inr (.inr ⟨h, o, B, Nat.le_trans hl hB, e, a⟩)
theorem AboveP.kept {ps : List (Int × Int)} {B : Nat} {q : Bool} {o : Option Nat} {w w' : World} (h : AboveP ps B q o w) (hb : ∀ k, B ≤ k → k < w.heap.size → w'.heap[k]? = w.heap[k]?) : AboveP ps B q o w' :=
  ⟨h.1, fun hq => by
    obtain ⟨b, n, M, h1, h2, h3⟩ := h.2 hq
    exact ⟨b, n, M, h1, h2, MapAt.block h3.out (hb _ h3.low (MapAt.lt h3.out)), h3.low, h3.has, h3.rng, fun v x hx => by
      obtain ⟨g1, g2, g3⟩ := h3.sets v x hx
      exact ⟨g1, g2, MapAt.block g3 (hb _ g1 (MapAt.lt g3))⟩, h3.inj⟩⟩
theorem TasteFrom.kept {w w' : World} {lo : Nat} {t : Wi} {v : Value} (h : TasteFrom w lo t v) (hb : ∀ k, lo ≤ k → k < w.heap.size → w'.heap[k]? = w.heap[k]?) : TasteFrom w' lo t v := by
  rcases h with h | h | ⟨h, o, B, hB, e, a⟩
  · exact .inl h
  · exact .inr (.inl h)
  · exact .inr (.inr ⟨h, o, B, hB, e, a.kept fun k hk => hb k (Nat.le_trans hB hk)⟩)
/-- An interface's value. -/
def IfV (v : Value) : Prop := v = .nilIface ∨ ∃ T x, v = .iface T x
set_option maxRecDepth 20000 in
set_option maxHeartbeats 1600000 in
theorem taste_ofV (w : World) (B : Nat) (t : Wi) (hi : WiIn w B t) (hB : B ≤ w.heap.size) (hn : t.Short) (q : Bool) (hq : q = true ↔ IsW t.dat) :
    Calls Tryz.prog 50 #[t.val] w fun e w' => (∃ v, e = .returned (.tuple #[v, .bool q]) ∧ (q = true → TasteFrom w' w.heap.size t v) ∧ IfV v) ∧ Below w.heap.size w w' := by
  have HO : Hid (∀ (w1 : World) (p : Bool), (p = true ↔ (t.kind ≠ 2 ∧ t.value ≠ 0) ∨ (t.kind ≠ 3 ∧ t.Ln ≠ 0) ∨ (t.kind ≠ 4 ∧ t.Pn ≠ 0)) → Calls Tryz.prog 64 #[t.val] w1 fun e w' => e = .returned (.bool p) ∧ Below w1.heap.size w1 w') := Lib.hid fun w1 p hp => iOther w1 t hn.1 hn.2 p hp
  obtain ⟨k, f, v, LA, Ln, Lc, ls, PA, Pn, Pc, ps⟩ := t
  obtain ⟨-, -, -, hl, hp⟩ := hi
  unfold Wi.val at HO ⊢
  simp only [Wi.dat, Wi.Short] at hl hp hn hq HO ⊢
  have HL := Lib.hid hl
  have HP := Lib.hid hp
  have HQ := Lib.hid hq
  have HN := Lib.hid hn
  have HB1 : Hid (∀ o : Obj, Below B w (w.alloc o)) := Lib.hid fun o => (Below.refl B w).alloc hB _
  have HW1 : Hid (∀ o : Obj, Below w.heap.size w (w.alloc o)) := Lib.hid fun o => (Below.refl _ w).alloc (Nat.le_refl _) _
  have HLn : Hid (ls = [] ↔ Ln = 0) := by
    show _ ↔ _
    rw [← hl.1, List.length_eq_zero_iff]
  have HPn : Hid (ps = [] ↔ Pn = 0) := by
    show _ ↔ _
    rw [← hp.1, List.length_eq_zero_iff]
  clear hl hp hq hn
  have HNo : Hid (¬ IsW ⟨k, f, v, ls, ps⟩ → q = false) := Lib.hid fun h => by
    cases q
    · rfl
    · exact absurd (HQ.out.1 rfl) h
  by_cases f0 : f < 0
  · obtain rfl := HNo.out fun h => by have := h.f.1; dsimp only at this; omega
    go_enter Tryz.func50, Tryz.ntmps50
    go_wp2
    go_ret2
    first | exact ⟨⟨_, rfl, fun h => (by cases h), .inl rfl⟩, HW1.out _⟩ | exact ⟨⟨_, rfl, .inl rfl⟩, HW1.out _⟩
  by_cases f3 : 3 ≤ f
  · obtain rfl := HNo.out fun h => by have := h.f.2; dsimp only at this; omega
    go_enter Tryz.func50, Tryz.ntmps50
    go_wp2
    go_ret2
    first | exact ⟨⟨_, rfl, fun h => (by cases h), .inl rfl⟩, HW1.out _⟩ | exact ⟨⟨_, rfl, .inl rfl⟩, HW1.out _⟩
  have HF : Hid (0 ≤ f ∧ f ≤ 2) := Lib.hid ⟨by omega, by omega⟩
  obtain ⟨p, hp⟩ := bool_of ((k ≠ 2 ∧ v ≠ 0) ∨ (k ≠ 3 ∧ Ln ≠ 0) ∨ (k ≠ 4 ∧ Pn ≠ 0))
  have HPp := Lib.hid hp
  clear hp
  cases p
  · have HK2 : Hid (k ≠ 2 → v = 0) := Lib.hid fun h => by
      by_cases hv : v = 0
      · exact hv
      · have := HPp.out.2 (.inl ⟨h, hv⟩); cases this
    have HK3 : Hid (k ≠ 3 → ls = []) := Lib.hid fun h => by
      by_cases hv : Ln = 0
      · exact HLn.out.2 hv
      · have := HPp.out.2 (.inr (.inl ⟨h, hv⟩)); cases this
    have HK4 : Hid (k ≠ 4 → ps = []) := Lib.hid fun h => by
      by_cases hv : Pn = 0
      · exact HPn.out.2 hv
      · have := HPp.out.2 (.inr (.inr ⟨h, hv⟩)); cases this
    by_cases k0 : k = 0
    · subst k0
      obtain rfl := HQ.out.2 ((isW01 (.inl rfl) HF.out).2 ⟨HK2.out (by decide), HK3.out (by decide), HK4.out (by decide)⟩)
      have HT : Hid (∀ w', TasteFrom w' w.heap.size ⟨0, f, v, LA, Ln, Lc, ls, PA, Pn, Pc, ps⟩ (nearI 0)) := Lib.hid fun w' => .inl ⟨by show (0 : Int) ≠ 4; decide, 0, ⟨by decide, by decide⟩, rfl, fun x hx => by
        have h0 := hx.1
        have h9 := hx.2
        have e : rankW (Wi.dat ⟨0, f, v, LA, Ln, Lc, ls, PA, Pn, Pc, ps⟩) x = x := rfl
        rw [e]
        split <;> omega⟩
      go_enter Tryz.func50, Tryz.ntmps50
      go_wp2_with fail
      refine (HO.out _ false HPp.out).mono ?_
      rintro e w1 ⟨rfl, hb1⟩
      obtain ⟨c0, c1, c2, c3, c4, hg⟩ := box5 hb1
      have HBB := Lib.hid (And.intro ((HW1.out _).trans (hb1.mono (by simp))) ((HB1.out _).trans (hb1.mono (by simp; omega))))
      clear hb1
      go_wp2
      go_ret2
      exact ⟨⟨_, rfl, fun _ => HT.out _, by first | exact .inl rfl | exact .inr ⟨_, _, rfl⟩⟩, HBB.out.1⟩
    · by_cases k1 : k = 1
      · subst k1
        clear k0
        obtain rfl := HQ.out.2 ((isW01 (.inr rfl) HF.out).2 ⟨HK2.out (by decide), HK3.out (by decide), HK4.out (by decide)⟩)
        have HT : Hid (∀ w', TasteFrom w' w.heap.size ⟨1, f, v, LA, Ln, Lc, ls, PA, Pn, Pc, ps⟩ (nearI 9)) := Lib.hid fun w' => .inl ⟨by show (1 : Int) ≠ 4; decide, 9, ⟨by decide, by decide⟩, rfl, fun x hx => by
          have h0 := hx.1
          have h9 := hx.2
          have e : rankW (Wi.dat ⟨1, f, v, LA, Ln, Lc, ls, PA, Pn, Pc, ps⟩) x = 9 - x := rfl
          rw [e]
          split <;> omega⟩
        go_enter Tryz.func50, Tryz.ntmps50
        go_wp2_with fail
        refine (HO.out _ false HPp.out).mono ?_
        rintro e w1 ⟨rfl, hb1⟩
        obtain ⟨c0, c1, c2, c3, c4, hg⟩ := box5 hb1
        have HBB := Lib.hid (And.intro ((HW1.out _).trans (hb1.mono (by simp))) ((HB1.out _).trans (hb1.mono (by simp; omega))))
        clear hb1
        go_wp2
        go_ret2
        exact ⟨⟨_, rfl, fun _ => HT.out _, by first | exact .inl rfl | exact .inr ⟨_, _, rfl⟩⟩, HBB.out.1⟩
      · by_cases k2 : k = 2
        · subst k2
          clear k0 k1
          obtain ⟨qv, hqv⟩ := bool_of (InR v)
          obtain rfl : qv = q := by
            rw [Bool.eq_iff_iff, HQ.out, hqv, isW2 HF.out]
            exact ⟨fun h => ⟨h, HK3.out (by decide), HK4.out (by decide)⟩, fun h => h.1⟩
          have HV := Lib.hid hqv
          clear hqv
          go_enter Tryz.func50, Tryz.ntmps50
          go_wp2_with fail
          refine (HO.out _ false HPp.out).mono ?_
          rintro e w1 ⟨rfl, hb1⟩
          obtain ⟨c0, c1, c2, c3, c4, hg⟩ := box5 hb1
          have HBB := Lib.hid (And.intro ((HW1.out _).trans (hb1.mono (by simp))) ((HB1.out _).trans (hb1.mono (by simp; omega))))
          clear hb1
          go_wp2
          go_quiet ((go_at_call 65; refine Calls.quiet_of_same (value_same v qv HV.out _)))
          go_wp2
          go_ret2
          refine ⟨⟨_, rfl, fun h => .inl ⟨by show (2 : Int) ≠ 4; decide, v, HV.out.1 (by first | exact h | trivial), rfl, fun x hx => rfl⟩, by first | exact .inl rfl | exact .inr ⟨_, _, rfl⟩⟩, below_drewN HBB.out.1 _⟩
        · by_cases k3 : k = 3
          · subst k3
            clear k0 k1 k2
            obtain ⟨ql, hql⟩ := bool_of (Asc ls)
            obtain rfl : ql = q := by
              rw [Bool.eq_iff_iff, HQ.out, hql, isW3 HF.out]
              exact ⟨fun h => ⟨HK2.out (by decide), h, HK4.out (by decide)⟩, fun h => h.2.1⟩
            have HV := Lib.hid hql
            clear hql
            go_enter Tryz.func50, Tryz.ntmps50
            go_wp2_with fail
            refine (HO.out _ false HPp.out).mono ?_
            rintro e w1 ⟨rfl, hb1⟩
            obtain ⟨c0, c1, c2, c3, c4, hg⟩ := box5 hb1
            have HBB := Lib.hid (And.intro ((HW1.out _).trans (hb1.mono (by simp))) ((HB1.out _).trans (hb1.mono (by simp; omega))))
            clear hb1
            go_wp2
            go_quiet ((go_at_call 66; refine Calls.quiet_of_same (iList _ B LA Ln Lc ls (HL.out.below (below_drewN HBB.out.2 _)) HN.out.1 ql HV.out)))
            go_wp2
            go_ret2
            exact ⟨⟨_, rfl, fun h => .inr (.inl ⟨by show (3 : Int) ≠ 4; decide, rfl, fun x => rfl⟩), by first | exact .inl rfl | exact .inr ⟨_, _, rfl⟩⟩, below_drewN HBB.out.1 _⟩
          · by_cases k4 : k = 4
            · subst k4
              clear k0 k1 k2 k3
              have HV : Hid (q = true ↔ OkP ps) := Lib.hid (by
                rw [HQ.out, isW4 HF.out]
                exact ⟨fun h => h.2.2, fun h => ⟨HK2.out (by decide), HK3.out (by decide), h⟩⟩)
              go_enter Tryz.func50, Tryz.ntmps50
              go_wp2_with fail
              refine (HO.out _ false HPp.out).mono ?_
              rintro e w1 ⟨rfl, hb1⟩
              obtain ⟨c0, c1, c2, c3, c4, hg⟩ := box5 hb1
              have HBB := Lib.hid (And.intro ((HW1.out _).trans (hb1.mono (by simp))) ((HB1.out _).trans (hb1.mono (by simp; omega))))
              clear hb1
              go_wp2_with fail
              refine (above_of _ B PA Pn Pc ps (HP.out.below HBB.out.2) (by omega) HN.out.2 q HV.out).mono ?_
              rintro e w2 ⟨⟨o, rfl, hab⟩, hb2⟩
              have HAB := Lib.hid hab
              have HSz := Lib.hid HBB.out.1.size
              have HBC := Lib.hid (HBB.out.1.trans (hb2.mono HBB.out.1.size))
              clear hb2 hab c0 c1 c2 c3 c4
              go_wp2
              go_ret2
              exact ⟨⟨_, rfl, fun h => .inr (.inr ⟨rfl, o, _, HSz.out, rfl, h ▸ HAB.out⟩), by first | exact .inl rfl | exact .inr ⟨_, _, rfl⟩⟩, HBC.out⟩
            · have f0 : (k == 0) = false := by simpa using k0
              have f1 : (k == 1) = false := by simpa using k1
              have f2 : (k == 2) = false := by simpa using k2
              have f3 : (k == 3) = false := by simpa using k3
              have f4 : (k == 4) = false := by simpa using k4
              obtain rfl := HNo.out fun h => by have := h.k; dsimp only at this; omega
              clear k0 k1 k2 k3 k4
              go_enter Tryz.func50, Tryz.ntmps50
              go_wp2_with fail
              refine (HO.out _ false HPp.out).mono ?_
              rintro e w1 ⟨rfl, hb1⟩
              obtain ⟨c0, c1, c2, c3, c4, hg⟩ := box5 hb1
              have HBB := Lib.hid (And.intro ((HW1.out _).trans (hb1.mono (by simp))) ((HB1.out _).trans (hb1.mono (by simp; omega))))
              clear hb1
              go_wp2
              go_ret2
              first | exact ⟨⟨_, rfl, fun h => (by cases h), .inl rfl⟩, HBB.out.1⟩ | exact ⟨⟨_, rfl, .inl rfl⟩, HBB.out.1⟩
  · obtain rfl := HNo.out fun h => by
      have hv := h.v
      have hl := h.l
      have hp := h.p
      dsimp only at hv hl hp
      rcases HPp.out.1 rfl with ⟨h1, h2⟩ | ⟨h1, h2⟩ | ⟨h1, h2⟩
      · rw [if_neg h1] at hv; exact h2 hv
      · rw [if_neg h1] at hl; exact h2 (HLn.out.1 hl)
      · rw [if_neg h1] at hp; exact h2 (HPn.out.1 hp)
    have HPt := Lib.hid (HPp.out.1 rfl)
    clear HPp
    go_enter Tryz.func50, Tryz.ntmps50
    go_wp2_with fail
    refine (HO.out _ true ⟨fun _ => HPt.out, fun _ => rfl⟩).mono ?_
    rintro e w1 ⟨rfl, hb1⟩
    have HBB := Lib.hid ((HW1.out _).trans (hb1.mono (by simp)))
    clear hb1
    go_wp2
    go_ret2
    first | exact ⟨⟨_, rfl, fun h => (by cases h), .inl rfl⟩, HBB.out⟩ | exact ⟨⟨_, rfl, .inl rfl⟩, HBB.out⟩
theorem taste_of (w : World) (B : Nat) (t : Wi) (hi : WiIn w B t) (hB : B ≤ w.heap.size) (hn : t.Short) (q : Bool) (hq : q = true ↔ IsW t.dat) :
    Calls Tryz.prog 50 #[t.val] w fun e w' => (∃ v, e = .returned (.tuple #[v, .bool q]) ∧ (q = true → TasteAt w' t v)) ∧ Below w.heap.size w w' :=
  (taste_ofV w B t hi hB hn q hq).mono fun _ _ ⟨⟨v, h1, h2, _⟩, h3⟩ => ⟨⟨v, h1, fun h => (h2 h).at'⟩, h3⟩
end Go.Proofs.YtghekfigfjhkeabGreatDoor.num
namespace Go.Proofs.YtghekfigfjhkeabGreatDoor.num
open Go.RowKit Go.Maps
set_option linter.unusedVariables false

set_option maxRecDepth 20000 in
theorem iIsWish (w : World) (B : Nat) (t : Wi) (hi : WiIn w B t) (hB : B ≤ w.heap.size) (hn : t.Short) (q : Bool) (hq : q = true ↔ IsW t.dat) :
    Calls Tryz.prog 33 #[t.val] w fun e w' => e = .returned (.bool q) ∧ Below w.heap.size w w' := by
  have HI := Lib.hid hi
  have HS := Lib.hid (fun (w1 : World) h1 h2 => taste_of w1 B t h1 h2 hn q hq)
  clear hi hq
  obtain ⟨k, f, v, LA, Ln, Lc, ls, PA, Pn, Pc, ps⟩ := t
  unfold Wi.val at HS ⊢
  go_enter Tryz.func33, Tryz.ntmps33
  go_wp2_with fail
  first
    | refine (HS.out _ HI.out hB).mono ?_
    | refine (HS.out _ (HI.out.below ((Below.refl B w).alloc hB _)) (by simp; omega)).mono ?_
  rintro e w1 ⟨⟨tv, rfl, -⟩, hb1⟩
  go_wp2
  go_ret
  first
    | exact ⟨rfl, hb1⟩
    | exact ⟨rfl, ((Below.refl _ w).alloc (Nat.le_refl _) _).trans (hb1.mono (by simp))⟩

end Go.Proofs.YtghekfigfjhkeabGreatDoor.num
namespace Go.Proofs.YtghekfigfjhkeabGreatDoor.num
open Go.RowKit Go.ChangeShapes Go.WideShapes Go.Deep Go.Joins

theorem array5 {α : Type} {cs : Array α} (h : cs.size = 5) : ∃ c0 c1 c2 c3 c4, cs = #[c0, c1, c2, c3, c4] := by
  obtain ⟨l⟩ := cs
  match l, h with
  | [c0, c1, c2, c3, c4], _ => exact ⟨c0, c1, c2, c3, c4, rfl⟩
section
variable {H : Type} {enc : TypeId × Value → H} {W : World}
theorem open_struct5 {P : Program} {w : World} {base : Nat} {spare : Nat → Bool} {held : Bool} {r : Go.Reach} {b0 : Nat} {t : TypeId} {f0 f1 f2 f3 f4 : Field} {v : Value} {d : DataW H} {p : List MemPlace} (hs : P.underlying t = some (.struct #[f0, f1, f2, f3, f4])) (hone : oneCellFields P #[f0, f1, f2, f3, f4] = true) (hC : P.cellsOf t = 5)
    (hv : Value.okWide P w r b0 t v) (h : DataW.Trod enc P w base spare held t v d p) :
    ∃ (v0 v1 v2 v3 v4 : Value) (y0 y1 y2 y3 y4 : DataW H × List MemPlace) (n : Nat), v = .agg #[v0, v1, v2, v3, v4] ∧
      DataW.trod enc P w base spare held n f0.type [v0] = some y0 ∧ DataW.trod enc P w base spare held n f1.type [v1] = some y1 ∧ DataW.trod enc P w base spare held n f2.type [v2] = some y2 ∧ DataW.trod enc P w base spare held n f3.type [v3] = some y3 ∧ DataW.trod enc P w base spare held n f4.type [v4] = some y4 := by
  obtain ⟨cs, rfl, hsz⟩ := okWide_struct hs hv
  obtain ⟨c0, c1, c2, c3, c4, rfl⟩ := array5 (hsz.trans hC)
  obtain ⟨fuel, hf⟩ := h
  obtain ⟨xs, n, _, _, _, hlen, hx⟩ := DataW.trod_struct hs hf
  obtain ⟨o0, k0⟩ := hone_of hone 0 f0 rfl
  obtain ⟨o1, k1⟩ := hone_of hone 1 f1 rfl
  obtain ⟨o2, k2⟩ := hone_of hone 2 f2 rfl
  obtain ⟨o3, k3⟩ := hone_of hone 3 f3 rfl
  obtain ⟨o4, k4⟩ := hone_of hone 4 f4 rfl
  match xs, hlen with
  | [y0, y1, y2, y3, y4], _ =>
    exact ⟨c0, c1, c2, c3, c4, y0, y1, y2, y3, y4, n, rfl, by simpa [Value.cells, o0, k0] using hx 0 f0 rfl, by simpa [Value.cells, o1, k1] using hx 1 f1 rfl, by simpa [Value.cells, o2, k2] using hx 2 f2 rfl, by simpa [Value.cells, o3, k3] using hx 3 f3 rfl, by simpa [Value.cells, o4, k4] using hx 4 f4 rfl⟩
end
end Go.Proofs.YtghekfigfjhkeabGreatDoor.num
namespace Go.Proofs.YtghekfigfjhkeabGreatDoor.num
open Go.RowKit
set_option linter.unusedVariables false

/-- Block g holds the wish t. -/
def Box5 (w : World) (g : Nat) (t : Wi) : Prop :=
  g < w.heap.size ∧ w.cell? ⟨g, 0, none⟩ = some (.int .i64 t.kind) ∧ w.cell? ⟨g, 1, none⟩ = some (.int .i64 t.field) ∧ w.cell? ⟨g, 2, none⟩ = some (.int .i64 t.value) ∧ w.cell? ⟨g, 3, none⟩ = some (.slice t.LA t.Ln t.Lc) ∧ w.cell? ⟨g, 4, none⟩ = some (.slice t.PA t.Pn t.Pc)
theorem Box5.below {w w' : World} {g : Nat} {t : Wi} (h : Box5 w g t) (hb : Below w.heap.size w w') : Box5 w' g t :=
  ⟨Nat.lt_of_lt_of_le h.1 hb.size, (hb.cell (p := ⟨g, 0, none⟩) h.1).trans h.2.1, (hb.cell (p := ⟨g, 1, none⟩) h.1).trans h.2.2.1, (hb.cell (p := ⟨g, 2, none⟩) h.1).trans h.2.2.2.1, (hb.cell (p := ⟨g, 3, none⟩) h.1).trans h.2.2.2.2.1, (hb.cell (p := ⟨g, 4, none⟩) h.1).trans h.2.2.2.2.2⟩
theorem Box5.alloc {w : World} {g : Nat} {t : Wi} (h : Box5 w g t) (o : Obj) : Box5 (w.alloc o) g t := h.below ((Below.refl _ w).alloc (Nat.le_refl _) _)
theorem Box5.new (w : World) (t : Wi) (T : TypeId) : Box5 (w.alloc (.cells #[.int .i64 t.kind, .int .i64 t.field, .int .i64 t.value, .slice t.LA t.Ln t.Lc, .slice t.PA t.Pn t.Pc] T)) w.heap.size t :=
  ⟨by simp, World.cell?_alloc_at _ _ _ _ rfl, World.cell?_alloc_at _ _ _ _ rfl, World.cell?_alloc_at _ _ _ _ rfl, World.cell?_alloc_at _ _ _ _ rfl, World.cell?_alloc_at _ _ _ _ rfl⟩
/-- Block g holds the item t. -/
def Box2 (w : World) (g : Nat) (t : It) : Prop :=
  g < w.heap.size ∧ w.cell? ⟨g, 0, none⟩ = some (.int .i64 t.id) ∧ w.cell? ⟨g, 1, none⟩ = some (.slice t.A t.n t.c)
theorem Box2.below {w w' : World} {g : Nat} {t : It} (h : Box2 w g t) (hb : Below w.heap.size w w') : Box2 w' g t :=
  ⟨Nat.lt_of_lt_of_le h.1 hb.size, (hb.cell (p := ⟨g, 0, none⟩) h.1).trans h.2.1, (hb.cell (p := ⟨g, 1, none⟩) h.1).trans h.2.2⟩
theorem Box2.alloc {w : World} {g : Nat} {t : It} (h : Box2 w g t) (o : Obj) : Box2 (w.alloc o) g t := h.below ((Below.refl _ w).alloc (Nat.le_refl _) _)
theorem Box2.new (w : World) (t : It) (T : TypeId) : Box2 (w.alloc (.cells #[.int .i64 t.id, .slice t.A t.n t.c] T)) w.heap.size t :=
  ⟨by simp, World.cell?_alloc_at _ _ _ _ rfl, World.cell?_alloc_at _ _ _ _ rfl⟩
theorem WiIn.step {w w' : World} {t : Wi} (h : WiIn w w.heap.size t) (hb : Below w.heap.size w w') : WiIn w' w'.heap.size t := (h.below hb).more hb.size
theorem Ints.step {w w' : World} {A : Option Addr} {n : Nat} {xs : List Int} (h : Ints w w.heap.size A n xs) (hb : Below w.heap.size w w') : Ints w' w'.heap.size A n xs := (h.below hb).more hb.size
theorem below_on {w w1 w2 : World} (h : Below w.heap.size w w1) (h2 : Below w1.heap.size w1 w2) : Below w.heap.size w w2 := h.trans (h2.mono h.size)
theorem kind_dat (t : Wi) : t.kind = t.dat.kind := rfl
/-- A copy of the wish t. -/
structure CopyW (w : World) (t t' : Wi) : Prop where
  dat : t'.dat = t.dat
  short : t'.Short
  at' : WiIn w w.heap.size t'
theorem CopyW.step {w w' : World} {t t' : Wi} (h : CopyW w t t') (hb : Below w.heap.size w w') : CopyW w' t t' := ⟨h.dat, h.short, h.at'.step hb⟩
theorem eqWish_w (w : World) (t t1 t2 : Wi) (h1 : CopyW w t t1) (h2 : CopyW w t t2) :
    Calls Tryz.prog 6 #[t1.val, t2.val] w fun e w' => e = .returned (.bool true) ∧ Below w.heap.size w w' :=
  eqWish_c w w.heap.size t1 t2 h1.at' h2.at' (Nat.le_refl _) h1.short true (by rw [h1.dat, h2.dat]; simp)
structure CopyI (w : World) (t t' : It) : Prop where
  dat : t'.dat = t.dat
  short : t'.n ≤ 1048576
  at' : Ints w w.heap.size t'.A t'.n t'.xs
theorem CopyI.step {w w' : World} {t t' : It} (h : CopyI w t t') (hb : Below w.heap.size w w') : CopyI w' t t' := ⟨h.dat, h.short, h.at'.step hb⟩
end Go.Proofs.YtghekfigfjhkeabGreatDoor.num
namespace Go.Proofs.YtghekfigfjhkeabGreatDoor.num
open Go.RowKit Go.Maps
set_option linter.unusedVariables false
set_option linter.unusedSimpArgs false

theorem OwnS.two (w : World) (B : Nat) (hB : B ≤ w.heap.size) (a b : ByteArray) : OwnS (w.alloc (.cells #[.string a, .string b] 9)) B (.slice (some ⟨w.heap.size, 0, none⟩) 2 2) [a, b] :=
  ⟨rfl, .inr ⟨w.heap.size, 2, _, rfl, hB, heap_alloc_new w _, Nat.le_refl _, by decide, rfl, rfl⟩⟩
theorem OwnS.below {w w' : World} {B : Nat} {v : Value} {l : List ByteArray} (h : OwnS w B v l) (hb : Below w.heap.size w w') : OwnS w' B v l :=
  ⟨h.1, h.2.imp id fun ⟨g, cap, cur, h1, h2, h3, h4⟩ => ⟨g, cap, cur, h1, h2, (hb.block g (lt_of_block h3)).trans h3, h4⟩⟩
/-- Strings of the call's own, joined. -/
theorem join_own (w : World) (B : Nat) (v : Value) (l : List ByteArray) (sep : ByteArray) (h : OwnS w B v l) (hne : l ≠ []) (hl : l.length ≤ 10) (hj : (Lib.join (l.map (·.data.toList)) sep.data.toList).length ≤ 140737488355328) :
    Calls Tryz.prog 37 #[v, .string sep] w fun e w' => e = .returned (.string ⟨(Lib.join (l.map (·.data.toList)) sep.data.toList).toArray⟩) ∧ Below w.heap.size w w' := by
  have h0 := h
  rcases h.2 with ⟨rfl, hl0⟩ | ⟨g, cap, cur, rfl, hgB, hg, hcap, _⟩
  · exact absurd (List.eq_nil_of_length_eq_zero hl0) hne
  · refine Tryz.strings_Join g 0 cap l sep w (fun j x hx => ?_) (lt_of_block hg) (by omega) hcap hj
    have hlt : j < l.length := (List.getElem?_eq_some_iff.1 hx).1
    rw [Nat.zero_add, World.ownsRow.cellAt h0 j (by omega), List.getElem?_map, hx]; rfl
theorem kwB_size (i : Nat) : (kwB i).size ≤ 5 := by
  unfold kwB
  show (kwT.getD i []).toArray.size ≤ 5
  rw [List.size_toArray]
  rcases (show i = 0 ∨ i = 1 ∨ i = 2 ∨ i = 3 ∨ i = 4 ∨ 5 ≤ i by omega) with rfl | rfl | rfl | rfl | rfl | h
  · decide
  · decide
  · decide
  · decide
  · decide
  · rw [List.getD_eq_getElem?_getD, List.getElem?_eq_none (by simpa [kwT] using h)]
    decide
theorem join2 (a b : List UInt8) (c : UInt8) : Lib.join [a, b] [c] = a ++ c :: b := by rw [join_cons2, Lib.join_one]
theorem join3 (a b d : List UInt8) (c : UInt8) : Lib.join [a, b, d] [c] = a ++ c :: (b ++ c :: d) := by rw [join_cons2, join_cons2, Lib.join_one]
theorem fldB_list (f : Int) : (⟨#[102]⟩ ++ fmtB f : ByteArray).data.toList = 102 :: Lib.itoa f := by simp [fmtB, ByteArray.data_append]
theorem words2 {k : Nat} {f v : Int} {ls : List Int} {ps : List (Int × Int)} (hr : restT ⟨k, f, v, ls, ps⟩ = []) : (⟨(Lib.join ([kwB k, (⟨#[102]⟩ ++ fmtB f : ByteArray)].map (·.data.toList)) (⟨#[32]⟩ : ByteArray).data.toList).toArray⟩ : ByteArray) = fmtW ⟨k, f, v, ls, ps⟩ true := by
  apply fmtW_ext
  show Lib.join [(kwB k).data.toList, (⟨#[102]⟩ ++ fmtB f : ByteArray).data.toList] [32] = _
  rw [join2, fldB_list]
  unfold wishT
  rw [hr, List.append_nil]
  rfl
theorem words3 {k : Nat} {f v : Int} {ls : List Int} {ps : List (Int × Int)} {x : ByteArray} (hr : restT ⟨k, f, v, ls, ps⟩ = 32 :: x.data.toList) : (⟨(Lib.join ([kwB k, (⟨#[102]⟩ ++ fmtB f : ByteArray), x].map (·.data.toList)) (⟨#[32]⟩ : ByteArray).data.toList).toArray⟩ : ByteArray) = fmtW ⟨k, f, v, ls, ps⟩ true := by
  apply fmtW_ext
  show Lib.join [(kwB k).data.toList, (⟨#[102]⟩ ++ fmtB f : ByteArray).data.toList, x.data.toList] [32] = _
  rw [join3, fldB_list]
  unfold wishT
  rw [hr]
  simp [kwB]
theorem words_len (l : List ByteArray) (m : Nat) (hm : ∀ x ∈ l, x.size ≤ m) (hl : l.length ≤ 3) (h : m ≤ 4194304) : (Lib.join (l.map (·.data.toList)) (⟨#[32]⟩ : ByteArray).data.toList).length ≤ 140737488355328 := by
  have := join_le (m := m) 32 (l.map (·.data.toList)) fun x hx => by
    obtain ⟨b, hb, rfl⟩ := List.mem_map.1 hx
    rw [list_len]
    exact hm b hb
  rw [List.length_map] at this
  show (Lib.join (l.map (·.data.toList)) [32]).length ≤ _
  have h3 : (m + 1) * l.length ≤ (m + 1) * 3 := Nat.mul_le_mul_left _ hl
  omega

set_option maxRecDepth 20000 in
set_option maxHeartbeats 3200000 in
theorem iFmtW (w : World) (B : Nat) (t : Wi) (hi : WiIn w B t) (hB : B ≤ w.heap.size) (hn : t.Short) (q : Bool) (hq : q = true ↔ IsW t.dat) (hpow : Pow w) (hkw : Kw w) :
    Calls Tryz.prog 15 #[t.val] w fun e w' => e = .returned (.string (fmtW t.dat q)) ∧ Below w.heap.size w w' := by
  have HI := Lib.hid hi
  have HQ := Lib.hid hq
  have HPw := Lib.hid hpow
  have HKw := Lib.hid hkw
  have HB1 : Hid (∀ o : Obj, Below B w (w.alloc o)) := Lib.hid fun o => (Below.refl B w).alloc hB _
  have HW1 : Hid (∀ o : Obj, Below w.heap.size w (w.alloc o)) := Lib.hid fun o => (Below.refl _ w).alloc (Nat.le_refl _) _
  have HS : Hid (∀ w1 : World, WiIn w1 B t → B ≤ w1.heap.size → Calls Tryz.prog 33 #[t.val] w1 fun e w' => e = .returned (.bool q) ∧ Below w1.heap.size w1 w') := Lib.hid fun w1 h1 h2 => iIsWish w1 B t h1 h2 hn q hq
  have HN := Lib.hid hn
  clear hi hq hn hpow hkw
  obtain ⟨k, f, v, LA, Ln, Lc, ls, PA, Pn, Pc, ps⟩ := t
  unfold Wi.val at HS ⊢
  simp only [Wi.dat] at HQ ⊢
  cases q
  · go_enter Tryz.func15, Tryz.ntmps15
    go_wp2_with fail
    refine (HS.out _ (HI.out.below (HB1.out _)) (by simp; omega)).mono ?_
    rintro e w1 ⟨rfl, hb1⟩
    have HBB := Lib.hid ((HW1.out _).trans (hb1.mono (by simp)))
    clear hb1
    go_wp2
    go_ret
    exact ⟨rfl, HBB.out⟩
  · have HW := Lib.hid (HQ.out.1 rfl)
    have hk := HW.out.k
    have hf := HW.out.f
    have hv : k = 2 → InR v := fun h => HW.out.val2 h
    have ha : k = 3 → Asc ls := fun h => HW.out.asc h
    have ho : k = 4 → OkP ps := fun h => HW.out.okp h
    have HP : Hid (Pairs w B PA Pn ps) := Lib.hid HI.out.p
    have HL : Hid (Ints w B LA Ln ls) := Lib.hid HI.out.l
    have HNN : Hid (Ln ≤ 1048576 ∧ Pn ≤ 1048576) := Lib.hid HN.out
    have hff : (fmtB f).size ≤ 2 := fmt_R' ⟨hf.1, by have := hf.2; dsimp only at this; omega⟩
    have hf1 : -9223372036854775808 ≤ f := by have := hf.1; dsimp only at this; omega
    have hf2 : f ≤ 9223372036854775807 := by have := hf.2; dsimp only at this; omega
    have hfs : (⟨#[102]⟩ ++ fmtB f : ByteArray).size ≤ 3 := by
      have : (⟨#[102]⟩ ++ fmtB f : ByteArray).size = 1 + (fmtB f).size := by rw [ByteArray.size_append]; rfl
      omega
    dsimp only at hk
    clear hf HQ HN
    rcases (show k = 0 ∨ k = 1 ∨ k = 2 ∨ k = 3 ∨ k = 4 by omega) with rfl | rfl | rfl | rfl | rfl
    · clear hk hv ha ho
      have hwl : ∀ x ∈ [kwB 0, (⟨#[102]⟩ ++ fmtB f : ByteArray)], x.size ≤ 5 := by
        intro x hx
        simp only [List.mem_cons, List.not_mem_nil, or_false] at hx
        rcases hx with rfl | rfl
        · have := kwB_size 0; omega
        · omega
      go_enter Tryz.func15, Tryz.ntmps15
      go_wp2_with fail
      refine (HS.out _ (HI.out.below (HB1.out _)) (by simp; omega)).mono ?_
      rintro e w1 ⟨rfl, hb1⟩
      obtain ⟨c0, c1, c2, c3, c4, hg⟩ := box5 hb1
      have HBB := Lib.hid (And.intro ((HW1.out _).trans (hb1.mono (by simp))) ((HB1.out _).trans (hb1.mono (by simp; omega))))
      clear hb1
      obtain ⟨kb, ko, kc, k0, kg, kh, kk⟩ := HKw.out.below HBB.out.1
      have k1 : w1.cell? ⟨kb, ko, none⟩ = some (.string (kwB 0)) := kk 0 (by decide)
      clear kk
      have hc8 : ¬ (9223372036854775807 < 1 + (fmtB f).size) := by omega
      go_wp2
      have hs0 : (fun w' => Below w1.heap.size w1 w' ∧ w'.cell? ⟨w.heap.size, 0, none⟩ = some (.int .i64 0) ∧ w'.cell? ⟨w.heap.size, 1, none⟩ = some (.int .i64 f) ∧ w'.cell? ⟨w.heap.size, 2, none⟩ = some (.int .i64 v) ∧ w'.cell? ⟨w.heap.size, 3, none⟩ = some (.slice LA Ln Lc) ∧ w'.cell? ⟨w.heap.size, 4, none⟩ = some (.slice PA Pn Pc) ∧ w'.cell? ⟨0, 0, none⟩ = some (.slice (some ⟨kb, ko, none⟩) 5 kc) ∧ w'.cell? ⟨kb, ko, none⟩ = some (.string (kwB 0))) w1.drew := ⟨(Below.refl _ _).drew, c0, c1, c2, c3, c4, k0, k1⟩
      refine wp_region_held (S := fun w' => Below w1.heap.size w1 w' ∧ w'.cell? ⟨w.heap.size, 0, none⟩ = some (.int .i64 0) ∧ w'.cell? ⟨w.heap.size, 1, none⟩ = some (.int .i64 f) ∧ w'.cell? ⟨w.heap.size, 2, none⟩ = some (.int .i64 v) ∧ w'.cell? ⟨w.heap.size, 3, none⟩ = some (.slice LA Ln Lc) ∧ w'.cell? ⟨w.heap.size, 4, none⟩ = some (.slice PA Pn Pc) ∧ w'.cell? ⟨0, 0, none⟩ = some (.slice (some ⟨kb, ko, none⟩) 5 kc) ∧ w'.cell? ⟨kb, ko, none⟩ = some (.string (kwB 0))) (by kernel_rfl) ?_
      change wpAnyH _ _ _ _ _ _ _ _ (World.drew _)
      refine takeY 7 (i := 0) (v := ?v0d) rfl rfl (by kernel_rfl) (by kernel_rfl) (by kernel_rfl) (fun _ _ _ h => h) (by kernel_rfl) ?y0d hs0 ?_
      case y0d =>
        intro w' hw'; (try dsimp only at hw'); obtain ⟨e0, e1, e2, e3, e4, e5, e6, e7⟩ := hw'; go_simp; try with_reducible rfl
      simp only [Act.put, List.setIfInBounds_toArray, List.set_cons_zero, List.set_cons_succ]
      refine takeY 8 (i := 1) (v := ?v1d) rfl rfl (by kernel_rfl) (by kernel_rfl) (by kernel_rfl) (fun _ _ _ h => h) (by kernel_rfl) ?y1d hs0 ?_
      case y1d =>
        intro w' hw'; (try dsimp only at hw'); obtain ⟨e0, e1, e2, e3, e4, e5, e6, e7⟩ := hw'; go_simp; try with_reducible rfl
      simp only [Act.put, List.setIfInBounds_toArray, List.set_cons_zero, List.set_cons_succ]
      refine takeY 9 (i := 2) (v := ?v2d) rfl rfl (by kernel_rfl) (by kernel_rfl) (by kernel_rfl) (fun _ _ _ h => h) (by kernel_rfl) ?y2d hs0 ?_
      case y2d =>
        intro w' hw'; (try dsimp only at hw'); obtain ⟨e0, e1, e2, e3, e4, e5, e6, e7⟩ := hw'; go_simp; try with_reducible rfl
      simp only [Act.put, List.setIfInBounds_toArray, List.set_cons_zero, List.set_cons_succ]
      refine takeY 10 (i := 3) (v := ?v3d) rfl rfl (by kernel_rfl) (by kernel_rfl) (by kernel_rfl) (fun _ _ _ h => h) (by kernel_rfl) ?y3d hs0 ?_
      case y3d =>
        intro w' hw'; (try dsimp only at hw'); obtain ⟨e0, e1, e2, e3, e4, e5, e6, e7⟩ := hw'; go_simp; try with_reducible rfl
      simp only [Act.put, List.setIfInBounds_toArray, List.set_cons_zero, List.set_cons_succ]
      refine takeY 11 (i := 4) (v := ?v4d) rfl rfl (by kernel_rfl) (by kernel_rfl) (by kernel_rfl) (fun _ _ _ h => h) (by kernel_rfl) ?y4d hs0 ?_
      case y4d =>
        intro w' hw'; (try dsimp only at hw'); obtain ⟨e0, e1, e2, e3, e4, e5, e6, e7⟩ := hw'; go_simp; try with_reducible rfl
      simp only [Act.put, List.setIfInBounds_toArray, List.set_cons_zero, List.set_cons_succ]
      refine takeY 12 (i := 5) (v := ?v5d) rfl rfl (by kernel_rfl) (by kernel_rfl) (by kernel_rfl) (fun _ _ _ h => h) (by kernel_rfl) ?y5d hs0 ?_
      case y5d =>
        intro w' hw'; (try dsimp only at hw'); obtain ⟨e0, e1, e2, e3, e4, e5, e6, e7⟩ := hw'; go_simp; try with_reducible rfl
      simp only [Act.put, List.setIfInBounds_toArray, List.set_cons_zero, List.set_cons_succ]
      refine takeY 13 (i := 6) (v := ?v6d) rfl rfl (by kernel_rfl) (by kernel_rfl) (by kernel_rfl) (fun _ _ _ h => h) (by kernel_rfl) ?y6d hs0 ?_
      case y6d =>
        intro w' hw'; (try dsimp only at hw'); obtain ⟨e0, e1, e2, e3, e4, e5, e6, e7⟩ := hw'; go_simp; try with_reducible rfl
      simp only [Act.put, List.setIfInBounds_toArray, List.set_cons_zero, List.set_cons_succ]
      refine wpAnyH_ready (rs := [7]) (by kernel_rfl) (by simp) ?_
      refine AllReadyH.cons rfl (fun K hK => ?_) AllReadyH.nil
      go_simp; go_at_call 34; refine (iFormat f hf1 hf2 _ (HPw.out.below HBB.out.1.drew)).mono ?_; rintro e w2 ⟨rfl, hz⟩; replace hz := (Below.refl w1.heap.size w1).drew.trans (hz.mono (Nat.le_refl _))
      refine hK.out _ _ ⟨hz, (hz.cell (p := ⟨w.heap.size, 0, none⟩) hg).trans c0, (hz.cell (p := ⟨w.heap.size, 1, none⟩) hg).trans c1, (hz.cell (p := ⟨w.heap.size, 2, none⟩) hg).trans c2, (hz.cell (p := ⟨w.heap.size, 3, none⟩) hg).trans c3, (hz.cell (p := ⟨w.heap.size, 4, none⟩) hg).trans c4, (hz.cell (p := ⟨0, 0, none⟩) kg).trans k0, (hz.cell (p := ⟨kb, ko, none⟩) kh).trans k1⟩ (fun hS1 => ?_)
      clear hK K
      try simp only [Act.put, List.setIfInBounds_toArray, List.set_cons_zero, List.set_cons_succ]
      refine takeY 15 (i := 8) (v := ?v8d) rfl rfl (by kernel_rfl) (by kernel_rfl) (by kernel_rfl) (fun _ _ _ h => h) (by kernel_rfl) ?y8d hS1 ?_
      case y8d =>
        intro w' hw'; (try dsimp only at hw'); obtain ⟨e0, e1, e2, e3, e4, e5, e6, e7⟩ := hw'; go_simp; try with_reducible rfl
      simp only [Act.put, List.setIfInBounds_toArray, List.set_cons_zero, List.set_cons_succ]
      refine wpAnyH_ready (rs := [9]) (by kernel_rfl) (by simp) ?_
      refine AllReadyH.cons rfl (fun K hK => ?_) AllReadyH.nil
      go_simp
      refine hK.out _ _ ⟨(hz.alloc hz.size _), ((hz.alloc hz.size _).cell (p := ⟨w.heap.size, 0, none⟩) hg).trans c0, ((hz.alloc hz.size _).cell (p := ⟨w.heap.size, 1, none⟩) hg).trans c1, ((hz.alloc hz.size _).cell (p := ⟨w.heap.size, 2, none⟩) hg).trans c2, ((hz.alloc hz.size _).cell (p := ⟨w.heap.size, 3, none⟩) hg).trans c3, ((hz.alloc hz.size _).cell (p := ⟨w.heap.size, 4, none⟩) hg).trans c4, ((hz.alloc hz.size _).cell (p := ⟨0, 0, none⟩) kg).trans k0, ((hz.alloc hz.size _).cell (p := ⟨kb, ko, none⟩) kh).trans k1⟩ (fun hS2 => ?_)
      clear hK K
      try simp only [Act.put, List.setIfInBounds_toArray, List.set_cons_zero, List.set_cons_succ]
      refine takeY 3 (i := 10) (v := ?v10d) rfl rfl (by kernel_rfl) (by kernel_rfl) (by kernel_rfl) (fun _ _ _ h => h) (by kernel_rfl) ?y10d hS2 ?_
      case y10d =>
        intro w' hw'; (try dsimp only at hw'); obtain ⟨e0, e1, e2, e3, e4, e5, e6, e7⟩ := hw'; go_simp; try with_reducible rfl
      simp only [Act.put, List.setIfInBounds_toArray, List.set_cons_zero, List.set_cons_succ]
      refine wpAnyH_done (by kernel_rfl) ?_ _
      have HZ := Lib.hid (below_on HBB.out.1 hz)
      have HZs := Lib.hid hz.size
      have HZ2 := Lib.hid (HBB.out.2.trans (hz.mono (Nat.le_trans hB HBB.out.1.size)))
      have hz5 := hz.alloc hz.size (.cells #[.string (kwB 0), .string (⟨#[102]⟩ ++ fmtB f : ByteArray)] 9)
      have d0 := (hz5.cell (p := ⟨w.heap.size, 0, none⟩) hg).trans c0
      have d2 := (hz5.cell (p := ⟨w.heap.size, 2, none⟩) hg).trans c2
      have d3 := (hz5.cell (p := ⟨w.heap.size, 3, none⟩) hg).trans c3
      have d4 := (hz5.cell (p := ⟨w.heap.size, 4, none⟩) hg).trans c4
      have HO := Lib.hid (OwnS.two w2 w1.heap.size hz.size (kwB 0) (⟨#[102]⟩ ++ fmtB f : ByteArray))
      have HY : Hid (Below w.heap.size w (w2.alloc (.cells #[.string (kwB 0), .string (⟨#[102]⟩ ++ fmtB f : ByteArray)] 9))) := Lib.hid (HZ.out.alloc HZ.out.size _)
      have HY2 : Hid (Below B w (w2.alloc (.cells #[.string (kwB 0), .string (⟨#[102]⟩ ++ fmtB f : ByteArray)] 9))) := Lib.hid (HZ2.out.alloc (Nat.le_trans hB HZ.out.size) _)
      clear hz hz5 hs0 hS1 c0 c1 c2 c3 c4 k0 k1 kg kh
      go_wp2_with fail
      refine (join_own _ w1.heap.size _ _ ⟨#[32]⟩ HO.out (by simp) (by simp) (words_len _ 5 hwl (by simp) (by decide))).mono ?_
      rintro e w3 ⟨rfl, hb3⟩
      have HB3 := Lib.hid (below_on HY.out hb3)
      clear hb3 d0 d2 d3 d4 hwl
      rw [words2 (k := 0) (v := v) (ls := ls) (ps := ps) rfl]
      go_wp2
      go_ret
      exact ⟨rfl, HB3.out⟩
    · clear hk hv ha ho
      have hwl : ∀ x ∈ [kwB 1, (⟨#[102]⟩ ++ fmtB f : ByteArray)], x.size ≤ 5 := by
        intro x hx
        simp only [List.mem_cons, List.not_mem_nil, or_false] at hx
        rcases hx with rfl | rfl
        · have := kwB_size 1; omega
        · omega
      go_enter Tryz.func15, Tryz.ntmps15
      go_wp2_with fail
      refine (HS.out _ (HI.out.below (HB1.out _)) (by simp; omega)).mono ?_
      rintro e w1 ⟨rfl, hb1⟩
      obtain ⟨c0, c1, c2, c3, c4, hg⟩ := box5 hb1
      have HBB := Lib.hid (And.intro ((HW1.out _).trans (hb1.mono (by simp))) ((HB1.out _).trans (hb1.mono (by simp; omega))))
      clear hb1
      obtain ⟨kb, ko, kc, k0, kg, kh, kk⟩ := HKw.out.below HBB.out.1
      have k1 : w1.cell? ⟨kb, ko + 1, none⟩ = some (.string (kwB 1)) := kk 1 (by decide)
      clear kk
      have hc8 : ¬ (9223372036854775807 < 1 + (fmtB f).size) := by omega
      go_wp2
      have hs0 : (fun w' => Below w1.heap.size w1 w' ∧ w'.cell? ⟨w.heap.size, 0, none⟩ = some (.int .i64 1) ∧ w'.cell? ⟨w.heap.size, 1, none⟩ = some (.int .i64 f) ∧ w'.cell? ⟨w.heap.size, 2, none⟩ = some (.int .i64 v) ∧ w'.cell? ⟨w.heap.size, 3, none⟩ = some (.slice LA Ln Lc) ∧ w'.cell? ⟨w.heap.size, 4, none⟩ = some (.slice PA Pn Pc) ∧ w'.cell? ⟨0, 0, none⟩ = some (.slice (some ⟨kb, ko, none⟩) 5 kc) ∧ w'.cell? ⟨kb, ko + 1, none⟩ = some (.string (kwB 1))) w1.drew := ⟨(Below.refl _ _).drew, c0, c1, c2, c3, c4, k0, k1⟩
      refine wp_region_held (S := fun w' => Below w1.heap.size w1 w' ∧ w'.cell? ⟨w.heap.size, 0, none⟩ = some (.int .i64 1) ∧ w'.cell? ⟨w.heap.size, 1, none⟩ = some (.int .i64 f) ∧ w'.cell? ⟨w.heap.size, 2, none⟩ = some (.int .i64 v) ∧ w'.cell? ⟨w.heap.size, 3, none⟩ = some (.slice LA Ln Lc) ∧ w'.cell? ⟨w.heap.size, 4, none⟩ = some (.slice PA Pn Pc) ∧ w'.cell? ⟨0, 0, none⟩ = some (.slice (some ⟨kb, ko, none⟩) 5 kc) ∧ w'.cell? ⟨kb, ko + 1, none⟩ = some (.string (kwB 1))) (by kernel_rfl) ?_
      change wpAnyH _ _ _ _ _ _ _ _ (World.drew _)
      refine takeY 7 (i := 0) (v := ?v0e) rfl rfl (by kernel_rfl) (by kernel_rfl) (by kernel_rfl) (fun _ _ _ h => h) (by kernel_rfl) ?y0e hs0 ?_
      case y0e =>
        intro w' hw'; (try dsimp only at hw'); obtain ⟨e0, e1, e2, e3, e4, e5, e6, e7⟩ := hw'; go_simp; try with_reducible rfl
      simp only [Act.put, List.setIfInBounds_toArray, List.set_cons_zero, List.set_cons_succ]
      refine takeY 8 (i := 1) (v := ?v1e) rfl rfl (by kernel_rfl) (by kernel_rfl) (by kernel_rfl) (fun _ _ _ h => h) (by kernel_rfl) ?y1e hs0 ?_
      case y1e =>
        intro w' hw'; (try dsimp only at hw'); obtain ⟨e0, e1, e2, e3, e4, e5, e6, e7⟩ := hw'; go_simp; try with_reducible rfl
      simp only [Act.put, List.setIfInBounds_toArray, List.set_cons_zero, List.set_cons_succ]
      refine takeY 9 (i := 2) (v := ?v2e) rfl rfl (by kernel_rfl) (by kernel_rfl) (by kernel_rfl) (fun _ _ _ h => h) (by kernel_rfl) ?y2e hs0 ?_
      case y2e =>
        intro w' hw'; (try dsimp only at hw'); obtain ⟨e0, e1, e2, e3, e4, e5, e6, e7⟩ := hw'; go_simp; try with_reducible rfl
      simp only [Act.put, List.setIfInBounds_toArray, List.set_cons_zero, List.set_cons_succ]
      refine takeY 10 (i := 3) (v := ?v3e) rfl rfl (by kernel_rfl) (by kernel_rfl) (by kernel_rfl) (fun _ _ _ h => h) (by kernel_rfl) ?y3e hs0 ?_
      case y3e =>
        intro w' hw'; (try dsimp only at hw'); obtain ⟨e0, e1, e2, e3, e4, e5, e6, e7⟩ := hw'; go_simp; try with_reducible rfl
      simp only [Act.put, List.setIfInBounds_toArray, List.set_cons_zero, List.set_cons_succ]
      refine takeY 11 (i := 4) (v := ?v4e) rfl rfl (by kernel_rfl) (by kernel_rfl) (by kernel_rfl) (fun _ _ _ h => h) (by kernel_rfl) ?y4e hs0 ?_
      case y4e =>
        intro w' hw'; (try dsimp only at hw'); obtain ⟨e0, e1, e2, e3, e4, e5, e6, e7⟩ := hw'; go_simp; try with_reducible rfl
      simp only [Act.put, List.setIfInBounds_toArray, List.set_cons_zero, List.set_cons_succ]
      refine takeY 12 (i := 5) (v := ?v5e) rfl rfl (by kernel_rfl) (by kernel_rfl) (by kernel_rfl) (fun _ _ _ h => h) (by kernel_rfl) ?y5e hs0 ?_
      case y5e =>
        intro w' hw'; (try dsimp only at hw'); obtain ⟨e0, e1, e2, e3, e4, e5, e6, e7⟩ := hw'; go_simp; try with_reducible rfl
      simp only [Act.put, List.setIfInBounds_toArray, List.set_cons_zero, List.set_cons_succ]
      refine takeY 13 (i := 6) (v := ?v6e) rfl rfl (by kernel_rfl) (by kernel_rfl) (by kernel_rfl) (fun _ _ _ h => h) (by kernel_rfl) ?y6e hs0 ?_
      case y6e =>
        intro w' hw'; (try dsimp only at hw'); obtain ⟨e0, e1, e2, e3, e4, e5, e6, e7⟩ := hw'; go_simp; try with_reducible rfl
      simp only [Act.put, List.setIfInBounds_toArray, List.set_cons_zero, List.set_cons_succ]
      refine wpAnyH_ready (rs := [7]) (by kernel_rfl) (by simp) ?_
      refine AllReadyH.cons rfl (fun K hK => ?_) AllReadyH.nil
      go_simp; go_at_call 34; refine (iFormat f hf1 hf2 _ (HPw.out.below HBB.out.1.drew)).mono ?_; rintro e w2 ⟨rfl, hz⟩; replace hz := (Below.refl w1.heap.size w1).drew.trans (hz.mono (Nat.le_refl _))
      refine hK.out _ _ ⟨hz, (hz.cell (p := ⟨w.heap.size, 0, none⟩) hg).trans c0, (hz.cell (p := ⟨w.heap.size, 1, none⟩) hg).trans c1, (hz.cell (p := ⟨w.heap.size, 2, none⟩) hg).trans c2, (hz.cell (p := ⟨w.heap.size, 3, none⟩) hg).trans c3, (hz.cell (p := ⟨w.heap.size, 4, none⟩) hg).trans c4, (hz.cell (p := ⟨0, 0, none⟩) kg).trans k0, (hz.cell (p := ⟨kb, ko + 1, none⟩) kh).trans k1⟩ (fun hS1 => ?_)
      clear hK K
      try simp only [Act.put, List.setIfInBounds_toArray, List.set_cons_zero, List.set_cons_succ]
      refine takeY 15 (i := 8) (v := ?v8e) rfl rfl (by kernel_rfl) (by kernel_rfl) (by kernel_rfl) (fun _ _ _ h => h) (by kernel_rfl) ?y8e hS1 ?_
      case y8e =>
        intro w' hw'; (try dsimp only at hw'); obtain ⟨e0, e1, e2, e3, e4, e5, e6, e7⟩ := hw'; go_simp; try with_reducible rfl
      simp only [Act.put, List.setIfInBounds_toArray, List.set_cons_zero, List.set_cons_succ]
      refine wpAnyH_ready (rs := [9]) (by kernel_rfl) (by simp) ?_
      refine AllReadyH.cons rfl (fun K hK => ?_) AllReadyH.nil
      go_simp
      refine hK.out _ _ ⟨(hz.alloc hz.size _), ((hz.alloc hz.size _).cell (p := ⟨w.heap.size, 0, none⟩) hg).trans c0, ((hz.alloc hz.size _).cell (p := ⟨w.heap.size, 1, none⟩) hg).trans c1, ((hz.alloc hz.size _).cell (p := ⟨w.heap.size, 2, none⟩) hg).trans c2, ((hz.alloc hz.size _).cell (p := ⟨w.heap.size, 3, none⟩) hg).trans c3, ((hz.alloc hz.size _).cell (p := ⟨w.heap.size, 4, none⟩) hg).trans c4, ((hz.alloc hz.size _).cell (p := ⟨0, 0, none⟩) kg).trans k0, ((hz.alloc hz.size _).cell (p := ⟨kb, ko + 1, none⟩) kh).trans k1⟩ (fun hS2 => ?_)
      clear hK K
      try simp only [Act.put, List.setIfInBounds_toArray, List.set_cons_zero, List.set_cons_succ]
      refine takeY 3 (i := 10) (v := ?v10e) rfl rfl (by kernel_rfl) (by kernel_rfl) (by kernel_rfl) (fun _ _ _ h => h) (by kernel_rfl) ?y10e hS2 ?_
      case y10e =>
        intro w' hw'; (try dsimp only at hw'); obtain ⟨e0, e1, e2, e3, e4, e5, e6, e7⟩ := hw'; go_simp; try with_reducible rfl
      simp only [Act.put, List.setIfInBounds_toArray, List.set_cons_zero, List.set_cons_succ]
      refine wpAnyH_done (by kernel_rfl) ?_ _
      have HZ := Lib.hid (below_on HBB.out.1 hz)
      have HZs := Lib.hid hz.size
      have HZ2 := Lib.hid (HBB.out.2.trans (hz.mono (Nat.le_trans hB HBB.out.1.size)))
      have hz5 := hz.alloc hz.size (.cells #[.string (kwB 1), .string (⟨#[102]⟩ ++ fmtB f : ByteArray)] 9)
      have d0 := (hz5.cell (p := ⟨w.heap.size, 0, none⟩) hg).trans c0
      have d2 := (hz5.cell (p := ⟨w.heap.size, 2, none⟩) hg).trans c2
      have d3 := (hz5.cell (p := ⟨w.heap.size, 3, none⟩) hg).trans c3
      have d4 := (hz5.cell (p := ⟨w.heap.size, 4, none⟩) hg).trans c4
      have HO := Lib.hid (OwnS.two w2 w1.heap.size hz.size (kwB 1) (⟨#[102]⟩ ++ fmtB f : ByteArray))
      have HY : Hid (Below w.heap.size w (w2.alloc (.cells #[.string (kwB 1), .string (⟨#[102]⟩ ++ fmtB f : ByteArray)] 9))) := Lib.hid (HZ.out.alloc HZ.out.size _)
      have HY2 : Hid (Below B w (w2.alloc (.cells #[.string (kwB 1), .string (⟨#[102]⟩ ++ fmtB f : ByteArray)] 9))) := Lib.hid (HZ2.out.alloc (Nat.le_trans hB HZ.out.size) _)
      clear hz hz5 hs0 hS1 c0 c1 c2 c3 c4 k0 k1 kg kh
      go_wp2_with fail
      refine (join_own _ w1.heap.size _ _ ⟨#[32]⟩ HO.out (by simp) (by simp) (words_len _ 5 hwl (by simp) (by decide))).mono ?_
      rintro e w3 ⟨rfl, hb3⟩
      have HB3 := Lib.hid (below_on HY.out hb3)
      clear hb3 d0 d2 d3 d4 hwl
      rw [words2 (k := 1) (v := v) (ls := ls) (ps := ps) rfl]
      go_wp2
      go_ret
      exact ⟨rfl, HB3.out⟩
    · obtain ⟨v0, v9⟩ := hv rfl
      clear hk hv ha ho
      have hfv : (fmtB v).size ≤ 2 := fmt_R' ⟨v0, v9⟩
      have hwl : ∀ x ∈ [kwB 2, (⟨#[102]⟩ ++ fmtB f : ByteArray), fmtB v], x.size ≤ 5 := by
        intro x hx
        simp only [List.mem_cons, List.not_mem_nil, or_false] at hx
        rcases hx with rfl | rfl | rfl
        · have := kwB_size 2; omega
        · omega
        · omega
      go_enter Tryz.func15, Tryz.ntmps15
      go_wp2_with fail
      refine (HS.out _ (HI.out.below (HB1.out _)) (by simp; omega)).mono ?_
      rintro e w1 ⟨rfl, hb1⟩
      obtain ⟨c0, c1, c2, c3, c4, hg⟩ := box5 hb1
      have HBB := Lib.hid (And.intro ((HW1.out _).trans (hb1.mono (by simp))) ((HB1.out _).trans (hb1.mono (by simp; omega))))
      clear hb1
      obtain ⟨kb, ko, kc, k0, kg, kh, kk⟩ := HKw.out.below HBB.out.1
      have k1 : w1.cell? ⟨kb, ko + 2, none⟩ = some (.string (kwB 2)) := kk 2 (by decide)
      clear kk
      have hc8 : ¬ (9223372036854775807 < 1 + (fmtB f).size) := by omega
      go_wp2
      have hs0 : (fun w' => Below w1.heap.size w1 w' ∧ w'.cell? ⟨w.heap.size, 0, none⟩ = some (.int .i64 2) ∧ w'.cell? ⟨w.heap.size, 1, none⟩ = some (.int .i64 f) ∧ w'.cell? ⟨w.heap.size, 2, none⟩ = some (.int .i64 v) ∧ w'.cell? ⟨w.heap.size, 3, none⟩ = some (.slice LA Ln Lc) ∧ w'.cell? ⟨w.heap.size, 4, none⟩ = some (.slice PA Pn Pc) ∧ w'.cell? ⟨0, 0, none⟩ = some (.slice (some ⟨kb, ko, none⟩) 5 kc) ∧ w'.cell? ⟨kb, ko + 2, none⟩ = some (.string (kwB 2))) w1.drew := ⟨(Below.refl _ _).drew, c0, c1, c2, c3, c4, k0, k1⟩
      refine wp_region_held (S := fun w' => Below w1.heap.size w1 w' ∧ w'.cell? ⟨w.heap.size, 0, none⟩ = some (.int .i64 2) ∧ w'.cell? ⟨w.heap.size, 1, none⟩ = some (.int .i64 f) ∧ w'.cell? ⟨w.heap.size, 2, none⟩ = some (.int .i64 v) ∧ w'.cell? ⟨w.heap.size, 3, none⟩ = some (.slice LA Ln Lc) ∧ w'.cell? ⟨w.heap.size, 4, none⟩ = some (.slice PA Pn Pc) ∧ w'.cell? ⟨0, 0, none⟩ = some (.slice (some ⟨kb, ko, none⟩) 5 kc) ∧ w'.cell? ⟨kb, ko + 2, none⟩ = some (.string (kwB 2))) (by kernel_rfl) ?_
      change wpAnyH _ _ _ _ _ _ _ _ (World.drew _)
      refine takeY 7 (i := 0) (v := ?v0a) rfl rfl (by kernel_rfl) (by kernel_rfl) (by kernel_rfl) (fun _ _ _ h => h) (by kernel_rfl) ?y0a hs0 ?_
      case y0a =>
        intro w' hw'; (try dsimp only at hw'); obtain ⟨e0, e1, e2, e3, e4, e5, e6, e7⟩ := hw'; go_simp; try with_reducible rfl
      simp only [Act.put, List.setIfInBounds_toArray, List.set_cons_zero, List.set_cons_succ]
      refine takeY 8 (i := 1) (v := ?v1a) rfl rfl (by kernel_rfl) (by kernel_rfl) (by kernel_rfl) (fun _ _ _ h => h) (by kernel_rfl) ?y1a hs0 ?_
      case y1a =>
        intro w' hw'; (try dsimp only at hw'); obtain ⟨e0, e1, e2, e3, e4, e5, e6, e7⟩ := hw'; go_simp; try with_reducible rfl
      simp only [Act.put, List.setIfInBounds_toArray, List.set_cons_zero, List.set_cons_succ]
      refine takeY 9 (i := 2) (v := ?v2a) rfl rfl (by kernel_rfl) (by kernel_rfl) (by kernel_rfl) (fun _ _ _ h => h) (by kernel_rfl) ?y2a hs0 ?_
      case y2a =>
        intro w' hw'; (try dsimp only at hw'); obtain ⟨e0, e1, e2, e3, e4, e5, e6, e7⟩ := hw'; go_simp; try with_reducible rfl
      simp only [Act.put, List.setIfInBounds_toArray, List.set_cons_zero, List.set_cons_succ]
      refine takeY 10 (i := 3) (v := ?v3a) rfl rfl (by kernel_rfl) (by kernel_rfl) (by kernel_rfl) (fun _ _ _ h => h) (by kernel_rfl) ?y3a hs0 ?_
      case y3a =>
        intro w' hw'; (try dsimp only at hw'); obtain ⟨e0, e1, e2, e3, e4, e5, e6, e7⟩ := hw'; go_simp; try with_reducible rfl
      simp only [Act.put, List.setIfInBounds_toArray, List.set_cons_zero, List.set_cons_succ]
      refine takeY 11 (i := 4) (v := ?v4a) rfl rfl (by kernel_rfl) (by kernel_rfl) (by kernel_rfl) (fun _ _ _ h => h) (by kernel_rfl) ?y4a hs0 ?_
      case y4a =>
        intro w' hw'; (try dsimp only at hw'); obtain ⟨e0, e1, e2, e3, e4, e5, e6, e7⟩ := hw'; go_simp; try with_reducible rfl
      simp only [Act.put, List.setIfInBounds_toArray, List.set_cons_zero, List.set_cons_succ]
      refine takeY 12 (i := 5) (v := ?v5a) rfl rfl (by kernel_rfl) (by kernel_rfl) (by kernel_rfl) (fun _ _ _ h => h) (by kernel_rfl) ?y5a hs0 ?_
      case y5a =>
        intro w' hw'; (try dsimp only at hw'); obtain ⟨e0, e1, e2, e3, e4, e5, e6, e7⟩ := hw'; go_simp; try with_reducible rfl
      simp only [Act.put, List.setIfInBounds_toArray, List.set_cons_zero, List.set_cons_succ]
      refine takeY 13 (i := 6) (v := ?v6a) rfl rfl (by kernel_rfl) (by kernel_rfl) (by kernel_rfl) (fun _ _ _ h => h) (by kernel_rfl) ?y6a hs0 ?_
      case y6a =>
        intro w' hw'; (try dsimp only at hw'); obtain ⟨e0, e1, e2, e3, e4, e5, e6, e7⟩ := hw'; go_simp; try with_reducible rfl
      simp only [Act.put, List.setIfInBounds_toArray, List.set_cons_zero, List.set_cons_succ]
      refine wpAnyH_ready (rs := [7]) (by kernel_rfl) (by simp) ?_
      refine AllReadyH.cons rfl (fun K hK => ?_) AllReadyH.nil
      go_simp; go_at_call 34; refine (iFormat f hf1 hf2 _ (HPw.out.below HBB.out.1.drew)).mono ?_; rintro e w2 ⟨rfl, hz⟩; replace hz := (Below.refl w1.heap.size w1).drew.trans (hz.mono (Nat.le_refl _))
      refine hK.out _ _ ⟨hz, (hz.cell (p := ⟨w.heap.size, 0, none⟩) hg).trans c0, (hz.cell (p := ⟨w.heap.size, 1, none⟩) hg).trans c1, (hz.cell (p := ⟨w.heap.size, 2, none⟩) hg).trans c2, (hz.cell (p := ⟨w.heap.size, 3, none⟩) hg).trans c3, (hz.cell (p := ⟨w.heap.size, 4, none⟩) hg).trans c4, (hz.cell (p := ⟨0, 0, none⟩) kg).trans k0, (hz.cell (p := ⟨kb, ko + 2, none⟩) kh).trans k1⟩ (fun hS1 => ?_)
      clear hK K
      try simp only [Act.put, List.setIfInBounds_toArray, List.set_cons_zero, List.set_cons_succ]
      refine takeY 15 (i := 8) (v := ?v8a) rfl rfl (by kernel_rfl) (by kernel_rfl) (by kernel_rfl) (fun _ _ _ h => h) (by kernel_rfl) ?y8a hS1 ?_
      case y8a =>
        intro w' hw'; (try dsimp only at hw'); obtain ⟨e0, e1, e2, e3, e4, e5, e6, e7⟩ := hw'; go_simp; try with_reducible rfl
      simp only [Act.put, List.setIfInBounds_toArray, List.set_cons_zero, List.set_cons_succ]
      refine wpAnyH_ready (rs := [9]) (by kernel_rfl) (by simp) ?_
      refine AllReadyH.cons rfl (fun K hK => ?_) AllReadyH.nil
      go_simp
      refine hK.out _ _ ⟨(hz.alloc hz.size _), ((hz.alloc hz.size _).cell (p := ⟨w.heap.size, 0, none⟩) hg).trans c0, ((hz.alloc hz.size _).cell (p := ⟨w.heap.size, 1, none⟩) hg).trans c1, ((hz.alloc hz.size _).cell (p := ⟨w.heap.size, 2, none⟩) hg).trans c2, ((hz.alloc hz.size _).cell (p := ⟨w.heap.size, 3, none⟩) hg).trans c3, ((hz.alloc hz.size _).cell (p := ⟨w.heap.size, 4, none⟩) hg).trans c4, ((hz.alloc hz.size _).cell (p := ⟨0, 0, none⟩) kg).trans k0, ((hz.alloc hz.size _).cell (p := ⟨kb, ko + 2, none⟩) kh).trans k1⟩ (fun hS2 => ?_)
      clear hK K
      try simp only [Act.put, List.setIfInBounds_toArray, List.set_cons_zero, List.set_cons_succ]
      refine takeY 3 (i := 10) (v := ?v10a) rfl rfl (by kernel_rfl) (by kernel_rfl) (by kernel_rfl) (fun _ _ _ h => h) (by kernel_rfl) ?y10a hS2 ?_
      case y10a =>
        intro w' hw'; (try dsimp only at hw'); obtain ⟨e0, e1, e2, e3, e4, e5, e6, e7⟩ := hw'; go_simp; try with_reducible rfl
      simp only [Act.put, List.setIfInBounds_toArray, List.set_cons_zero, List.set_cons_succ]
      refine wpAnyH_done (by kernel_rfl) ?_ _
      have HZ := Lib.hid (below_on HBB.out.1 hz)
      have HZs := Lib.hid hz.size
      have HZ2 := Lib.hid (HBB.out.2.trans (hz.mono (Nat.le_trans hB HBB.out.1.size)))
      have hz5 := hz.alloc hz.size (.cells #[.string (kwB 2), .string (⟨#[102]⟩ ++ fmtB f : ByteArray)] 9)
      have d0 := (hz5.cell (p := ⟨w.heap.size, 0, none⟩) hg).trans c0
      have d2 := (hz5.cell (p := ⟨w.heap.size, 2, none⟩) hg).trans c2
      have d3 := (hz5.cell (p := ⟨w.heap.size, 3, none⟩) hg).trans c3
      have d4 := (hz5.cell (p := ⟨w.heap.size, 4, none⟩) hg).trans c4
      have HO := Lib.hid (OwnS.two w2 w1.heap.size hz.size (kwB 2) (⟨#[102]⟩ ++ fmtB f : ByteArray))
      have HY : Hid (Below w.heap.size w (w2.alloc (.cells #[.string (kwB 2), .string (⟨#[102]⟩ ++ fmtB f : ByteArray)] 9))) := Lib.hid (HZ.out.alloc HZ.out.size _)
      have HY2 : Hid (Below B w (w2.alloc (.cells #[.string (kwB 2), .string (⟨#[102]⟩ ++ fmtB f : ByteArray)] 9))) := Lib.hid (HZ2.out.alloc (Nat.le_trans hB HZ.out.size) _)
      clear hz hz5 hs0 hS1 c0 c1 c2 c3 c4 k0 k1 kg kh
      go_wp2_with fail
      refine (iFormat v (by omega) (by omega) _ (HPw.out.below HY.out)).mono ?_
      rintro e w3 ⟨rfl, hb3⟩
      have HO3 := Lib.hid (OwnS.below HO.out hb3)
      have HB3 := Lib.hid (below_on HY.out hb3)
      have HS3 : Hid (w1.heap.size ≤ w3.heap.size) := Lib.hid (by have h1 := HZs.out; have h2 := hb3.size; simp at h2; omega)
      clear hb3 d0 d2 d3 d4
      go_wp2_with (at_builtin; refine wp_appS w3 (by rfl) (.tmp 21) (.tmp 25) (by rfl) w1.heap.size _ _ (by rfl) HO3.out _ [fmtB v] (by rfl) 1 1 rfl (by rfl) (by simp) HS3.out ?_)
      intro v1 w4 hown hb4
      have HO4 := Lib.hid hown
      have HB4 := Lib.hid (HB3.out.trans (hb4.mono HBB.out.1.size))
      clear hown hb4
      go_wp2_with fail
      refine (join_own w4 w1.heap.size _ _ ⟨#[32]⟩ HO4.out (by simp) (by simp) (words_len _ 5 hwl (by simp) (by decide))).mono ?_
      rintro e w5 ⟨rfl, hb5⟩
      have HB5 := Lib.hid (below_on HB4.out hb5)
      clear hb5 hwl
      rw [words3 (k := 2) (f := f) (v := v) (ls := ls) (ps := ps) (x := fmtB v) (by simp [restT, fmtB])]
      go_wp2
      go_ret
      exact ⟨rfl, HB5.out⟩
    · have hasc := ha rfl
      have HA := Lib.hid hasc.2.1
      have hln := HNN.out.1
      have hlen := HL.out.1
      have hT := intsT_len HA.out
      clear hk hv ha ho hasc
      have hsx : (⟨(intsT ls).toArray⟩ : ByteArray).size ≤ 3145728 := by
        show (intsT ls).toArray.size ≤ _
        rw [List.size_toArray]
        omega
      have hwl : ∀ x ∈ [kwB 3, (⟨#[102]⟩ ++ fmtB f : ByteArray), ⟨(intsT ls).toArray⟩], x.size ≤ 3145728 := by
        intro x hx
        simp only [List.mem_cons, List.not_mem_nil, or_false] at hx
        rcases hx with rfl | rfl | rfl
        · have := kwB_size 3; omega
        · omega
        · exact hsx
      go_enter Tryz.func15, Tryz.ntmps15
      go_wp2_with fail
      refine (HS.out _ (HI.out.below (HB1.out _)) (by simp; omega)).mono ?_
      rintro e w1 ⟨rfl, hb1⟩
      obtain ⟨c0, c1, c2, c3, c4, hg⟩ := box5 hb1
      have HBB := Lib.hid (And.intro ((HW1.out _).trans (hb1.mono (by simp))) ((HB1.out _).trans (hb1.mono (by simp; omega))))
      clear hb1
      obtain ⟨kb, ko, kc, k0, kg, kh, kk⟩ := HKw.out.below HBB.out.1
      have k1 : w1.cell? ⟨kb, ko + 3, none⟩ = some (.string (kwB 3)) := kk 3 (by decide)
      clear kk
      have hc8 : ¬ (9223372036854775807 < 1 + (fmtB f).size) := by omega
      go_wp2
      have hs0 : (fun w' => Below w1.heap.size w1 w' ∧ w'.cell? ⟨w.heap.size, 0, none⟩ = some (.int .i64 3) ∧ w'.cell? ⟨w.heap.size, 1, none⟩ = some (.int .i64 f) ∧ w'.cell? ⟨w.heap.size, 2, none⟩ = some (.int .i64 v) ∧ w'.cell? ⟨w.heap.size, 3, none⟩ = some (.slice LA Ln Lc) ∧ w'.cell? ⟨w.heap.size, 4, none⟩ = some (.slice PA Pn Pc) ∧ w'.cell? ⟨0, 0, none⟩ = some (.slice (some ⟨kb, ko, none⟩) 5 kc) ∧ w'.cell? ⟨kb, ko + 3, none⟩ = some (.string (kwB 3))) w1.drew := ⟨(Below.refl _ _).drew, c0, c1, c2, c3, c4, k0, k1⟩
      refine wp_region_held (S := fun w' => Below w1.heap.size w1 w' ∧ w'.cell? ⟨w.heap.size, 0, none⟩ = some (.int .i64 3) ∧ w'.cell? ⟨w.heap.size, 1, none⟩ = some (.int .i64 f) ∧ w'.cell? ⟨w.heap.size, 2, none⟩ = some (.int .i64 v) ∧ w'.cell? ⟨w.heap.size, 3, none⟩ = some (.slice LA Ln Lc) ∧ w'.cell? ⟨w.heap.size, 4, none⟩ = some (.slice PA Pn Pc) ∧ w'.cell? ⟨0, 0, none⟩ = some (.slice (some ⟨kb, ko, none⟩) 5 kc) ∧ w'.cell? ⟨kb, ko + 3, none⟩ = some (.string (kwB 3))) (by kernel_rfl) ?_
      change wpAnyH _ _ _ _ _ _ _ _ (World.drew _)
      refine takeY 7 (i := 0) (v := ?v0b) rfl rfl (by kernel_rfl) (by kernel_rfl) (by kernel_rfl) (fun _ _ _ h => h) (by kernel_rfl) ?y0b hs0 ?_
      case y0b =>
        intro w' hw'; (try dsimp only at hw'); obtain ⟨e0, e1, e2, e3, e4, e5, e6, e7⟩ := hw'; go_simp; try with_reducible rfl
      simp only [Act.put, List.setIfInBounds_toArray, List.set_cons_zero, List.set_cons_succ]
      refine takeY 8 (i := 1) (v := ?v1b) rfl rfl (by kernel_rfl) (by kernel_rfl) (by kernel_rfl) (fun _ _ _ h => h) (by kernel_rfl) ?y1b hs0 ?_
      case y1b =>
        intro w' hw'; (try dsimp only at hw'); obtain ⟨e0, e1, e2, e3, e4, e5, e6, e7⟩ := hw'; go_simp; try with_reducible rfl
      simp only [Act.put, List.setIfInBounds_toArray, List.set_cons_zero, List.set_cons_succ]
      refine takeY 9 (i := 2) (v := ?v2b) rfl rfl (by kernel_rfl) (by kernel_rfl) (by kernel_rfl) (fun _ _ _ h => h) (by kernel_rfl) ?y2b hs0 ?_
      case y2b =>
        intro w' hw'; (try dsimp only at hw'); obtain ⟨e0, e1, e2, e3, e4, e5, e6, e7⟩ := hw'; go_simp; try with_reducible rfl
      simp only [Act.put, List.setIfInBounds_toArray, List.set_cons_zero, List.set_cons_succ]
      refine takeY 10 (i := 3) (v := ?v3b) rfl rfl (by kernel_rfl) (by kernel_rfl) (by kernel_rfl) (fun _ _ _ h => h) (by kernel_rfl) ?y3b hs0 ?_
      case y3b =>
        intro w' hw'; (try dsimp only at hw'); obtain ⟨e0, e1, e2, e3, e4, e5, e6, e7⟩ := hw'; go_simp; try with_reducible rfl
      simp only [Act.put, List.setIfInBounds_toArray, List.set_cons_zero, List.set_cons_succ]
      refine takeY 11 (i := 4) (v := ?v4b) rfl rfl (by kernel_rfl) (by kernel_rfl) (by kernel_rfl) (fun _ _ _ h => h) (by kernel_rfl) ?y4b hs0 ?_
      case y4b =>
        intro w' hw'; (try dsimp only at hw'); obtain ⟨e0, e1, e2, e3, e4, e5, e6, e7⟩ := hw'; go_simp; try with_reducible rfl
      simp only [Act.put, List.setIfInBounds_toArray, List.set_cons_zero, List.set_cons_succ]
      refine takeY 12 (i := 5) (v := ?v5b) rfl rfl (by kernel_rfl) (by kernel_rfl) (by kernel_rfl) (fun _ _ _ h => h) (by kernel_rfl) ?y5b hs0 ?_
      case y5b =>
        intro w' hw'; (try dsimp only at hw'); obtain ⟨e0, e1, e2, e3, e4, e5, e6, e7⟩ := hw'; go_simp; try with_reducible rfl
      simp only [Act.put, List.setIfInBounds_toArray, List.set_cons_zero, List.set_cons_succ]
      refine takeY 13 (i := 6) (v := ?v6b) rfl rfl (by kernel_rfl) (by kernel_rfl) (by kernel_rfl) (fun _ _ _ h => h) (by kernel_rfl) ?y6b hs0 ?_
      case y6b =>
        intro w' hw'; (try dsimp only at hw'); obtain ⟨e0, e1, e2, e3, e4, e5, e6, e7⟩ := hw'; go_simp; try with_reducible rfl
      simp only [Act.put, List.setIfInBounds_toArray, List.set_cons_zero, List.set_cons_succ]
      refine wpAnyH_ready (rs := [7]) (by kernel_rfl) (by simp) ?_
      refine AllReadyH.cons rfl (fun K hK => ?_) AllReadyH.nil
      go_simp; go_at_call 34; refine (iFormat f hf1 hf2 _ (HPw.out.below HBB.out.1.drew)).mono ?_; rintro e w2 ⟨rfl, hz⟩; replace hz := (Below.refl w1.heap.size w1).drew.trans (hz.mono (Nat.le_refl _))
      refine hK.out _ _ ⟨hz, (hz.cell (p := ⟨w.heap.size, 0, none⟩) hg).trans c0, (hz.cell (p := ⟨w.heap.size, 1, none⟩) hg).trans c1, (hz.cell (p := ⟨w.heap.size, 2, none⟩) hg).trans c2, (hz.cell (p := ⟨w.heap.size, 3, none⟩) hg).trans c3, (hz.cell (p := ⟨w.heap.size, 4, none⟩) hg).trans c4, (hz.cell (p := ⟨0, 0, none⟩) kg).trans k0, (hz.cell (p := ⟨kb, ko + 3, none⟩) kh).trans k1⟩ (fun hS1 => ?_)
      clear hK K
      try simp only [Act.put, List.setIfInBounds_toArray, List.set_cons_zero, List.set_cons_succ]
      refine takeY 15 (i := 8) (v := ?v8b) rfl rfl (by kernel_rfl) (by kernel_rfl) (by kernel_rfl) (fun _ _ _ h => h) (by kernel_rfl) ?y8b hS1 ?_
      case y8b =>
        intro w' hw'; (try dsimp only at hw'); obtain ⟨e0, e1, e2, e3, e4, e5, e6, e7⟩ := hw'; go_simp; try with_reducible rfl
      simp only [Act.put, List.setIfInBounds_toArray, List.set_cons_zero, List.set_cons_succ]
      refine wpAnyH_ready (rs := [9]) (by kernel_rfl) (by simp) ?_
      refine AllReadyH.cons rfl (fun K hK => ?_) AllReadyH.nil
      go_simp
      refine hK.out _ _ ⟨(hz.alloc hz.size _), ((hz.alloc hz.size _).cell (p := ⟨w.heap.size, 0, none⟩) hg).trans c0, ((hz.alloc hz.size _).cell (p := ⟨w.heap.size, 1, none⟩) hg).trans c1, ((hz.alloc hz.size _).cell (p := ⟨w.heap.size, 2, none⟩) hg).trans c2, ((hz.alloc hz.size _).cell (p := ⟨w.heap.size, 3, none⟩) hg).trans c3, ((hz.alloc hz.size _).cell (p := ⟨w.heap.size, 4, none⟩) hg).trans c4, ((hz.alloc hz.size _).cell (p := ⟨0, 0, none⟩) kg).trans k0, ((hz.alloc hz.size _).cell (p := ⟨kb, ko + 3, none⟩) kh).trans k1⟩ (fun hS2 => ?_)
      clear hK K
      try simp only [Act.put, List.setIfInBounds_toArray, List.set_cons_zero, List.set_cons_succ]
      refine takeY 3 (i := 10) (v := ?v10b) rfl rfl (by kernel_rfl) (by kernel_rfl) (by kernel_rfl) (fun _ _ _ h => h) (by kernel_rfl) ?y10b hS2 ?_
      case y10b =>
        intro w' hw'; (try dsimp only at hw'); obtain ⟨e0, e1, e2, e3, e4, e5, e6, e7⟩ := hw'; go_simp; try with_reducible rfl
      simp only [Act.put, List.setIfInBounds_toArray, List.set_cons_zero, List.set_cons_succ]
      refine wpAnyH_done (by kernel_rfl) ?_ _
      have HZ := Lib.hid (below_on HBB.out.1 hz)
      have HZs := Lib.hid hz.size
      have HZ2 := Lib.hid (HBB.out.2.trans (hz.mono (Nat.le_trans hB HBB.out.1.size)))
      have hz5 := hz.alloc hz.size (.cells #[.string (kwB 3), .string (⟨#[102]⟩ ++ fmtB f : ByteArray)] 9)
      have d0 := (hz5.cell (p := ⟨w.heap.size, 0, none⟩) hg).trans c0
      have d2 := (hz5.cell (p := ⟨w.heap.size, 2, none⟩) hg).trans c2
      have d3 := (hz5.cell (p := ⟨w.heap.size, 3, none⟩) hg).trans c3
      have d4 := (hz5.cell (p := ⟨w.heap.size, 4, none⟩) hg).trans c4
      have HO := Lib.hid (OwnS.two w2 w1.heap.size hz.size (kwB 3) (⟨#[102]⟩ ++ fmtB f : ByteArray))
      have HY : Hid (Below w.heap.size w (w2.alloc (.cells #[.string (kwB 3), .string (⟨#[102]⟩ ++ fmtB f : ByteArray)] 9))) := Lib.hid (HZ.out.alloc HZ.out.size _)
      have HY2 : Hid (Below B w (w2.alloc (.cells #[.string (kwB 3), .string (⟨#[102]⟩ ++ fmtB f : ByteArray)] 9))) := Lib.hid (HZ2.out.alloc (Nat.le_trans hB HZ.out.size) _)
      clear hz hz5 hs0 hS1 c0 c1 c2 c3 c4 k0 k1 kg kh
      go_wp2_with fail
      refine (iInts _ B LA Ln Lc ls (HL.out.below HY2.out) (Nat.le_trans hB HY.out.size) HNN.out.1 HA.out (HPw.out.below HY.out)).mono ?_
      rintro e w3 ⟨rfl, hb3⟩
      have HO3 := Lib.hid (OwnS.below HO.out hb3)
      have HB3 := Lib.hid (below_on HY.out hb3)
      have HS3 : Hid (w1.heap.size ≤ w3.heap.size) := Lib.hid (by have h1 := HZs.out; have h2 := hb3.size; simp at h2; omega)
      clear hb3 d0 d2 d3 d4
      go_wp2_with (at_builtin; refine wp_appS w3 (by rfl) (.tmp 29) (.tmp 33) (by rfl) w1.heap.size _ _ (by rfl) HO3.out _ [⟨(intsT ls).toArray⟩] (by rfl) 1 1 rfl (by rfl) (by simp) HS3.out ?_)
      intro v1 w4 hown hb4
      have HO4 := Lib.hid hown
      have HB4 := Lib.hid (HB3.out.trans (hb4.mono HBB.out.1.size))
      clear hown hb4
      go_wp2_with fail
      refine (join_own w4 w1.heap.size _ _ ⟨#[32]⟩ HO4.out (by simp) (by simp) (words_len _ 3145728 hwl (by simp) (by decide))).mono ?_
      rintro e w5 ⟨rfl, hb5⟩
      have HB5 := Lib.hid (below_on HB4.out hb5)
      clear hb5 hwl
      rw [words3 (k := 3) (f := f) (v := v) (ls := ls) (ps := ps) (x := ⟨(intsT ls).toArray⟩) (by simp [restT])]
      go_wp2
      go_ret
      exact ⟨rfl, HB5.out⟩
    · have hok := ho rfl
      have HOk := Lib.hid hok
      have hT := pairsT_len hok
      clear hk hv ha ho hok
      have hsx : (fmtP ps true).size ≤ 60 := by
        show (pairsT ps).toArray.size ≤ _
        rw [List.size_toArray]
        omega
      have hwl : ∀ x ∈ [kwB 4, (⟨#[102]⟩ ++ fmtB f : ByteArray), fmtP ps true], x.size ≤ 60 := by
        intro x hx
        simp only [List.mem_cons, List.not_mem_nil, or_false] at hx
        rcases hx with rfl | rfl | rfl
        · have := kwB_size 4; omega
        · omega
        · exact hsx
      go_enter Tryz.func15, Tryz.ntmps15
      go_wp2_with fail
      refine (HS.out _ (HI.out.below (HB1.out _)) (by simp; omega)).mono ?_
      rintro e w1 ⟨rfl, hb1⟩
      obtain ⟨c0, c1, c2, c3, c4, hg⟩ := box5 hb1
      have HBB := Lib.hid (And.intro ((HW1.out _).trans (hb1.mono (by simp))) ((HB1.out _).trans (hb1.mono (by simp; omega))))
      clear hb1
      obtain ⟨kb, ko, kc, k0, kg, kh, kk⟩ := HKw.out.below HBB.out.1
      have k1 : w1.cell? ⟨kb, ko + 4, none⟩ = some (.string (kwB 4)) := kk 4 (by decide)
      clear kk
      have hc8 : ¬ (9223372036854775807 < 1 + (fmtB f).size) := by omega
      go_wp2
      have hs0 : (fun w' => Below w1.heap.size w1 w' ∧ w'.cell? ⟨w.heap.size, 0, none⟩ = some (.int .i64 4) ∧ w'.cell? ⟨w.heap.size, 1, none⟩ = some (.int .i64 f) ∧ w'.cell? ⟨w.heap.size, 2, none⟩ = some (.int .i64 v) ∧ w'.cell? ⟨w.heap.size, 3, none⟩ = some (.slice LA Ln Lc) ∧ w'.cell? ⟨w.heap.size, 4, none⟩ = some (.slice PA Pn Pc) ∧ w'.cell? ⟨0, 0, none⟩ = some (.slice (some ⟨kb, ko, none⟩) 5 kc) ∧ w'.cell? ⟨kb, ko + 4, none⟩ = some (.string (kwB 4))) w1.drew := ⟨(Below.refl _ _).drew, c0, c1, c2, c3, c4, k0, k1⟩
      refine wp_region_held (S := fun w' => Below w1.heap.size w1 w' ∧ w'.cell? ⟨w.heap.size, 0, none⟩ = some (.int .i64 4) ∧ w'.cell? ⟨w.heap.size, 1, none⟩ = some (.int .i64 f) ∧ w'.cell? ⟨w.heap.size, 2, none⟩ = some (.int .i64 v) ∧ w'.cell? ⟨w.heap.size, 3, none⟩ = some (.slice LA Ln Lc) ∧ w'.cell? ⟨w.heap.size, 4, none⟩ = some (.slice PA Pn Pc) ∧ w'.cell? ⟨0, 0, none⟩ = some (.slice (some ⟨kb, ko, none⟩) 5 kc) ∧ w'.cell? ⟨kb, ko + 4, none⟩ = some (.string (kwB 4))) (by kernel_rfl) ?_
      change wpAnyH _ _ _ _ _ _ _ _ (World.drew _)
      refine takeY 7 (i := 0) (v := ?v0c) rfl rfl (by kernel_rfl) (by kernel_rfl) (by kernel_rfl) (fun _ _ _ h => h) (by kernel_rfl) ?y0c hs0 ?_
      case y0c =>
        intro w' hw'; (try dsimp only at hw'); obtain ⟨e0, e1, e2, e3, e4, e5, e6, e7⟩ := hw'; go_simp; try with_reducible rfl
      simp only [Act.put, List.setIfInBounds_toArray, List.set_cons_zero, List.set_cons_succ]
      refine takeY 8 (i := 1) (v := ?v1c) rfl rfl (by kernel_rfl) (by kernel_rfl) (by kernel_rfl) (fun _ _ _ h => h) (by kernel_rfl) ?y1c hs0 ?_
      case y1c =>
        intro w' hw'; (try dsimp only at hw'); obtain ⟨e0, e1, e2, e3, e4, e5, e6, e7⟩ := hw'; go_simp; try with_reducible rfl
      simp only [Act.put, List.setIfInBounds_toArray, List.set_cons_zero, List.set_cons_succ]
      refine takeY 9 (i := 2) (v := ?v2c) rfl rfl (by kernel_rfl) (by kernel_rfl) (by kernel_rfl) (fun _ _ _ h => h) (by kernel_rfl) ?y2c hs0 ?_
      case y2c =>
        intro w' hw'; (try dsimp only at hw'); obtain ⟨e0, e1, e2, e3, e4, e5, e6, e7⟩ := hw'; go_simp; try with_reducible rfl
      simp only [Act.put, List.setIfInBounds_toArray, List.set_cons_zero, List.set_cons_succ]
      refine takeY 10 (i := 3) (v := ?v3c) rfl rfl (by kernel_rfl) (by kernel_rfl) (by kernel_rfl) (fun _ _ _ h => h) (by kernel_rfl) ?y3c hs0 ?_
      case y3c =>
        intro w' hw'; (try dsimp only at hw'); obtain ⟨e0, e1, e2, e3, e4, e5, e6, e7⟩ := hw'; go_simp; try with_reducible rfl
      simp only [Act.put, List.setIfInBounds_toArray, List.set_cons_zero, List.set_cons_succ]
      refine takeY 11 (i := 4) (v := ?v4c) rfl rfl (by kernel_rfl) (by kernel_rfl) (by kernel_rfl) (fun _ _ _ h => h) (by kernel_rfl) ?y4c hs0 ?_
      case y4c =>
        intro w' hw'; (try dsimp only at hw'); obtain ⟨e0, e1, e2, e3, e4, e5, e6, e7⟩ := hw'; go_simp; try with_reducible rfl
      simp only [Act.put, List.setIfInBounds_toArray, List.set_cons_zero, List.set_cons_succ]
      refine takeY 12 (i := 5) (v := ?v5c) rfl rfl (by kernel_rfl) (by kernel_rfl) (by kernel_rfl) (fun _ _ _ h => h) (by kernel_rfl) ?y5c hs0 ?_
      case y5c =>
        intro w' hw'; (try dsimp only at hw'); obtain ⟨e0, e1, e2, e3, e4, e5, e6, e7⟩ := hw'; go_simp; try with_reducible rfl
      simp only [Act.put, List.setIfInBounds_toArray, List.set_cons_zero, List.set_cons_succ]
      refine takeY 13 (i := 6) (v := ?v6c) rfl rfl (by kernel_rfl) (by kernel_rfl) (by kernel_rfl) (fun _ _ _ h => h) (by kernel_rfl) ?y6c hs0 ?_
      case y6c =>
        intro w' hw'; (try dsimp only at hw'); obtain ⟨e0, e1, e2, e3, e4, e5, e6, e7⟩ := hw'; go_simp; try with_reducible rfl
      simp only [Act.put, List.setIfInBounds_toArray, List.set_cons_zero, List.set_cons_succ]
      refine wpAnyH_ready (rs := [7]) (by kernel_rfl) (by simp) ?_
      refine AllReadyH.cons rfl (fun K hK => ?_) AllReadyH.nil
      go_simp; go_at_call 34; refine (iFormat f hf1 hf2 _ (HPw.out.below HBB.out.1.drew)).mono ?_; rintro e w2 ⟨rfl, hz⟩; replace hz := (Below.refl w1.heap.size w1).drew.trans (hz.mono (Nat.le_refl _))
      refine hK.out _ _ ⟨hz, (hz.cell (p := ⟨w.heap.size, 0, none⟩) hg).trans c0, (hz.cell (p := ⟨w.heap.size, 1, none⟩) hg).trans c1, (hz.cell (p := ⟨w.heap.size, 2, none⟩) hg).trans c2, (hz.cell (p := ⟨w.heap.size, 3, none⟩) hg).trans c3, (hz.cell (p := ⟨w.heap.size, 4, none⟩) hg).trans c4, (hz.cell (p := ⟨0, 0, none⟩) kg).trans k0, (hz.cell (p := ⟨kb, ko + 4, none⟩) kh).trans k1⟩ (fun hS1 => ?_)
      clear hK K
      try simp only [Act.put, List.setIfInBounds_toArray, List.set_cons_zero, List.set_cons_succ]
      refine takeY 15 (i := 8) (v := ?v8c) rfl rfl (by kernel_rfl) (by kernel_rfl) (by kernel_rfl) (fun _ _ _ h => h) (by kernel_rfl) ?y8c hS1 ?_
      case y8c =>
        intro w' hw'; (try dsimp only at hw'); obtain ⟨e0, e1, e2, e3, e4, e5, e6, e7⟩ := hw'; go_simp; try with_reducible rfl
      simp only [Act.put, List.setIfInBounds_toArray, List.set_cons_zero, List.set_cons_succ]
      refine wpAnyH_ready (rs := [9]) (by kernel_rfl) (by simp) ?_
      refine AllReadyH.cons rfl (fun K hK => ?_) AllReadyH.nil
      go_simp
      refine hK.out _ _ ⟨(hz.alloc hz.size _), ((hz.alloc hz.size _).cell (p := ⟨w.heap.size, 0, none⟩) hg).trans c0, ((hz.alloc hz.size _).cell (p := ⟨w.heap.size, 1, none⟩) hg).trans c1, ((hz.alloc hz.size _).cell (p := ⟨w.heap.size, 2, none⟩) hg).trans c2, ((hz.alloc hz.size _).cell (p := ⟨w.heap.size, 3, none⟩) hg).trans c3, ((hz.alloc hz.size _).cell (p := ⟨w.heap.size, 4, none⟩) hg).trans c4, ((hz.alloc hz.size _).cell (p := ⟨0, 0, none⟩) kg).trans k0, ((hz.alloc hz.size _).cell (p := ⟨kb, ko + 4, none⟩) kh).trans k1⟩ (fun hS2 => ?_)
      clear hK K
      try simp only [Act.put, List.setIfInBounds_toArray, List.set_cons_zero, List.set_cons_succ]
      refine takeY 3 (i := 10) (v := ?v10c) rfl rfl (by kernel_rfl) (by kernel_rfl) (by kernel_rfl) (fun _ _ _ h => h) (by kernel_rfl) ?y10c hS2 ?_
      case y10c =>
        intro w' hw'; (try dsimp only at hw'); obtain ⟨e0, e1, e2, e3, e4, e5, e6, e7⟩ := hw'; go_simp; try with_reducible rfl
      simp only [Act.put, List.setIfInBounds_toArray, List.set_cons_zero, List.set_cons_succ]
      refine wpAnyH_done (by kernel_rfl) ?_ _
      have HZ := Lib.hid (below_on HBB.out.1 hz)
      have HZs := Lib.hid hz.size
      have HZ2 := Lib.hid (HBB.out.2.trans (hz.mono (Nat.le_trans hB HBB.out.1.size)))
      have hz5 := hz.alloc hz.size (.cells #[.string (kwB 4), .string (⟨#[102]⟩ ++ fmtB f : ByteArray)] 9)
      have d0 := (hz5.cell (p := ⟨w.heap.size, 0, none⟩) hg).trans c0
      have d2 := (hz5.cell (p := ⟨w.heap.size, 2, none⟩) hg).trans c2
      have d3 := (hz5.cell (p := ⟨w.heap.size, 3, none⟩) hg).trans c3
      have d4 := (hz5.cell (p := ⟨w.heap.size, 4, none⟩) hg).trans c4
      have HO := Lib.hid (OwnS.two w2 w1.heap.size hz.size (kwB 4) (⟨#[102]⟩ ++ fmtB f : ByteArray))
      have HY : Hid (Below w.heap.size w (w2.alloc (.cells #[.string (kwB 4), .string (⟨#[102]⟩ ++ fmtB f : ByteArray)] 9))) := Lib.hid (HZ.out.alloc HZ.out.size _)
      have HY2 : Hid (Below B w (w2.alloc (.cells #[.string (kwB 4), .string (⟨#[102]⟩ ++ fmtB f : ByteArray)] 9))) := Lib.hid (HZ2.out.alloc (Nat.le_trans hB HZ.out.size) _)
      clear hz hz5 hs0 hS1 c0 c1 c2 c3 c4 k0 k1 kg kh
      go_wp2_with fail
      refine (iFmtP _ B PA Pn Pc ps (HP.out.below HY2.out) (Nat.le_trans hB HY.out.size) HNN.out.2 true ⟨fun _ => HOk.out, fun _ => rfl⟩ (HPw.out.below HY.out)).mono ?_
      rintro e w3 ⟨rfl, hb3⟩
      have HO3 := Lib.hid (OwnS.below HO.out hb3)
      have HB3 := Lib.hid (below_on HY.out hb3)
      have HS3 : Hid (w1.heap.size ≤ w3.heap.size) := Lib.hid (by have h1 := HZs.out; have h2 := hb3.size; simp at h2; omega)
      clear hb3 d0 d2 d3 d4
      go_wp2_with (at_builtin; refine wp_appS w3 (by rfl) (.tmp 37) (.tmp 41) (by rfl) w1.heap.size _ _ (by rfl) HO3.out _ [fmtP ps true] (by rfl) 1 1 rfl (by rfl) (by simp) HS3.out ?_)
      intro v1 w4 hown hb4
      have HO4 := Lib.hid hown
      have HB4 := Lib.hid (HB3.out.trans (hb4.mono HBB.out.1.size))
      clear hown hb4
      go_wp2_with fail
      refine (join_own w4 w1.heap.size _ _ ⟨#[32]⟩ HO4.out (by simp) (by simp) (words_len _ 60 hwl (by simp) (by decide))).mono ?_
      rintro e w5 ⟨rfl, hb5⟩
      have HB5 := Lib.hid (below_on HB4.out hb5)
      clear hb5 hwl
      rw [words3 (k := 4) (f := f) (v := v) (ls := ls) (ps := ps) (x := fmtP ps true) (by simp [restT, fmtP])]
      go_wp2
      go_ret
      exact ⟨rfl, HB5.out⟩
end Go.Proofs.YtghekfigfjhkeabGreatDoor.num
namespace Go.Proofs.YtghekfigfjhkeabGreatDoor.num
open Go.RowKit
set_option linter.unusedVariables false
set_option linter.unusedSimpArgs false

theorem pVal_in (l : List UInt8) : -999999999 ≤ pVal l ∧ pVal l ≤ 999999999 := by
  unfold pVal
  split
  · rename_i h
    have h' := of_decide_eq_true (p := (dgs l).length ≤ 9 ∧ (dgs l).all isD = true ∧ Lib.itoa (signed l (scanV (dgs l))) = l) h
    have := scanV_le9 (dgs l) h'.1
    unfold signed
    split <;> omega
  · omega
theorem kindI_in (l : List UInt8) : -1 ≤ kindI l ∧ kindI l ≤ 4 := by
  unfold kindI
  repeat' split
  all_goals omega
theorem ImplW.wf {s : List UInt8} {t : Wi} (h : ImplW s t.dat) : (Lit.int .i64 t.kind).wf = true ∧ (Lit.int .i64 t.field).wf = true ∧ (Lit.int .i64 t.value).wf = true := by
  have h1 : t.kind = _ := h.k
  have h2 : t.field = _ := h.f
  have h3 : t.value = _ := h.v
  have k1 := kindI_in (readWd s)
  have k2 := pVal_in (Lib.trimPrefix (readFd s) [102])
  have k3 := pVal_in (readAr s)
  refine ⟨WalkArith.wf_i64 ?_, WalkArith.wf_i64 ?_, WalkArith.wf_i64 ?_⟩
  · rw [h1]; omega
  · rw [h2]; omega
  · rw [h3]; split <;> omega
theorem ReadW.wi {w : World} {B : Nat} {t : Wi} {s : List UInt8} (h : ReadW w B t) (g : ImplW s t.dat) : WiIn w w.heap.size t := ⟨g.wf.1, g.wf.2.1, g.wf.2.2, ownI_at h.l, h.p.at⟩
theorem ReadW.short {w : World} {B : Nat} {t : Wi} (h : ReadW w B t) : t.Short := ⟨by have := (ownI_at h.l).1; have := h.nl; omega, by have := h.p.at.1; have := h.np; omega⟩
theorem ReadW.blocks {w w' : World} {B : Nat} {t : Wi} (h : ReadW w B t) (hb : ∀ b, B ≤ b → b < w.heap.size → w'.heap[b]? = w.heap[b]?) : ReadW w' B t :=
  ⟨ownI_blocks h.l fun k hk => hb k (ownI_lows h.l k hk) (ownI_tops h.l k hk), h.p.blocks fun k hk => hb k (h.p.lows k hk) (h.p.tops k hk), h.nl, h.np, h.ap⟩
theorem ReadW.low {w : World} {B B' : Nat} {t : Wi} (h : ReadW w B t) (hB : B' ≤ B) : ReadW w B' t := ⟨ownI_lowD' h.l hB, ownP_lowD' h.p hB, h.nl, h.np, h.ap⟩
def OutParseW (s : ByteArray) (w : World) (e : Ending) (w' : World) : Prop := (∃ (t : Wi) (ok : Bool), e = .returned (.tuple #[t.val, .bool ok]) ∧ ParsedW s.data.toList t.dat ok ∧ ReadW w' w.heap.size t) ∧ Below w.heap.size w w'
theorem empty_no {s : ByteArray} (h : s.data.toList = []) : ParsedW s.data.toList ⟨0, 0, 0, [], []⟩ false := .inr ⟨rfl, rfl, fun d' _ => by rw [h]; exact wishT_ne⟩
/-- The format asked for and got. -/
theorem fmt_back {d : WD} {q b : Bool} {s : ByteArray} (hq : q = true ↔ IsW d) (hs : s.data.toList ≠ []) (hb : b = true ↔ fmtW d q = s) : b = true ↔ IsW d ∧ wishT d = s.data.toList := by
  rw [hb]
  refine ⟨fun h => ?_, fun h => ?_⟩
  · cases q
    · exact (hs (by rw [← h]; rfl)).elim
    · exact ⟨hq.1 rfl, by rw [← h]; rfl⟩
  · rw [hq.2 h.1]
    exact bytes_ext h.2
theorem eq_lists {a s : ByteArray} {b : Bool} (hb : b = true ↔ a = s) : (a.toList == s.toList) = b := by
  rw [ByteArray.toList_eq, ByteArray.toList_eq]
  cases b
  · have : ¬ a.data.toList = s.data.toList := fun e => by have := hb.2 (bytes_ext e); cases this
    exact beq_eq_false_iff_ne.2 this
  · rw [hb.1 rfl]; simp

set_option maxRecDepth 20000 in
set_option maxHeartbeats 3200000 in
theorem iParseWish (s : ByteArray) (hs : s.size ≤ 1048576) (w : World) (hpow : Pow w) (hmx : Mx w) (hkw : Kw w) :
    Calls Tryz.prog 5 #[.string s] w (OutParseW s w) := by
  have hx := (Below.refl w.heap.size w).alloc (Nat.le_refl _) (.cells #[.int .i64 0, .int .i64 0, .int .i64 0, .slice none 0 0, .slice none 0 0] 25)
  have HC := Lib.hid (readWish_c s hs (w.alloc (.cells #[.int .i64 0, .int .i64 0, .int .i64 0, .slice none 0 0, .slice none 0 0] 25)) (hpow.below hx) (hmx.below hx) (hkw.below hx))
  have HPK := Lib.hid (And.intro hpow hkw)
  have HX := Lib.hid hx
  clear hpow hmx hkw hx
  go_enter Tryz.func5, Tryz.ntmps5
  go_wp2_with fail
  refine HC.out.mono ?_
  rintro e w1 h
  unfold OutRead at h
  obtain ⟨⟨t, rfl, hr, him⟩, hb⟩ := h
  rw [World.size_alloc] at hr
  have HR1 : Hid (w1.heap[w.heap.size]? = some (.cells #[.int .i64 0, .int .i64 0, .int .i64 0, .slice none 0 0, .slice none 0 0] 25 (0, 0))) := Lib.hid ((hb.block w.heap.size (by simp)).trans (heap_alloc_new w _))
  have HB1 := Lib.hid (HX.out.trans (hb.mono HX.out.size))
  have HRd := Lib.hid hr
  have HIm := Lib.hid him
  have hlt : w.heap.size < w1.heap.size := lt_of_block HR1.out
  clear hb hr him HX HC
  have HR2 := Lib.hid ((Below.heap_alloc w1 (.cells #[.int .i64 t.kind, .int .i64 t.field, .int .i64 t.value, .slice t.LA t.Ln t.Lc, .slice t.PA t.Pn t.Pc] 25) _ hlt).trans HR1.out)
  have HY2 := Lib.hid (heap_alloc_new w1 (.cells #[.int .i64 t.kind, .int .i64 t.field, .int .i64 t.value, .slice t.LA t.Ln t.Lc, .slice t.PA t.Pn t.Pc] 25))
  have HB2 := Lib.hid (HB1.out.alloc HB1.out.size (.cells #[.int .i64 t.kind, .int .i64 t.field, .int .i64 t.value, .slice t.LA t.Ln t.Lc, .slice t.PA t.Pn t.Pc] 25))
  have HRd2 : Hid (ReadW (w1.alloc (.cells #[.int .i64 t.kind, .int .i64 t.field, .int .i64 t.value, .slice t.LA t.Ln t.Lc, .slice t.PA t.Pn t.Pc] 25)) (w.heap.size + 1) t) := Lib.hid (HRd.out.blocks fun b _ hb => Below.heap_alloc _ _ _ hb)
  clear HRd
  have hval : t.val = .agg #[.int .i64 t.kind, .int .i64 t.field, .int .i64 t.value, .slice t.LA t.Ln t.Lc, .slice t.PA t.Pn t.Pc] := rfl
  rw [hval]
  clear hval
  by_cases hs0 : s.data.toList = []
  · have he : s.toList.isEmpty = true := by rw [ByteArray.toList_eq, hs0]; rfl
    have HE := Lib.hid hs0
    clear hs0
    have x0 : World.cell? w1 ⟨w.heap.size, 0, none⟩ = some (.int .i64 0) := cell_of_row _ _ 0 _ _ (0, 0) HR1.out
    have x1 : World.cell? w1 ⟨w.heap.size, 1, none⟩ = some (.int .i64 0) := cell_of_row _ _ 1 _ _ (0, 0) HR1.out
    have x2 : World.cell? w1 ⟨w.heap.size, 2, none⟩ = some (.int .i64 0) := cell_of_row _ _ 2 _ _ (0, 0) HR1.out
    have x3 : World.cell? w1 ⟨w.heap.size, 3, none⟩ = some (.slice none 0 0) := cell_of_row _ _ 3 _ _ (0, 0) HR1.out
    have x4 : World.cell? w1 ⟨w.heap.size, 4, none⟩ = some (.slice none 0 0) := cell_of_row _ _ 4 _ _ (0, 0) HR1.out
    have z0 : World.frozen? w1 ⟨w.heap.size, 0, none⟩ = false := frozen_of_row _ _ 0 _ _ HR1.out
    have z1 : World.frozen? w1 ⟨w.heap.size, 1, none⟩ = false := frozen_of_row _ _ 1 _ _ HR1.out
    have z2 : World.frozen? w1 ⟨w.heap.size, 2, none⟩ = false := frozen_of_row _ _ 2 _ _ HR1.out
    have z3 : World.frozen? w1 ⟨w.heap.size, 3, none⟩ = false := frozen_of_row _ _ 3 _ _ HR1.out
    have z4 : World.frozen? w1 ⟨w.heap.size, 4, none⟩ = false := frozen_of_row _ _ 4 _ _ HR1.out
    go_wp2
    refine bodyPost_ret_by (results_row_tmp rfl _ _ w.heap.size 25 _ (0, 0) _ rfl ((Below.heap_alloc _ _ _ (by simp; omega)).trans (five_set HR1.out)) Tryz.underlying25 rfl (by kernel_rfl)) rfl ?_
    exact ⟨⟨⟨0, 0, 0, none, 0, 0, [], none, 0, 0, []⟩, false, rfl, empty_no HE.out, ⟨ownI_nil _ _, OwnP.nil _ _, by simp, by simp, fun k h => (by cases h)⟩⟩, (below5 HB1.out (Nat.le_refl _) _ _ _ _ _).alloc (by simp; exact HB1.out.size) _⟩
  clear HR1 HB1
  have he : s.toList.isEmpty = false := by
    rw [ByteArray.toList_eq]
    cases h : s.data.toList with
    | nil => exact (hs0 h).elim
    | cons a l => rfl
  obtain ⟨q, hq⟩ := bool_of (IsW t.dat)
  obtain ⟨b, hb⟩ := bool_of (fmtW t.dat q = s)
  have hne := eq_lists hb
  obtain ⟨F, hF⟩ : ∃ F, fmtW t.dat q = F := ⟨_, rfl⟩
  have HBk := Lib.hid (fmt_back hq hs0 hb)
  rw [hF] at hne
  have HF := Lib.hid hF
  have HQ := Lib.hid hq
  clear hs0 hb hF hq
  have y0 : World.cell? (w1.alloc (.cells #[.int .i64 t.kind, .int .i64 t.field, .int .i64 t.value, .slice t.LA t.Ln t.Lc, .slice t.PA t.Pn t.Pc] 25)) ⟨w1.heap.size, 0, none⟩ = some (.int .i64 t.kind) := cell_of_row _ _ 0 _ _ (0, 0) HY2.out
  have y1 : World.cell? (w1.alloc (.cells #[.int .i64 t.kind, .int .i64 t.field, .int .i64 t.value, .slice t.LA t.Ln t.Lc, .slice t.PA t.Pn t.Pc] 25)) ⟨w1.heap.size, 1, none⟩ = some (.int .i64 t.field) := cell_of_row _ _ 1 _ _ (0, 0) HY2.out
  have y2 : World.cell? (w1.alloc (.cells #[.int .i64 t.kind, .int .i64 t.field, .int .i64 t.value, .slice t.LA t.Ln t.Lc, .slice t.PA t.Pn t.Pc] 25)) ⟨w1.heap.size, 2, none⟩ = some (.int .i64 t.value) := cell_of_row _ _ 2 _ _ (0, 0) HY2.out
  have y3 : World.cell? (w1.alloc (.cells #[.int .i64 t.kind, .int .i64 t.field, .int .i64 t.value, .slice t.LA t.Ln t.Lc, .slice t.PA t.Pn t.Pc] 25)) ⟨w1.heap.size, 3, none⟩ = some (.slice t.LA t.Ln t.Lc) := cell_of_row _ _ 3 _ _ (0, 0) HY2.out
  have y4 : World.cell? (w1.alloc (.cells #[.int .i64 t.kind, .int .i64 t.field, .int .i64 t.value, .slice t.LA t.Ln t.Lc, .slice t.PA t.Pn t.Pc] 25)) ⟨w1.heap.size, 4, none⟩ = some (.slice t.PA t.Pn t.Pc) := cell_of_row _ _ 4 _ _ (0, 0) HY2.out
  go_wp2_with fail
  refine (iFmtW _ _ t (HRd2.out.wi HIm.out) (Nat.le_refl _) HRd2.out.short q HQ.out (HPK.out.1.below HB2.out) (HPK.out.2.below HB2.out)).mono ?_
  rintro e w3 ⟨rfl, hb3⟩
  rw [HF.out]
  have HR3 := Lib.hid ((hb3.block w.heap.size (lt_of_block HR2.out)).trans HR2.out)
  have HY3 := Lib.hid ((hb3.block w1.heap.size (lt_of_block HY2.out)).trans HY2.out)
  have HB3 := Lib.hid (HB2.out.trans (hb3.mono HB2.out.size))
  have HRd3 : Hid (ReadW w3 (w.heap.size + 1) t) := Lib.hid (HRd2.out.blocks fun b _ hb => hb3.block b hb)
  clear hb3 y0 y1 y2 y3 y4 HR2 HY2 HB2 HRd2 HF HQ HPK
  have y0 : World.cell? w3 ⟨w1.heap.size, 0, none⟩ = some (.int .i64 t.kind) := cell_of_row _ _ 0 _ _ (0, 0) HY3.out
  have y1 : World.cell? w3 ⟨w1.heap.size, 1, none⟩ = some (.int .i64 t.field) := cell_of_row _ _ 1 _ _ (0, 0) HY3.out
  have y2 : World.cell? w3 ⟨w1.heap.size, 2, none⟩ = some (.int .i64 t.value) := cell_of_row _ _ 2 _ _ (0, 0) HY3.out
  have y3 : World.cell? w3 ⟨w1.heap.size, 3, none⟩ = some (.slice t.LA t.Ln t.Lc) := cell_of_row _ _ 3 _ _ (0, 0) HY3.out
  have y4 : World.cell? w3 ⟨w1.heap.size, 4, none⟩ = some (.slice t.PA t.Pn t.Pc) := cell_of_row _ _ 4 _ _ (0, 0) HY3.out
  have x0 : World.cell? w3 ⟨w.heap.size, 0, none⟩ = some (.int .i64 0) := cell_of_row _ _ 0 _ _ (0, 0) HR3.out
  have x1 : World.cell? w3 ⟨w.heap.size, 1, none⟩ = some (.int .i64 0) := cell_of_row _ _ 1 _ _ (0, 0) HR3.out
  have x2 : World.cell? w3 ⟨w.heap.size, 2, none⟩ = some (.int .i64 0) := cell_of_row _ _ 2 _ _ (0, 0) HR3.out
  have x3 : World.cell? w3 ⟨w.heap.size, 3, none⟩ = some (.slice none 0 0) := cell_of_row _ _ 3 _ _ (0, 0) HR3.out
  have x4 : World.cell? w3 ⟨w.heap.size, 4, none⟩ = some (.slice none 0 0) := cell_of_row _ _ 4 _ _ (0, 0) HR3.out
  have z0 : World.frozen? w3 ⟨w.heap.size, 0, none⟩ = false := frozen_of_row _ _ 0 _ _ HR3.out
  have z1 : World.frozen? w3 ⟨w.heap.size, 1, none⟩ = false := frozen_of_row _ _ 1 _ _ HR3.out
  have z2 : World.frozen? w3 ⟨w.heap.size, 2, none⟩ = false := frozen_of_row _ _ 2 _ _ HR3.out
  have z3 : World.frozen? w3 ⟨w.heap.size, 3, none⟩ = false := frozen_of_row _ _ 3 _ _ HR3.out
  have z4 : World.frozen? w3 ⟨w.heap.size, 4, none⟩ = false := frozen_of_row _ _ 4 _ _ HR3.out
  cases b
  · go_wp2
    refine bodyPost_ret_by (results_row_tmp rfl _ _ w.heap.size 25 _ (0, 0) _ rfl (five_set HR3.out) Tryz.underlying25 rfl (by kernel_rfl)) rfl ?_
    exact ⟨⟨⟨0, 0, 0, none, 0, 0, [], none, 0, 0, []⟩, false, rfl, HIm.out.no fun h => (by have := HBk.out.2 h; cases this), ⟨ownI_nil _ _, OwnP.nil _ _, by simp, by simp, fun k h => (by cases h)⟩⟩, below5 HB3.out (Nat.le_refl _) _ _ _ _ _⟩
  · have hbk := HBk.out.1 (by simp)
    have HG := Lib.hid hbk
    clear hbk HBk
    go_wp2
    refine bodyPost_ret_by (results_row_tmp rfl _ _ w.heap.size 25 _ (0, 0) _ rfl (five_set HR3.out) Tryz.underlying25 rfl (by kernel_rfl)) rfl ?_
    exact ⟨⟨t, true, rfl, .inl ⟨rfl, HG.out.1, HG.out.2⟩, (HRd3.out.blocks fun b hb _ => other5 _ _ _ _ _ _ _ _ (by omega)).low (by omega)⟩, below5 HB3.out (Nat.le_refl _) _ _ _ _ _⟩
end Go.Proofs.YtghekfigfjhkeabGreatDoor.num
namespace Go.Proofs.YtghekfigfjhkeabGreatDoor.num
open Go.RowKit Go.Maps
set_option linter.unusedVariables false
set_option linter.unusedSimpArgs false

theorem step_appP {ops : Array Oper} {o : Oper} {a : Act} {K : Act → World → Prop} {Q : Exit → Act → World → Prop} {E : Prop} (w : World) (hgd : o.guard = none) (s x : Operand)
    (ho : o.op = .call { callee := .builtin .append, args := #[s, x], argTypes := #[23, 23] })
    (B : Nat) (v : Value) (l : List (Int × Int)) (hs : a.eval s = v) (hown : OwnP w B v l) (cs : Array Value) (new : List (Int × Int)) (hcs : cs = (flat new).toArray) (n c : Nat) (hn : n = new.length)
    (hx : a.eval x = .slice (some ⟨w.heap.size, 0, none⟩) n c) (hlen : (l.length + new.length) * 16 ≤ 140737488355328) (hB : B ≤ w.heap.size)
    (h : ∀ v' w', OwnP w' B v' (l ++ new) → (w.alloc (.cells cs 45)).grownBy w' v.ownBlock → (v'.ownBlock = v.ownBlock ∨ v'.ownBlock = some (w.alloc (.cells cs 45)).heap.size) → K (a.put o.dst v') w') :
    if Region.wanted o (yielded ops a.tmps) = true then Oper.wp Tryz.prog o a (w.alloc (.cells cs 45)) K Q else E := by
  have hw : Region.wanted o (yielded ops a.tmps) = true := by simp [Region.wanted, hgd]
  rw [if_pos hw]
  obtain ⟨i0, hi, hz0, hz1, hz2⟩ := info_parts info_pair
  subst hcs hn
  obtain ⟨v', w', hr, h2, h3, h4, h5⟩ := run_append_own_at (P := Tryz.prog) (w.alloc (.cells (flat new).toArray 45)) B 23 o.type 45 i0 (.agg #[.int .i64 0, .int .i64 0]) 2 16 Tryz.underlying23 hi hz0 hz1 hz2 rfl (by decide) v l.length (flat l) (World.ownsRow.alloc hown _) ⟨w.heap.size, 0, none⟩ new.length c (flat new) (flat_len new) (fun j u hj => by
    have e : (⟨w.heap.size, 0, none⟩ : Addr).add j = ⟨w.heap.size, j, none⟩ := by unfold Addr.add; split <;> simp_all
    rw [e, World.cell?_alloc_at _ _ _ _ rfl]
    simpa using hj) (flat_one new) (by unfold maxLen; omega) (by omega) (by simp; omega)
  unfold Oper.wp execOp
  simp only [ho, resolve, invoke, builtin, Sem.run_bind, Sem.run_pure, Result.andThen_ok, List.map_toArray, List.map_cons, List.map_nil, hs, hx, hr]
  refine h v' w' ?_ h3 h5
  have e : (l ++ new).length = l.length + new.length := by simp
  unfold OwnP
  rw [e, flat_app]
  exact h2

/-- Behind k pieces: v holds the pairs that they read as; the pieces themselves lie untouched. -/
structure SpP (w w1 wr : World) (L : List (List UInt8)) (k : Nat) (v : Value) : Prop where
  own : OwnP wr w.heap.size v ((L.take k).map numP)
  apart : ∀ g, v.ownBlock = some g → g = w.heap.size ∨ w1.heap.size ≤ g
  keep : ∀ i, w.heap.size < i → i < w1.heap.size → wr.heap[i]? = w1.heap[i]?
  low : Below w.heap.size w wr
  sz : w1.heap.size ≤ wr.heap.size
  two : ∀ c ∈ L.take k, twoB c = true
theorem SpP.next {w w1 wr w4 w5 : World} {L : List (List UInt8)} {k : Nat} {v v' : Value} {c : List UInt8} {ob : Obj} (h : SpP w w1 wr L k v) (h01 : w.heap.size < w1.heap.size) (hc : L[k]? = some c) (h2 : twoB c = true) (hb : Below wr.heap.size wr w4) (hg : (w4.alloc ob).grownBy w5 v.ownBlock) (hv : v'.ownBlock = v.ownBlock ∨ v'.ownBlock = some (w4.alloc ob).heap.size)
    (ho : OwnP w5 w.heap.size v' ((L.take k).map numP ++ [numP c])) : SpP w w1 w5 L (k + 1) v' := by
  have hs4 := hb.size
  have hs := h.sz
  refine ⟨?_, fun g hgv => ?_, fun i h1 h2 => ?_, ?_, ?_, ?_⟩
  · rw [ptake_at hc, List.map_append]; exact ho
  · rcases hv with e | e
    · exact h.apart g (by rw [← e]; exact hgv)
    · rw [e] at hgv
      have := Option.some.inj hgv
      simp at this
      exact .inr (by omega)
  · have hne : some i ≠ v.ownBlock := fun e => by
      rcases h.apart i e.symm with h' | h' <;> omega
    rw [hg.block i (by simp; omega) hne, Below.heap_alloc _ _ _ (by omega), hb.block i (by omega)]
    exact h.keep i h1 h2
  · refine Below.grown ((h.low.trans (hb.mono (by omega))).alloc (by have := h.low.size; omega) ob) hg (by have := h.low.size; simp; omega) (fun g hgv => ?_)
    rcases h.apart g hgv with e | e <;> omega
  · have := hg.size
    simp at this
    omega
  · intro d hd
    rw [ptake_at hc] at hd
    rcases List.mem_append.1 hd with hd | hd
    · exact h.two d hd
    · rw [List.mem_singleton.1 hd]; exact h2
theorem SpP.far {w w1 wr : World} {L : List (List UInt8)} {k : Nat} {v : Value} (h : SpP w w1 wr L k v) {b : Nat} (hb : wr.heap.size ≤ b) : v.ownBlock ≠ some b := fun e => by
  have := h.own.tops b e
  omega
theorem pieces_two {c : UInt8} {s : List UInt8} {l : List ByteArray} (h : l.map (·.data.toList) = pieces c s) (h2 : l.length = 2) : ∃ p0 p1, l[0]? = some p0 ∧ l[1]? = some p1 ∧ pieces c s = [p0.data.toList, p1.data.toList] := by
  match l, h2 with
  | [a, b], _ => exact ⟨a, b, rfl, rfl, h.symm⟩

set_option maxRecDepth 20000 in
set_option maxHeartbeats 3200000 in
theorem sParsePairs (s : ByteArray) (hs : s.size ≤ 1048576) (w : World) : Calls Tryz.prog 12 #[.string s] w (OutParse s w) := by
  obtain ⟨q0, hq0⟩ := bool_of (s.data.toList = noneT)
  have hc1 : (s.toList == [110, 111, 110, 101]) = q0 := by
    rw [ByteArray.toList_eq, Bool.eq_iff_iff, beq_iff_eq, hq0]
    exact Iff.rfl
  have hc2 : (s.toList == (⟨#[110, 111, 110, 101]⟩ : ByteArray).toList) = q0 := by
    rw [ByteArray.toList_eq, ByteArray.toList_eq, Bool.eq_iff_iff, beq_iff_eq, hq0]
    exact Iff.rfl
  have HQ0 := Lib.hid hq0
  clear hq0
  have HE0 := Lib.hid (OwnP.empty w w.heap.size (Nat.le_refl _))
  have HBe := Lib.hid ((Below.refl w.heap.size w).alloc (Nat.le_refl _) (.cells #[] 45))
  cases q0
  case true =>
    have HE : Hid (s.data.toList = noneT) := Lib.hid (HQ0.out.1 (by first | rfl | trivial))
    go_enter Tryz.func12, Tryz.ntmps12
    go_wp2
    go_ret2
    exact ⟨⟨_, [], true, rfl, HE0.out, by rw [HE.out]; exact parsedP_none⟩, HBe.out⟩
  have HNe : Hid (s.data.toList ≠ noneT) := Lib.hid fun h => by have := HQ0.out.2 h; cases this
  obtain ⟨L, hL⟩ : ∃ L, L = pieces 44 s.data.toList := ⟨_, rfl⟩
  have HL := Lib.hid hL
  clear hL
  go_enter Tryz.func12, Tryz.ntmps12
  go_wp2_with fail
  refine (sCut2 s hs 44 _).mono ?_
  rintro e w1 ⟨⟨A, n, cc, l, rfl, hst, hpc⟩, hb1⟩
  have hlow : (w.alloc (.cells #[] 45)).heap.size = w.heap.size + 1 := by simp
  rw [hlow] at hst hb1
  have hsz1 : w.heap.size < w1.heap.size := by have := hb1.size; rw [hlow] at this; omega
  have HSt := Lib.hid hst
  have HPc : Hid (l.map (·.data.toList) = L) := Lib.hid (by rw [HL.out]; exact hpc)
  have hln : L.length = n := by rw [← HPc.out, List.length_map]; exact hst.1
  have hnb : n ≤ 1048577 := by
    have h1 := pieces_count 44 s.data.toList
    rw [← HL.out, hln, size_list] at h1
    omega
  have HLn := Lib.hid hln
  have HS1 : Hid (SpP w w1 w1 L 0 (.slice (some ⟨w.heap.size, 0, none⟩) 0 0)) := Lib.hid ⟨HE0.out.below (by rw [hlow]; exact hb1), fun g hg => .inl (by cases hg; rfl), fun _ _ _ => rfl, HBe.out.trans (hb1.mono (Nat.le_succ _)), Nat.le_refl _, by simp⟩
  clear hst hpc hb1 hlow hln HE0 HBe hc1 hc2
  go_wp2
  go_loopw [4, 6] (fun v i wr => ∃ k : Nat, k ≤ n ∧ i = .int .i64 k ∧ SpP w w1 wr L k v) (fun _ i _ => n - (intOf i).toNat)
  case atStart => exact ⟨0, Nat.zero_le _, rfl, HS1.out⟩
  case round =>
    clear HS1
    obtain ⟨k, hk, rfl, hsp⟩ := hrel
    have HS := Lib.hid hsp
    clear hsp
    by_cases hlt : k < n
    · obtain ⟨p, hp⟩ : ∃ p, l[k]? = some p := ⟨l[k]'(by rw [HSt.out.1]; exact hlt), List.getElem?_eq_getElem _⟩
      obtain ⟨b1, off1, rfl, hlo1, hb1, hc1⟩ := HSt.out.2 k p hp
      have f0 : wr.cell? ⟨b1, off1 + k, none⟩ = some (.string p) := (World.cell?_of_block (w := w1) (a := ⟨b1, off1 + k, none⟩) (HS.out.keep b1 (by omega) hb1)).trans hc1
      have hLk : L[k]? = some p.data.toList := by rw [← HPc.out, List.getElem?_map, hp]; rfl
      have hpm : p.data.toList ∈ L := List.mem_of_getElem? hLk
      have hpz : p.size ≤ 1048576 := by
        rw [HL.out] at hpm
        have h1 := piece_le hpm
        rw [size_list, size_list] at h1
        omega
      have HLk := Lib.hid hLk
      have HPm := Lib.hid hpm
      have hlt' : (k : Int) < (n : Int) := by omega
      clear hc1 hp hLk hpm
      go_wp2_with fail
      refine (sCut2 p hpz 62 _).mono ?_
      rintro e w2 ⟨⟨A2, n2, c2, l2, rfl, hst2, hpc2⟩, hb2⟩
      have HB2 := Lib.hid (HS.out.low.trans (hb2.mono HS.out.low.size))
      by_cases h2 : n2 = 2
      · obtain ⟨p0, p1, hp0, hp1, hpe⟩ := pieces_two hpc2 (hst2.1.trans h2)
        obtain ⟨b2, off2, rfl, hlo2, hl2, f1⟩ := hst2.2 0 p0 hp0
        obtain ⟨b2', off2', he, _, _, f2⟩ := hst2.2 1 p1 hp1
        obtain ⟨rfl, rfl⟩ : b2 = b2' ∧ off2 = off2' := by injection he with h; injection h with h1 h2; exact ⟨h1, h2⟩
        rw [Nat.add_zero] at f1
        have hpl := pieces_len 62 p.data.toList
        rw [hpe] at hpl
        simp only [List.map_cons, List.map_nil, List.sum_cons, List.sum_nil, List.length_cons, List.length_nil] at hpl
        rw [size_list, size_list, size_list] at hpl
        have hp0s : Hid (p0.size ≤ 1048576) := Lib.hid (by omega)
        have hp1s : Hid (p1.size ≤ 1048576) := Lib.hid (by omega)
        obtain ⟨z0, hz0⟩ : ∃ z, numS p0.data.toList = z := ⟨_, rfl⟩
        obtain ⟨z1, hz1⟩ : ∃ z, numS p1.data.toList = z := ⟨_, rfl⟩
        have HZ0 := Lib.hid hz0
        have HZ1 := Lib.hid hz1
        have HNum : Hid (numP p.data.toList = (z0, z1)) := Lib.hid (by unfold numP; rw [hpe, ← hz0, ← hz1]; rfl)
        have HTwo : Hid (twoB p.data.toList = true) := Lib.hid (by unfold twoB; rw [hpe]; rfl)
        have hb2' := hb2
        have HWr := Lib.hid hb2
        have HO2 := Lib.hid (HS.out.own.below hb2)
        have hB2 : Hid (w.heap.size ≤ w2.heap.size) := Lib.hid (Nat.le_trans HS.out.low.size hb2.size)
        have hne2 := Lib.hid (HS.out.far (b := b2) hlo2)
        have H4 : Hid ((((L.take k).map numP).length + [(z0, z1)].length) * 16 ≤ 140737488355328) := Lib.hid (by
          rw [List.length_map, List.length_take]
          simp only [List.length_cons, List.length_nil]
          omega)
        subst h2
        clear hpe hz0 hz1 hpl hp0 hp1 hst2 hpc2 hb2 hb2' he f0
        go_wp2
        have hs0 : w2.drew.cell? ⟨b2, off2, none⟩ = some (.string p0) ∧ w2.drew.cell? ⟨b2, off2 + 1, none⟩ = some (.string p1) := ⟨f1, f2⟩
        refine wp_region_held (S := fun w' => w'.cell? ⟨b2, off2, none⟩ = some (.string p0) ∧ w'.cell? ⟨b2, off2 + 1, none⟩ = some (.string p1)) (by kernel_rfl) ?_
        change wpAnyH _ _ _ _ _ _ _ _ (World.drew _)
        refine takeY 29 (i := 0) (v := ?v0a) rfl rfl (by kernel_rfl) (by kernel_rfl) (by kernel_rfl) (fun _ _ _ h => h) (by kernel_rfl) ?y0a hs0 ?_
        case y0a =>
          intro w' hw'; (try dsimp only at hw'); obtain ⟨e0, e1⟩ := hw'; go_simp; try with_reducible rfl
        simp only [Act.put, List.setIfInBounds_toArray, List.set_cons_zero, List.set_cons_succ]
        refine takeY 30 (i := 1) (v := ?v1a) rfl rfl (by kernel_rfl) (by kernel_rfl) (by kernel_rfl) (fun _ _ _ h => h) (by kernel_rfl) ?y1a hs0 ?_
        case y1a =>
          intro w' hw'; (try dsimp only at hw'); obtain ⟨e0, e1⟩ := hw'; go_simp; try with_reducible rfl
        simp only [Act.put, List.setIfInBounds_toArray, List.set_cons_zero, List.set_cons_succ]
        refine takeY 31 (i := 2) (v := ?v2a) rfl rfl (by kernel_rfl) (by kernel_rfl) (by kernel_rfl) (fun _ _ _ h => h) (by kernel_rfl) ?y2a hs0 ?_
        case y2a =>
          intro w' hw'; (try dsimp only at hw'); obtain ⟨e0, e1⟩ := hw'; go_simp; try with_reducible rfl
        simp only [Act.put, List.setIfInBounds_toArray, List.set_cons_zero, List.set_cons_succ]
        refine takeY 32 (i := 3) (v := ?v3a) rfl rfl (by kernel_rfl) (by kernel_rfl) (by kernel_rfl) (fun _ _ _ h => h) (by kernel_rfl) ?y3a hs0 ?_
        case y3a =>
          intro w' hw'; (try dsimp only at hw'); obtain ⟨e0, e1⟩ := hw'; go_simp; try with_reducible rfl
        simp only [Act.put, List.setIfInBounds_toArray, List.set_cons_zero, List.set_cons_succ]
        refine takeY 34 (i := 5) (v := ?v5a) rfl rfl (by kernel_rfl) (by kernel_rfl) (by kernel_rfl) (fun _ _ _ h => h) (by kernel_rfl) ?y5a hs0 ?_
        case y5a =>
          intro w' hw'; (try dsimp only at hw'); obtain ⟨e0, e1⟩ := hw'; go_simp; try with_reducible rfl
        simp only [Act.put, List.setIfInBounds_toArray, List.set_cons_zero, List.set_cons_succ]
        refine takeY 35 (i := 6) (v := ?v6a) rfl rfl (by kernel_rfl) (by kernel_rfl) (by kernel_rfl) (fun _ _ _ h => h) (by kernel_rfl) ?y6a hs0 ?_
        case y6a =>
          intro w' hw'; (try dsimp only at hw'); obtain ⟨e0, e1⟩ := hw'; go_simp; try with_reducible rfl
        simp only [Act.put, List.setIfInBounds_toArray, List.set_cons_zero, List.set_cons_succ]
        refine takeY 36 (i := 7) (v := ?v7a) rfl rfl (by kernel_rfl) (by kernel_rfl) (by kernel_rfl) (fun _ _ _ h => h) (by kernel_rfl) ?y7a hs0 ?_
        case y7a =>
          intro w' hw'; (try dsimp only at hw'); obtain ⟨e0, e1⟩ := hw'; go_simp; try with_reducible rfl
        simp only [Act.put, List.setIfInBounds_toArray, List.set_cons_zero, List.set_cons_succ]
        refine wpAnyH_ready (rs := [4]) (by kernel_rfl) (by simp) ?_
        refine AllReadyH.cons rfl (fun K hK => ?_) AllReadyH.nil
        go_simp; go_at_call 11; refine (sNum p0 hp0s.out _).mono ?_; rintro e w3 ⟨rfl, h3⟩; rw [HZ0.out]; replace h3 := (Below.refl w2.heap.size w2).drew.trans (h3.mono (Nat.le_refl _))
        refine hK.out _ _ ⟨(h3.cell (p := ⟨b2, off2, none⟩) hl2).trans f1, (h3.cell (p := ⟨b2, off2 + 1, none⟩) hl2).trans f2⟩ (fun hS1 => ?_)
        clear hK K
        try simp only [Act.put, List.setIfInBounds_toArray, List.set_cons_zero, List.set_cons_succ]
        refine wpAnyH_ready (rs := [8]) (by kernel_rfl) (by simp) ?_
        refine AllReadyH.cons rfl (fun K hK => ?_) AllReadyH.nil
        go_simp; go_at_call 11; refine (sNum p1 hp1s.out _).mono ?_; rintro e w4 ⟨rfl, h4⟩; rw [HZ1.out]; replace h4 := h3.trans (h4.mono h3.size); have HO4 := Lib.hid (HO2.out.below h4); have hB4 : Hid (w.heap.size ≤ w4.heap.size) := Lib.hid (Nat.le_trans hB2.out h4.size)
        refine hK.out _ _ ⟨(h4.cell (p := ⟨b2, off2, none⟩) hl2).trans f1, (h4.cell (p := ⟨b2, off2 + 1, none⟩) hl2).trans f2⟩ (fun hS2 => ?_)
        clear hK K
        try simp only [Act.put, List.setIfInBounds_toArray, List.set_cons_zero, List.set_cons_succ]
        refine takeY 38 (i := 9) (v := ?v9a) rfl rfl (by kernel_rfl) (by kernel_rfl) (by kernel_rfl) (fun _ _ _ h => h) (by kernel_rfl) ?y9a hS2 ?_
        case y9a =>
          intro w' hw'; (try dsimp only at hw'); obtain ⟨e0, e1⟩ := hw'; go_simp; try with_reducible rfl
        simp only [Act.put, List.setIfInBounds_toArray, List.set_cons_zero, List.set_cons_succ]
        refine wpAnyH_ready (rs := [10]) (by kernel_rfl) (by simp) ?_
        refine AllReadyH.cons rfl (fun K hK => ?_) AllReadyH.nil
        go_simp
        refine hK.out _ _ ⟨((h4.alloc h4.size _).cell (p := ⟨b2, off2, none⟩) hl2).trans f1, ((h4.alloc h4.size _).cell (p := ⟨b2, off2 + 1, none⟩) hl2).trans f2⟩ (fun hS3 => ?_)
        clear hK K
        try simp only [Act.put, List.setIfInBounds_toArray, List.set_cons_zero, List.set_cons_succ]
        refine wpAnyH_ready (rs := [11]) (by kernel_rfl) (by simp) ?_
        refine AllReadyH.cons rfl (fun K hK => ?_) AllReadyH.nil
        refine step_appP w4 (by rfl) (.tmp 29) (.tmp 39) (by rfl) w.heap.size _ _ (by rfl) HO4.out _ [(z0, z1)] (by rfl) 1 1 rfl (by rfl) H4.out hB4.out ?_; intro v5 w5 hown5 hg5 hv5; have hk5 : ∀ j, w5.cell? ⟨b2, j, none⟩ = w2.cell? ⟨b2, j, none⟩ := fun j => (World.cell?_of_block (a := ⟨b2, j, none⟩) (hg5.block b2 (by have := h4.size; simp; omega) (fun e => hne2.out e.symm))).trans ((h4.alloc h4.size _).cell (p := ⟨b2, j, none⟩) hl2)
        refine hK.out _ _ ⟨(hk5 _).trans f1, (hk5 _).trans f2⟩ (fun hS4 => ?_)
        clear hK K
        try simp only [Act.put, List.setIfInBounds_toArray, List.set_cons_zero, List.set_cons_succ]
        refine takeY 4 (i := 12) (v := ?v12a) rfl rfl (by kernel_rfl) (by kernel_rfl) (by kernel_rfl) (fun _ _ _ h => h) (by kernel_rfl) ?y12a hS4 ?_
        case y12a =>
          intro w' hw'; (try dsimp only at hw'); obtain ⟨e0, e1⟩ := hw'; go_simp; try with_reducible rfl
        simp only [Act.put, List.setIfInBounds_toArray, List.set_cons_zero, List.set_cons_succ]
        refine wpAnyH_done (by kernel_rfl) ?_ _
        have HS5 := Lib.hid (HS.out.next hsz1 HLk.out HTwo.out (HWr.out.trans (h4.mono HWr.out.size)) hg5 hv5 (by rw [HNum.out]; exact hown5))
        clear hs0 hS1 hS2 hS3 hS4 h3 h4 hg5 hv5 hown5 hk5 f1 f2 HS
        go_wp2
        go_roundw
        case rel => exact ⟨k + 1, by omega, by go_num, HS5.out⟩
        case measure => simp [intOf]; omega
      · have HNo : Hid (ParsedP s.data.toList [] false) := Lib.hid (spec_no1 HNe.out (by rw [← HL.out]; exact HPm.out) (by
          unfold twoB
          rw [← hpc2, List.length_map, hst2.1]
          simpa using h2))
        have hne : ((n2 : Int) == 2) = false := by rw [beq_eq_false_iff_ne]; omega
        clear h2 hst2 hpc2 f0 hb2
        go_wp2
        go_ret2
        exact ⟨⟨_, [], false, rfl, OwnP.empty _ _ HB2.out.size, HNo.out⟩, HB2.out.alloc HB2.out.size _⟩
    · obtain rfl : k = n := by omega
      obtain ⟨ps, hps⟩ : ∃ ps, ps = L.map numP := ⟨_, rfl⟩
      have hown := HS.out.own
      have htwo := HS.out.two
      rw [ptake_all HLn.out, ← hps] at hown
      rw [ptake_all HLn.out] at htwo
      have hk8 : k ≤ 1048576 := by
        have h1 := few (s := s.data.toList) (by
          rw [← HL.out]
          exact fun c hc => two_len (htwo c hc))
        rw [← HL.out, HLn.out, size_list] at h1
        omega
      obtain ⟨A3, n3, c3, rfl, hp3⟩ := hown.pairs
      obtain rfl : n3 = k := by rw [← hp3.1, hps, List.length_map]; exact HLn.out
      have HP3 := Lib.hid hp3
      have HO := Lib.hid hown
      have HTwo := Lib.hid htwo
      have HPs := Lib.hid hps
      obtain ⟨q, hq⟩ := bool_of (OkP ps)
      have HQ := Lib.hid hq
      clear hp3 hown htwo hps hq
      go_wp2_with fail
      refine (sFmtP wr wr.heap.size A3 n3 c3 ps HP3.out (Nat.le_refl _) hk8 q HQ.out).mono ?_
      rintro e w2 ⟨rfl, hb2⟩
      have HB2 := Lib.hid (HS.out.low.trans (hb2.mono HS.out.low.size))
      have HO2 := Lib.hid (HO.out.below hb2)
      clear hb2
      obtain ⟨r, hr⟩ := bool_of (fmtP ps q = s)
      have HR := Lib.hid hr
      have hcmp : ((fmtP ps q).toList == s.toList) = r := by
        rw [ByteArray.toList_eq, ByteArray.toList_eq, Bool.eq_iff_iff, beq_iff_eq, hr]
        exact ⟨fun h => bytes_ext h, fun h => by rw [h]⟩
      clear hr
      cases r
      · have HNo : Hid (ParsedP s.data.toList [] false) := Lib.hid (spec_no2 (q := q) HNe.out (by rw [← HL.out, ← HPs.out]; exact HQ.out) (by rw [← HL.out, ← HPs.out]; intro h; have := HR.out.2 h; cases this))
        go_wp2
        go_ret2
        exact ⟨⟨_, [], false, rfl, OwnP.empty _ _ HB2.out.size, HNo.out⟩, HB2.out.alloc HB2.out.size _⟩
      · have HY : Hid (ParsedP s.data.toList ps true) := Lib.hid (by
          have h1 := HTwo.out
          have h2 := HQ.out
          have h3 := HR.out.1 (by first | rfl | trivial)
          rw [HPs.out] at h2 h3 ⊢
          rw [HL.out] at h1 h2 h3 ⊢
          exact spec_yesP (q := q) HNe.out h1 h2 h3)
        go_wp2
        go_ret2
        exact ⟨⟨_, ps, true, rfl, HO2.out, HY.out⟩, HB2.out⟩
end Go.Proofs.YtghekfigfjhkeabGreatDoor.num
namespace Go.Proofs.YtghekfigfjhkeabGreatDoor.num
open Go.RowKit
set_option linter.unusedVariables false

theorem grown_of {w w' : World} {B : Nat} (row : Option Nat) (h : Below B w w') (hB : w.heap.size ≤ B) : w.grownBy w' row := ⟨h.os, h.tape, h.output, h.size, fun i hi _ => h.block i (by omega)⟩
theorem grown_two {a b c : World} {r : Option Nat} (h : a.grownBy b r) (k : b.grownBy c r) : a.grownBy c r :=
  ⟨k.os.trans h.os, k.tape.trans h.tape, k.output.trans h.output, Nat.le_trans h.size k.size, fun i hi hne => (k.block i (Nat.lt_of_lt_of_le hi h.size) hne).trans (h.block i hi hne)⟩
theorem grown_app {a b c : World} {r : Option Nat} (h : a.grownBy b r) (k : Below a.heap.size b c) : a.grownBy c r :=
  ⟨k.os.trans h.os, k.tape.trans h.tape, k.output.trans h.output, Nat.le_trans h.size k.size, fun i hi hne => (k.block i hi).trans (h.block i hi hne)⟩
theorem grown_put {a b : World} {g : Nat} (h : a.grownBy b (some g)) (j : Nat) (v : Value) : a.grownBy (b.setCell ⟨g, j, none⟩ v) (some g) :=
  ⟨h.os, h.tape, h.output, Nat.le_trans h.size (by simp [World.setCell]), fun i hi hne => (Below.heap_setCell b ⟨g, j, none⟩ v i (fun e => hne (by rw [e]))).trans (h.block i hi hne)⟩
theorem grown_low {a b : World} {g B : Nat} (h : a.grownBy b (some g)) (hB : B ≤ g) (hs : B ≤ a.heap.size) : Below B a b :=
  ⟨h.os, h.tape, h.output, h.size, fun i hi => h.block i (by omega) (fun e => by injection e; omega)⟩

theorem step_appI {ops : Array Oper} {o : Oper} {a : Act} {K : Act → World → Prop} {Q : Exit → Act → World → Prop} {E : Prop} (w : World) (hgd : o.guard = none) (s x : Operand)
    (ho : o.op = .call { callee := .builtin .append, args := #[s, x], argTypes := #[22, 22] })
    (B : Nat) (v : Value) (l : List Int) (hs : a.eval s = v) (hown : OwnI w B v l) (cs : Array Value) (new : List Int) (hcs : cs = (new.map (Value.int .i64)).toArray) (n c : Nat) (hn : n = new.length)
    (hx : a.eval x = .slice (some ⟨w.heap.size, 0, none⟩) n c) (hlen : (l.length + new.length) * 8 ≤ 140737488355328) (hB : B ≤ w.heap.size)
    (h : ∀ v' w', OwnI w' B v' (l ++ new) → Below B w w' → K (a.put o.dst v') w') :
    if Region.wanted o (yielded ops a.tmps) = true then Oper.wp Tryz.prog o a (w.alloc (.cells cs 3)) K Q else E := by
  have hw : Region.wanted o (yielded ops a.tmps) = true := by simp [Region.wanted, hgd]
  rw [if_pos hw]
  obtain ⟨i0, hi, hz0, hz1, hz2⟩ := info_parts info_int
  subst hcs hn
  refine wp_append_own _ s x 22 ho B 3 i0 (.int .i64 0) 1 8 Tryz.underlying22 hi hz0 hz1 hz2 rfl (by decide) v l.length (l.map (Value.int .i64)) hs (World.ownsRow.alloc hown _) ⟨w.heap.size, 0, none⟩ new.length c (new.map (Value.int .i64)) hx (by simp) ?_ ?_ (by unfold maxLen; omega) (by omega) (by simp; omega) ?_
  · intro j u hj
    have e : (⟨w.heap.size, 0, none⟩ : Addr).add j = ⟨w.heap.size, j, none⟩ := by unfold Addr.add; split <;> simp_all
    rw [e, World.cell?_alloc_at _ _ _ _ rfl]
    simpa using hj
  · intro u hu
    obtain ⟨b, _, rfl⟩ := List.mem_map.1 hu
    rfl
  · intro v' w' hown' hg _
    refine h v' w' ?_ (((Below.refl B w).alloc hB _).grown hg (by simp; omega) (fun k hk => ?_))
    · have e : (l ++ new).length = l.length + new.length := by simp
      unfold OwnI
      rw [e, List.map_append]
      exact hown'
    · exact (World.ownsRow.lt hown k hk).1

theorem ints_set {w : World} {B g j : Nat} {A : Option Addr} {n : Nat} {xs : List Int} {v : Value} (h : Ints w B A n xs) (hg : ∀ b off : Nat, A = some ⟨b, off, none⟩ → b ≠ g) : Ints (w.setCell ⟨g, j, none⟩ v) B A n xs :=
  ⟨h.1, fun k hk => by
    obtain ⟨b, off, ha, hB, hc⟩ := h.2 k hk
    exact ⟨b, off, ha, hB, (World.cell?_setCell_other _ _ _ _ (fun e => by injection e with e; exact hg b off ha e.symm)).trans hc⟩⟩
theorem OwnI.below {w w' : World} {B : Nat} {v : Value} {l : List Int} (h : OwnI w B v l) (hb : Below w.heap.size w w') : OwnI w' B v l := by
  obtain ⟨h1, h2⟩ := h
  refine ⟨h1, ?_⟩
  rcases h2 with h2 | ⟨g, cap, cur, hv, hg, hh, r⟩
  · exact Or.inl h2
  · exact Or.inr ⟨g, cap, cur, hv, hg, (hb.block g (lt_of_block hh)).trans hh, r⟩
theorem OwnI.low {w : World} {B : Nat} {v : Value} {l : List Int} (h : OwnI w B v l) : ∃ A n c, v = .slice A n c ∧ Ints w w.heap.size A n l ∧ ∀ b off : Nat, A = some ⟨b, off, none⟩ → B ≤ b := by
  obtain ⟨A, n, c, rfl, hi⟩ := h.ints
  refine ⟨A, n, c, rfl, hi, fun b off hA => ?_⟩
  rcases h.2 with ⟨hv, _⟩ | ⟨g, cap, cur, hv, hgB, _, _⟩
  · injection hv with h1; rw [h1] at hA; cases hA
  · injection hv with h1
    rw [h1] at hA
    injection hA with hA
    injection hA with hA
    omega

def SpecPost (s : ByteArray) (w : World) (e : Ending) (w' : World) : Prop := (∃ (t : It) (ok : Bool), e = .returned (.tuple #[t.val, .bool ok]) ∧ Parsed s.data.toList t.dat ok ∧ Ints w' w'.heap.size t.A t.n t.xs ∧ t.n ≤ 1048576) ∧ Below w.heap.size w w'
end Go.Proofs.YtghekfigfjhkeabGreatDoor.num
namespace Go.Proofs.YtghekfigfjhkeabGreatDoor.num
open Go.RowKit
set_option linter.unusedVariables false
set_option linter.unusedSimpArgs false

theorem zero_in (w : World) : WiIn w w.heap.size ⟨0, 0, 0, none, 0, 0, [], none, 0, 0, []⟩ := ⟨by decide, by decide, by decide, ownI_at (c := 0) (ownI_nil w 0), (OwnP.nil w 0).at (c := 0)⟩
theorem numS_in (l : List UInt8) : -999999999 ≤ numS l ∧ numS l ≤ 999999999 := by
  have := pVal_in l
  unfold numS
  split <;> omega
theorem fS_in (l : List UInt8) : -999999999 ≤ fS l ∧ fS l ≤ 999999999 := by
  have := numS_in l.tail
  unfold fS
  split <;> omega
theorem mem_sum {L : List (List UInt8)} {p : List UInt8} (h : p ∈ L) : p.length ≤ (L.map List.length).sum := by
  induction L with
  | nil => simp at h
  | cons a t ih =>
    rw [List.map_cons, List.sum_cons]
    rcases List.mem_cons.1 h with rfl | h
    · omega
    · have := ih h; omega
theorem piece_lt {c : UInt8} {l p : List UInt8} (h : p ∈ pieces c l) (h2 : 2 ≤ (pieces c l).length) : p.length + 1 ≤ l.length := by
  have h1 := pieces_len c l
  have h3 : p.length ≤ ((pieces c l).map List.length).sum := mem_sum h
  omega
/-- The loop that reads the values: the wish lies in block X. -/
def FilledW (w3 : World) (X B : Nat) (f : Int) (l : List ByteArray) (k : Nat) (wr : World) : Prop :=
  ∃ v vals, wr.heap[X]? = some (.cells #[.int .i64 3, .int .i64 f, .int .i64 0, v, .slice none 0 0] 25 (0, 0)) ∧ OwnI wr B v vals ∧ vals = (l.take k).map (fun p => numS p.data.toList) ∧ w3.grownBy wr (some X)
theorem ReadW.wi' {w : World} {B : Nat} {t : Wi} (h : ReadW w B t) (g : (Lit.int .i64 t.kind).wf = true ∧ (Lit.int .i64 t.field).wf = true ∧ (Lit.int .i64 t.value).wf = true) : WiIn w w.heap.size t := ⟨g.1, g.2.1, g.2.2, ownI_at h.l, h.p.at⟩
def OutSpecW (s : ByteArray) (w : World) (e : Ending) (w' : World) : Prop := (∃ (t : Wi) (ok : Bool), e = .returned (.tuple #[t.val, .bool ok]) ∧ ParsedW s.data.toList t.dat ok ∧ WiIn w' w'.heap.size t ∧ t.Short) ∧ Below w.heap.size w w'
theorem str_is (p : ByteArray) (l : List UInt8) (b : Bool) (h : b = true ↔ p.data.toList = l) : (p.toList == l) = b := by
  rw [ByteArray.toList_eq]
  cases b
  · exact beq_eq_false_iff_ne.2 fun e => by have := h.2 e; cases this
  · exact beq_iff_eq.2 (h.1 rfl)

set_option maxRecDepth 100000 in
set_option maxHeartbeats 12800000 in
theorem sParseWish (s : ByteArray) (hs : s.size ≤ 1048576) (w : World) :
    Calls Tryz.prog 4 #[.string s] w (OutSpecW s w) := by
  go_enter Tryz.func4, Tryz.ntmps4
  go_wp2_with fail
  refine (sCut2 s hs 32 _).mono ?_
  rintro e w1 ⟨⟨A, n, cc, l, rfl, hst, hpc⟩, hb1⟩
  have hx := (Below.refl w.heap.size w).alloc (Nat.le_refl _) (.cells #[.int .i64 0, .int .i64 0, .int .i64 0, .slice none 0 0, .slice none 0 0] 25)
  have HR1 : Hid (w1.heap[w.heap.size]? = some (.cells #[.int .i64 0, .int .i64 0, .int .i64 0, .slice none 0 0, .slice none 0 0] 25 (0, 0))) := Lib.hid ((hb1.block w.heap.size (by simp)).trans (heap_alloc_new w _))
  have HB1 := Lib.hid (hx.trans (hb1.mono hx.size))
  have HPc := Lib.hid hpc
  have HSt := Lib.hid hst
  have hln : l.length = n := hst.1
  have hplen : (pieces 32 s.data.toList).length = n := by rw [← hpc, List.length_map, hln]
  have HPl := Lib.hid hplen
  have HLn := Lib.hid hln
  have hlt : w.heap.size < w1.heap.size := lt_of_block HR1.out
  clear hst hpc hln hplen hb1 hx
  by_cases h2 : n < 2
  · have hd : decide ((n : Int) < 2) = true := by simp; omega
    have HN := Lib.hid (count_no (s := s.data.toList) (.inl (by rw [HPl.out]; exact h2)))
    clear h2
    have x0 : World.cell? w1 ⟨w.heap.size, 0, none⟩ = some (.int .i64 0) := cell_of_row _ _ 0 _ _ (0, 0) HR1.out
    have x1 : World.cell? w1 ⟨w.heap.size, 1, none⟩ = some (.int .i64 0) := cell_of_row _ _ 1 _ _ (0, 0) HR1.out
    have x2 : World.cell? w1 ⟨w.heap.size, 2, none⟩ = some (.int .i64 0) := cell_of_row _ _ 2 _ _ (0, 0) HR1.out
    have x3 : World.cell? w1 ⟨w.heap.size, 3, none⟩ = some (.slice none 0 0) := cell_of_row _ _ 3 _ _ (0, 0) HR1.out
    have x4 : World.cell? w1 ⟨w.heap.size, 4, none⟩ = some (.slice none 0 0) := cell_of_row _ _ 4 _ _ (0, 0) HR1.out
    have z0 : World.frozen? w1 ⟨w.heap.size, 0, none⟩ = false := frozen_of_row _ _ 0 _ _ HR1.out
    have z1 : World.frozen? w1 ⟨w.heap.size, 1, none⟩ = false := frozen_of_row _ _ 1 _ _ HR1.out
    have z2 : World.frozen? w1 ⟨w.heap.size, 2, none⟩ = false := frozen_of_row _ _ 2 _ _ HR1.out
    have z3 : World.frozen? w1 ⟨w.heap.size, 3, none⟩ = false := frozen_of_row _ _ 3 _ _ HR1.out
    have z4 : World.frozen? w1 ⟨w.heap.size, 4, none⟩ = false := frozen_of_row _ _ 4 _ _ HR1.out
    go_wp2
    refine bodyPost_ret_by (results_row_tmp rfl _ _ w.heap.size 25 _ (0, 0) _ rfl (five_set HR1.out) Tryz.underlying25 rfl (by kernel_rfl)) rfl ?_
    exact ⟨⟨⟨0, 0, 0, none, 0, 0, [], none, 0, 0, []⟩, false, rfl, HN.out, zero_in _, ⟨by simp, by simp⟩⟩, below5 HB1.out (Nat.le_refl _) _ _ _ _ _⟩
  have hd : decide ((n : Int) < 2) = false := by simp; omega
  by_cases h3 : 3 < n
  · have hd3 : decide ((3 : Int) < (n : Int)) = true := by simp; omega
    have HN := Lib.hid (count_no (s := s.data.toList) (.inr (by rw [HPl.out]; exact h3)))
    clear h2 h3
    have x0 : World.cell? w1 ⟨w.heap.size, 0, none⟩ = some (.int .i64 0) := cell_of_row _ _ 0 _ _ (0, 0) HR1.out
    have x1 : World.cell? w1 ⟨w.heap.size, 1, none⟩ = some (.int .i64 0) := cell_of_row _ _ 1 _ _ (0, 0) HR1.out
    have x2 : World.cell? w1 ⟨w.heap.size, 2, none⟩ = some (.int .i64 0) := cell_of_row _ _ 2 _ _ (0, 0) HR1.out
    have x3 : World.cell? w1 ⟨w.heap.size, 3, none⟩ = some (.slice none 0 0) := cell_of_row _ _ 3 _ _ (0, 0) HR1.out
    have x4 : World.cell? w1 ⟨w.heap.size, 4, none⟩ = some (.slice none 0 0) := cell_of_row _ _ 4 _ _ (0, 0) HR1.out
    have z0 : World.frozen? w1 ⟨w.heap.size, 0, none⟩ = false := frozen_of_row _ _ 0 _ _ HR1.out
    have z1 : World.frozen? w1 ⟨w.heap.size, 1, none⟩ = false := frozen_of_row _ _ 1 _ _ HR1.out
    have z2 : World.frozen? w1 ⟨w.heap.size, 2, none⟩ = false := frozen_of_row _ _ 2 _ _ HR1.out
    have z3 : World.frozen? w1 ⟨w.heap.size, 3, none⟩ = false := frozen_of_row _ _ 3 _ _ HR1.out
    have z4 : World.frozen? w1 ⟨w.heap.size, 4, none⟩ = false := frozen_of_row _ _ 4 _ _ HR1.out
    go_wp2
    refine bodyPost_ret_by (results_row_tmp rfl _ _ w.heap.size 25 _ (0, 0) _ rfl (five_set HR1.out) Tryz.underlying25 rfl (by kernel_rfl)) rfl ?_
    exact ⟨⟨⟨0, 0, 0, none, 0, 0, [], none, 0, 0, []⟩, false, rfl, HN.out, zero_in _, ⟨by simp, by simp⟩⟩, below5 HB1.out (Nat.le_refl _) _ _ _ _ _⟩
  have hd3 : decide ((3 : Int) < (n : Int)) = false := by simp; omega
  obtain ⟨p0, hp0⟩ : ∃ p, l[0]? = some p := ⟨l[0]'(by have := HLn.out; omega), List.getElem?_eq_getElem _⟩
  obtain ⟨p1, hp1⟩ : ∃ p, l[1]? = some p := ⟨l[1]'(by have := HLn.out; omega), List.getElem?_eq_getElem _⟩
  obtain ⟨b0, off0, rfl, _, hb0, hc0⟩ := HSt.out.2 0 p0 hp0
  obtain ⟨b1, off1, he, _, hb1, hc1⟩ := HSt.out.2 1 p1 hp1
  obtain ⟨rfl, rfl⟩ : b0 = b1 ∧ off0 = off1 := by injection he with h; injection h with h1 h2; exact ⟨h1, h2⟩
  rw [Nat.add_zero] at hc0
  have hsz : ∀ (k : Nat) (p : ByteArray), l[k]? = some p → p.size ≤ 1048576 := fun k p hp => by
    have hm : p.data.toList ∈ pieces 32 s.data.toList := by rw [← HPc.out]; exact List.mem_map.2 ⟨p, mem_of_at hp, rfl⟩
    have := piece_le hm
    rw [list_len, list_len] at this
    omega
  have HSz := Lib.hid hsz
  have HP0 := Lib.hid hp0
  have HP1 := Lib.hid hp1
  have hn0 : (0 : Int) < (n : Int) := by omega
  have hn1 : (1 : Int) < (n : Int) := by omega
  clear hsz hp0 hp1 he h2
  generalize hf : fS p1.data.toList = f
  have HFd := Lib.hid hf
  clear hf
  go_wp2_with fail
  refine (sField p1 (HSz.out 1 p1 HP1.out) w1).mono ?_
  rintro e w2 ⟨rfl, hb2⟩
  rw [HFd.out]
  have HR2 := Lib.hid ((hb2.block w.heap.size (lt_of_block HR1.out)).trans HR1.out)
  have HB2 := Lib.hid (HB1.out.trans (hb2.mono HB1.out.size))
  have HSt2 := Lib.hid (HSt.out.below hb2)
  have hlt2 : w.heap.size < w2.heap.size := lt_of_block HR2.out
  have hb02 : b0 < w2.heap.size := by have := hb2.size; omega
  have hc0' : w2.cell? ⟨b0, off0, none⟩ = some (.string p0) := (hb2.cell (p := ⟨b0, off0, none⟩) hb0).trans hc0
  clear hb2 hc0 hc1 HR1 HB1 HSt hb0 hb1 hlt
  go_upto_if 29 with (fail)
  go_cut [6] from 11 (fun s6 wx => ∃ ar : ByteArray, s6 = .string ar ∧ ar.data.toList = argS s.data.toList ∧ ar.size + 1 ≤ 1048576 ∧ wx = w2.alloc (.cells #[.int .i64 0, .int .i64 f, .int .i64 0, .slice none 0 0, .slice none 0 0] 25))
  case first =>
    by_cases h : n = 3
    · obtain ⟨p2, hp2⟩ : ∃ p, l[2]? = some p := ⟨l[2]'(by have := HLn.out; omega), List.getElem?_eq_getElem _⟩
      obtain ⟨b1, off1, he, _, hb1, hc2⟩ := HSt2.out.2 2 p2 hp2
      obtain ⟨rfl, rfl⟩ : b0 = b1 ∧ off0 = off1 := by injection he with h; injection h with h1 h2; exact ⟨h1, h2⟩
      have hd4 : ((n : Int) == 3) = true := by simp; omega
      have hn2 : (2 : Int) < (n : Int) := by omega
      have HAr : Hid (p2.data.toList = argS s.data.toList ∧ p2.size + 1 ≤ 1048576) := Lib.hid ⟨by
        unfold argS
        rw [if_pos (by rw [HPl.out]; exact h), ← HPc.out]
        simp [List.getD_eq_getElem?_getD, hp2], by
          have hm : p2.data.toList ∈ pieces 32 s.data.toList := by rw [← HPc.out]; exact List.mem_map.2 ⟨p2, mem_of_at hp2, rfl⟩
          have := piece_lt hm (by rw [HPl.out]; omega)
          rw [list_len, list_len] at this
          omega⟩
      clear hp2 he h
      go_wp2_with fail
      go_meet
      exact ⟨p2, rfl, HAr.out.1, HAr.out.2, rfl⟩
    · have hd4 : ((n : Int) == 3) = false := by simp; omega
      have HAr : Hid (([] : List UInt8) = argS s.data.toList) := Lib.hid (by unfold argS; rw [if_neg (by rw [HPl.out]; exact h)])
      clear h
      go_wp2_with fail
      go_meet
      exact ⟨⟨#[]⟩, rfl, HAr.out, by decide, rfl⟩
  case rest =>
  obtain ⟨ar, rfl, har, harz, rfl⟩ := hcut
  have HFi : Hid (-999999999 ≤ f ∧ f ≤ 999999999) := Lib.hid (by rw [← HFd.out]; exact fS_in _)
  have HNe : Hid (s.data.toList ≠ []) := Lib.hid fun e => by
    have h := HPl.out
    rw [e] at h
    have : (pieces 32 ([] : List UInt8)).length = 1 := rfl
    omega
  have HKS : Hid ((pieces 32 s.data.toList).getD 0 [] = p0.data.toList) := Lib.hid (by rw [← HPc.out]; simp [List.getD_eq_getElem?_getD, HP0.out])
  have HFS : Hid (f = fS ((pieces 32 s.data.toList).getD 1 [])) := Lib.hid (by rw [← HFd.out, ← HPc.out]; simp [List.getD_eq_getElem?_getD, HP1.out])
  have HSpec : Hid (∀ k v ls ps, k = kindS p0.data.toList → (v = if k = 2 then numS ar.data.toList else 0) → (ls = if k = 3 then (pieces 44 ar.data.toList).map numS else []) → (if k = 4 then ∃ ok, ParsedP ar.data.toList ps ok else ps = []) → SpecW s.data.toList ⟨k, f, v, ls, ps⟩) := Lib.hid fun k v ls ps h1 h2 h3 h4 => by
    rw [har] at h2 h3 h4
    exact ⟨by rw [HKS.out]; exact h1, HFS.out, h2, h3, h4⟩
  obtain ⟨c1, h1⟩ := bool_of (p0.data.toList = kwT.getD 1 [])
  obtain ⟨c2, h2⟩ := bool_of (p0.data.toList = kwT.getD 2 [])
  obtain ⟨c3, h3'⟩ := bool_of (p0.data.toList = kwT.getD 3 [])
  obtain ⟨c4, h4⟩ := bool_of (p0.data.toList = kwT.getD 4 [])
  have g1 : (p0.toList == [104, 105, 103, 104]) = c1 := str_is p0 _ c1 h1
  have g2 : (p0.toList == [110, 101, 97, 114]) = c2 := str_is p0 _ c2 h2
  have g3 : (p0.toList == [97, 109, 111, 110, 103]) = c3 := str_is p0 _ c3 h3'
  have g4 : (p0.toList == [111, 114, 100, 101, 114]) = c4 := str_is p0 _ c4 h4
  have HK : Hid (kindS p0.data.toList = if c1 = true then 1 else if c2 = true then 2 else if c3 = true then 3 else if c4 = true then 4 else 0) := Lib.hid (by
    unfold kindS
    simp only [h1, h2, h3', h4])
  have HArz := Lib.hid harz
  clear h1 h2 h3' h4 har harz HKS HFS HFd HPc HPl HLn HSt2 HSz HP0 HP1
  cases c1
  case true =>
    have HSp := Lib.hid (HSpec.out 1 0 [] [] (by rw [HK.out]; rfl) (by rw [if_neg (by decide)]) (by rw [if_neg (by decide)]) (by rw [if_neg (by decide)]))
    clear HSpec HK g2 g3 g4
    have HR : Hid ((w2.alloc (.cells #[.int .i64 1, .int .i64 f, .int .i64 0, .slice none 0 0, .slice none 0 0] 25)).heap[w.heap.size]? = some (.cells #[.int .i64 0, .int .i64 0, .int .i64 0, .slice none 0 0, .slice none 0 0] 25 (0, 0))) := Lib.hid ((Below.heap_alloc _ _ _ hlt2).trans HR2.out)
    have HY : Hid ((w2.alloc (.cells #[.int .i64 1, .int .i64 f, .int .i64 0, .slice none 0 0, .slice none 0 0] 25)).heap[w2.heap.size]? = some (.cells #[.int .i64 1, .int .i64 f, .int .i64 0, .slice none 0 0, .slice none 0 0] 25 (0, 0))) := Lib.hid (heap_alloc_new w2 _)
    have HB : Hid (Below w.heap.size w (w2.alloc (.cells #[.int .i64 1, .int .i64 f, .int .i64 0, .slice none 0 0, .slice none 0 0] 25))) := Lib.hid (HB2.out.alloc HB2.out.size _)
    have HRd : Hid (ReadW (w2.alloc (.cells #[.int .i64 1, .int .i64 f, .int .i64 0, .slice none 0 0, .slice none 0 0] 25)) (w.heap.size + 1) (⟨1, f, 0, none, 0, 0, [], none, 0, 0, []⟩ : Wi)) := Lib.hid ⟨ownI_nil _ _, OwnP.nil _ _, by simp, by simp, fun k h => (by cases h)⟩
    have HWf : Hid ((Lit.int .i64 1).wf = true ∧ (Lit.int .i64 f).wf = true ∧ (Lit.int .i64 0).wf = true) := Lib.hid ⟨WalkArith.wf_i64 (by omega), WalkArith.wf_i64 (by have := HFi.out; omega), WalkArith.wf_i64 (by first | omega | (have := HVi.out; omega))⟩
    obtain ⟨q, hq⟩ := bool_of (IsW (⟨1, f, 0, [], []⟩ : WD))
    obtain ⟨b, hb⟩ := bool_of (fmtW (⟨1, f, 0, [], []⟩ : WD) q = s)
    have hne := eq_lists hb
    obtain ⟨F, hF⟩ : ∃ F, fmtW (⟨1, f, 0, [], []⟩ : WD) q = F := ⟨_, rfl⟩
    have HBk := Lib.hid (fmt_back hq HNe.out hb)
    rw [hF] at hne
    have HF : Hid (fmtW (⟨1, f, 0, none, 0, 0, [], none, 0, 0, []⟩ : Wi).dat q = F) := Lib.hid hF
    have HQ : Hid (q = true ↔ IsW (⟨1, f, 0, none, 0, 0, [], none, 0, 0, []⟩ : Wi).dat) := Lib.hid hq
    clear hb hF hq
    have y0 : World.cell? (w2.alloc (.cells #[.int .i64 1, .int .i64 f, .int .i64 0, .slice none 0 0, .slice none 0 0] 25)) ⟨w2.heap.size, 0, none⟩ = some (.int .i64 1) := cell_of_row _ _ 0 _ _ (0, 0) HY.out
    have y1 : World.cell? (w2.alloc (.cells #[.int .i64 1, .int .i64 f, .int .i64 0, .slice none 0 0, .slice none 0 0] 25)) ⟨w2.heap.size, 1, none⟩ = some (.int .i64 f) := cell_of_row _ _ 1 _ _ (0, 0) HY.out
    have y2 : World.cell? (w2.alloc (.cells #[.int .i64 1, .int .i64 f, .int .i64 0, .slice none 0 0, .slice none 0 0] 25)) ⟨w2.heap.size, 2, none⟩ = some (.int .i64 0) := cell_of_row _ _ 2 _ _ (0, 0) HY.out
    have y3 : World.cell? (w2.alloc (.cells #[.int .i64 1, .int .i64 f, .int .i64 0, .slice none 0 0, .slice none 0 0] 25)) ⟨w2.heap.size, 3, none⟩ = some (.slice none 0 0) := cell_of_row _ _ 3 _ _ (0, 0) HY.out
    have y4 : World.cell? (w2.alloc (.cells #[.int .i64 1, .int .i64 f, .int .i64 0, .slice none 0 0, .slice none 0 0] 25)) ⟨w2.heap.size, 4, none⟩ = some (.slice none 0 0) := cell_of_row _ _ 4 _ _ (0, 0) HY.out
    go_wp2_with fail
    refine (sFmtW _ _ (⟨1, f, 0, none, 0, 0, [], none, 0, 0, []⟩ : Wi) (HRd.out.wi' HWf.out) (Nat.le_refl _) HRd.out.short q HQ.out).mono ?_
    rintro e w9 ⟨rfl, hb9⟩
    rw [HF.out]
    have HR9 := Lib.hid ((hb9.block w.heap.size (lt_of_block HR.out)).trans HR.out)
    have HY9 := Lib.hid ((hb9.block w2.heap.size (lt_of_block HY.out)).trans HY.out)
    have HB9 := Lib.hid (HB.out.trans (hb9.mono HB.out.size))
    have HRd9 : Hid (ReadW w9 (w.heap.size + 1) (⟨1, f, 0, none, 0, 0, [], none, 0, 0, []⟩ : Wi)) := Lib.hid (HRd.out.blocks fun b _ hb => hb9.block b hb)
    clear hb9 y0 y1 y2 y3 y4 HR HY HB HRd HF HQ
    have y0 : World.cell? w9 ⟨w2.heap.size, 0, none⟩ = some (.int .i64 1) := cell_of_row _ _ 0 _ _ (0, 0) HY9.out
    have y1 : World.cell? w9 ⟨w2.heap.size, 1, none⟩ = some (.int .i64 f) := cell_of_row _ _ 1 _ _ (0, 0) HY9.out
    have y2 : World.cell? w9 ⟨w2.heap.size, 2, none⟩ = some (.int .i64 0) := cell_of_row _ _ 2 _ _ (0, 0) HY9.out
    have y3 : World.cell? w9 ⟨w2.heap.size, 3, none⟩ = some (.slice none 0 0) := cell_of_row _ _ 3 _ _ (0, 0) HY9.out
    have y4 : World.cell? w9 ⟨w2.heap.size, 4, none⟩ = some (.slice none 0 0) := cell_of_row _ _ 4 _ _ (0, 0) HY9.out
    have x0 : World.cell? w9 ⟨w.heap.size, 0, none⟩ = some (.int .i64 0) := cell_of_row _ _ 0 _ _ (0, 0) HR9.out
    have x1 : World.cell? w9 ⟨w.heap.size, 1, none⟩ = some (.int .i64 0) := cell_of_row _ _ 1 _ _ (0, 0) HR9.out
    have x2 : World.cell? w9 ⟨w.heap.size, 2, none⟩ = some (.int .i64 0) := cell_of_row _ _ 2 _ _ (0, 0) HR9.out
    have x3 : World.cell? w9 ⟨w.heap.size, 3, none⟩ = some (.slice none 0 0) := cell_of_row _ _ 3 _ _ (0, 0) HR9.out
    have x4 : World.cell? w9 ⟨w.heap.size, 4, none⟩ = some (.slice none 0 0) := cell_of_row _ _ 4 _ _ (0, 0) HR9.out
    have z0 : World.frozen? w9 ⟨w.heap.size, 0, none⟩ = false := frozen_of_row _ _ 0 _ _ HR9.out
    have z1 : World.frozen? w9 ⟨w.heap.size, 1, none⟩ = false := frozen_of_row _ _ 1 _ _ HR9.out
    have z2 : World.frozen? w9 ⟨w.heap.size, 2, none⟩ = false := frozen_of_row _ _ 2 _ _ HR9.out
    have z3 : World.frozen? w9 ⟨w.heap.size, 3, none⟩ = false := frozen_of_row _ _ 3 _ _ HR9.out
    have z4 : World.frozen? w9 ⟨w.heap.size, 4, none⟩ = false := frozen_of_row _ _ 4 _ _ HR9.out
    cases b
    · go_wp2
      refine bodyPost_ret_by (results_row_tmp rfl _ _ w.heap.size 25 _ (0, 0) _ rfl (five_set HR9.out) Tryz.underlying25 rfl (by kernel_rfl)) rfl ?_
      exact ⟨⟨⟨0, 0, 0, none, 0, 0, [], none, 0, 0, []⟩, false, rfl, HSp.out.no fun h => (by have := HBk.out.2 h; cases this), zero_in _, ⟨by simp, by simp⟩⟩, below5 HB9.out (Nat.le_refl _) _ _ _ _ _⟩
    · have hbk := HBk.out.1 (by simp)
      have HG := Lib.hid hbk
      clear hbk HBk
      go_wp2
      refine bodyPost_ret_by (results_row_tmp rfl _ _ w.heap.size 25 _ (0, 0) _ rfl (five_set HR9.out) Tryz.underlying25 rfl (by kernel_rfl)) rfl ?_
      exact ⟨⟨(⟨1, f, 0, none, 0, 0, [], none, 0, 0, []⟩ : Wi), true, rfl, .inl ⟨rfl, HG.out.1, HG.out.2⟩, (HRd9.out.blocks fun b hb _ => other5 _ _ _ _ _ _ _ _ (by omega)).wi' HWf.out, HRd9.out.short⟩, below5 HB9.out (Nat.le_refl _) _ _ _ _ _⟩
  cases c2
  case true =>
    obtain ⟨v, hv⟩ : ∃ v, numS ar.data.toList = v := ⟨_, rfl⟩
    have HSp := Lib.hid (HSpec.out 2 v [] [] (by rw [HK.out]; rfl) (by rw [if_pos rfl, hv]) (by rw [if_neg (by decide)]) (by rw [if_neg (by decide)]))
    have HVi : Hid (-999999999 ≤ v ∧ v ≤ 999999999) := Lib.hid (by rw [← hv]; exact numS_in _)
    have HV := Lib.hid hv
    clear HSpec HK g3 g4 hv
    have HR : Hid ((w2.alloc (.cells #[.int .i64 2, .int .i64 f, .int .i64 0, .slice none 0 0, .slice none 0 0] 25)).heap[w.heap.size]? = some (.cells #[.int .i64 0, .int .i64 0, .int .i64 0, .slice none 0 0, .slice none 0 0] 25 (0, 0))) := Lib.hid ((Below.heap_alloc _ _ _ hlt2).trans HR2.out)
    have HY : Hid ((w2.alloc (.cells #[.int .i64 2, .int .i64 f, .int .i64 0, .slice none 0 0, .slice none 0 0] 25)).heap[w2.heap.size]? = some (.cells #[.int .i64 2, .int .i64 f, .int .i64 0, .slice none 0 0, .slice none 0 0] 25 (0, 0))) := Lib.hid (heap_alloc_new w2 _)
    have HB : Hid (Below w.heap.size w (w2.alloc (.cells #[.int .i64 2, .int .i64 f, .int .i64 0, .slice none 0 0, .slice none 0 0] 25))) := Lib.hid (HB2.out.alloc HB2.out.size _)
    go_wp2_with fail
    refine (sNum ar (by have := HArz.out; omega) _).mono ?_
    rintro e w3 ⟨rfl, hb3⟩
    rw [HV.out]
    have HR3 := Lib.hid ((hb3.block w.heap.size (lt_of_block HR.out)).trans HR.out)
    have HY3 := Lib.hid ((hb3.block w2.heap.size (lt_of_block HY.out)).trans HY.out)
    have HB3 := Lib.hid (HB.out.trans (hb3.mono HB.out.size))
    clear hb3 HR HY HB
    have HR : Hid ((w3.setCell ⟨w2.heap.size, 2, none⟩ (.int .i64 v)).heap[w.heap.size]? = some (.cells #[.int .i64 0, .int .i64 0, .int .i64 0, .slice none 0 0, .slice none 0 0] 25 (0, 0))) := Lib.hid ((heap_setCell_other _ _ _ _ (by simp; omega)).trans HR3.out)
    have HY : Hid ((w3.setCell ⟨w2.heap.size, 2, none⟩ (.int .i64 v)).heap[w2.heap.size]? = some (.cells #[.int .i64 2, .int .i64 f, .int .i64 v, .slice none 0 0, .slice none 0 0] 25 (0, 0))) := Lib.hid (by have h := heap_setCell_same w3 w2.heap.size 2 _ _ (.int .i64 v) HY3.out; simpa using h)
    have HB : Hid (Below w.heap.size w (w3.setCell ⟨w2.heap.size, 2, none⟩ (.int .i64 v))) := Lib.hid (HB3.out.setCell (by show w.heap.size ≤ w2.heap.size; omega) _)
    have v2 : w3.cell? ⟨w2.heap.size, 2, none⟩ = some (.int .i64 0) := cell_of_row _ _ 2 _ _ (0, 0) HY3.out
    have u2 : w3.frozen? ⟨w2.heap.size, 2, none⟩ = false := frozen_of_row _ _ 2 _ _ HY3.out
    have HRd : Hid (ReadW (w3.setCell ⟨w2.heap.size, 2, none⟩ (.int .i64 v)) (w.heap.size + 1) (⟨2, f, v, none, 0, 0, [], none, 0, 0, []⟩ : Wi)) := Lib.hid ⟨ownI_nil _ _, OwnP.nil _ _, by simp, by simp, fun k h => (by cases h)⟩
    have HWf : Hid ((Lit.int .i64 2).wf = true ∧ (Lit.int .i64 f).wf = true ∧ (Lit.int .i64 v).wf = true) := Lib.hid ⟨WalkArith.wf_i64 (by omega), WalkArith.wf_i64 (by have := HFi.out; omega), WalkArith.wf_i64 (by first | omega | (have := HVi.out; omega))⟩
    obtain ⟨q, hq⟩ := bool_of (IsW (⟨2, f, v, [], []⟩ : WD))
    obtain ⟨b, hb⟩ := bool_of (fmtW (⟨2, f, v, [], []⟩ : WD) q = s)
    have hne := eq_lists hb
    obtain ⟨F, hF⟩ : ∃ F, fmtW (⟨2, f, v, [], []⟩ : WD) q = F := ⟨_, rfl⟩
    have HBk := Lib.hid (fmt_back hq HNe.out hb)
    rw [hF] at hne
    have HF : Hid (fmtW (⟨2, f, v, none, 0, 0, [], none, 0, 0, []⟩ : Wi).dat q = F) := Lib.hid hF
    have HQ : Hid (q = true ↔ IsW (⟨2, f, v, none, 0, 0, [], none, 0, 0, []⟩ : Wi).dat) := Lib.hid hq
    clear hb hF hq
    have y0 : World.cell? (w3.setCell ⟨w2.heap.size, 2, none⟩ (.int .i64 v)) ⟨w2.heap.size, 0, none⟩ = some (.int .i64 2) := cell_of_row _ _ 0 _ _ (0, 0) HY.out
    have y1 : World.cell? (w3.setCell ⟨w2.heap.size, 2, none⟩ (.int .i64 v)) ⟨w2.heap.size, 1, none⟩ = some (.int .i64 f) := cell_of_row _ _ 1 _ _ (0, 0) HY.out
    have y2 : World.cell? (w3.setCell ⟨w2.heap.size, 2, none⟩ (.int .i64 v)) ⟨w2.heap.size, 2, none⟩ = some (.int .i64 v) := cell_of_row _ _ 2 _ _ (0, 0) HY.out
    have y3 : World.cell? (w3.setCell ⟨w2.heap.size, 2, none⟩ (.int .i64 v)) ⟨w2.heap.size, 3, none⟩ = some (.slice none 0 0) := cell_of_row _ _ 3 _ _ (0, 0) HY.out
    have y4 : World.cell? (w3.setCell ⟨w2.heap.size, 2, none⟩ (.int .i64 v)) ⟨w2.heap.size, 4, none⟩ = some (.slice none 0 0) := cell_of_row _ _ 4 _ _ (0, 0) HY.out
    go_wp2_with fail
    refine (sFmtW _ _ (⟨2, f, v, none, 0, 0, [], none, 0, 0, []⟩ : Wi) (HRd.out.wi' HWf.out) (Nat.le_refl _) HRd.out.short q HQ.out).mono ?_
    rintro e w9 ⟨rfl, hb9⟩
    rw [HF.out]
    have HR9 := Lib.hid ((hb9.block w.heap.size (lt_of_block HR.out)).trans HR.out)
    have HY9 := Lib.hid ((hb9.block w2.heap.size (lt_of_block HY.out)).trans HY.out)
    have HB9 := Lib.hid (HB.out.trans (hb9.mono HB.out.size))
    have HRd9 : Hid (ReadW w9 (w.heap.size + 1) (⟨2, f, v, none, 0, 0, [], none, 0, 0, []⟩ : Wi)) := Lib.hid (HRd.out.blocks fun b _ hb => hb9.block b hb)
    clear hb9 y0 y1 y2 y3 y4 HR HY HB HRd HF HQ
    have y0 : World.cell? w9 ⟨w2.heap.size, 0, none⟩ = some (.int .i64 2) := cell_of_row _ _ 0 _ _ (0, 0) HY9.out
    have y1 : World.cell? w9 ⟨w2.heap.size, 1, none⟩ = some (.int .i64 f) := cell_of_row _ _ 1 _ _ (0, 0) HY9.out
    have y2 : World.cell? w9 ⟨w2.heap.size, 2, none⟩ = some (.int .i64 v) := cell_of_row _ _ 2 _ _ (0, 0) HY9.out
    have y3 : World.cell? w9 ⟨w2.heap.size, 3, none⟩ = some (.slice none 0 0) := cell_of_row _ _ 3 _ _ (0, 0) HY9.out
    have y4 : World.cell? w9 ⟨w2.heap.size, 4, none⟩ = some (.slice none 0 0) := cell_of_row _ _ 4 _ _ (0, 0) HY9.out
    have x0 : World.cell? w9 ⟨w.heap.size, 0, none⟩ = some (.int .i64 0) := cell_of_row _ _ 0 _ _ (0, 0) HR9.out
    have x1 : World.cell? w9 ⟨w.heap.size, 1, none⟩ = some (.int .i64 0) := cell_of_row _ _ 1 _ _ (0, 0) HR9.out
    have x2 : World.cell? w9 ⟨w.heap.size, 2, none⟩ = some (.int .i64 0) := cell_of_row _ _ 2 _ _ (0, 0) HR9.out
    have x3 : World.cell? w9 ⟨w.heap.size, 3, none⟩ = some (.slice none 0 0) := cell_of_row _ _ 3 _ _ (0, 0) HR9.out
    have x4 : World.cell? w9 ⟨w.heap.size, 4, none⟩ = some (.slice none 0 0) := cell_of_row _ _ 4 _ _ (0, 0) HR9.out
    have z0 : World.frozen? w9 ⟨w.heap.size, 0, none⟩ = false := frozen_of_row _ _ 0 _ _ HR9.out
    have z1 : World.frozen? w9 ⟨w.heap.size, 1, none⟩ = false := frozen_of_row _ _ 1 _ _ HR9.out
    have z2 : World.frozen? w9 ⟨w.heap.size, 2, none⟩ = false := frozen_of_row _ _ 2 _ _ HR9.out
    have z3 : World.frozen? w9 ⟨w.heap.size, 3, none⟩ = false := frozen_of_row _ _ 3 _ _ HR9.out
    have z4 : World.frozen? w9 ⟨w.heap.size, 4, none⟩ = false := frozen_of_row _ _ 4 _ _ HR9.out
    cases b
    · go_wp2
      refine bodyPost_ret_by (results_row_tmp rfl _ _ w.heap.size 25 _ (0, 0) _ rfl (five_set HR9.out) Tryz.underlying25 rfl (by kernel_rfl)) rfl ?_
      exact ⟨⟨⟨0, 0, 0, none, 0, 0, [], none, 0, 0, []⟩, false, rfl, HSp.out.no fun h => (by have := HBk.out.2 h; cases this), zero_in _, ⟨by simp, by simp⟩⟩, below5 HB9.out (Nat.le_refl _) _ _ _ _ _⟩
    · have hbk := HBk.out.1 (by simp)
      have HG := Lib.hid hbk
      clear hbk HBk
      go_wp2
      refine bodyPost_ret_by (results_row_tmp rfl _ _ w.heap.size 25 _ (0, 0) _ rfl (five_set HR9.out) Tryz.underlying25 rfl (by kernel_rfl)) rfl ?_
      exact ⟨⟨(⟨2, f, v, none, 0, 0, [], none, 0, 0, []⟩ : Wi), true, rfl, .inl ⟨rfl, HG.out.1, HG.out.2⟩, (HRd9.out.blocks fun b hb _ => other5 _ _ _ _ _ _ _ _ (by omega)).wi' HWf.out, HRd9.out.short⟩, below5 HB9.out (Nat.le_refl _) _ _ _ _ _⟩
  cases c3
  case true =>
    clear g4
    have HR : Hid ((w2.alloc (.cells #[.int .i64 3, .int .i64 f, .int .i64 0, .slice none 0 0, .slice none 0 0] 25)).heap[w.heap.size]? = some (.cells #[.int .i64 0, .int .i64 0, .int .i64 0, .slice none 0 0, .slice none 0 0] 25 (0, 0))) := Lib.hid ((Below.heap_alloc _ _ _ hlt2).trans HR2.out)
    have HY : Hid ((w2.alloc (.cells #[.int .i64 3, .int .i64 f, .int .i64 0, .slice none 0 0, .slice none 0 0] 25)).heap[w2.heap.size]? = some (.cells #[.int .i64 3, .int .i64 f, .int .i64 0, .slice none 0 0, .slice none 0 0] 25 (0, 0))) := Lib.hid (heap_alloc_new w2 _)
    have HB : Hid (Below w.heap.size w (w2.alloc (.cells #[.int .i64 3, .int .i64 f, .int .i64 0, .slice none 0 0, .slice none 0 0] 25))) := Lib.hid (HB2.out.alloc HB2.out.size _)
    go_wp2_with fail
    refine (sCut2 ar (by have := HArz.out; omega) 44 _).mono ?_
    rintro e w3 ⟨⟨A2, n2, c2', l2, rfl, hst2, hpc2⟩, hb3⟩
    rw [World.size_alloc] at hst2
    have HX3 := Lib.hid ((hb3.block w2.heap.size (lt_of_block HY.out)).trans HY.out)
    have HR3 := Lib.hid ((hb3.block w.heap.size (lt_of_block HR.out)).trans HR.out)
    have HB3 := Lib.hid (HB.out.trans (hb3.mono HB.out.size))
    have hXw : Hid (w.heap.size < w2.heap.size ∧ w2.heap.size < w3.heap.size) := Lib.hid ⟨hlt2, lt_of_block HX3.out⟩
    have HSt3 : Hid (Strs w3 (w2.heap.size + 1) w3.heap.size A2 n2 l2) := Lib.hid hst2
    have hn2 : n2 ≤ 1048576 := by
      have h1 := pieces_count 44 ar.data.toList
      have h2 := HArz.out
      rw [← hpc2, List.length_map, hst2.1, list_len] at h1
      omega
    have HPc2 := Lib.hid hpc2
    clear hb3 hst2 hpc2 HR HY HB
    go_wp2
    go_loopw [8] (fun i wr => ∃ k : Nat, k ≤ n2 ∧ i = .int .i64 k ∧ FilledW w3 w2.heap.size w3.heap.size f l2 k wr) (fun i _ => n2 - (intOf i).toNat)
    case atStart => exact ⟨0, Nat.zero_le _, rfl, .slice none 0 0, [], HX3.out, World.ownsRow_nil _ _ _ _, rfl, grown_of _ (Below.refl _ _) (Nat.le_refl _)⟩
    case round =>
      obtain ⟨k, hk, rfl, v, vals, hXr, hown, hvals, hgr⟩ := hrel
      obtain ⟨Av, nv, cv, rfl, hints, hlow⟩ := hown.low
      have HX := Lib.hid hXr
      have HO := Lib.hid hown
      have HVs := Lib.hid hvals
      have HG := Lib.hid hgr
      have hsz3 := Lib.hid hgr.size
      have HRr := Lib.hid ((hgr.block w.heap.size (by have := hXw.out; omega) (fun e => by injection e; have := hXw.out; omega)).trans HR3.out)
      have HBr := Lib.hid (HB3.out.trans (grown_low hgr (by have := hXw.out; omega) (by have := hXw.out; omega)))
      clear hints hlow hown
      by_cases hlt : k < n2
      · obtain ⟨p, hp⟩ : ∃ p, l2[k]? = some p := ⟨l2[k]'(by rw [HSt3.out.1]; exact hlt), List.getElem?_eq_getElem _⟩
        obtain ⟨b2, off2, rfl, hlo2, hb2, hc2⟩ := HSt3.out.2 k p hp
        have f1 : wr.cell? ⟨b2, off2 + k, none⟩ = some (.string p) := (World.cell?_of_block (w := w3) (a := ⟨b2, off2 + k, none⟩) (hgr.block b2 hb2 (fun e => by injection e; omega))).trans hc2
        have x1 : wr.cell? ⟨w2.heap.size, 3, none⟩ = some (.slice Av nv cv) := cell_of_row wr _ 3 _ _ (0, 0) HX.out
        have hlt' : (k : Int) < (n2 : Int) := by omega
        have hpz : Hid (p.size ≤ 1048576) := Lib.hid (by
          have hm : p.data.toList ∈ pieces 44 ar.data.toList := by rw [← HPc2.out]; exact List.mem_map.2 ⟨p, mem_of_at hp, rfl⟩
          have h1 := piece_le hm
          have h2 := HArz.out
          rw [list_len, list_len] at h1
          omega)
        have HPk := Lib.hid hp
        generalize hz : numS p.data.toList = z
        have HZ := Lib.hid hz
        have H4 : Hid ((vals.length + [z].length) * 8 ≤ 140737488355328) := Lib.hid (by
          rw [hvals, List.length_map, List.length_take]
          simp only [List.length_cons, List.length_nil]
          omega)
        clear hXr hvals hgr hp hc2 hz hlo2
        go_wp2
        go_region_law (first
          | (refine step_appI wn (by rfl) (.tmp 57) (.tmp 63) (by rfl) w3.heap.size _ vals (by rfl) HOn.out _ [z] (by rfl) 1 1 rfl (by rfl) H4.out hBn.out ?_; intro v' w5 hown5 hb5; obtain ⟨Av', nv', cv', rfl, _, _⟩ := hown5.low; have HO5 := Lib.hid hown5; have HX5 := Lib.hid ((hb5.block w2.heap.size hXw.out.2).trans HXn.out); have z1 : w5.cell? ⟨w2.heap.size, 3, none⟩ = some (.slice Av nv cv) := cell_of_row w5 _ 3 _ _ (0, 0) HX5.out; have z2 : w5.frozen? ⟨w2.heap.size, 3, none⟩ = false := frozen_of_row w5 _ 3 _ _ HX5.out; have HG5 := Lib.hid (grown_app HGn.out hb5); clear hown5 hb5)
          | (go_simp; go_at_call 11; refine (sNum p hpz.out _).mono ?_; rintro e wn ⟨rfl, hbn⟩; rw [HZ.out]; have HOn := Lib.hid (OwnI.below HO.out ((Below.refl wr.heap.size wr).drew.trans (hbn.mono (Nat.le_refl _)))); have hBn : Hid (w3.heap.size ≤ wn.heap.size) := Lib.hid (Nat.le_trans hsz3.out hbn.size); have HXn : Hid (wn.heap[w2.heap.size]? = some (.cells #[.int .i64 3, .int .i64 f, .int .i64 0, .slice Av nv cv, .slice none 0 0] 25 (0, 0))) := Lib.hid ((hbn.block w2.heap.size (lt_of_block HX.out)).trans HX.out); have HGn := Lib.hid (grown_two HG.out (grown_of (some w2.heap.size) ((Below.refl wr.heap.size wr).drew.trans (hbn.mono (Nat.le_refl _))) (Nat.le_refl _))); have x1n : wn.cell? ⟨w2.heap.size, 3, none⟩ = some (.slice Av nv cv) := cell_of_row wn _ 3 _ _ (0, 0) HXn.out; have hXn := lt_of_block HXn.out; clear hbn))
        all_goals
          have HF : Hid (FilledW w3 w2.heap.size w3.heap.size f l2 (k + 1) (w5.setCell ⟨w2.heap.size, 3, none⟩ (.slice Av' nv' cv'))) := Lib.hid (by
            refine ⟨.slice Av' nv' cv', vals ++ [z], ?_, ownsRow_setCell_below HO5.out hXw.out.2 _, ?_, grown_put HG5.out 3 _⟩
            · have h := heap_setCell_same w5 w2.heap.size 3 _ _ (.slice Av' nv' cv') HX5.out
              simpa using h
            · rw [take_at HPk.out, List.map_append, HVs.out, ← HZ.out]; rfl)
          go_wp2
          go_roundw
          case rel => exact ⟨k + 1, by omega, by go_num, HF.out⟩
          case measure => simp [intOf]; omega
      obtain rfl : k = n2 := by omega
      have hva : vals = (pieces 44 ar.data.toList).map numS := by rw [HVs.out, take_all HSt3.out.1, ← HPc2.out, List.map_map]; rfl
      have hvl : vals.length ≤ 1048576 := by rw [HVs.out, take_all HSt3.out.1, List.length_map, HSt3.out.1]; exact hn2
      have HSp := Lib.hid (HSpec.out 3 0 vals [] (by rw [HK.out]; rfl) (by rw [if_neg (by decide)]) (by rw [if_pos rfl]; exact hva) (by rw [if_neg (by decide)]))
      have HR := HRr
      have HY := HX
      have HB := HBr
      have HRd : Hid (ReadW wr (w.heap.size + 1) (⟨3, f, 0, Av, nv, cv, vals, none, 0, 0, []⟩ : Wi)) := Lib.hid ⟨ownI_lowD' HO.out (by have := hXw.out; omega), OwnP.nil _ _, hvl, by simp, fun k h e => (by cases e)⟩
      have HWf : Hid ((Lit.int .i64 3).wf = true ∧ (Lit.int .i64 f).wf = true ∧ (Lit.int .i64 0).wf = true) := Lib.hid ⟨WalkArith.wf_i64 (by omega), WalkArith.wf_i64 (by have := HFi.out; omega), WalkArith.wf_i64 (by omega)⟩
      clear hXr hvals hgr hva hvl HSpec HK HVs HRr HX HBr
      obtain ⟨q, hq⟩ := bool_of (IsW (⟨3, f, 0, vals, []⟩ : WD))
      obtain ⟨b, hb⟩ := bool_of (fmtW (⟨3, f, 0, vals, []⟩ : WD) q = s)
      have hne := eq_lists hb
      obtain ⟨F, hF⟩ : ∃ F, fmtW (⟨3, f, 0, vals, []⟩ : WD) q = F := ⟨_, rfl⟩
      have HBk := Lib.hid (fmt_back hq HNe.out hb)
      rw [hF] at hne
      have HF : Hid (fmtW (⟨3, f, 0, Av, nv, cv, vals, none, 0, 0, []⟩ : Wi).dat q = F) := Lib.hid hF
      have HQ : Hid (q = true ↔ IsW (⟨3, f, 0, Av, nv, cv, vals, none, 0, 0, []⟩ : Wi).dat) := Lib.hid hq
      clear hb hF hq
      have y0 : World.cell? wr ⟨w2.heap.size, 0, none⟩ = some (.int .i64 3) := cell_of_row _ _ 0 _ _ (0, 0) HY.out
      have y1 : World.cell? wr ⟨w2.heap.size, 1, none⟩ = some (.int .i64 f) := cell_of_row _ _ 1 _ _ (0, 0) HY.out
      have y2 : World.cell? wr ⟨w2.heap.size, 2, none⟩ = some (.int .i64 0) := cell_of_row _ _ 2 _ _ (0, 0) HY.out
      have y3 : World.cell? wr ⟨w2.heap.size, 3, none⟩ = some (.slice Av nv cv) := cell_of_row _ _ 3 _ _ (0, 0) HY.out
      have y4 : World.cell? wr ⟨w2.heap.size, 4, none⟩ = some (.slice none 0 0) := cell_of_row _ _ 4 _ _ (0, 0) HY.out
      go_wp2_with fail
      refine (sFmtW _ _ (⟨3, f, 0, Av, nv, cv, vals, none, 0, 0, []⟩ : Wi) (HRd.out.wi' HWf.out) (Nat.le_refl _) HRd.out.short q HQ.out).mono ?_
      rintro e w9 ⟨rfl, hb9⟩
      rw [HF.out]
      have HR9 := Lib.hid ((hb9.block w.heap.size (lt_of_block HR.out)).trans HR.out)
      have HY9 := Lib.hid ((hb9.block w2.heap.size (lt_of_block HY.out)).trans HY.out)
      have HB9 := Lib.hid (HB.out.trans (hb9.mono HB.out.size))
      have HRd9 : Hid (ReadW w9 (w.heap.size + 1) (⟨3, f, 0, Av, nv, cv, vals, none, 0, 0, []⟩ : Wi)) := Lib.hid (HRd.out.blocks fun b _ hb => hb9.block b hb)
      clear hb9 y0 y1 y2 y3 y4 HR HY HB HRd HF HQ
      have y0 : World.cell? w9 ⟨w2.heap.size, 0, none⟩ = some (.int .i64 3) := cell_of_row _ _ 0 _ _ (0, 0) HY9.out
      have y1 : World.cell? w9 ⟨w2.heap.size, 1, none⟩ = some (.int .i64 f) := cell_of_row _ _ 1 _ _ (0, 0) HY9.out
      have y2 : World.cell? w9 ⟨w2.heap.size, 2, none⟩ = some (.int .i64 0) := cell_of_row _ _ 2 _ _ (0, 0) HY9.out
      have y3 : World.cell? w9 ⟨w2.heap.size, 3, none⟩ = some (.slice Av nv cv) := cell_of_row _ _ 3 _ _ (0, 0) HY9.out
      have y4 : World.cell? w9 ⟨w2.heap.size, 4, none⟩ = some (.slice none 0 0) := cell_of_row _ _ 4 _ _ (0, 0) HY9.out
      have x0 : World.cell? w9 ⟨w.heap.size, 0, none⟩ = some (.int .i64 0) := cell_of_row _ _ 0 _ _ (0, 0) HR9.out
      have x1 : World.cell? w9 ⟨w.heap.size, 1, none⟩ = some (.int .i64 0) := cell_of_row _ _ 1 _ _ (0, 0) HR9.out
      have x2 : World.cell? w9 ⟨w.heap.size, 2, none⟩ = some (.int .i64 0) := cell_of_row _ _ 2 _ _ (0, 0) HR9.out
      have x3 : World.cell? w9 ⟨w.heap.size, 3, none⟩ = some (.slice none 0 0) := cell_of_row _ _ 3 _ _ (0, 0) HR9.out
      have x4 : World.cell? w9 ⟨w.heap.size, 4, none⟩ = some (.slice none 0 0) := cell_of_row _ _ 4 _ _ (0, 0) HR9.out
      have z0 : World.frozen? w9 ⟨w.heap.size, 0, none⟩ = false := frozen_of_row _ _ 0 _ _ HR9.out
      have z1 : World.frozen? w9 ⟨w.heap.size, 1, none⟩ = false := frozen_of_row _ _ 1 _ _ HR9.out
      have z2 : World.frozen? w9 ⟨w.heap.size, 2, none⟩ = false := frozen_of_row _ _ 2 _ _ HR9.out
      have z3 : World.frozen? w9 ⟨w.heap.size, 3, none⟩ = false := frozen_of_row _ _ 3 _ _ HR9.out
      have z4 : World.frozen? w9 ⟨w.heap.size, 4, none⟩ = false := frozen_of_row _ _ 4 _ _ HR9.out
      cases b
      · go_wp2
        refine bodyPost_ret_by (results_row_tmp rfl _ _ w.heap.size 25 _ (0, 0) _ rfl (five_set HR9.out) Tryz.underlying25 rfl (by kernel_rfl)) rfl ?_
        exact ⟨⟨⟨0, 0, 0, none, 0, 0, [], none, 0, 0, []⟩, false, rfl, HSp.out.no fun h => (by have := HBk.out.2 h; cases this), zero_in _, ⟨by simp, by simp⟩⟩, below5 HB9.out (Nat.le_refl _) _ _ _ _ _⟩
      · have hbk := HBk.out.1 (by simp)
        have HG := Lib.hid hbk
        clear hbk HBk
        go_wp2
        refine bodyPost_ret_by (results_row_tmp rfl _ _ w.heap.size 25 _ (0, 0) _ rfl (five_set HR9.out) Tryz.underlying25 rfl (by kernel_rfl)) rfl ?_
        exact ⟨⟨(⟨3, f, 0, Av, nv, cv, vals, none, 0, 0, []⟩ : Wi), true, rfl, .inl ⟨rfl, HG.out.1, HG.out.2⟩, (HRd9.out.blocks fun b hb _ => other5 _ _ _ _ _ _ _ _ (by omega)).wi' HWf.out, HRd9.out.short⟩, below5 HB9.out (Nat.le_refl _) _ _ _ _ _⟩
  cases c4
  case true =>
    have HR : Hid ((w2.alloc (.cells #[.int .i64 4, .int .i64 f, .int .i64 0, .slice none 0 0, .slice none 0 0] 25)).heap[w.heap.size]? = some (.cells #[.int .i64 0, .int .i64 0, .int .i64 0, .slice none 0 0, .slice none 0 0] 25 (0, 0))) := Lib.hid ((Below.heap_alloc _ _ _ hlt2).trans HR2.out)
    have HY : Hid ((w2.alloc (.cells #[.int .i64 4, .int .i64 f, .int .i64 0, .slice none 0 0, .slice none 0 0] 25)).heap[w2.heap.size]? = some (.cells #[.int .i64 4, .int .i64 f, .int .i64 0, .slice none 0 0, .slice none 0 0] 25 (0, 0))) := Lib.hid (heap_alloc_new w2 _)
    have HB : Hid (Below w.heap.size w (w2.alloc (.cells #[.int .i64 4, .int .i64 f, .int .i64 0, .slice none 0 0, .slice none 0 0] 25))) := Lib.hid (HB2.out.alloc HB2.out.size _)
    go_wp2_with fail
    refine (sParsePairs ar (by have := HArz.out; omega) _).mono ?_
    rintro e w3 h
    unfold OutParse at h
    obtain ⟨⟨u, ps, ok, rfl, hown, hpar⟩, hb3⟩ := h
    obtain ⟨A4, n4, c4', rfl, hpp⟩ := hown.pairs
    rw [World.size_alloc] at hown
    have HSp := Lib.hid (HSpec.out 4 0 [] ps (by rw [HK.out]; rfl) (by rw [if_neg (by decide)]) (by rw [if_neg (by decide)]) (by rw [if_pos rfl]; exact ⟨ok, hpar⟩))
    have HPar := Lib.hid hpar.len
    have HO := Lib.hid hown
    have HR3 := Lib.hid ((hb3.block w.heap.size (lt_of_block HR.out)).trans HR.out)
    have HY3 := Lib.hid ((hb3.block w2.heap.size (lt_of_block HY.out)).trans HY.out)
    have HB3 := Lib.hid (HB.out.trans (hb3.mono HB.out.size))
    clear hb3 HR HY HB HSpec HK hown hpar hpp
    have HR : Hid ((w3.setCell ⟨w2.heap.size, 4, none⟩ (.slice A4 n4 c4')).heap[w.heap.size]? = some (.cells #[.int .i64 0, .int .i64 0, .int .i64 0, .slice none 0 0, .slice none 0 0] 25 (0, 0))) := Lib.hid ((heap_setCell_other _ _ _ _ (by simp; omega)).trans HR3.out)
    have HY : Hid ((w3.setCell ⟨w2.heap.size, 4, none⟩ (.slice A4 n4 c4')).heap[w2.heap.size]? = some (.cells #[.int .i64 4, .int .i64 f, .int .i64 0, .slice none 0 0, .slice A4 n4 c4'] 25 (0, 0))) := Lib.hid (by have h := heap_setCell_same w3 w2.heap.size 4 _ _ (.slice A4 n4 c4') HY3.out; simpa using h)
    have HB : Hid (Below w.heap.size w (w3.setCell ⟨w2.heap.size, 4, none⟩ (.slice A4 n4 c4'))) := Lib.hid (HB3.out.setCell (by show w.heap.size ≤ w2.heap.size; omega) _)
    have HRd : Hid (ReadW (w3.setCell ⟨w2.heap.size, 4, none⟩ (.slice A4 n4 c4')) (w.heap.size + 1) (⟨4, f, 0, none, 0, 0, [], A4, n4, c4', ps⟩ : Wi)) := Lib.hid ⟨ownI_nil _ _, ownP_lowD' (HO.out.blocks fun k hk => heap_setCell_other _ _ _ _ (by have := HO.out.lows k hk; simp; omega)) (by omega), by simp, HPar.out, fun k h => (by cases h)⟩
    have HWf : Hid ((Lit.int .i64 4).wf = true ∧ (Lit.int .i64 f).wf = true ∧ (Lit.int .i64 0).wf = true) := Lib.hid ⟨WalkArith.wf_i64 (by omega), WalkArith.wf_i64 (by have := HFi.out; omega), WalkArith.wf_i64 (by omega)⟩
    have v4 : w3.cell? ⟨w2.heap.size, 4, none⟩ = some (.slice none 0 0) := cell_of_row _ _ 4 _ _ (0, 0) HY3.out
    have u4 : w3.frozen? ⟨w2.heap.size, 4, none⟩ = false := frozen_of_row _ _ 4 _ _ HY3.out
    obtain ⟨q, hq⟩ := bool_of (IsW (⟨4, f, 0, [], ps⟩ : WD))
    obtain ⟨b, hb⟩ := bool_of (fmtW (⟨4, f, 0, [], ps⟩ : WD) q = s)
    have hne := eq_lists hb
    obtain ⟨F, hF⟩ : ∃ F, fmtW (⟨4, f, 0, [], ps⟩ : WD) q = F := ⟨_, rfl⟩
    have HBk := Lib.hid (fmt_back hq HNe.out hb)
    rw [hF] at hne
    have HF : Hid (fmtW (⟨4, f, 0, none, 0, 0, [], A4, n4, c4', ps⟩ : Wi).dat q = F) := Lib.hid hF
    have HQ : Hid (q = true ↔ IsW (⟨4, f, 0, none, 0, 0, [], A4, n4, c4', ps⟩ : Wi).dat) := Lib.hid hq
    clear hb hF hq
    have y0 : World.cell? (w3.setCell ⟨w2.heap.size, 4, none⟩ (.slice A4 n4 c4')) ⟨w2.heap.size, 0, none⟩ = some (.int .i64 4) := cell_of_row _ _ 0 _ _ (0, 0) HY.out
    have y1 : World.cell? (w3.setCell ⟨w2.heap.size, 4, none⟩ (.slice A4 n4 c4')) ⟨w2.heap.size, 1, none⟩ = some (.int .i64 f) := cell_of_row _ _ 1 _ _ (0, 0) HY.out
    have y2 : World.cell? (w3.setCell ⟨w2.heap.size, 4, none⟩ (.slice A4 n4 c4')) ⟨w2.heap.size, 2, none⟩ = some (.int .i64 0) := cell_of_row _ _ 2 _ _ (0, 0) HY.out
    have y3 : World.cell? (w3.setCell ⟨w2.heap.size, 4, none⟩ (.slice A4 n4 c4')) ⟨w2.heap.size, 3, none⟩ = some (.slice none 0 0) := cell_of_row _ _ 3 _ _ (0, 0) HY.out
    have y4 : World.cell? (w3.setCell ⟨w2.heap.size, 4, none⟩ (.slice A4 n4 c4')) ⟨w2.heap.size, 4, none⟩ = some (.slice A4 n4 c4') := cell_of_row _ _ 4 _ _ (0, 0) HY.out
    go_wp2_with fail
    refine (sFmtW _ _ (⟨4, f, 0, none, 0, 0, [], A4, n4, c4', ps⟩ : Wi) (HRd.out.wi' HWf.out) (Nat.le_refl _) HRd.out.short q HQ.out).mono ?_
    rintro e w9 ⟨rfl, hb9⟩
    rw [HF.out]
    have HR9 := Lib.hid ((hb9.block w.heap.size (lt_of_block HR.out)).trans HR.out)
    have HY9 := Lib.hid ((hb9.block w2.heap.size (lt_of_block HY.out)).trans HY.out)
    have HB9 := Lib.hid (HB.out.trans (hb9.mono HB.out.size))
    have HRd9 : Hid (ReadW w9 (w.heap.size + 1) (⟨4, f, 0, none, 0, 0, [], A4, n4, c4', ps⟩ : Wi)) := Lib.hid (HRd.out.blocks fun b _ hb => hb9.block b hb)
    clear hb9 y0 y1 y2 y3 y4 HR HY HB HRd HF HQ
    have y0 : World.cell? w9 ⟨w2.heap.size, 0, none⟩ = some (.int .i64 4) := cell_of_row _ _ 0 _ _ (0, 0) HY9.out
    have y1 : World.cell? w9 ⟨w2.heap.size, 1, none⟩ = some (.int .i64 f) := cell_of_row _ _ 1 _ _ (0, 0) HY9.out
    have y2 : World.cell? w9 ⟨w2.heap.size, 2, none⟩ = some (.int .i64 0) := cell_of_row _ _ 2 _ _ (0, 0) HY9.out
    have y3 : World.cell? w9 ⟨w2.heap.size, 3, none⟩ = some (.slice none 0 0) := cell_of_row _ _ 3 _ _ (0, 0) HY9.out
    have y4 : World.cell? w9 ⟨w2.heap.size, 4, none⟩ = some (.slice A4 n4 c4') := cell_of_row _ _ 4 _ _ (0, 0) HY9.out
    have x0 : World.cell? w9 ⟨w.heap.size, 0, none⟩ = some (.int .i64 0) := cell_of_row _ _ 0 _ _ (0, 0) HR9.out
    have x1 : World.cell? w9 ⟨w.heap.size, 1, none⟩ = some (.int .i64 0) := cell_of_row _ _ 1 _ _ (0, 0) HR9.out
    have x2 : World.cell? w9 ⟨w.heap.size, 2, none⟩ = some (.int .i64 0) := cell_of_row _ _ 2 _ _ (0, 0) HR9.out
    have x3 : World.cell? w9 ⟨w.heap.size, 3, none⟩ = some (.slice none 0 0) := cell_of_row _ _ 3 _ _ (0, 0) HR9.out
    have x4 : World.cell? w9 ⟨w.heap.size, 4, none⟩ = some (.slice none 0 0) := cell_of_row _ _ 4 _ _ (0, 0) HR9.out
    have z0 : World.frozen? w9 ⟨w.heap.size, 0, none⟩ = false := frozen_of_row _ _ 0 _ _ HR9.out
    have z1 : World.frozen? w9 ⟨w.heap.size, 1, none⟩ = false := frozen_of_row _ _ 1 _ _ HR9.out
    have z2 : World.frozen? w9 ⟨w.heap.size, 2, none⟩ = false := frozen_of_row _ _ 2 _ _ HR9.out
    have z3 : World.frozen? w9 ⟨w.heap.size, 3, none⟩ = false := frozen_of_row _ _ 3 _ _ HR9.out
    have z4 : World.frozen? w9 ⟨w.heap.size, 4, none⟩ = false := frozen_of_row _ _ 4 _ _ HR9.out
    cases b
    · go_wp2
      refine bodyPost_ret_by (results_row_tmp rfl _ _ w.heap.size 25 _ (0, 0) _ rfl (five_set HR9.out) Tryz.underlying25 rfl (by kernel_rfl)) rfl ?_
      exact ⟨⟨⟨0, 0, 0, none, 0, 0, [], none, 0, 0, []⟩, false, rfl, HSp.out.no fun h => (by have := HBk.out.2 h; cases this), zero_in _, ⟨by simp, by simp⟩⟩, below5 HB9.out (Nat.le_refl _) _ _ _ _ _⟩
    · have hbk := HBk.out.1 (by simp)
      have HG := Lib.hid hbk
      clear hbk HBk
      go_wp2
      refine bodyPost_ret_by (results_row_tmp rfl _ _ w.heap.size 25 _ (0, 0) _ rfl (five_set HR9.out) Tryz.underlying25 rfl (by kernel_rfl)) rfl ?_
      exact ⟨⟨(⟨4, f, 0, none, 0, 0, [], A4, n4, c4', ps⟩ : Wi), true, rfl, .inl ⟨rfl, HG.out.1, HG.out.2⟩, (HRd9.out.blocks fun b hb _ => other5 _ _ _ _ _ _ _ _ (by omega)).wi' HWf.out, HRd9.out.short⟩, below5 HB9.out (Nat.le_refl _) _ _ _ _ _⟩
  have HSp := Lib.hid (HSpec.out 0 0 [] [] (by rw [HK.out]; rfl) (by rw [if_neg (by decide)]) (by rw [if_neg (by decide)]) (by rw [if_neg (by decide)]))
  clear HSpec HK
  have HR : Hid ((w2.alloc (.cells #[.int .i64 0, .int .i64 f, .int .i64 0, .slice none 0 0, .slice none 0 0] 25)).heap[w.heap.size]? = some (.cells #[.int .i64 0, .int .i64 0, .int .i64 0, .slice none 0 0, .slice none 0 0] 25 (0, 0))) := Lib.hid ((Below.heap_alloc _ _ _ hlt2).trans HR2.out)
  have HY : Hid ((w2.alloc (.cells #[.int .i64 0, .int .i64 f, .int .i64 0, .slice none 0 0, .slice none 0 0] 25)).heap[w2.heap.size]? = some (.cells #[.int .i64 0, .int .i64 f, .int .i64 0, .slice none 0 0, .slice none 0 0] 25 (0, 0))) := Lib.hid (heap_alloc_new w2 _)
  have HB : Hid (Below w.heap.size w (w2.alloc (.cells #[.int .i64 0, .int .i64 f, .int .i64 0, .slice none 0 0, .slice none 0 0] 25))) := Lib.hid (HB2.out.alloc HB2.out.size _)
  have HRd : Hid (ReadW (w2.alloc (.cells #[.int .i64 0, .int .i64 f, .int .i64 0, .slice none 0 0, .slice none 0 0] 25)) (w.heap.size + 1) (⟨0, f, 0, none, 0, 0, [], none, 0, 0, []⟩ : Wi)) := Lib.hid ⟨ownI_nil _ _, OwnP.nil _ _, by simp, by simp, fun k h => (by cases h)⟩
  have HWf : Hid ((Lit.int .i64 0).wf = true ∧ (Lit.int .i64 f).wf = true ∧ (Lit.int .i64 0).wf = true) := Lib.hid ⟨WalkArith.wf_i64 (by omega), WalkArith.wf_i64 (by have := HFi.out; omega), WalkArith.wf_i64 (by first | omega | (have := HVi.out; omega))⟩
  obtain ⟨q, hq⟩ := bool_of (IsW (⟨0, f, 0, [], []⟩ : WD))
  obtain ⟨b, hb⟩ := bool_of (fmtW (⟨0, f, 0, [], []⟩ : WD) q = s)
  have hne := eq_lists hb
  obtain ⟨F, hF⟩ : ∃ F, fmtW (⟨0, f, 0, [], []⟩ : WD) q = F := ⟨_, rfl⟩
  have HBk := Lib.hid (fmt_back hq HNe.out hb)
  rw [hF] at hne
  have HF : Hid (fmtW (⟨0, f, 0, none, 0, 0, [], none, 0, 0, []⟩ : Wi).dat q = F) := Lib.hid hF
  have HQ : Hid (q = true ↔ IsW (⟨0, f, 0, none, 0, 0, [], none, 0, 0, []⟩ : Wi).dat) := Lib.hid hq
  clear hb hF hq
  have y0 : World.cell? (w2.alloc (.cells #[.int .i64 0, .int .i64 f, .int .i64 0, .slice none 0 0, .slice none 0 0] 25)) ⟨w2.heap.size, 0, none⟩ = some (.int .i64 0) := cell_of_row _ _ 0 _ _ (0, 0) HY.out
  have y1 : World.cell? (w2.alloc (.cells #[.int .i64 0, .int .i64 f, .int .i64 0, .slice none 0 0, .slice none 0 0] 25)) ⟨w2.heap.size, 1, none⟩ = some (.int .i64 f) := cell_of_row _ _ 1 _ _ (0, 0) HY.out
  have y2 : World.cell? (w2.alloc (.cells #[.int .i64 0, .int .i64 f, .int .i64 0, .slice none 0 0, .slice none 0 0] 25)) ⟨w2.heap.size, 2, none⟩ = some (.int .i64 0) := cell_of_row _ _ 2 _ _ (0, 0) HY.out
  have y3 : World.cell? (w2.alloc (.cells #[.int .i64 0, .int .i64 f, .int .i64 0, .slice none 0 0, .slice none 0 0] 25)) ⟨w2.heap.size, 3, none⟩ = some (.slice none 0 0) := cell_of_row _ _ 3 _ _ (0, 0) HY.out
  have y4 : World.cell? (w2.alloc (.cells #[.int .i64 0, .int .i64 f, .int .i64 0, .slice none 0 0, .slice none 0 0] 25)) ⟨w2.heap.size, 4, none⟩ = some (.slice none 0 0) := cell_of_row _ _ 4 _ _ (0, 0) HY.out
  go_wp2_with fail
  refine (sFmtW _ _ (⟨0, f, 0, none, 0, 0, [], none, 0, 0, []⟩ : Wi) (HRd.out.wi' HWf.out) (Nat.le_refl _) HRd.out.short q HQ.out).mono ?_
  rintro e w9 ⟨rfl, hb9⟩
  rw [HF.out]
  have HR9 := Lib.hid ((hb9.block w.heap.size (lt_of_block HR.out)).trans HR.out)
  have HY9 := Lib.hid ((hb9.block w2.heap.size (lt_of_block HY.out)).trans HY.out)
  have HB9 := Lib.hid (HB.out.trans (hb9.mono HB.out.size))
  have HRd9 : Hid (ReadW w9 (w.heap.size + 1) (⟨0, f, 0, none, 0, 0, [], none, 0, 0, []⟩ : Wi)) := Lib.hid (HRd.out.blocks fun b _ hb => hb9.block b hb)
  clear hb9 y0 y1 y2 y3 y4 HR HY HB HRd HF HQ
  have y0 : World.cell? w9 ⟨w2.heap.size, 0, none⟩ = some (.int .i64 0) := cell_of_row _ _ 0 _ _ (0, 0) HY9.out
  have y1 : World.cell? w9 ⟨w2.heap.size, 1, none⟩ = some (.int .i64 f) := cell_of_row _ _ 1 _ _ (0, 0) HY9.out
  have y2 : World.cell? w9 ⟨w2.heap.size, 2, none⟩ = some (.int .i64 0) := cell_of_row _ _ 2 _ _ (0, 0) HY9.out
  have y3 : World.cell? w9 ⟨w2.heap.size, 3, none⟩ = some (.slice none 0 0) := cell_of_row _ _ 3 _ _ (0, 0) HY9.out
  have y4 : World.cell? w9 ⟨w2.heap.size, 4, none⟩ = some (.slice none 0 0) := cell_of_row _ _ 4 _ _ (0, 0) HY9.out
  have x0 : World.cell? w9 ⟨w.heap.size, 0, none⟩ = some (.int .i64 0) := cell_of_row _ _ 0 _ _ (0, 0) HR9.out
  have x1 : World.cell? w9 ⟨w.heap.size, 1, none⟩ = some (.int .i64 0) := cell_of_row _ _ 1 _ _ (0, 0) HR9.out
  have x2 : World.cell? w9 ⟨w.heap.size, 2, none⟩ = some (.int .i64 0) := cell_of_row _ _ 2 _ _ (0, 0) HR9.out
  have x3 : World.cell? w9 ⟨w.heap.size, 3, none⟩ = some (.slice none 0 0) := cell_of_row _ _ 3 _ _ (0, 0) HR9.out
  have x4 : World.cell? w9 ⟨w.heap.size, 4, none⟩ = some (.slice none 0 0) := cell_of_row _ _ 4 _ _ (0, 0) HR9.out
  have z0 : World.frozen? w9 ⟨w.heap.size, 0, none⟩ = false := frozen_of_row _ _ 0 _ _ HR9.out
  have z1 : World.frozen? w9 ⟨w.heap.size, 1, none⟩ = false := frozen_of_row _ _ 1 _ _ HR9.out
  have z2 : World.frozen? w9 ⟨w.heap.size, 2, none⟩ = false := frozen_of_row _ _ 2 _ _ HR9.out
  have z3 : World.frozen? w9 ⟨w.heap.size, 3, none⟩ = false := frozen_of_row _ _ 3 _ _ HR9.out
  have z4 : World.frozen? w9 ⟨w.heap.size, 4, none⟩ = false := frozen_of_row _ _ 4 _ _ HR9.out
  cases b
  · go_wp2
    refine bodyPost_ret_by (results_row_tmp rfl _ _ w.heap.size 25 _ (0, 0) _ rfl (five_set HR9.out) Tryz.underlying25 rfl (by kernel_rfl)) rfl ?_
    exact ⟨⟨⟨0, 0, 0, none, 0, 0, [], none, 0, 0, []⟩, false, rfl, HSp.out.no fun h => (by have := HBk.out.2 h; cases this), zero_in _, ⟨by simp, by simp⟩⟩, below5 HB9.out (Nat.le_refl _) _ _ _ _ _⟩
  · have hbk := HBk.out.1 (by simp)
    have HG := Lib.hid hbk
    clear hbk HBk
    go_wp2
    refine bodyPost_ret_by (results_row_tmp rfl _ _ w.heap.size 25 _ (0, 0) _ rfl (five_set HR9.out) Tryz.underlying25 rfl (by kernel_rfl)) rfl ?_
    exact ⟨⟨(⟨0, f, 0, none, 0, 0, [], none, 0, 0, []⟩ : Wi), true, rfl, .inl ⟨rfl, HG.out.1, HG.out.2⟩, (HRd9.out.blocks fun b hb _ => other5 _ _ _ _ _ _ _ _ (by omega)).wi' HWf.out, HRd9.out.short⟩, below5 HB9.out (Nat.le_refl _) _ _ _ _ _⟩
end Go.Proofs.YtghekfigfjhkeabGreatDoor.num
namespace Go.Proofs.YtghekfigfjhkeabGreatDoor.num
open Go.RowKit
set_option linter.unusedVariables false
set_option linter.unusedSimpArgs false

def cntW (t : Wi) : Int := ((1 + t.ls.length + 2 * t.ps.length : Nat) : Int)
/-- What marks have been laid: the wish's slices hold them. -/
structure MarkedW (w : World) (B : Nat) (t : Wi) : Prop where
  l : OwnI w B (.slice t.LA t.Ln t.Lc) (marks 1 t.ls.length)
  p : OwnP w B (.slice t.PA t.Pn t.Pc) (pmarks (1 + t.ls.length) t.ps.length)
theorem MarkedW.blocks {w w' : World} {B : Nat} {t : Wi} (h : MarkedW w B t) (hb : ∀ b, B ≤ b → b < w.heap.size → w'.heap[b]? = w.heap[b]?) : MarkedW w' B t :=
  ⟨ownI_blocks h.l fun k hk => hb k (ownI_lows h.l k hk) (ownI_tops h.l k hk), h.p.blocks fun k hk => hb k (h.p.lows k hk) (h.p.tops k hk)⟩
theorem MarkedW.below {w w' : World} {B : Nat} {t : Wi} (h : MarkedW w B t) (hb : Below w.heap.size w w') : MarkedW w' B t := h.blocks fun b _ hlt => hb.block b hlt

set_option maxRecDepth 20000 in
theorem markWish_c (w : World) (B : Nat) (t : Wi) (hB : B ≤ w.heap.size) (hl : OwnI w B (.slice t.LA t.Ln t.Lc) t.ls) (hp : OwnP w B (.slice t.PA t.Pn t.Pc) t.ps) (hap : ∀ k, (Value.slice t.LA t.Ln t.Lc).ownBlock = some k → (Value.slice t.PA t.Pn t.Pc).ownBlock ≠ some k) (nl : t.ls.length ≤ 1000) (np : t.ps.length ≤ 1000) :
    Calls Tryz.prog 7 #[t.val, .int .i64 1] w fun e w' => e = .returned (.int .i64 (cntW t)) ∧ MarkedW w' B t ∧ Below B w w' ∧ (∀ k, k < w.heap.size → (Value.slice t.LA t.Ln t.Lc).ownBlock ≠ some k → (Value.slice t.PA t.Pn t.Pc).ownBlock ≠ some k → w'.heap[k]? = w.heap[k]?) := by
  have HL := Lib.hid hl
  have HP := Lib.hid hp
  have HA := Lib.hid hap
  have HNl := Lib.hid nl
  have HNp := Lib.hid np
  have HBB := Lib.hid hB
  have HX := Lib.hid (Box5.new w t 25)
  have HL1 : Hid (OwnI (w.alloc (.cells #[.int .i64 t.kind, .int .i64 t.field, .int .i64 t.value, .slice t.LA t.Ln t.Lc, .slice t.PA t.Pn t.Pc] 25)) B (.slice t.LA t.Ln t.Lc) t.ls) := Lib.hid (ownI_blocks hl fun k hk => Below.heap_alloc _ _ _ (ownI_tops hl k hk))
  have HP1 : Hid (OwnP (w.alloc (.cells #[.int .i64 t.kind, .int .i64 t.field, .int .i64 t.value, .slice t.LA t.Ln t.Lc, .slice t.PA t.Pn t.Pc] 25)) B (.slice t.PA t.Pn t.Pc) t.ps) := Lib.hid (hp.blocks fun k hk => Below.heap_alloc _ _ _ (hp.tops k hk))
  clear hl hp hap nl np hB
  have hval : t.val = .agg #[.int .i64 t.kind, .int .i64 t.field, .int .i64 t.value, .slice t.LA t.Ln t.Lc, .slice t.PA t.Pn t.Pc] := rfl
  rw [hval]
  clear hval
  obtain ⟨a_g, a_0, a_1, a_2, a_3, a_4⟩ := HX.out
  go_enter Tryz.func7, Tryz.ntmps7
  go_wp2_with fail
  refine (markI _ B _ t.ls HL1.out (by have := HNl.out; omega) 1 (by decide)).mono ?_
  rintro e w1 ⟨rfl, hm, ho⟩
  have hk : ∀ k, (Value.slice t.LA t.Ln t.Lc).ownBlock = some k → k < w.heap.size := fun k hk => ownI_tops HL.out k hk
  have HX1 : Hid (Box5 w1 w.heap.size t) := Lib.hid (by
    have hc : w1.heap[w.heap.size]? = (w.alloc (.cells #[.int .i64 t.kind, .int .i64 t.field, .int .i64 t.value, .slice t.LA t.Ln t.Lc, .slice t.PA t.Pn t.Pc] 25)).heap[w.heap.size]? := ho.block _ fun e => by have := hk _ e; omega
    obtain ⟨g, h0, h1, h2, h3, h4⟩ := HX.out
    exact ⟨by rw [ho.size]; exact g, (World.cell?_of_block (a := ⟨w.heap.size, 0, none⟩) hc).trans h0, (World.cell?_of_block (a := ⟨w.heap.size, 1, none⟩) hc).trans h1, (World.cell?_of_block (a := ⟨w.heap.size, 2, none⟩) hc).trans h2, (World.cell?_of_block (a := ⟨w.heap.size, 3, none⟩) hc).trans h3, (World.cell?_of_block (a := ⟨w.heap.size, 4, none⟩) hc).trans h4⟩)
  have HM := Lib.hid hm
  have HO := Lib.hid ho
  have HP2 : Hid (OwnP w1 B (.slice t.PA t.Pn t.Pc) t.ps) := Lib.hid (HP1.out.blocks fun k hk => ho.block k fun e => HA.out k e hk)
  clear hm ho hk a_g a_0 a_1 a_2 a_3 a_4
  obtain ⟨a_g, a_0, a_1, a_2, a_3, a_4⟩ := HX1.out
  go_wp2_with fail
  refine (markP w1 B _ t.ps HP2.out (by have := HNp.out; omega) (1 + t.ls.length) (by have := HNl.out; omega)).mono ?_
  rintro e w2 ⟨rfl, hm, ho⟩
  have HM2 : Hid (MarkedW w2 B t) := Lib.hid ⟨ownI_blocks HM.out fun k hk => ho.block k (HA.out k hk), hm⟩
  have HF : Hid (Below B w w2) := Lib.hid ((((Below.refl B w).alloc HBB.out (.cells #[.int .i64 t.kind, .int .i64 t.field, .int .i64 t.value, .slice t.LA t.Ln t.Lc, .slice t.PA t.Pn t.Pc] 25)).trans (HO.out.below fun k e => ownI_lows HL.out k e)).trans (ho.below fun k e => HP.out.lows k e))
  have HK : Hid (∀ k, k < w.heap.size → (Value.slice t.LA t.Ln t.Lc).ownBlock ≠ some k → (Value.slice t.PA t.Pn t.Pc).ownBlock ≠ some k → w2.heap[k]? = w.heap[k]?) := Lib.hid fun k hk h1 h2 => (ho.block k h2).trans ((HO.out.block k h1).trans (Below.heap_alloc _ _ _ hk))
  clear hm ho
  go_wp2
  go_ret
  exact ⟨rfl, HM2.out, HF.out, HK.out⟩
set_option maxRecDepth 20000 in
theorem heldWish_c (w : World) (B : Nat) (t : Wi) (h : MarkedW w B t) (nl : t.ls.length ≤ 1000) (np : t.ps.length ≤ 1000) :
    Calls Tryz.prog 8 #[t.val, .int .i64 1] w fun e w' => e = .returned (.int .i64 (cntW t)) ∧ Below w.heap.size w w' := by
  have HM : Hid (MarkedW (w.alloc (.cells #[.int .i64 t.kind, .int .i64 t.field, .int .i64 t.value, .slice t.LA t.Ln t.Lc, .slice t.PA t.Pn t.Pc] 25)) B t) := Lib.hid (h.blocks fun b _ hlt => Below.heap_alloc _ _ _ hlt)
  have HNl := Lib.hid nl
  have HNp := Lib.hid np
  have HX := Lib.hid (Box5.new w t 25)
  have HB : Hid (Below w.heap.size w (w.alloc (.cells #[.int .i64 t.kind, .int .i64 t.field, .int .i64 t.value, .slice t.LA t.Ln t.Lc, .slice t.PA t.Pn t.Pc] 25))) := Lib.hid ((Below.refl _ w).alloc (Nat.le_refl _) _)
  clear h nl np
  have hval : t.val = .agg #[.int .i64 t.kind, .int .i64 t.field, .int .i64 t.value, .slice t.LA t.Ln t.Lc, .slice t.PA t.Pn t.Pc] := rfl
  rw [hval]
  clear hval
  obtain ⟨n1, hn1⟩ : ∃ n, 1 + t.ls.length = n := ⟨_, rfl⟩
  obtain ⟨n2, hn2⟩ : ∃ n, 1 + t.ls.length + 2 * t.ps.length = n := ⟨_, rfl⟩
  have HN1 := Lib.hid hn1
  have HN2 := Lib.hid hn2
  clear hn1 hn2
  have h1 : decide ((n1 : Int) < 0) = false := by simp
  have h2 : decide ((n2 : Int) < 0) = false := by simp
  obtain ⟨a_g, a_0, a_1, a_2, a_3, a_4⟩ := HX.out
  go_enter Tryz.func8, Tryz.ntmps8
  go_wp2_with fail
  refine (heldI _ B _ 1 t.ls.length HM.out.l (by have := HNl.out; omega) (by decide)).mono ?_
  rintro e w1 ⟨rfl, hw⟩
  rw [← hw, HN1.out]
  clear hw
  go_wp2_with fail
  refine (heldP _ B _ n1 t.ps.length (by rw [← HN1.out]; exact HM.out.p) (by have := HNp.out; omega) (by rw [← HN1.out]; have := HNl.out; omega)).mono ?_
  rintro e w2 ⟨rfl, hw⟩
  have hn : n1 + 2 * t.ps.length = n2 := by rw [← HN1.out]; exact HN2.out
  rw [← hw, hn]
  clear hw hn
  go_wp2
  go_ret
  exact ⟨by unfold cntW; rw [HN2.out]; rfl, HB.out⟩
end Go.Proofs.YtghekfigfjhkeabGreatDoor.num
namespace Go.Proofs.YtghekfigfjhkeabGreatDoor.num
open Go.RowKit
set_option linter.unusedVariables false
set_option linter.unusedSimpArgs false

theorem ascUp_len {l : List Int} (h : AscUp l) : l.length ≤ 10 := by
  have hi : ∀ (i : Nat) x, l[i]? = some x → (i : Int) ≤ x := by
    intro i
    induction i with
    | zero => intro x hx; exact (h.1 x (List.mem_of_getElem? hx)).1
    | succ i ih =>
      intro x hx
      have hlt : i < l.length := by have := (List.getElem?_eq_some_iff.1 hx).1; omega
      have h1 := List.getElem?_eq_getElem hlt
      have h2 := ih _ h1
      have h3 := h.2 i _ _ h1 hx
      omega
  rcases Nat.lt_or_ge 10 l.length with hl | hl
  · have h1 := List.getElem?_eq_getElem (show 10 < l.length from hl)
    have h2 := hi 10 _ h1
    have h3 := (h.1 _ (List.mem_of_getElem? h1)).2
    omega
  · exact hl
theorem ParsedW.small {s : List UInt8} {d : WD} {ok : Bool} (h : ParsedW s d ok) : d.ls.length ≤ 1000 ∧ d.ps.length ≤ 1000 := by
  rcases h with ⟨_, h, _⟩ | ⟨_, rfl, _⟩
  · have h1 := h.l
    have h2 := h.p
    refine ⟨?_, ?_⟩
    · split at h1
      · have := ascUp_len h1.2; omega
      · rw [h1]; simp
    · split at h2
      · have := h2.2; omega
      · rw [h2]; simp
  · exact ⟨by simp, by simp⟩
theorem Box5.keep {w w' : World} {g : Nat} {t : Wi} (h : Box5 w g t) (hb : w'.heap[g]? = w.heap[g]?) : Box5 w' g t := by
  obtain ⟨h0, h1, h2, h3, h4, h5⟩ := h
  have c0 := (World.cell?_of_block (a := ⟨g, 0, none⟩) hb).trans h1
  exact ⟨World.block_lt_of_cell? w' _ c0, c0, (World.cell?_of_block (a := ⟨g, 1, none⟩) hb).trans h2, (World.cell?_of_block (a := ⟨g, 2, none⟩) hb).trans h3, (World.cell?_of_block (a := ⟨g, 3, none⟩) hb).trans h4, (World.cell?_of_block (a := ⟨g, 4, none⟩) hb).trans h5⟩
theorem wf_same {t t' : Wi} (h : t'.dat = t.dat) {w : World} {B : Nat} (g : WiIn w B t) : (Lit.int .i64 t'.kind).wf = true ∧ (Lit.int .i64 t'.field).wf = true ∧ (Lit.int .i64 t'.value).wf = true := by
  have h1 : t'.kind = t.kind := congrArg WD.kind h
  have h2 : t'.field = t.field := congrArg WD.field h
  have h3 : t'.value = t.value := congrArg WD.value h
  rw [h1, h2, h3]
  exact ⟨g.k, g.f, g.v⟩
end Go.Proofs.YtghekfigfjhkeabGreatDoor.num
