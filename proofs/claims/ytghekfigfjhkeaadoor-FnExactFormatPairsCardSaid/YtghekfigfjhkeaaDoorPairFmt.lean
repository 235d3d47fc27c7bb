/-
  FormatPairs, the model's and the program's: contracts.
-/
import Derived.Test.YtghekfigfjhkeaaDoorPairText
import Derived.Test.YtghekfigfjhkeaaDoorPairProg
import Derived.Test.YtghekfigfjhkeaaDoorRegion
namespace Go.Proofs.YtghekfigfjhkeaaDoor.num
open Go.RowKit Go.Maps
set_option linter.unusedVariables false
set_option linter.unusedSimpArgs false

theorem pair_bytes (x y : Int) : fmtB x ++ ⟨#[62]⟩ ++ fmtB y = ⟨(pairT (x, y)).toArray⟩ := by
  apply bytes_ext
  simp [pairT, fmtB, ByteArray.data_append]
theorem fmt_R {n : Int} (h : InR n) : (fmtB n).size ≤ 2 := fmt_small n (inR2 h).1 (inR2 h).2
set_option maxRecDepth 20000 in
set_option maxHeartbeats 1600000 in
theorem iFmtPair (w : World) (x y : Int) (hx : InR x) (hy : InR y) (hpow : Pow w) :
    Calls Tryd.prog 55 #[.agg #[.int .i64 x, .int .i64 y]] w fun e w' => e = .returned (.string ⟨(pairT (x, y)).toArray⟩) ∧ Below w.heap.size w w' := by
  have HPw := Lib.hid hpow
  have hfx := fmt_R hx
  have hfy := fmt_R hy
  have hx0 := inR2 hx
  have hy0 := inR2 hy
  have hcat1 : ¬ (9223372036854775807 < (fmtB x).size + 1) := by omega
  have hcat2 : ¬ (9223372036854775807 < (fmtB x).size + 1 + (fmtB y).size) := by omega
  clear hpow hx hy
  go_enter Tryd.func55, Tryd.ntmps55
  go_wp2
  obtain ⟨wg, hwg⟩ : ∃ wg, wg = w.alloc (.cells #[.int .i64 x, .int .i64 y] 82) := ⟨_, rfl⟩
  rw [← hwg]
  have HB1 : Hid (Below w.heap.size w wg) := Lib.hid (by rw [hwg]; exact (Below.refl _ w).alloc (Nat.le_refl _) _)
  have hg : w.heap.size < wg.heap.size := by rw [hwg]; simp
  have q0 : wg.cell? ⟨w.heap.size, 0, none⟩ = some (.int .i64 x) := by rw [hwg]; exact World.cell?_alloc_at _ _ _ _ rfl
  have q1 : wg.cell? ⟨w.heap.size, 1, none⟩ = some (.int .i64 y) := by rw [hwg]; exact World.cell?_alloc_at _ _ _ _ rfl
  clear hwg
  have hs0 : Below wg.heap.size wg wg.drew ∧ wg.drew.cell? ⟨w.heap.size, 0, none⟩ = some (.int .i64 x) ∧ wg.drew.cell? ⟨w.heap.size, 1, none⟩ = some (.int .i64 y) := ⟨(Below.refl _ _).drew, q0, q1⟩
  refine wp_region_held (S := fun w' => Below wg.heap.size wg w' ∧ w'.cell? ⟨w.heap.size, 0, none⟩ = some (.int .i64 x) ∧ w'.cell? ⟨w.heap.size, 1, none⟩ = some (.int .i64 y)) (by kernel_rfl) ?_
  change wpAnyH _ _ _ _ _ _ _ _ (World.drew _)
  refine takeY 3 (i := 0) (v := ?v0a) rfl rfl (by kernel_rfl) (by kernel_rfl) (by kernel_rfl) (fun _ _ _ h => h) (by kernel_rfl) ?y0a hs0 ?_
  case y0a =>
    intro w' hw'; (try dsimp only at hw'); obtain ⟨e0, e1, e2⟩ := hw'; go_simp; try with_reducible rfl
  simp only [Act.put, List.setIfInBounds_toArray, List.set_cons_zero, List.set_cons_succ]
  refine takeY 4 (i := 1) (v := ?v1a) rfl rfl (by kernel_rfl) (by kernel_rfl) (by kernel_rfl) (fun _ _ _ h => h) (by kernel_rfl) ?y1a hs0 ?_
  case y1a =>
    intro w' hw'; (try dsimp only at hw'); obtain ⟨e0, e1, e2⟩ := hw'; go_simp; try with_reducible rfl
  simp only [Act.put, List.setIfInBounds_toArray, List.set_cons_zero, List.set_cons_succ]
  refine takeY 7 (i := 4) (v := ?v4a) rfl rfl (by kernel_rfl) (by kernel_rfl) (by kernel_rfl) (fun _ _ _ h => h) (by kernel_rfl) ?y4a hs0 ?_
  case y4a =>
    intro w' hw'; (try dsimp only at hw'); obtain ⟨e0, e1, e2⟩ := hw'; go_simp; try with_reducible rfl
  simp only [Act.put, List.setIfInBounds_toArray, List.set_cons_zero, List.set_cons_succ]
  refine takeY 8 (i := 5) (v := ?v5a) rfl rfl (by kernel_rfl) (by kernel_rfl) (by kernel_rfl) (fun _ _ _ h => h) (by kernel_rfl) ?y5a hs0 ?_
  case y5a =>
    intro w' hw'; (try dsimp only at hw'); obtain ⟨e0, e1, e2⟩ := hw'; go_simp; try with_reducible rfl
  simp only [Act.put, List.setIfInBounds_toArray, List.set_cons_zero, List.set_cons_succ]
  refine wpAnyH_ready (rs := [2]) (by kernel_rfl) (by simp) ?_
  refine AllReadyH.cons rfl (fun K hK => ?_) AllReadyH.nil
  go_simp; go_at_call 41; refine (iFormat x (by omega) (by omega) _ (HPw.out.below HB1.out.drew)).mono ?_; rintro e w3 ⟨rfl, h3⟩; replace h3 := (Below.refl wg.heap.size wg).drew.trans (h3.mono (Nat.le_refl _))
  refine hK.out _ _ ⟨h3, (h3.cell (p := ⟨w.heap.size, 0, none⟩) hg).trans q0, (h3.cell (p := ⟨w.heap.size, 1, none⟩) hg).trans q1⟩ (fun hS1 => ?_)
  clear hK K
  try simp only [Act.put, List.setIfInBounds_toArray, List.set_cons_zero, List.set_cons_succ]
  refine takeY 6 (i := 3) (v := ?v3a) rfl rfl (by kernel_rfl) (by kernel_rfl) (by kernel_rfl) (fun _ _ _ h => h) (by kernel_rfl) ?y3a hS1 ?_
  case y3a =>
    intro w' hw'; (try dsimp only at hw'); obtain ⟨e0, e1, e2⟩ := hw'; go_simp; try with_reducible rfl
  simp only [Act.put, List.setIfInBounds_toArray, List.set_cons_zero, List.set_cons_succ]
  refine wpAnyH_ready (rs := [6]) (by kernel_rfl) (by simp) ?_
  refine AllReadyH.cons rfl (fun K hK => ?_) AllReadyH.nil
  go_simp; go_at_call 41; refine (iFormat y (by omega) (by omega) _ (HPw.out.below (HB1.out.trans (h3.mono HB1.out.size)))).mono ?_; rintro e w4 ⟨rfl, h4⟩; replace h4 := h3.trans (h4.mono h3.size)
  refine hK.out _ _ ⟨h4, (h4.cell (p := ⟨w.heap.size, 0, none⟩) hg).trans q0, (h4.cell (p := ⟨w.heap.size, 1, none⟩) hg).trans q1⟩ (fun hS2 => ?_)
  clear hK K
  try simp only [Act.put, List.setIfInBounds_toArray, List.set_cons_zero, List.set_cons_succ]
  refine takeY 10 (i := 7) (v := ?v7a) rfl rfl (by kernel_rfl) (by kernel_rfl) (by kernel_rfl) (fun _ _ _ h => h) (by kernel_rfl) ?y7a hS2 ?_
  case y7a =>
    intro w' hw'; (try dsimp only at hw'); obtain ⟨e0, e1, e2⟩ := hw'; go_simp; try with_reducible rfl
  simp only [Act.put, List.setIfInBounds_toArray, List.set_cons_zero, List.set_cons_succ]
  refine takeY 2 (i := 8) (v := ?v8a) rfl rfl (by kernel_rfl) (by kernel_rfl) (by kernel_rfl) (fun _ _ _ h => h) (by kernel_rfl) ?y8a hS2 ?_
  case y8a =>
    intro w' hw'; (try dsimp only at hw'); obtain ⟨e0, e1, e2⟩ := hw'; go_simp; try with_reducible rfl
  simp only [Act.put, List.setIfInBounds_toArray, List.set_cons_zero, List.set_cons_succ]
  refine wpAnyH_done (by kernel_rfl) ?_ _
  clear hcat1 hcat2 hfx hfy
  go_wp2
  go_ret
  exact ⟨by rw [← pair_bytes]; rfl, HB1.out.trans (h4.mono HB1.out.size)⟩

def wordP (ps : List (Int × Int)) (j : Nat) : ByteArray := ⟨(pairT (ps.getD j (0, 0))).toArray⟩
theorem wordP_at {ps : List (Int × Int)} {k : Nat} {p : Int × Int} (h : ps[k]? = some p) : wordP ps k = ⟨(pairT p).toArray⟩ := by
  unfold wordP
  rw [List.getD_eq_getElem?_getD, h]; rfl
set_option maxHeartbeats 1600000 in
theorem iJoinP (w : World) (B : Nat) (A : Option Addr) (n cc : Nat) (ps : List (Int × Int)) (hi : Pairs w B A n ps) (hB : B ≤ w.heap.size) (h8 : n ≤ 8) (h : ∀ p, p ∈ ps → InR p.1 ∧ InR p.2) (hpow : Pow w) :
    Calls Tryd.prog 54 #[.slice A n cc, .string ⟨#[44]⟩, .func (.func 55) #[] #[]] w fun e w' => e = .returned (.string ⟨(Lib.join (ps.map pairT) [44]).toArray⟩) ∧ Below w.heap.size w w' := by
  have hmk := run_make_row' (P := Tryd.prog) 71 9 (.string ⟨#[]⟩) 16 Tryd.underlying71 info_string rfl .i64 .i64 n (by omega) (by omega)
  have HX := Lib.hid hi
  have HP := Lib.hid hpow
  have HR0 := Lib.hid h
  clear hi hpow h
  go_enter Tryd.func54, Tryd.ntmps54
  go_wp2
  clear hmk
  go_loopw [15] (fun i wr => ∃ k : Nat, k ≤ n ∧ i = .int .i64 k ∧ wr.rowIs w.heap.size 9 n (fun j => if j < k then .string (wordP ps j) else .string ⟨#[]⟩) ∧ Below w.heap.size w wr) (fun i _ => n - (intOf i).toNat)
  case atStart =>
    exact ⟨0, Nat.zero_le _, rfl, by simpa using World.rowIs_made w (.string ⟨#[]⟩) n 9, (Below.refl _ _).alloc (Nat.le_refl _) _⟩
  case round =>
    obtain ⟨k, hk, rfl, hrow, hbel⟩ := hrel
    have HR := Lib.hid hrow
    have HB := Lib.hid hbel
    by_cases hlt : k < n
    · obtain ⟨b1, off, x, y, rfl, hb1, hat, hc1, hc2⟩ := HX.out.at k hlt
      have f1 := (hbel.cell (p := ⟨b1, off + k * 2, none⟩) (by exact Nat.lt_of_lt_of_le hb1 hB)).trans hc1
      have f2 := (hbel.cell (p := ⟨b1, off + k * 2 + 1, none⟩) (by exact Nat.lt_of_lt_of_le hb1 hB)).trans hc2
      have HT := Lib.hid hat
      have HRng := Lib.hid (HR0.out (x, y) (List.mem_of_getElem? hat))
      have hx1 := hbel.alloc hbel.size (.cells #[.int .i64 x, .int .i64 y] 82)
      have hx2 := (Below.refl wr.heap.size wr).alloc (Nat.le_refl _) (.cells #[.int .i64 x, .int .i64 y] 82)
      have HX1 := Lib.hid hx1
      have HX2 := Lib.hid hx2
      have hlt' : (k : Int) < (n : Int) := by omega
      clear hrow hbel hc1 hc2 hat hx1 hx2
      go_wp2_with fail
      refine (iFmtPair _ x y HRng.out.1 HRng.out.2 (HP.out.below HX1.out)).mono ?_
      rintro e w1 ⟨rfl, hb⟩
      have HB2 := Lib.hid (HX2.out.trans (hb.mono HX2.out.size))
      have hrow1 := rowIs_below HR.out HB2.out (World.rowIs.lt HR.out)
      have g1 : w1.cell? ⟨w.heap.size, k, none⟩ = some (.string ⟨#[]⟩) := by rw [World.rowIs.cell hrow1 hlt, if_neg (by omega)]
      have g2 := World.rowIs.frozen hrow1 k
      have HR1 := Lib.hid hrow1
      have HB1 := Lib.hid (HX1.out.trans (hb.mono HX1.out.size))
      clear hb hrow1 f1 f2
      go_wp2
      go_roundw
      case rel =>
        refine ⟨k + 1, by omega, by go_num, (World.rowIs.set HR1.out k (.string ⟨(pairT (x, y)).toArray⟩)).congr (fun j _ => ?_), HB1.out.setCell (Nat.le_refl _) _⟩
        by_cases h1 : j = k
        · subst h1; rw [if_pos rfl, if_pos (by omega), wordP_at HT.out]
        · by_cases h2 : j < k
          · rw [if_neg h1, if_pos h2, if_pos (by omega)]
          · rw [if_neg h1, if_neg h2, if_neg (by omega)]
      case measure => simp [intOf]; omega
    · obtain rfl : k = n := by omega
      obtain ⟨xs, hxs⟩ : ∃ xs : List ByteArray, xs = ps.map fun p => ⟨(pairT p).toArray⟩ := ⟨_, rfl⟩
      have hxl : xs.length = k := by rw [hxs, List.length_map]; exact HX.out.1
      have hmap : xs.map (·.data.toList) = ps.map pairT := by rw [hxs, List.map_map]; rfl
      have hcells : ∀ (j : Nat) x, xs[j]? = some x → wr.cell? ⟨w.heap.size, 0 + j, none⟩ = some (.string x) := by
        intro j x hx
        have hj : j < k := by
          rcases Nat.lt_or_ge j xs.length with h' | h'
          · omega
          · rw [List.getElem?_eq_none h'] at hx; cases hx
        rw [hxs, List.getElem?_map] at hx
        obtain ⟨p, hp, rfl⟩ := Option.map_eq_some_iff.1 hx
        rw [Nat.zero_add, World.rowIs.cell hrow hj, if_pos hj, wordP_at hp]
      have hsz : (Lib.join (xs.map (·.data.toList)) (⟨#[44]⟩ : ByteArray).data.toList).length ≤ 140737488355328 := by
        rw [hmap]
        have := join_le (m := 5) 44 (ps.map pairT) fun x hx => by
          obtain ⟨p, hp, rfl⟩ := List.mem_map.1 hx
          exact pairT_len (HR0.out p hp)
        rw [List.length_map, HX.out.1] at this
        show (Lib.join (ps.map pairT) [44]).length ≤ _
        omega
      have hJ := Tryd.strings_Join w.heap.size 0 k xs ⟨#[44]⟩ wr hcells (World.rowIs.lt hrow) (by omega) (by omega) hsz
      rw [hxl, hmap] at hJ
      have HJ := Lib.hid hJ
      clear hrow hbel hcells hJ hsz hmap hxl hxs
      go_wp2_with fail
      refine HJ.out.mono ?_
      rintro e w1 ⟨rfl, hb⟩
      have HB1 := Lib.hid (HB.out.trans (hb.mono HB.out.size))
      clear hb
      go_wp2
      go_ret
      exact ⟨rfl, HB1.out⟩

theorem OkP.n8 {w : World} {B : Nat} {A : Option Addr} {n : Nat} {ps : List (Int × Int)} (h : OkP ps) (hi : Pairs w B A n ps) : n ≤ 8 := by have := h.2; have := hi.1; omega
set_option maxHeartbeats 1600000 in
theorem iFmtP (w : World) (B : Nat) (A : Option Addr) (n c : Nat) (ps : List (Int × Int)) (hi : Pairs w B A n ps) (hB : B ≤ w.heap.size) (hn : n ≤ 1048576) (q : Bool) (hq : q = true ↔ OkP ps) (hpow : Pow w) :
    Calls Tryd.prog 24 #[.slice A n c] w fun e w' => e = .returned (.string (fmtP ps q)) ∧ Below w.heap.size w w' := by
  have HX := Lib.hid hi
  have HQ := Lib.hid hq
  have HP := Lib.hid hpow
  clear hi hq hpow
  go_enter Tryd.func24, Tryd.ntmps24
  go_wp2_with fail
  refine (iArePairs w B A n c ps HX.out hB hn q HQ.out).mono ?_
  rintro e w1 ⟨rfl, hb1⟩
  have HB1 := Lib.hid hb1
  clear hb1
  cases q
  · go_wp2
    go_ret
    exact ⟨rfl, HB1.out⟩
  · have hok := HQ.out.1 (by first | rfl | trivial)
    have h8 := hok.n8 HX.out
    have HOk := Lib.hid hok
    clear hok
    by_cases h0 : n = 0
    · have hps : Hid (ps = []) := Lib.hid (List.eq_nil_of_length_eq_zero (HX.out.1.trans h0))
      subst h0
      go_wp2
      go_ret
      exact ⟨by rw [hps.out]; rfl, HB1.out⟩
    · have hps : Hid (ps ≠ []) := Lib.hid fun e => h0 (by rw [← HX.out.1, e]; rfl)
      have hne : ((n : Int) == 0) = false := by simpa using h0
      go_wp2_with fail
      refine (iJoinP w1 B A n c ps (HX.out.below (HB1.out.mono hB)) (Nat.le_trans hB HB1.out.size) h8 HOk.out.1.rng (HP.out.below HB1.out)).mono ?_
      rintro e w2 ⟨rfl, hb2⟩
      have HB2 := Lib.hid (HB1.out.trans (hb2.mono HB1.out.size))
      clear hb2
      go_wp2
      go_ret
      exact ⟨by unfold fmtP pairsT; rw [if_pos rfl, if_neg hps.out]; rfl, HB2.out⟩

set_option maxRecDepth 20000 in
set_option maxHeartbeats 3200000 in
theorem sFmtP (w : World) (B : Nat) (A : Option Addr) (n c : Nat) (ps : List (Int × Int)) (hi : Pairs w B A n ps) (hB : B ≤ w.heap.size) (hn : n ≤ 1048576) (q : Bool) (hq : q = true ↔ OkP ps) :
    Calls Tryd.prog 22 #[.slice A n c] w fun e w' => e = .returned (.string (fmtP ps q)) ∧ Below w.heap.size w w' := by
  have HX := Lib.hid hi
  have HQ := Lib.hid hq
  clear hi hq
  go_enter Tryd.func22, Tryd.ntmps22
  go_wp2_with fail
  refine (sArePairs w B A n c ps HX.out hB hn q HQ.out).mono ?_
  rintro e w1 ⟨rfl, hb1⟩
  have HB1 := Lib.hid hb1
  clear hb1
  cases q
  · go_wp2
    go_ret
    exact ⟨rfl, HB1.out⟩
  · have hok := HQ.out.1 (by first | rfl | trivial)
    have h8 := hok.n8 HX.out
    have HOk := Lib.hid hok
    clear hok
    go_wp2
    go_loopw [3, 4] (fun s i wr => ∃ k : Nat, k ≤ n ∧ i = .int .i64 k ∧ s = .string (preP ps k) ∧ Below w.heap.size w wr) (fun _ i _ => n - (intOf i).toNat)
    case atStart => exact ⟨0, Nat.zero_le _, rfl, rfl, HB1.out⟩
    case round =>
      clear HB1
      obtain ⟨k, hk, rfl, rfl, hbel⟩ := hrel
      have HB := Lib.hid hbel
      have hpre := preP_small HOk.out.1.rng k
      by_cases hlt : k < n
      · obtain ⟨b1, off, x, y, rfl, hb1, hat, hc1, hc2⟩ := HX.out.at k hlt
        have f1 := (hbel.cell (p := ⟨b1, off + k * 2, none⟩) (by exact Nat.lt_of_lt_of_le hb1 hB)).trans hc1
        have f2 := (hbel.cell (p := ⟨b1, off + k * 2 + 1, none⟩) (by exact Nat.lt_of_lt_of_le hb1 hB)).trans hc2
        have hl1 : b1 < wr.heap.size := Nat.lt_of_lt_of_le hb1 (Nat.le_trans hB hbel.size)
        have hrng := HOk.out.1.rng (x, y) (List.mem_of_getElem? hat)
        have hfx := fmt_R hrng.1
        have hfy := fmt_R hrng.2
        obtain ⟨hx0, hx1⟩ := inR2 hrng.1
        obtain ⟨hy0, hy1⟩ := inR2 hrng.2
        have hlt' : (k : Int) < (n : Int) := by omega
        dsimp only at hfx hfy hx0 hx1 hy0 hy1
        by_cases hk0 : k = 0
        · have hstep : preP ps k ++ fmtB x ++ ⟨#[62]⟩ ++ fmtB y = preP ps (k + 1) := by
            subst hk0
            rw [preP_zero]
            exact preP_one hat
          obtain ⟨sb, hsb⟩ : ∃ sb : ByteArray, sb = preP ps k := ⟨_, rfl⟩
          rw [← hsb] at hstep hpre ⊢
          have HStep := Lib.hid hstep
          have hsz : sb.size ≤ 50 := by omega
          have hkn : ¬ ((0 : Int) < (k : Int)) := by omega
          clear hsb hat hrng hc1 hc2 hbel hpre hstep hk0
          go_wp2
          clear hkn
          have hc1 : ¬ (9223372036854775807 < sb.size + (fmtB x).size) := by omega
          have hc2 : ¬ (9223372036854775807 < sb.size + (fmtB x).size + 1) := by omega
          have hc3 : ¬ (9223372036854775807 < sb.size + (fmtB x).size + 1 + (fmtB y).size) := by omega
          have hs0 : Below wr.heap.size wr wr.drew ∧ wr.drew.cell? ⟨b1, off + k * 2, none⟩ = some (.int .i64 x) ∧ wr.drew.cell? ⟨b1, off + k * 2 + 1, none⟩ = some (.int .i64 y) := ⟨(Below.refl _ _).drew, f1, f2⟩
          refine wp_region_held (S := fun w' => Below wr.heap.size wr w' ∧ w'.cell? ⟨b1, off + k * 2, none⟩ = some (.int .i64 x) ∧ w'.cell? ⟨b1, off + k * 2 + 1, none⟩ = some (.int .i64 y)) (by kernel_rfl) ?_
          change wpAnyH _ _ _ _ _ _ _ _ (World.drew _)
          refine takeY 18 (i := 0) (v := ?v0b) rfl rfl (by kernel_rfl) (by kernel_rfl) (by kernel_rfl) (fun _ _ _ h => h) (by kernel_rfl) ?y0b hs0 ?_
          case y0b =>
            intro w' hw'; (try dsimp only at hw'); obtain ⟨e0, e1, e2⟩ := hw'; go_simp; try with_reducible rfl
          simp only [Act.put, List.setIfInBounds_toArray, List.set_cons_zero, List.set_cons_succ]
          refine takeY 19 (i := 1) (v := ?v1b) rfl rfl (by kernel_rfl) (by kernel_rfl) (by kernel_rfl) (fun _ _ _ h => h) (by kernel_rfl) ?y1b hs0 ?_
          case y1b =>
            intro w' hw'; (try dsimp only at hw'); obtain ⟨e0, e1, e2⟩ := hw'; go_simp; try with_reducible rfl
          simp only [Act.put, List.setIfInBounds_toArray, List.set_cons_zero, List.set_cons_succ]
          refine takeY 20 (i := 2) (v := ?v2b) rfl rfl (by kernel_rfl) (by kernel_rfl) (by kernel_rfl) (fun _ _ _ h => h) (by kernel_rfl) ?y2b hs0 ?_
          case y2b =>
            intro w' hw'; (try dsimp only at hw'); obtain ⟨e0, e1, e2⟩ := hw'; go_simp; try with_reducible rfl
          simp only [Act.put, List.setIfInBounds_toArray, List.set_cons_zero, List.set_cons_succ]
          refine takeY 21 (i := 3) (v := ?v3b) rfl rfl (by kernel_rfl) (by kernel_rfl) (by kernel_rfl) (fun _ _ _ h => h) (by kernel_rfl) ?y3b hs0 ?_
          case y3b =>
            intro w' hw'; (try dsimp only at hw'); obtain ⟨e0, e1, e2⟩ := hw'; go_simp; try with_reducible rfl
          simp only [Act.put, List.setIfInBounds_toArray, List.set_cons_zero, List.set_cons_succ]
          refine takeY 22 (i := 4) (v := ?v4b) rfl rfl (by kernel_rfl) (by kernel_rfl) (by kernel_rfl) (fun _ _ _ h => h) (by kernel_rfl) ?y4b hs0 ?_
          case y4b =>
            intro w' hw'; (try dsimp only at hw'); obtain ⟨e0, e1, e2⟩ := hw'; go_simp; try with_reducible rfl
          simp only [Act.put, List.setIfInBounds_toArray, List.set_cons_zero, List.set_cons_succ]
          refine takeY 23 (i := 5) (v := ?v5b) rfl rfl (by kernel_rfl) (by kernel_rfl) (by kernel_rfl) (fun _ _ _ h => h) (by kernel_rfl) ?y5b hs0 ?_
          case y5b =>
            intro w' hw'; (try dsimp only at hw'); obtain ⟨e0, e1, e2⟩ := hw'; go_simp; try with_reducible rfl
          simp only [Act.put, List.setIfInBounds_toArray, List.set_cons_zero, List.set_cons_succ]
          refine takeY 27 (i := 9) (v := ?v9b) rfl rfl (by kernel_rfl) (by kernel_rfl) (by kernel_rfl) (fun _ _ _ h => h) (by kernel_rfl) ?y9b hs0 ?_
          case y9b =>
            intro w' hw'; (try dsimp only at hw'); obtain ⟨e0, e1, e2⟩ := hw'; go_simp; try with_reducible rfl
          simp only [Act.put, List.setIfInBounds_toArray, List.set_cons_zero, List.set_cons_succ]
          refine takeY 28 (i := 10) (v := ?v10b) rfl rfl (by kernel_rfl) (by kernel_rfl) (by kernel_rfl) (fun _ _ _ h => h) (by kernel_rfl) ?y10b hs0 ?_
          case y10b =>
            intro w' hw'; (try dsimp only at hw'); obtain ⟨e0, e1, e2⟩ := hw'; go_simp; try with_reducible rfl
          simp only [Act.put, List.setIfInBounds_toArray, List.set_cons_zero, List.set_cons_succ]
          refine takeY 29 (i := 11) (v := ?v11b) rfl rfl (by kernel_rfl) (by kernel_rfl) (by kernel_rfl) (fun _ _ _ h => h) (by kernel_rfl) ?y11b hs0 ?_
          case y11b =>
            intro w' hw'; (try dsimp only at hw'); obtain ⟨e0, e1, e2⟩ := hw'; go_simp; try with_reducible rfl
          simp only [Act.put, List.setIfInBounds_toArray, List.set_cons_zero, List.set_cons_succ]
          refine takeY 30 (i := 12) (v := ?v12b) rfl rfl (by kernel_rfl) (by kernel_rfl) (by kernel_rfl) (fun _ _ _ h => h) (by kernel_rfl) ?y12b hs0 ?_
          case y12b =>
            intro w' hw'; (try dsimp only at hw'); obtain ⟨e0, e1, e2⟩ := hw'; go_simp; try with_reducible rfl
          simp only [Act.put, List.setIfInBounds_toArray, List.set_cons_zero, List.set_cons_succ]
          refine takeY 31 (i := 13) (v := ?v13b) rfl rfl (by kernel_rfl) (by kernel_rfl) (by kernel_rfl) (fun _ _ _ h => h) (by kernel_rfl) ?y13b hs0 ?_
          case y13b =>
            intro w' hw'; (try dsimp only at hw'); obtain ⟨e0, e1, e2⟩ := hw'; go_simp; try with_reducible rfl
          simp only [Act.put, List.setIfInBounds_toArray, List.set_cons_zero, List.set_cons_succ]
          refine wpAnyH_ready (rs := [6]) (by kernel_rfl) (by simp) ?_
          refine AllReadyH.cons rfl (fun K hK => ?_) AllReadyH.nil
          go_simp; go_at_call 37; refine (sFormat x (by omega) (by omega) _).mono ?_; rintro e w3 ⟨rfl, h3⟩; replace h3 := (Below.refl wr.heap.size wr).drew.trans (h3.mono (Nat.le_refl _))
          refine hK.out _ _ ⟨h3, (h3.cell (p := ⟨b1, off + k * 2, none⟩) hl1).trans f1, (h3.cell (p := ⟨b1, off + k * 2 + 1, none⟩) hl1).trans f2⟩ (fun hS1 => ?_)
          clear hK K
          try simp only [Act.put, List.setIfInBounds_toArray, List.set_cons_zero, List.set_cons_succ]
          refine takeY 25 (i := 7) (v := ?v7b) rfl rfl (by kernel_rfl) (by kernel_rfl) (by kernel_rfl) (fun _ _ _ h => h) (by kernel_rfl) ?y7b hS1 ?_
          case y7b =>
            intro w' hw'; (try dsimp only at hw'); obtain ⟨e0, e1, e2⟩ := hw'; go_simp; try with_reducible rfl
          simp only [Act.put, List.setIfInBounds_toArray, List.set_cons_zero, List.set_cons_succ]
          refine takeY 26 (i := 8) (v := ?v8b) rfl rfl (by kernel_rfl) (by kernel_rfl) (by kernel_rfl) (fun _ _ _ h => h) (by kernel_rfl) ?y8b hS1 ?_
          case y8b =>
            intro w' hw'; (try dsimp only at hw'); obtain ⟨e0, e1, e2⟩ := hw'; go_simp; try with_reducible rfl
          simp only [Act.put, List.setIfInBounds_toArray, List.set_cons_zero, List.set_cons_succ]
          refine wpAnyH_ready (rs := [14]) (by kernel_rfl) (by simp) ?_
          refine AllReadyH.cons rfl (fun K hK => ?_) AllReadyH.nil
          go_simp; go_at_call 37; refine (sFormat y (by omega) (by omega) _).mono ?_; rintro e w4 ⟨rfl, h4⟩; replace h4 := h3.trans (h4.mono h3.size)
          refine hK.out _ _ ⟨h4, (h4.cell (p := ⟨b1, off + k * 2, none⟩) hl1).trans f1, (h4.cell (p := ⟨b1, off + k * 2 + 1, none⟩) hl1).trans f2⟩ (fun hS2 => ?_)
          clear hK K
          try simp only [Act.put, List.setIfInBounds_toArray, List.set_cons_zero, List.set_cons_succ]
          refine takeY 33 (i := 15) (v := ?v15b) rfl rfl (by kernel_rfl) (by kernel_rfl) (by kernel_rfl) (fun _ _ _ h => h) (by kernel_rfl) ?y15b hS2 ?_
          case y15b =>
            intro w' hw'; (try dsimp only at hw'); obtain ⟨e0, e1, e2⟩ := hw'; go_simp; try with_reducible rfl
          simp only [Act.put, List.setIfInBounds_toArray, List.set_cons_zero, List.set_cons_succ]
          refine takeY 3 (i := 16) (v := ?v16b) rfl rfl (by kernel_rfl) (by kernel_rfl) (by kernel_rfl) (fun _ _ _ h => h) (by kernel_rfl) ?y16b hS2 ?_
          case y16b =>
            intro w' hw'; (try dsimp only at hw'); obtain ⟨e0, e1, e2⟩ := hw'; go_simp; try with_reducible rfl
          simp only [Act.put, List.setIfInBounds_toArray, List.set_cons_zero, List.set_cons_succ]
          refine wpAnyH_done (by kernel_rfl) ?_ _
          have HB' := Lib.hid (HB.out.trans (h4.mono HB.out.size))
          clear hc1 hc2 hc3 hs0 hS1 hS2 h3 h4 f1 f2 HB
          go_wp2
          go_roundw
          case rel => exact ⟨k + 1, by omega, by go_num, by rw [← HStep.out], HB'.out⟩
          case measure => simp [intOf]; omega
        · have HStep := Lib.hid (preP_step (by omega) hat)
          have hkp : (0 : Int) < (k : Int) := by omega
          have hc0 : ¬ (9223372036854775807 < (preP ps k).size + 1) := by omega
          obtain ⟨sb, hsb⟩ : ∃ sb : ByteArray, sb = preP ps k ++ ⟨#[44]⟩ := ⟨_, rfl⟩
          have hsz : sb.size ≤ 50 := by
            rw [hsb, ByteArray.size_append]
            have : (⟨#[44]⟩ : ByteArray).size = 1 := rfl
            omega
          rw [← hsb] at HStep
          clear hat hrng hc1 hc2 hbel hpre
          go_wp2
          rw [← hsb]
          clear hsb hc0
          have hc1 : ¬ (9223372036854775807 < sb.size + (fmtB x).size) := by omega
          have hc2 : ¬ (9223372036854775807 < sb.size + (fmtB x).size + 1) := by omega
          have hc3 : ¬ (9223372036854775807 < sb.size + (fmtB x).size + 1 + (fmtB y).size) := by omega
          have hs0 : Below wr.heap.size wr wr.drew ∧ wr.drew.cell? ⟨b1, off + k * 2, none⟩ = some (.int .i64 x) ∧ wr.drew.cell? ⟨b1, off + k * 2 + 1, none⟩ = some (.int .i64 y) := ⟨(Below.refl _ _).drew, f1, f2⟩
          refine wp_region_held (S := fun w' => Below wr.heap.size wr w' ∧ w'.cell? ⟨b1, off + k * 2, none⟩ = some (.int .i64 x) ∧ w'.cell? ⟨b1, off + k * 2 + 1, none⟩ = some (.int .i64 y)) (by kernel_rfl) ?_
          change wpAnyH _ _ _ _ _ _ _ _ (World.drew _)
          refine takeY 18 (i := 0) (v := ?v0c) rfl rfl (by kernel_rfl) (by kernel_rfl) (by kernel_rfl) (fun _ _ _ h => h) (by kernel_rfl) ?y0c hs0 ?_
          case y0c =>
            intro w' hw'; (try dsimp only at hw'); obtain ⟨e0, e1, e2⟩ := hw'; go_simp; try with_reducible rfl
          simp only [Act.put, List.setIfInBounds_toArray, List.set_cons_zero, List.set_cons_succ]
          refine takeY 19 (i := 1) (v := ?v1c) rfl rfl (by kernel_rfl) (by kernel_rfl) (by kernel_rfl) (fun _ _ _ h => h) (by kernel_rfl) ?y1c hs0 ?_
          case y1c =>
            intro w' hw'; (try dsimp only at hw'); obtain ⟨e0, e1, e2⟩ := hw'; go_simp; try with_reducible rfl
          simp only [Act.put, List.setIfInBounds_toArray, List.set_cons_zero, List.set_cons_succ]
          refine takeY 20 (i := 2) (v := ?v2c) rfl rfl (by kernel_rfl) (by kernel_rfl) (by kernel_rfl) (fun _ _ _ h => h) (by kernel_rfl) ?y2c hs0 ?_
          case y2c =>
            intro w' hw'; (try dsimp only at hw'); obtain ⟨e0, e1, e2⟩ := hw'; go_simp; try with_reducible rfl
          simp only [Act.put, List.setIfInBounds_toArray, List.set_cons_zero, List.set_cons_succ]
          refine takeY 21 (i := 3) (v := ?v3c) rfl rfl (by kernel_rfl) (by kernel_rfl) (by kernel_rfl) (fun _ _ _ h => h) (by kernel_rfl) ?y3c hs0 ?_
          case y3c =>
            intro w' hw'; (try dsimp only at hw'); obtain ⟨e0, e1, e2⟩ := hw'; go_simp; try with_reducible rfl
          simp only [Act.put, List.setIfInBounds_toArray, List.set_cons_zero, List.set_cons_succ]
          refine takeY 22 (i := 4) (v := ?v4c) rfl rfl (by kernel_rfl) (by kernel_rfl) (by kernel_rfl) (fun _ _ _ h => h) (by kernel_rfl) ?y4c hs0 ?_
          case y4c =>
            intro w' hw'; (try dsimp only at hw'); obtain ⟨e0, e1, e2⟩ := hw'; go_simp; try with_reducible rfl
          simp only [Act.put, List.setIfInBounds_toArray, List.set_cons_zero, List.set_cons_succ]
          refine takeY 23 (i := 5) (v := ?v5c) rfl rfl (by kernel_rfl) (by kernel_rfl) (by kernel_rfl) (fun _ _ _ h => h) (by kernel_rfl) ?y5c hs0 ?_
          case y5c =>
            intro w' hw'; (try dsimp only at hw'); obtain ⟨e0, e1, e2⟩ := hw'; go_simp; try with_reducible rfl
          simp only [Act.put, List.setIfInBounds_toArray, List.set_cons_zero, List.set_cons_succ]
          refine takeY 27 (i := 9) (v := ?v9c) rfl rfl (by kernel_rfl) (by kernel_rfl) (by kernel_rfl) (fun _ _ _ h => h) (by kernel_rfl) ?y9c hs0 ?_
          case y9c =>
            intro w' hw'; (try dsimp only at hw'); obtain ⟨e0, e1, e2⟩ := hw'; go_simp; try with_reducible rfl
          simp only [Act.put, List.setIfInBounds_toArray, List.set_cons_zero, List.set_cons_succ]
          refine takeY 28 (i := 10) (v := ?v10c) rfl rfl (by kernel_rfl) (by kernel_rfl) (by kernel_rfl) (fun _ _ _ h => h) (by kernel_rfl) ?y10c hs0 ?_
          case y10c =>
            intro w' hw'; (try dsimp only at hw'); obtain ⟨e0, e1, e2⟩ := hw'; go_simp; try with_reducible rfl
          simp only [Act.put, List.setIfInBounds_toArray, List.set_cons_zero, List.set_cons_succ]
          refine takeY 29 (i := 11) (v := ?v11c) rfl rfl (by kernel_rfl) (by kernel_rfl) (by kernel_rfl) (fun _ _ _ h => h) (by kernel_rfl) ?y11c hs0 ?_
          case y11c =>
            intro w' hw'; (try dsimp only at hw'); obtain ⟨e0, e1, e2⟩ := hw'; go_simp; try with_reducible rfl
          simp only [Act.put, List.setIfInBounds_toArray, List.set_cons_zero, List.set_cons_succ]
          refine takeY 30 (i := 12) (v := ?v12c) rfl rfl (by kernel_rfl) (by kernel_rfl) (by kernel_rfl) (fun _ _ _ h => h) (by kernel_rfl) ?y12c hs0 ?_
          case y12c =>
            intro w' hw'; (try dsimp only at hw'); obtain ⟨e0, e1, e2⟩ := hw'; go_simp; try with_reducible rfl
          simp only [Act.put, List.setIfInBounds_toArray, List.set_cons_zero, List.set_cons_succ]
          refine takeY 31 (i := 13) (v := ?v13c) rfl rfl (by kernel_rfl) (by kernel_rfl) (by kernel_rfl) (fun _ _ _ h => h) (by kernel_rfl) ?y13c hs0 ?_
          case y13c =>
            intro w' hw'; (try dsimp only at hw'); obtain ⟨e0, e1, e2⟩ := hw'; go_simp; try with_reducible rfl
          simp only [Act.put, List.setIfInBounds_toArray, List.set_cons_zero, List.set_cons_succ]
          refine wpAnyH_ready (rs := [6]) (by kernel_rfl) (by simp) ?_
          refine AllReadyH.cons rfl (fun K hK => ?_) AllReadyH.nil
          go_simp; go_at_call 37; refine (sFormat x (by omega) (by omega) _).mono ?_; rintro e w3 ⟨rfl, h3⟩; replace h3 := (Below.refl wr.heap.size wr).drew.trans (h3.mono (Nat.le_refl _))
          refine hK.out _ _ ⟨h3, (h3.cell (p := ⟨b1, off + k * 2, none⟩) hl1).trans f1, (h3.cell (p := ⟨b1, off + k * 2 + 1, none⟩) hl1).trans f2⟩ (fun hS1 => ?_)
          clear hK K
          try simp only [Act.put, List.setIfInBounds_toArray, List.set_cons_zero, List.set_cons_succ]
          refine takeY 25 (i := 7) (v := ?v7c) rfl rfl (by kernel_rfl) (by kernel_rfl) (by kernel_rfl) (fun _ _ _ h => h) (by kernel_rfl) ?y7c hS1 ?_
          case y7c =>
            intro w' hw'; (try dsimp only at hw'); obtain ⟨e0, e1, e2⟩ := hw'; go_simp; try with_reducible rfl
          simp only [Act.put, List.setIfInBounds_toArray, List.set_cons_zero, List.set_cons_succ]
          refine takeY 26 (i := 8) (v := ?v8c) rfl rfl (by kernel_rfl) (by kernel_rfl) (by kernel_rfl) (fun _ _ _ h => h) (by kernel_rfl) ?y8c hS1 ?_
          case y8c =>
            intro w' hw'; (try dsimp only at hw'); obtain ⟨e0, e1, e2⟩ := hw'; go_simp; try with_reducible rfl
          simp only [Act.put, List.setIfInBounds_toArray, List.set_cons_zero, List.set_cons_succ]
          refine wpAnyH_ready (rs := [14]) (by kernel_rfl) (by simp) ?_
          refine AllReadyH.cons rfl (fun K hK => ?_) AllReadyH.nil
          go_simp; go_at_call 37; refine (sFormat y (by omega) (by omega) _).mono ?_; rintro e w4 ⟨rfl, h4⟩; replace h4 := h3.trans (h4.mono h3.size)
          refine hK.out _ _ ⟨h4, (h4.cell (p := ⟨b1, off + k * 2, none⟩) hl1).trans f1, (h4.cell (p := ⟨b1, off + k * 2 + 1, none⟩) hl1).trans f2⟩ (fun hS2 => ?_)
          clear hK K
          try simp only [Act.put, List.setIfInBounds_toArray, List.set_cons_zero, List.set_cons_succ]
          refine takeY 33 (i := 15) (v := ?v15c) rfl rfl (by kernel_rfl) (by kernel_rfl) (by kernel_rfl) (fun _ _ _ h => h) (by kernel_rfl) ?y15c hS2 ?_
          case y15c =>
            intro w' hw'; (try dsimp only at hw'); obtain ⟨e0, e1, e2⟩ := hw'; go_simp; try with_reducible rfl
          simp only [Act.put, List.setIfInBounds_toArray, List.set_cons_zero, List.set_cons_succ]
          refine takeY 3 (i := 16) (v := ?v16c) rfl rfl (by kernel_rfl) (by kernel_rfl) (by kernel_rfl) (fun _ _ _ h => h) (by kernel_rfl) ?y16c hS2 ?_
          case y16c =>
            intro w' hw'; (try dsimp only at hw'); obtain ⟨e0, e1, e2⟩ := hw'; go_simp; try with_reducible rfl
          simp only [Act.put, List.setIfInBounds_toArray, List.set_cons_zero, List.set_cons_succ]
          refine wpAnyH_done (by kernel_rfl) ?_ _
          have HB' := Lib.hid (HB.out.trans (h4.mono HB.out.size))
          clear hc1 hc2 hc3 hs0 hS1 hS2 h3 h4 f1 f2 HB
          go_wp2
          go_roundw
          case rel => exact ⟨k + 1, by omega, by go_num, by rw [← HStep.out], HB'.out⟩
          case measure => simp [intOf]; omega
      · obtain rfl : k = n := by omega
        clear hbel hpre
        by_cases h0 : k = 0
        · have hps : Hid (ps = []) := Lib.hid (List.eq_nil_of_length_eq_zero (HX.out.1.trans h0))
          subst h0
          rw [preP_zero]
          go_wp2
          go_ret
          exact ⟨by rw [hps.out]; rfl, HB.out⟩
        · have hps : ps ≠ [] := fun e => h0 (by rw [← HX.out.1, e]; rfl)
          obtain ⟨h1, h2, h3⟩ := preP_all HX.out.1 hps
          rw [h1]
          obtain ⟨sb, hsb⟩ : ∃ sb : ByteArray, sb = fmtP ps true := ⟨_, rfl⟩
          rw [← hsb] at h2 h3 ⊢
          have HSb := Lib.hid hsb
          clear hsb h1 hps
          go_wp2
          go_ret
          exact ⟨by rw [← HSb.out]; rfl, HB.out⟩
end Go.Proofs.YtghekfigfjhkeaaDoor.num
