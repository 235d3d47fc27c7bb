/-
  The walk of FnOrders: whatever pairs are drawn, the law returns true.
-/
import Derived.Test.YtddpfnidnkhfpaaPairDraw
import Derived.Test.YtddpfnidnkhfpaaPairHgt
import Derived.Test.YtddpfnidnkhfpaaPairLin
import Derived.Test.YtddpfnidnkhfpaaPairLaw
import Derived.Test.YtddpfnidnkhfpaaOrdSame
import Derived.Test.YtddpfnidnkhfpaaRegion
namespace Go.Proofs.Ytddpfnidnkhfpaa.num
open Go.RowKit Go.Maps
set_option linter.unusedVariables false
set_option linter.unusedSimpArgs false

theorem sameInts_b (w : World) (B : Nat) (A A' : Option Addr) (n n' c c' : Nat) (xs ys : List Int) (hx : Ints w B A n xs) (hy : Ints w B A' n' ys) (hn : n ≤ 1048576) (b : Bool) (hb : b = true ↔ xs = ys) :
    Calls Try.prog 18 #[.slice A n c, .slice A' n' c'] w fun e w' => e = .returned (.bool b) ∧ Below w.heap.size w w' :=
  (sameInts_of w B A A' n n' c c' xs ys hx hy hn b hb).mono fun _ _ ⟨he, m, hm⟩ => ⟨he, hm ▸ below_drewN (Below.refl _ _) m⟩
/-- One of the closure's pairs. -/
theorem clo_at {ps : List (Int × Int)} {q : Bool} (hq : q = true ↔ OkP ps) {k : Nat} {x y : Int} (h : (cloOf ps q)[k]? = some (x, y)) : OkP ps ∧ Reach ps x y ∧ InR x ∧ InR y := by
  unfold cloOf at h
  split at h
  · have hok := hq.1 (by assumption)
    have r := (clo_mem hok.1).1 (List.mem_of_getElem? h)
    exact ⟨hok, r, (reach_rng hok.1.rng r).1, (reach_rng hok.1.rng r).2⟩
  · simp at h
theorem ht_lt {ps : List (Int × Int)} (h : OkP ps) {x y : Int} (r : Reach ps x y) : htOf ps x true < htOf ps y true := by
  have := height_reach h.1 r
  show ((height ps x : Nat) : Int) < ((height ps y : Nat) : Int)
  omega
theorem lin_at {ps : List (Int × Int)} {q : Bool} {out : List Int} (hq : q = true ↔ OkP ps) (h : LinP ps q out) {i j : Nat} {x y : Int} (hij : i < j) (hx : out[i]? = some x) (hy : out[j]? = some y) : x ≠ y ∧ ¬ Reach ps y x := by
  cases q
  · rw [h.2 rfl] at hx; simp at hx
  · exact (h.1 rfl).order (hq.1 rfl).1 i j x y hij hx hy
theorem Ints.get {w : World} {B : Nat} {A : Option Addr} {n : Nat} {xs : List Int} (h : Ints w B A n xs) (k : Nat) (hk : k < n) :
    ∃ (b off : Nat) (x : Int), A = some ⟨b, off, none⟩ ∧ b < B ∧ xs[k]? = some x ∧ w.cell? ⟨b, off + k, none⟩ = some (.int .i64 x) := by
  obtain ⟨b, off, h1, h2, h3⟩ := h.2 k hk
  have hl : k < xs.length := by rw [h.1]; exact hk
  refine ⟨b, off, xs.getD k 0, h1, h2, ?_, h3⟩
  rw [List.getD_eq_getElem?_getD, List.getElem?_eq_getElem hl]; rfl

set_option maxRecDepth 100000 in
set_option maxHeartbeats 16000000 in
theorem ord_walk (a : Option Addr) (len cap : Nat) (hlm : len ≤ 9223372036854775807) (w : World) (hrow : Row w w.heap.size a len) :
    Calls Try.prog 3 #[.slice a len cap] w fun e w' => e = .returned (.bool true) ∧ Below w.heap.size w w' := by
  have HR := Lib.hid hrow
  clear hrow
  obtain ⟨q0, hq0⟩ := bool_of (1048576 < len)
  go_enter Try.func3, Try.ntmps3
  go_wp2_with fail
  refine (big_any a len cap q0 hq0 hlm _).mono ?_
  rintro e w1 ⟨rfl, hw1⟩
  have HB1 : Hid (Below w.heap.size w w1) := Lib.hid (by rw [← hw1]; exact Below.refl _ _)
  have HR1 : Hid (Row w1 w1.heap.size a len) := Lib.hid (by rw [← hw1]; exact HR.out)
  clear hw1 HR
  cases q0
  case true =>
    go_wp2
    go_ret
    exact ⟨rfl, HB1.out⟩
  have hlen : len ≤ 1048576 := by
    rcases Nat.lt_or_ge 1048576 len with h | h
    · have := hq0.2 h; cases this
    · exact h
  clear hq0
  go_wp2_with fail
  refine (draw_closure w1 a len cap hlen HR1.out).mono ?_
  rintro e w2 ⟨v, ps, rfl, hdr⟩
  obtain ⟨A, n, c, rfl, hp⟩ := hdr.1.pairs
  have hn5 : Hid (n ≤ 1048576) := Lib.hid (by have := hp.1; have := hdr.2.1; omega)
  obtain ⟨q, hq⟩ := bool_of (OkP ps)
  have HQ := Lib.hid hq
  have HB2 := Lib.hid (HB1.out.trans (hdr.2.2.mono HB1.out.size))
  have HP2 := Lib.hid hp
  have HR2 : Hid (Row w2 w1.heap.size a len) := Lib.hid (HR1.out.below hdr.2.2)
  have hs12 : Hid (w1.heap.size ≤ w2.heap.size) := Lib.hid hdr.2.2.size
  clear hdr hp hq HB1 HR1
  go_wp2_with fail
  refine (iClosureOf w2 w2.heap.size A n c ps HP2.out (Nat.le_refl _) hn5.out q HQ.out).mono ?_
  rintro e w3 ⟨⟨v, rfl, ho⟩, hb3⟩
  obtain ⟨Ax, N, cx, rfl, hx⟩ := ho.pairs
  have HX3 := Lib.hid hx
  have HB3 := Lib.hid hb3
  clear ho hx hb3
  go_wp2_with fail
  refine (sClosure w3 w2.heap.size A n c ps (HP2.out.below HB3.out) HB3.out.size hn5.out q HQ.out).mono ?_
  rintro e w4 ⟨⟨v, rfl, ho⟩, hb4⟩
  obtain ⟨Aw, N', cw, rfl, hw⟩ := ho.pairs
  obtain rfl : N = N' := by rw [← HX3.out.1, ← hw.1]
  have HW4 := Lib.hid hw
  have HX4 := Lib.hid ((HX3.out.below hb4).more hb4.size)
  have HB4 := Lib.hid (HB3.out.trans (hb4.mono HB3.out.size))
  clear ho hw hb4
  have hNN : ((N : Int) != (N : Int)) = false := by simp
  have hqq : (q != q) = false := by simp
  go_wp2_with fail
  refine (iArePairs w4 w2.heap.size A n c ps (HP2.out.below HB4.out) HB4.out.size hn5.out q HQ.out).mono ?_
  rintro e w5 ⟨rfl, hb5⟩
  have HB5 := Lib.hid (HB4.out.trans (hb5.mono HB4.out.size))
  have HT5 := Lib.hid hb5
  clear hb5
  go_wp2_with fail
  refine (sArePairs w5 w2.heap.size A n c ps (HP2.out.below HB5.out) HB5.out.size hn5.out q HQ.out).mono ?_
  rintro e w6 ⟨rfl, hb6⟩
  have HB6 := Lib.hid (HB5.out.trans (hb6.mono HB5.out.size))
  have HT6 := Lib.hid (HT5.out.trans (hb6.mono HT5.out.size))
  clear hb6
  have HP : Hid (Pairs w6 w6.heap.size A n ps) := Lib.hid ((HP2.out.below HB6.out).more HB6.out.size)
  have HX : Hid (Pairs w6 w6.heap.size Ax N (cloOf ps q)) := Lib.hid ((HX4.out.below HT6.out).more HT6.out.size)
  have HW : Hid (Pairs w6 w6.heap.size Aw N (cloOf ps q)) := Lib.hid ((HW4.out.below HT6.out).more HT6.out.size)
  have HBw := Lib.hid (HB2.out.trans (HB6.out.mono HB2.out.size))
  have HRw : Hid (Row w6 w6.heap.size a len) := Lib.hid fun k hk => by
    obtain ⟨b, off, z, h1, h2, h3, h4⟩ := HR2.out.below (HB6.out.mono hs12.out) k hk
    exact ⟨b, off, z, h1, by have := hs12.out; have := HB6.out.size; omega, h3, h4⟩
  clear HX3 HX4 HW4 HP2 HB2 HB3 HB4 HB5 HB6 HT5 HT6 HR2 hs12
  have hN : N ≤ 1048576 := by rw [← HX.out.1]; exact cloOf_len _ _
  go_wp2
  go_loopw [6] (fun i wr => ∃ k : Nat, k ≤ N ∧ i = .int .i64 k ∧ Below w6.heap.size w6 wr) (fun i _ => N - (intOf i).toNat)
  case atStart => exact ⟨0, Nat.zero_le _, rfl, Below.refl _ _⟩
  case round =>
    obtain ⟨k, hk, rfl, hbel⟩ := hrel
    have HB := Lib.hid hbel
    clear hbel
    by_cases hlt : k < N
    · obtain ⟨bx, ox, x, y, rfl, hbx, hat, hc1, hc2⟩ := HX.out.at k hlt
      obtain ⟨bw, ow, x', y', rfl, hbw, hat', hc3, hc4⟩ := HW.out.at k hlt
      obtain ⟨rfl, rfl⟩ : x = x' ∧ y = y' := by rw [hat] at hat'; cases hat'; exact ⟨rfl, rfl⟩
      obtain ⟨hok, hre, hIx, hIy⟩ := clo_at HQ.out hat
      have HOk := Lib.hid hok
      have HRe := Lib.hid hre
      have HWx := Lib.hid (inR_wf hIx)
      have HWy := Lib.hid (inR_wf hIy)
      have HT1 := Lib.hid (And.intro hok hre)
      have HT2 : Hid (¬ (OkP ps ∧ Reach ps y x)) := Lib.hid fun h => hok.1.acy _ (hre.trans h.2)
      have HT3 := Lib.hid (And.intro hok hIx)
      have HT4 := Lib.hid (And.intro hok hIy)
      obtain ⟨zx, hzx⟩ : ∃ z : Int, z = htOf ps x true := ⟨_, rfl⟩
      obtain ⟨zy, hzy⟩ : ∃ z : Int, z = htOf ps y true := ⟨_, rfl⟩
      have hzz : zx < zy := by rw [hzx, hzy]; exact ht_lt hok hre
      have HZx := Lib.hid hzx
      have HZy := Lib.hid hzy
      have hl1 : bx < wr.heap.size := Nat.lt_of_lt_of_le hbx HB.out.size
      have hl2 := hl1
      have hl3 : bw < wr.heap.size := Nat.lt_of_lt_of_le hbw HB.out.size
      have hl4 := hl3
      have f1 := (HB.out.cell (p := ⟨bx, ox + k * 2, none⟩) hbx).trans hc1
      have f2 := (HB.out.cell (p := ⟨bx, ox + k * 2 + 1, none⟩) hbx).trans hc2
      have f3 := (HB.out.cell (p := ⟨bw, ow + k * 2, none⟩) hbw).trans hc3
      have f4 := (HB.out.cell (p := ⟨bw, ow + k * 2 + 1, none⟩) hbw).trans hc4
      have hlt' : (k : Int) < (N : Int) := by omega
      clear hat hat' hok hre hIx hIy hzx hzy hc1 hc2 hc3 hc4
      go_wp2
      have hs0 : Below wr.heap.size wr wr.drew ∧ wr.drew.cell? ⟨bx, ox + k * 2, none⟩ = some (.int .i64 x) ∧ wr.drew.cell? ⟨bx, ox + k * 2 + 1, none⟩ = some (.int .i64 y) ∧ wr.drew.cell? ⟨bw, ow + k * 2, none⟩ = some (.int .i64 x) ∧ wr.drew.cell? ⟨bw, ow + k * 2 + 1, none⟩ = some (.int .i64 y) := ⟨(Below.refl _ _).drew, f1, f2, f3, f4⟩
      refine wp_region_held (S := fun w' => Below wr.heap.size wr w' ∧ w'.cell? ⟨bx, ox + k * 2, none⟩ = some (.int .i64 x) ∧ w'.cell? ⟨bx, ox + k * 2 + 1, none⟩ = some (.int .i64 y) ∧ w'.cell? ⟨bw, ow + k * 2, none⟩ = some (.int .i64 x) ∧ w'.cell? ⟨bw, ow + k * 2 + 1, none⟩ = some (.int .i64 y)) (by kernel_rfl) ?_
      change wpAnyH _ _ _ _ _ _ _ _ (World.drew _)
      refine takeY 42 (i := 0) (v := ?v0a) rfl rfl (by kernel_rfl) (by kernel_rfl) (by kernel_rfl) (fun _ _ _ h => h) (by kernel_rfl) ?y0a hs0 ?_
      case y0a =>
        intro w' hw'; (try dsimp only at hw'); obtain ⟨e0, e1, e2, e3, e4⟩ := hw'; go_simp; try with_reducible rfl
      simp only [Act.put, List.setIfInBounds_toArray, List.set_cons_zero, List.set_cons_succ]
      refine takeY 43 (i := 1) (v := ?v1a) rfl rfl (by kernel_rfl) (by kernel_rfl) (by kernel_rfl) (fun _ _ _ h => h) (by kernel_rfl) ?y1a hs0 ?_
      case y1a =>
        intro w' hw'; (try dsimp only at hw'); obtain ⟨e0, e1, e2, e3, e4⟩ := hw'; go_simp; try with_reducible rfl
      simp only [Act.put, List.setIfInBounds_toArray, List.set_cons_zero, List.set_cons_succ]
      refine takeY 44 (i := 2) (v := ?v2a) rfl rfl (by kernel_rfl) (by kernel_rfl) (by kernel_rfl) (fun _ _ _ h => h) (by kernel_rfl) ?y2a hs0 ?_
      case y2a =>
        intro w' hw'; (try dsimp only at hw'); obtain ⟨e0, e1, e2, e3, e4⟩ := hw'; go_simp; try with_reducible rfl
      simp only [Act.put, List.setIfInBounds_toArray, List.set_cons_zero, List.set_cons_succ]
      refine takeY 45 (i := 3) (v := ?v3a) rfl rfl (by kernel_rfl) (by kernel_rfl) (by kernel_rfl) (fun _ _ _ h => h) (by kernel_rfl) ?y3a hs0 ?_
      case y3a =>
        intro w' hw'; (try dsimp only at hw'); obtain ⟨e0, e1, e2, e3, e4⟩ := hw'; go_simp; try with_reducible rfl
      simp only [Act.put, List.setIfInBounds_toArray, List.set_cons_zero, List.set_cons_succ]
      refine takeY 46 (i := 4) (v := ?v4a) rfl rfl (by kernel_rfl) (by kernel_rfl) (by kernel_rfl) (fun _ _ _ h => h) (by kernel_rfl) ?y4a hs0 ?_
      case y4a =>
        intro w' hw'; (try dsimp only at hw'); obtain ⟨e0, e1, e2, e3, e4⟩ := hw'; go_simp; try with_reducible rfl
      simp only [Act.put, List.setIfInBounds_toArray, List.set_cons_zero, List.set_cons_succ]
      refine takeY 47 (i := 5) (v := ?v5a) rfl rfl (by kernel_rfl) (by kernel_rfl) (by kernel_rfl) (fun _ _ _ h => h) (by kernel_rfl) ?y5a hs0 ?_
      case y5a =>
        intro w' hw'; (try dsimp only at hw'); obtain ⟨e0, e1, e2, e3, e4⟩ := hw'; go_simp; try with_reducible rfl
      simp only [Act.put, List.setIfInBounds_toArray, List.set_cons_zero, List.set_cons_succ]
      refine takeY 48 (i := 6) (v := ?v6a) rfl rfl (by kernel_rfl) (by kernel_rfl) (by kernel_rfl) (fun _ _ _ h => h) (by kernel_rfl) ?y6a hs0 ?_
      case y6a =>
        intro w' hw'; (try dsimp only at hw'); obtain ⟨e0, e1, e2, e3, e4⟩ := hw'; go_simp; try with_reducible rfl
      simp only [Act.put, List.setIfInBounds_toArray, List.set_cons_zero, List.set_cons_succ]
      refine takeY 49 (i := 7) (v := ?v7a) rfl rfl (by kernel_rfl) (by kernel_rfl) (by kernel_rfl) (fun _ _ _ h => h) (by kernel_rfl) ?y7a hs0 ?_
      case y7a =>
        intro w' hw'; (try dsimp only at hw'); obtain ⟨e0, e1, e2, e3, e4⟩ := hw'; go_simp; try with_reducible rfl
      simp only [Act.put, List.setIfInBounds_toArray, List.set_cons_zero, List.set_cons_succ]
      refine takeY 50 (i := 8) (v := ?v8a) rfl rfl (by kernel_rfl) (by kernel_rfl) (by kernel_rfl) (fun _ _ _ h => h) (by kernel_rfl) ?y8a hs0 ?_
      case y8a =>
        intro w' hw'; (try dsimp only at hw'); obtain ⟨e0, e1, e2, e3, e4⟩ := hw'; go_simp; try with_reducible rfl
      simp only [Act.put, List.setIfInBounds_toArray, List.set_cons_zero, List.set_cons_succ]
      refine takeY 51 (i := 9) (v := ?v9a) rfl rfl (by kernel_rfl) (by kernel_rfl) (by kernel_rfl) (fun _ _ _ h => h) (by kernel_rfl) ?y9a hs0 ?_
      case y9a =>
        intro w' hw'; (try dsimp only at hw'); obtain ⟨e0, e1, e2, e3, e4⟩ := hw'; go_simp; try with_reducible rfl
      simp only [Act.put, List.setIfInBounds_toArray, List.set_cons_zero, List.set_cons_succ]
      refine takeY 52 (i := 10) (v := ?v10a) rfl rfl (by kernel_rfl) (by kernel_rfl) (by kernel_rfl) (fun _ _ _ h => h) (by kernel_rfl) ?y10a hs0 ?_
      case y10a =>
        intro w' hw'; (try dsimp only at hw'); obtain ⟨e0, e1, e2, e3, e4⟩ := hw'; go_simp; try with_reducible rfl
      simp only [Act.put, List.setIfInBounds_toArray, List.set_cons_zero, List.set_cons_succ]
      refine takeY 53 (i := 11) (v := ?v11a) rfl rfl (by kernel_rfl) (by kernel_rfl) (by kernel_rfl) (fun _ _ _ h => h) (by kernel_rfl) ?y11a hs0 ?_
      case y11a =>
        intro w' hw'; (try dsimp only at hw'); obtain ⟨e0, e1, e2, e3, e4⟩ := hw'; go_simp; try with_reducible rfl
      simp only [Act.put, List.setIfInBounds_toArray, List.set_cons_zero, List.set_cons_succ]
      refine takeY 54 (i := 12) (v := ?v12a) rfl rfl (by kernel_rfl) (by kernel_rfl) (by kernel_rfl) (fun _ _ _ h => h) (by kernel_rfl) ?y12a hs0 ?_
      case y12a =>
        intro w' hw'; (try dsimp only at hw'); obtain ⟨e0, e1, e2, e3, e4⟩ := hw'; go_simp; try with_reducible rfl
      simp only [Act.put, List.setIfInBounds_toArray, List.set_cons_zero, List.set_cons_succ]
      refine takeY 55 (i := 13) (v := ?v13a) rfl rfl (by kernel_rfl) (by kernel_rfl) (by kernel_rfl) (fun _ _ _ h => h) (by kernel_rfl) ?y13a hs0 ?_
      case y13a =>
        intro w' hw'; (try dsimp only at hw'); obtain ⟨e0, e1, e2, e3, e4⟩ := hw'; go_simp; try with_reducible rfl
      simp only [Act.put, List.setIfInBounds_toArray, List.set_cons_zero, List.set_cons_succ]
      refine takeY 56 (i := 14) (v := ?v14a) rfl rfl (by kernel_rfl) (by kernel_rfl) (by kernel_rfl) (fun _ _ _ h => h) (by kernel_rfl) ?y14a hs0 ?_
      case y14a =>
        intro w' hw'; (try dsimp only at hw'); obtain ⟨e0, e1, e2, e3, e4⟩ := hw'; go_simp; try with_reducible rfl
      simp only [Act.put, List.setIfInBounds_toArray, List.set_cons_zero, List.set_cons_succ]
      refine takeY 57 (i := 15) (v := ?v15a) rfl rfl (by kernel_rfl) (by kernel_rfl) (by kernel_rfl) (fun _ _ _ h => h) (by kernel_rfl) ?y15a hs0 ?_
      case y15a =>
        intro w' hw'; (try dsimp only at hw'); obtain ⟨e0, e1, e2, e3, e4⟩ := hw'; go_simp; try with_reducible rfl
      simp only [Act.put, List.setIfInBounds_toArray, List.set_cons_zero, List.set_cons_succ]
      refine takeY 58 (i := 16) (v := ?v16a) rfl rfl (by kernel_rfl) (by kernel_rfl) (by kernel_rfl) (fun _ _ _ h => h) (by kernel_rfl) ?y16a hs0 ?_
      case y16a =>
        intro w' hw'; (try dsimp only at hw'); obtain ⟨e0, e1, e2, e3, e4⟩ := hw'; go_simp; try with_reducible rfl
      simp only [Act.put, List.setIfInBounds_toArray, List.set_cons_zero, List.set_cons_succ]
      refine takeY 59 (i := 17) (v := ?v17a) rfl rfl (by kernel_rfl) (by kernel_rfl) (by kernel_rfl) (fun _ _ _ h => h) (by kernel_rfl) ?y17a hs0 ?_
      case y17a =>
        intro w' hw'; (try dsimp only at hw'); obtain ⟨e0, e1, e2, e3, e4⟩ := hw'; go_simp; try with_reducible rfl
      simp only [Act.put, List.setIfInBounds_toArray, List.set_cons_zero, List.set_cons_succ]
      refine takeY 60 (i := 18) (v := ?v18a) rfl rfl (by kernel_rfl) (by kernel_rfl) (by kernel_rfl) (fun _ _ _ h => h) (by kernel_rfl) ?y18a hs0 ?_
      case y18a =>
        intro w' hw'; (try dsimp only at hw'); obtain ⟨e0, e1, e2, e3, e4⟩ := hw'; go_simp; try with_reducible rfl
      simp only [Act.put, List.setIfInBounds_toArray, List.set_cons_zero, List.set_cons_succ]
      refine takeY 61 (i := 19) (v := ?v19a) rfl rfl (by kernel_rfl) (by kernel_rfl) (by kernel_rfl) (fun _ _ _ h => h) (by kernel_rfl) ?y19a hs0 ?_
      case y19a =>
        intro w' hw'; (try dsimp only at hw'); obtain ⟨e0, e1, e2, e3, e4⟩ := hw'; go_simp; try with_reducible rfl
      simp only [Act.put, List.setIfInBounds_toArray, List.set_cons_zero, List.set_cons_succ]
      refine takeY 62 (i := 20) (v := ?v20a) rfl rfl (by kernel_rfl) (by kernel_rfl) (by kernel_rfl) (fun _ _ _ h => h) (by kernel_rfl) ?y20a hs0 ?_
      case y20a =>
        intro w' hw'; (try dsimp only at hw'); obtain ⟨e0, e1, e2, e3, e4⟩ := hw'; go_simp; try with_reducible rfl
      simp only [Act.put, List.setIfInBounds_toArray, List.set_cons_zero, List.set_cons_succ]
      refine wpAnyH_ready (rs := [21]) (by kernel_rfl) (by simp) ?_
      refine AllReadyH.cons rfl (fun K hK => ?_) AllReadyH.nil
      go_simp; go_at_call 15; refine (iIsAbove _ w6.heap.size A n c ps (HP.out.below (HB.out.trans ((Below.refl wr.heap.size wr).drew.mono HB.out.size))) (Nat.le_trans HB.out.size (Below.refl wr.heap.size wr).drew.size) hn5.out x y HWx.out HWy.out true ⟨fun _ => HT1.out, fun _ => rfl⟩).mono ?_; rintro e wa ⟨rfl, hbwa⟩; replace hbwa := (Below.refl wr.heap.size wr).drew.trans (hbwa.mono (Below.refl wr.heap.size wr).drew.size)
      refine hK.out _ _ ⟨hbwa, (hbwa.cell (p := ⟨bx, ox + k * 2, none⟩) hl1).trans f1, (hbwa.cell (p := ⟨bx, ox + k * 2 + 1, none⟩) hl2).trans f2, (hbwa.cell (p := ⟨bw, ow + k * 2, none⟩) hl3).trans f3, (hbwa.cell (p := ⟨bw, ow + k * 2 + 1, none⟩) hl4).trans f4⟩ (fun hS1 => ?_)
      clear hK K
      try simp only [Act.put, List.setIfInBounds_toArray, List.set_cons_zero, List.set_cons_succ]
      refine takeY 64 (i := 22) (v := ?v22a) rfl rfl (by kernel_rfl) (by kernel_rfl) (by kernel_rfl) (fun _ _ _ h => h) (by kernel_rfl) ?y22a hS1 ?_
      case y22a =>
        intro w' hw'; (try dsimp only at hw'); obtain ⟨e0, e1, e2, e3, e4⟩ := hw'; go_simp; try with_reducible rfl
      simp only [Act.put, List.setIfInBounds_toArray, List.set_cons_zero, List.set_cons_succ]
      refine takeY 65 (i := 23) (v := ?v23a) rfl rfl (by kernel_rfl) (by kernel_rfl) (by kernel_rfl) (fun _ _ _ h => h) (by kernel_rfl) ?y23a hS1 ?_
      case y23a =>
        intro w' hw'; (try dsimp only at hw'); obtain ⟨e0, e1, e2, e3, e4⟩ := hw'; go_simp; try with_reducible rfl
      simp only [Act.put, List.setIfInBounds_toArray, List.set_cons_zero, List.set_cons_succ]
      refine takeY 66 (i := 24) (v := ?v24a) rfl rfl (by kernel_rfl) (by kernel_rfl) (by kernel_rfl) (fun _ _ _ h => h) (by kernel_rfl) ?y24a hS1 ?_
      case y24a =>
        intro w' hw'; (try dsimp only at hw'); obtain ⟨e0, e1, e2, e3, e4⟩ := hw'; go_simp; try with_reducible rfl
      simp only [Act.put, List.setIfInBounds_toArray, List.set_cons_zero, List.set_cons_succ]
      refine takeY 67 (i := 25) (v := ?v25a) rfl rfl (by kernel_rfl) (by kernel_rfl) (by kernel_rfl) (fun _ _ _ h => h) (by kernel_rfl) ?y25a hS1 ?_
      case y25a =>
        intro w' hw'; (try dsimp only at hw'); obtain ⟨e0, e1, e2, e3, e4⟩ := hw'; go_simp; try with_reducible rfl
      simp only [Act.put, List.setIfInBounds_toArray, List.set_cons_zero, List.set_cons_succ]
      refine takeY 68 (i := 26) (v := ?v26a) rfl rfl (by kernel_rfl) (by kernel_rfl) (by kernel_rfl) (fun _ _ _ h => h) (by kernel_rfl) ?y26a hS1 ?_
      case y26a =>
        intro w' hw'; (try dsimp only at hw'); obtain ⟨e0, e1, e2, e3, e4⟩ := hw'; go_simp; try with_reducible rfl
      simp only [Act.put, List.setIfInBounds_toArray, List.set_cons_zero, List.set_cons_succ]
      refine takeY 69 (i := 27) (v := ?v27a) rfl rfl (by kernel_rfl) (by kernel_rfl) (by kernel_rfl) (fun _ _ _ h => h) (by kernel_rfl) ?y27a hS1 ?_
      case y27a =>
        intro w' hw'; (try dsimp only at hw'); obtain ⟨e0, e1, e2, e3, e4⟩ := hw'; go_simp; try with_reducible rfl
      simp only [Act.put, List.setIfInBounds_toArray, List.set_cons_zero, List.set_cons_succ]
      refine takeY 70 (i := 28) (v := ?v28a) rfl rfl (by kernel_rfl) (by kernel_rfl) (by kernel_rfl) (fun _ _ _ h => h) (by kernel_rfl) ?y28a hS1 ?_
      case y28a =>
        intro w' hw'; (try dsimp only at hw'); obtain ⟨e0, e1, e2, e3, e4⟩ := hw'; go_simp; try with_reducible rfl
      simp only [Act.put, List.setIfInBounds_toArray, List.set_cons_zero, List.set_cons_succ]
      refine takeY 71 (i := 29) (v := ?v29a) rfl rfl (by kernel_rfl) (by kernel_rfl) (by kernel_rfl) (fun _ _ _ h => h) (by kernel_rfl) ?y29a hS1 ?_
      case y29a =>
        intro w' hw'; (try dsimp only at hw'); obtain ⟨e0, e1, e2, e3, e4⟩ := hw'; go_simp; try with_reducible rfl
      simp only [Act.put, List.setIfInBounds_toArray, List.set_cons_zero, List.set_cons_succ]
      refine takeY 72 (i := 30) (v := ?v30a) rfl rfl (by kernel_rfl) (by kernel_rfl) (by kernel_rfl) (fun _ _ _ h => h) (by kernel_rfl) ?y30a hS1 ?_
      case y30a =>
        intro w' hw'; (try dsimp only at hw'); obtain ⟨e0, e1, e2, e3, e4⟩ := hw'; go_simp; try with_reducible rfl
      simp only [Act.put, List.setIfInBounds_toArray, List.set_cons_zero, List.set_cons_succ]
      refine takeY 73 (i := 31) (v := ?v31a) rfl rfl (by kernel_rfl) (by kernel_rfl) (by kernel_rfl) (fun _ _ _ h => h) (by kernel_rfl) ?y31a hS1 ?_
      case y31a =>
        intro w' hw'; (try dsimp only at hw'); obtain ⟨e0, e1, e2, e3, e4⟩ := hw'; go_simp; try with_reducible rfl
      simp only [Act.put, List.setIfInBounds_toArray, List.set_cons_zero, List.set_cons_succ]
      refine takeY 74 (i := 32) (v := ?v32a) rfl rfl (by kernel_rfl) (by kernel_rfl) (by kernel_rfl) (fun _ _ _ h => h) (by kernel_rfl) ?y32a hS1 ?_
      case y32a =>
        intro w' hw'; (try dsimp only at hw'); obtain ⟨e0, e1, e2, e3, e4⟩ := hw'; go_simp; try with_reducible rfl
      simp only [Act.put, List.setIfInBounds_toArray, List.set_cons_zero, List.set_cons_succ]
      refine takeY 75 (i := 33) (v := ?v33a) rfl rfl (by kernel_rfl) (by kernel_rfl) (by kernel_rfl) (fun _ _ _ h => h) (by kernel_rfl) ?y33a hS1 ?_
      case y33a =>
        intro w' hw'; (try dsimp only at hw'); obtain ⟨e0, e1, e2, e3, e4⟩ := hw'; go_simp; try with_reducible rfl
      simp only [Act.put, List.setIfInBounds_toArray, List.set_cons_zero, List.set_cons_succ]
      refine takeY 76 (i := 34) (v := ?v34a) rfl rfl (by kernel_rfl) (by kernel_rfl) (by kernel_rfl) (fun _ _ _ h => h) (by kernel_rfl) ?y34a hS1 ?_
      case y34a =>
        intro w' hw'; (try dsimp only at hw'); obtain ⟨e0, e1, e2, e3, e4⟩ := hw'; go_simp; try with_reducible rfl
      simp only [Act.put, List.setIfInBounds_toArray, List.set_cons_zero, List.set_cons_succ]
      refine takeY 77 (i := 35) (v := ?v35a) rfl rfl (by kernel_rfl) (by kernel_rfl) (by kernel_rfl) (fun _ _ _ h => h) (by kernel_rfl) ?y35a hS1 ?_
      case y35a =>
        intro w' hw'; (try dsimp only at hw'); obtain ⟨e0, e1, e2, e3, e4⟩ := hw'; go_simp; try with_reducible rfl
      simp only [Act.put, List.setIfInBounds_toArray, List.set_cons_zero, List.set_cons_succ]
      refine wpAnyH_ready (rs := [36]) (by kernel_rfl) (by simp) ?_
      refine AllReadyH.cons rfl (fun K hK => ?_) AllReadyH.nil
      go_simp; go_at_call 15; refine (iIsAbove wa w6.heap.size A n c ps (HP.out.below (HB.out.trans (hbwa.mono HB.out.size))) (Nat.le_trans HB.out.size hbwa.size) hn5.out y x HWy.out HWx.out false ⟨fun h => (by cases h), fun h => (HT2.out h).elim⟩).mono ?_; rintro e wb ⟨rfl, hbwb⟩; replace hbwb := hbwa.trans (hbwb.mono hbwa.size)
      refine hK.out _ _ ⟨hbwb, (hbwb.cell (p := ⟨bx, ox + k * 2, none⟩) hl1).trans f1, (hbwb.cell (p := ⟨bx, ox + k * 2 + 1, none⟩) hl2).trans f2, (hbwb.cell (p := ⟨bw, ow + k * 2, none⟩) hl3).trans f3, (hbwb.cell (p := ⟨bw, ow + k * 2 + 1, none⟩) hl4).trans f4⟩ (fun hS2 => ?_)
      clear hK K
      try simp only [Act.put, List.setIfInBounds_toArray, List.set_cons_zero, List.set_cons_succ]
      refine takeY 79 (i := 37) (v := ?v37a) rfl rfl (by kernel_rfl) (by kernel_rfl) (by kernel_rfl) (fun _ _ _ h => h) (by kernel_rfl) ?y37a hS2 ?_
      case y37a =>
        intro w' hw'; (try dsimp only at hw'); obtain ⟨e0, e1, e2, e3, e4⟩ := hw'; go_simp; try with_reducible rfl
      simp only [Act.put, List.setIfInBounds_toArray, List.set_cons_zero, List.set_cons_succ]
      refine takeY 80 (i := 38) (v := ?v38a) rfl rfl (by kernel_rfl) (by kernel_rfl) (by kernel_rfl) (fun _ _ _ h => h) (by kernel_rfl) ?y38a hS2 ?_
      case y38a =>
        intro w' hw'; (try dsimp only at hw'); obtain ⟨e0, e1, e2, e3, e4⟩ := hw'; go_simp; try with_reducible rfl
      simp only [Act.put, List.setIfInBounds_toArray, List.set_cons_zero, List.set_cons_succ]
      refine takeY 81 (i := 39) (v := ?v39a) rfl rfl (by kernel_rfl) (by kernel_rfl) (by kernel_rfl) (fun _ _ _ h => h) (by kernel_rfl) ?y39a hS2 ?_
      case y39a =>
        intro w' hw'; (try dsimp only at hw'); obtain ⟨e0, e1, e2, e3, e4⟩ := hw'; go_simp; try with_reducible rfl
      simp only [Act.put, List.setIfInBounds_toArray, List.set_cons_zero, List.set_cons_succ]
      refine takeY 82 (i := 40) (v := ?v40a) rfl rfl (by kernel_rfl) (by kernel_rfl) (by kernel_rfl) (fun _ _ _ h => h) (by kernel_rfl) ?y40a hS2 ?_
      case y40a =>
        intro w' hw'; (try dsimp only at hw'); obtain ⟨e0, e1, e2, e3, e4⟩ := hw'; go_simp; try with_reducible rfl
      simp only [Act.put, List.setIfInBounds_toArray, List.set_cons_zero, List.set_cons_succ]
      refine takeY 83 (i := 41) (v := ?v41a) rfl rfl (by kernel_rfl) (by kernel_rfl) (by kernel_rfl) (fun _ _ _ h => h) (by kernel_rfl) ?y41a hS2 ?_
      case y41a =>
        intro w' hw'; (try dsimp only at hw'); obtain ⟨e0, e1, e2, e3, e4⟩ := hw'; go_simp; try with_reducible rfl
      simp only [Act.put, List.setIfInBounds_toArray, List.set_cons_zero, List.set_cons_succ]
      refine takeY 84 (i := 42) (v := ?v42a) rfl rfl (by kernel_rfl) (by kernel_rfl) (by kernel_rfl) (fun _ _ _ h => h) (by kernel_rfl) ?y42a hS2 ?_
      case y42a =>
        intro w' hw'; (try dsimp only at hw'); obtain ⟨e0, e1, e2, e3, e4⟩ := hw'; go_simp; try with_reducible rfl
      simp only [Act.put, List.setIfInBounds_toArray, List.set_cons_zero, List.set_cons_succ]
      refine takeY 85 (i := 43) (v := ?v43a) rfl rfl (by kernel_rfl) (by kernel_rfl) (by kernel_rfl) (fun _ _ _ h => h) (by kernel_rfl) ?y43a hS2 ?_
      case y43a =>
        intro w' hw'; (try dsimp only at hw'); obtain ⟨e0, e1, e2, e3, e4⟩ := hw'; go_simp; try with_reducible rfl
      simp only [Act.put, List.setIfInBounds_toArray, List.set_cons_zero, List.set_cons_succ]
      refine takeY 86 (i := 44) (v := ?v44a) rfl rfl (by kernel_rfl) (by kernel_rfl) (by kernel_rfl) (fun _ _ _ h => h) (by kernel_rfl) ?y44a hS2 ?_
      case y44a =>
        intro w' hw'; (try dsimp only at hw'); obtain ⟨e0, e1, e2, e3, e4⟩ := hw'; go_simp; try with_reducible rfl
      simp only [Act.put, List.setIfInBounds_toArray, List.set_cons_zero, List.set_cons_succ]
      refine takeY 88 (i := 46) (v := ?v46a) rfl rfl (by kernel_rfl) (by kernel_rfl) (by kernel_rfl) (fun _ _ _ h => h) (by kernel_rfl) ?y46a hS2 ?_
      case y46a =>
        intro w' hw'; (try dsimp only at hw'); obtain ⟨e0, e1, e2, e3, e4⟩ := hw'; go_simp; try with_reducible rfl
      simp only [Act.put, List.setIfInBounds_toArray, List.set_cons_zero, List.set_cons_succ]
      refine takeY 89 (i := 47) (v := ?v47a) rfl rfl (by kernel_rfl) (by kernel_rfl) (by kernel_rfl) (fun _ _ _ h => h) (by kernel_rfl) ?y47a hS2 ?_
      case y47a =>
        intro w' hw'; (try dsimp only at hw'); obtain ⟨e0, e1, e2, e3, e4⟩ := hw'; go_simp; try with_reducible rfl
      simp only [Act.put, List.setIfInBounds_toArray, List.set_cons_zero, List.set_cons_succ]
      refine takeY 90 (i := 48) (v := ?v48a) rfl rfl (by kernel_rfl) (by kernel_rfl) (by kernel_rfl) (fun _ _ _ h => h) (by kernel_rfl) ?y48a hS2 ?_
      case y48a =>
        intro w' hw'; (try dsimp only at hw'); obtain ⟨e0, e1, e2, e3, e4⟩ := hw'; go_simp; try with_reducible rfl
      simp only [Act.put, List.setIfInBounds_toArray, List.set_cons_zero, List.set_cons_succ]
      refine takeY 91 (i := 49) (v := ?v49a) rfl rfl (by kernel_rfl) (by kernel_rfl) (by kernel_rfl) (fun _ _ _ h => h) (by kernel_rfl) ?y49a hS2 ?_
      case y49a =>
        intro w' hw'; (try dsimp only at hw'); obtain ⟨e0, e1, e2, e3, e4⟩ := hw'; go_simp; try with_reducible rfl
      simp only [Act.put, List.setIfInBounds_toArray, List.set_cons_zero, List.set_cons_succ]
      refine takeY 92 (i := 50) (v := ?v50a) rfl rfl (by kernel_rfl) (by kernel_rfl) (by kernel_rfl) (fun _ _ _ h => h) (by kernel_rfl) ?y50a hS2 ?_
      case y50a =>
        intro w' hw'; (try dsimp only at hw'); obtain ⟨e0, e1, e2, e3, e4⟩ := hw'; go_simp; try with_reducible rfl
      simp only [Act.put, List.setIfInBounds_toArray, List.set_cons_zero, List.set_cons_succ]
      refine takeY 93 (i := 51) (v := ?v51a) rfl rfl (by kernel_rfl) (by kernel_rfl) (by kernel_rfl) (fun _ _ _ h => h) (by kernel_rfl) ?y51a hS2 ?_
      case y51a =>
        intro w' hw'; (try dsimp only at hw'); obtain ⟨e0, e1, e2, e3, e4⟩ := hw'; go_simp; try with_reducible rfl
      simp only [Act.put, List.setIfInBounds_toArray, List.set_cons_zero, List.set_cons_succ]
      refine wpAnyH_ready (rs := [45]) (by kernel_rfl) (by simp) ?_
      refine AllReadyH.cons rfl (fun K hK => ?_) AllReadyH.nil
      go_simp; go_at_call 16; refine (iHeightOf wb w6.heap.size A n c ps (HP.out.below (HB.out.trans (hbwb.mono HB.out.size))) (Nat.le_trans HB.out.size hbwb.size) hn5.out x true ⟨fun _ => HT3.out, fun _ => rfl⟩).mono ?_; rintro e wc ⟨rfl, hbwc⟩; replace hbwc := hbwb.trans (hbwc.mono hbwb.size); rw [← HZx.out]
      refine hK.out _ _ ⟨hbwc, (hbwc.cell (p := ⟨bx, ox + k * 2, none⟩) hl1).trans f1, (hbwc.cell (p := ⟨bx, ox + k * 2 + 1, none⟩) hl2).trans f2, (hbwc.cell (p := ⟨bw, ow + k * 2, none⟩) hl3).trans f3, (hbwc.cell (p := ⟨bw, ow + k * 2 + 1, none⟩) hl4).trans f4⟩ (fun hS3 => ?_)
      clear hK K
      try simp only [Act.put, List.setIfInBounds_toArray, List.set_cons_zero, List.set_cons_succ]
      refine wpAnyH_ready (rs := [52]) (by kernel_rfl) (by simp) ?_
      refine AllReadyH.cons rfl (fun K hK => ?_) AllReadyH.nil
      go_simp; go_at_call 16; refine (iHeightOf wc w6.heap.size A n c ps (HP.out.below (HB.out.trans (hbwc.mono HB.out.size))) (Nat.le_trans HB.out.size hbwc.size) hn5.out y true ⟨fun _ => HT4.out, fun _ => rfl⟩).mono ?_; rintro e wd ⟨rfl, hbwd⟩; replace hbwd := hbwc.trans (hbwd.mono hbwc.size); rw [← HZy.out]
      refine hK.out _ _ ⟨hbwd, (hbwd.cell (p := ⟨bx, ox + k * 2, none⟩) hl1).trans f1, (hbwd.cell (p := ⟨bx, ox + k * 2 + 1, none⟩) hl2).trans f2, (hbwd.cell (p := ⟨bw, ow + k * 2, none⟩) hl3).trans f3, (hbwd.cell (p := ⟨bw, ow + k * 2 + 1, none⟩) hl4).trans f4⟩ (fun hS4 => ?_)
      clear hK K
      try simp only [Act.put, List.setIfInBounds_toArray, List.set_cons_zero, List.set_cons_succ]
      refine takeY 95 (i := 53) (v := ?v53a) rfl rfl (by kernel_rfl) (by kernel_rfl) (by kernel_rfl) (fun _ _ _ h => h) (by kernel_rfl) ?y53a hS4 ?_
      case y53a =>
        intro w' hw'; (try dsimp only at hw'); obtain ⟨e0, e1, e2, e3, e4⟩ := hw'; go_simp; try with_reducible rfl
      simp only [Act.put, List.setIfInBounds_toArray, List.set_cons_zero, List.set_cons_succ]
      refine takeY 96 (i := 54) (v := ?v54a) rfl rfl (by kernel_rfl) (by kernel_rfl) (by kernel_rfl) (fun _ _ _ h => h) (by kernel_rfl) ?y54a hS4 ?_
      case y54a =>
        intro w' hw'; (try dsimp only at hw'); obtain ⟨e0, e1, e2, e3, e4⟩ := hw'; go_simp; try with_reducible rfl
      simp only [Act.put, List.setIfInBounds_toArray, List.set_cons_zero, List.set_cons_succ]
      refine wpAnyH_done (by kernel_rfl) ?_ _
      have HB' := Lib.hid (HB.out.trans (hbwd.mono HB.out.size))
      clear hbwa hbwb hbwc hbwd f1 f2 f3 f4 hl1 hl2 hl3 hl4 hs0 hS1 hS2 hS3 hS4 HT1 HT2 HT3 HT4 HZx HZy HB
      go_wp2
      go_loopw [7] (fun i wr => ∃ j : Nat, j ≤ N ∧ i = .int .i64 j ∧ Below w6.heap.size w6 wr) (fun i _ => N - (intOf i).toNat)
      case atStart => exact ⟨0, Nat.zero_le _, rfl, HB'.out⟩
      case round =>
        clear HB'
        obtain ⟨j, hj, rfl, hbel⟩ := hrel
        have HB := Lib.hid hbel
        clear hbel
        by_cases hjt : j < N
        · obtain ⟨bw', ow', x', y', he, _, hat', hc1, hc2⟩ := HW.out.at j hjt
          obtain ⟨rfl, rfl⟩ : bw = bw' ∧ ow = ow' := by injection he with h; injection h with h1 h2; exact ⟨h1, h2⟩
          obtain ⟨bw2, ow2, x2, y2, he2, _, hat2, hc3, hc4⟩ := HW.out.at k hlt
          obtain ⟨rfl, rfl⟩ : bw = bw2 ∧ ow = ow2 := by injection he2 with h; injection h with h1 h2; exact ⟨h1, h2⟩
          obtain ⟨hok, hre, hIx2, hIy2⟩ := clo_at HQ.out hat2
          obtain ⟨_, hre', hIx', hIy'⟩ := clo_at HQ.out hat'
          have HOk := Lib.hid hok
          have HRe := Lib.hid hre
          have HRe' := Lib.hid hre'
          have HWx2 := Lib.hid (inR_wf hIx2)
          have HWy2 := Lib.hid (inR_wf hIy')
          have hl1 : bw < wr.heap.size := Nat.lt_of_lt_of_le hbw HB.out.size
          have hl2 := hl1
          have hl3 := hl1
          have hl4 := hl1
          have f1 := (HB.out.cell (p := ⟨bw, ow + j * 2, none⟩) hbw).trans hc1
          have f2 := (HB.out.cell (p := ⟨bw, ow + j * 2 + 1, none⟩) hbw).trans hc2
          have f3 := (HB.out.cell (p := ⟨bw, ow + k * 2, none⟩) hbw).trans hc3
          have f4 := (HB.out.cell (p := ⟨bw, ow + k * 2 + 1, none⟩) hbw).trans hc4
          have hjt' : (j : Int) < (N : Int) := by omega
          clear hat' hat2 hok hre hre' hIx2 hIy2 hIx' hIy' hc1 hc2 hc3 hc4 he he2
          by_cases hxy : x' = y2
          · have HT1 : Hid (OkP ps ∧ Reach ps x2 y') := Lib.hid ⟨HOk.out, HRe.out.trans (hxy ▸ HRe'.out)⟩
            have hb : (x' == y2) = true := by simpa using hxy
            clear hxy
            go_wp2
            have hs0 : Below wr.heap.size wr wr.drew ∧ wr.drew.cell? ⟨bw, ow + j * 2, none⟩ = some (.int .i64 x') ∧ wr.drew.cell? ⟨bw, ow + j * 2 + 1, none⟩ = some (.int .i64 y') ∧ wr.drew.cell? ⟨bw, ow + k * 2, none⟩ = some (.int .i64 x2) ∧ wr.drew.cell? ⟨bw, ow + k * 2 + 1, none⟩ = some (.int .i64 y2) := ⟨(Below.refl _ _).drew, f1, f2, f3, f4⟩
            refine wp_region_held (S := fun w' => Below wr.heap.size wr w' ∧ w'.cell? ⟨bw, ow + j * 2, none⟩ = some (.int .i64 x') ∧ w'.cell? ⟨bw, ow + j * 2 + 1, none⟩ = some (.int .i64 y') ∧ w'.cell? ⟨bw, ow + k * 2, none⟩ = some (.int .i64 x2) ∧ w'.cell? ⟨bw, ow + k * 2 + 1, none⟩ = some (.int .i64 y2)) (by kernel_rfl) ?_
            change wpAnyH _ _ _ _ _ _ _ _ (World.drew _)
            refine takeY 103 (i := 0) (v := ?v0b) rfl rfl (by kernel_rfl) (by kernel_rfl) (by kernel_rfl) (fun _ _ _ h => h) (by kernel_rfl) ?y0b hs0 ?_
            case y0b =>
              intro w' hw'; (try dsimp only at hw'); obtain ⟨e0, e1, e2, e3, e4⟩ := hw'; go_simp; try with_reducible rfl
            simp only [Act.put, List.setIfInBounds_toArray, List.set_cons_zero, List.set_cons_succ]
            refine takeY 104 (i := 1) (v := ?v1b) rfl rfl (by kernel_rfl) (by kernel_rfl) (by kernel_rfl) (fun _ _ _ h => h) (by kernel_rfl) ?y1b hs0 ?_
            case y1b =>
              intro w' hw'; (try dsimp only at hw'); obtain ⟨e0, e1, e2, e3, e4⟩ := hw'; go_simp; try with_reducible rfl
            simp only [Act.put, List.setIfInBounds_toArray, List.set_cons_zero, List.set_cons_succ]
            refine takeY 105 (i := 2) (v := ?v2b) rfl rfl (by kernel_rfl) (by kernel_rfl) (by kernel_rfl) (fun _ _ _ h => h) (by kernel_rfl) ?y2b hs0 ?_
            case y2b =>
              intro w' hw'; (try dsimp only at hw'); obtain ⟨e0, e1, e2, e3, e4⟩ := hw'; go_simp; try with_reducible rfl
            simp only [Act.put, List.setIfInBounds_toArray, List.set_cons_zero, List.set_cons_succ]
            refine takeY 106 (i := 3) (v := ?v3b) rfl rfl (by kernel_rfl) (by kernel_rfl) (by kernel_rfl) (fun _ _ _ h => h) (by kernel_rfl) ?y3b hs0 ?_
            case y3b =>
              intro w' hw'; (try dsimp only at hw'); obtain ⟨e0, e1, e2, e3, e4⟩ := hw'; go_simp; try with_reducible rfl
            simp only [Act.put, List.setIfInBounds_toArray, List.set_cons_zero, List.set_cons_succ]
            refine takeY 107 (i := 4) (v := ?v4b) rfl rfl (by kernel_rfl) (by kernel_rfl) (by kernel_rfl) (fun _ _ _ h => h) (by kernel_rfl) ?y4b hs0 ?_
            case y4b =>
              intro w' hw'; (try dsimp only at hw'); obtain ⟨e0, e1, e2, e3, e4⟩ := hw'; go_simp; try with_reducible rfl
            simp only [Act.put, List.setIfInBounds_toArray, List.set_cons_zero, List.set_cons_succ]
            refine takeY 108 (i := 5) (v := ?v5b) rfl rfl (by kernel_rfl) (by kernel_rfl) (by kernel_rfl) (fun _ _ _ h => h) (by kernel_rfl) ?y5b hs0 ?_
            case y5b =>
              intro w' hw'; (try dsimp only at hw'); obtain ⟨e0, e1, e2, e3, e4⟩ := hw'; go_simp; try with_reducible rfl
            simp only [Act.put, List.setIfInBounds_toArray, List.set_cons_zero, List.set_cons_succ]
            refine takeY 109 (i := 6) (v := ?v6b) rfl rfl (by kernel_rfl) (by kernel_rfl) (by kernel_rfl) (fun _ _ _ h => h) (by kernel_rfl) ?y6b hs0 ?_
            case y6b =>
              intro w' hw'; (try dsimp only at hw'); obtain ⟨e0, e1, e2, e3, e4⟩ := hw'; go_simp; try with_reducible rfl
            simp only [Act.put, List.setIfInBounds_toArray, List.set_cons_zero, List.set_cons_succ]
            refine takeY 110 (i := 7) (v := ?v7b) rfl rfl (by kernel_rfl) (by kernel_rfl) (by kernel_rfl) (fun _ _ _ h => h) (by kernel_rfl) ?y7b hs0 ?_
            case y7b =>
              intro w' hw'; (try dsimp only at hw'); obtain ⟨e0, e1, e2, e3, e4⟩ := hw'; go_simp; try with_reducible rfl
            simp only [Act.put, List.setIfInBounds_toArray, List.set_cons_zero, List.set_cons_succ]
            refine takeY 111 (i := 8) (v := ?v8b) rfl rfl (by kernel_rfl) (by kernel_rfl) (by kernel_rfl) (fun _ _ _ h => h) (by kernel_rfl) ?y8b hs0 ?_
            case y8b =>
              intro w' hw'; (try dsimp only at hw'); obtain ⟨e0, e1, e2, e3, e4⟩ := hw'; go_simp; try with_reducible rfl
            simp only [Act.put, List.setIfInBounds_toArray, List.set_cons_zero, List.set_cons_succ]
            refine takeY 112 (i := 9) (v := ?v9b) rfl rfl (by kernel_rfl) (by kernel_rfl) (by kernel_rfl) (fun _ _ _ h => h) (by kernel_rfl) ?y9b hs0 ?_
            case y9b =>
              intro w' hw'; (try dsimp only at hw'); obtain ⟨e0, e1, e2, e3, e4⟩ := hw'; go_simp; try with_reducible rfl
            simp only [Act.put, List.setIfInBounds_toArray, List.set_cons_zero, List.set_cons_succ]
            refine takeY 113 (i := 10) (v := ?v10b) rfl rfl (by kernel_rfl) (by kernel_rfl) (by kernel_rfl) (fun _ _ _ h => h) (by kernel_rfl) ?y10b hs0 ?_
            case y10b =>
              intro w' hw'; (try dsimp only at hw'); obtain ⟨e0, e1, e2, e3, e4⟩ := hw'; go_simp; try with_reducible rfl
            simp only [Act.put, List.setIfInBounds_toArray, List.set_cons_zero, List.set_cons_succ]
            refine takeY 114 (i := 11) (v := ?v11b) rfl rfl (by kernel_rfl) (by kernel_rfl) (by kernel_rfl) (fun _ _ _ h => h) (by kernel_rfl) ?y11b hs0 ?_
            case y11b =>
              intro w' hw'; (try dsimp only at hw'); obtain ⟨e0, e1, e2, e3, e4⟩ := hw'; go_simp; try with_reducible rfl
            simp only [Act.put, List.setIfInBounds_toArray, List.set_cons_zero, List.set_cons_succ]
            refine takeY 115 (i := 12) (v := ?v12b) rfl rfl (by kernel_rfl) (by kernel_rfl) (by kernel_rfl) (fun _ _ _ h => h) (by kernel_rfl) ?y12b hs0 ?_
            case y12b =>
              intro w' hw'; (try dsimp only at hw'); obtain ⟨e0, e1, e2, e3, e4⟩ := hw'; go_simp; try with_reducible rfl
            simp only [Act.put, List.setIfInBounds_toArray, List.set_cons_zero, List.set_cons_succ]
            refine takeY 116 (i := 13) (v := ?v13b) rfl rfl (by kernel_rfl) (by kernel_rfl) (by kernel_rfl) (fun _ _ _ h => h) (by kernel_rfl) ?y13b hs0 ?_
            case y13b =>
              intro w' hw'; (try dsimp only at hw'); obtain ⟨e0, e1, e2, e3, e4⟩ := hw'; go_simp; try with_reducible rfl
            simp only [Act.put, List.setIfInBounds_toArray, List.set_cons_zero, List.set_cons_succ]
            refine takeY 117 (i := 14) (v := ?v14b) rfl rfl (by kernel_rfl) (by kernel_rfl) (by kernel_rfl) (fun _ _ _ h => h) (by kernel_rfl) ?y14b hs0 ?_
            case y14b =>
              intro w' hw'; (try dsimp only at hw'); obtain ⟨e0, e1, e2, e3, e4⟩ := hw'; go_simp; try with_reducible rfl
            simp only [Act.put, List.setIfInBounds_toArray, List.set_cons_zero, List.set_cons_succ]
            refine takeY 118 (i := 15) (v := ?v15b) rfl rfl (by kernel_rfl) (by kernel_rfl) (by kernel_rfl) (fun _ _ _ h => h) (by kernel_rfl) ?y15b hs0 ?_
            case y15b =>
              intro w' hw'; (try dsimp only at hw'); obtain ⟨e0, e1, e2, e3, e4⟩ := hw'; go_simp; try with_reducible rfl
            simp only [Act.put, List.setIfInBounds_toArray, List.set_cons_zero, List.set_cons_succ]
            refine takeY 119 (i := 16) (v := ?v16b) rfl rfl (by kernel_rfl) (by kernel_rfl) (by kernel_rfl) (fun _ _ _ h => h) (by kernel_rfl) ?y16b hs0 ?_
            case y16b =>
              intro w' hw'; (try dsimp only at hw'); obtain ⟨e0, e1, e2, e3, e4⟩ := hw'; go_simp; try with_reducible rfl
            simp only [Act.put, List.setIfInBounds_toArray, List.set_cons_zero, List.set_cons_succ]
            refine takeY 120 (i := 17) (v := ?v17b) rfl rfl (by kernel_rfl) (by kernel_rfl) (by kernel_rfl) (fun _ _ _ h => h) (by kernel_rfl) ?y17b hs0 ?_
            case y17b =>
              intro w' hw'; (try dsimp only at hw'); obtain ⟨e0, e1, e2, e3, e4⟩ := hw'; go_simp; try with_reducible rfl
            simp only [Act.put, List.setIfInBounds_toArray, List.set_cons_zero, List.set_cons_succ]
            refine takeY 121 (i := 18) (v := ?v18b) rfl rfl (by kernel_rfl) (by kernel_rfl) (by kernel_rfl) (fun _ _ _ h => h) (by kernel_rfl) ?y18b hs0 ?_
            case y18b =>
              intro w' hw'; (try dsimp only at hw'); obtain ⟨e0, e1, e2, e3, e4⟩ := hw'; go_simp; try with_reducible rfl
            simp only [Act.put, List.setIfInBounds_toArray, List.set_cons_zero, List.set_cons_succ]
            refine takeY 122 (i := 19) (v := ?v19b) rfl rfl (by kernel_rfl) (by kernel_rfl) (by kernel_rfl) (fun _ _ _ h => h) (by kernel_rfl) ?y19b hs0 ?_
            case y19b =>
              intro w' hw'; (try dsimp only at hw'); obtain ⟨e0, e1, e2, e3, e4⟩ := hw'; go_simp; try with_reducible rfl
            simp only [Act.put, List.setIfInBounds_toArray, List.set_cons_zero, List.set_cons_succ]
            refine takeY 123 (i := 20) (v := ?v20b) rfl rfl (by kernel_rfl) (by kernel_rfl) (by kernel_rfl) (fun _ _ _ h => h) (by kernel_rfl) ?y20b hs0 ?_
            case y20b =>
              intro w' hw'; (try dsimp only at hw'); obtain ⟨e0, e1, e2, e3, e4⟩ := hw'; go_simp; try with_reducible rfl
            simp only [Act.put, List.setIfInBounds_toArray, List.set_cons_zero, List.set_cons_succ]
            refine takeY 124 (i := 21) (v := ?v21b) rfl rfl (by kernel_rfl) (by kernel_rfl) (by kernel_rfl) (fun _ _ _ h => h) (by kernel_rfl) ?y21b hs0 ?_
            case y21b =>
              intro w' hw'; (try dsimp only at hw'); obtain ⟨e0, e1, e2, e3, e4⟩ := hw'; go_simp; try with_reducible rfl
            simp only [Act.put, List.setIfInBounds_toArray, List.set_cons_zero, List.set_cons_succ]
            refine takeY 125 (i := 22) (v := ?v22b) rfl rfl (by kernel_rfl) (by kernel_rfl) (by kernel_rfl) (fun _ _ _ h => h) (by kernel_rfl) ?y22b hs0 ?_
            case y22b =>
              intro w' hw'; (try dsimp only at hw'); obtain ⟨e0, e1, e2, e3, e4⟩ := hw'; go_simp; try with_reducible rfl
            simp only [Act.put, List.setIfInBounds_toArray, List.set_cons_zero, List.set_cons_succ]
            refine wpAnyH_ready (rs := [23]) (by kernel_rfl) (by simp) ?_
            refine AllReadyH.cons rfl (fun K hK => ?_) AllReadyH.nil
            go_simp; go_at_call 15; refine (iIsAbove _ w6.heap.size A n c ps (HP.out.below (HB.out.trans ((Below.refl wr.heap.size wr).drew.mono HB.out.size))) (Nat.le_trans HB.out.size (Below.refl wr.heap.size wr).drew.size) hn5.out x2 y' HWx2.out HWy2.out true ⟨fun _ => HT1.out, fun _ => rfl⟩).mono ?_; rintro e wa ⟨rfl, hbwa⟩; replace hbwa := (Below.refl wr.heap.size wr).drew.trans (hbwa.mono (Below.refl wr.heap.size wr).drew.size)
            refine hK.out _ _ ⟨hbwa, (hbwa.cell (p := ⟨bw, ow + j * 2, none⟩) hl1).trans f1, (hbwa.cell (p := ⟨bw, ow + j * 2 + 1, none⟩) hl2).trans f2, (hbwa.cell (p := ⟨bw, ow + k * 2, none⟩) hl3).trans f3, (hbwa.cell (p := ⟨bw, ow + k * 2 + 1, none⟩) hl4).trans f4⟩ (fun hS1 => ?_)
            clear hK K
            try simp only [Act.put, List.setIfInBounds_toArray, List.set_cons_zero, List.set_cons_succ]
            refine takeY 127 (i := 24) (v := ?v24b) rfl rfl (by kernel_rfl) (by kernel_rfl) (by kernel_rfl) (fun _ _ _ h => h) (by kernel_rfl) ?y24b hS1 ?_
            case y24b =>
              intro w' hw'; (try dsimp only at hw'); obtain ⟨e0, e1, e2, e3, e4⟩ := hw'; go_simp; try with_reducible rfl
            simp only [Act.put, List.setIfInBounds_toArray, List.set_cons_zero, List.set_cons_succ]
            refine takeY 128 (i := 25) (v := ?v25b) rfl rfl (by kernel_rfl) (by kernel_rfl) (by kernel_rfl) (fun _ _ _ h => h) (by kernel_rfl) ?y25b hS1 ?_
            case y25b =>
              intro w' hw'; (try dsimp only at hw'); obtain ⟨e0, e1, e2, e3, e4⟩ := hw'; go_simp; try with_reducible rfl
            simp only [Act.put, List.setIfInBounds_toArray, List.set_cons_zero, List.set_cons_succ]
            refine wpAnyH_done (by kernel_rfl) ?_ _
            have HB' := Lib.hid (HB.out.trans (hbwa.mono HB.out.size))
            clear hbwa f1 f2 f3 f4 hl1 hl2 hl3 hl4 hs0 hS1 HT1 HB
            go_wp2
            go_roundw
            case rel => exact ⟨j + 1, by omega, by go_num, HB'.out⟩
            case measure => simp [intOf]; omega
          · have hb : (x' == y2) = false := by simpa using hxy
            clear hxy
            go_wp2
            have hs0 : Below wr.heap.size wr wr.drew ∧ wr.drew.cell? ⟨bw, ow + j * 2, none⟩ = some (.int .i64 x') ∧ wr.drew.cell? ⟨bw, ow + j * 2 + 1, none⟩ = some (.int .i64 y') ∧ wr.drew.cell? ⟨bw, ow + k * 2, none⟩ = some (.int .i64 x2) ∧ wr.drew.cell? ⟨bw, ow + k * 2 + 1, none⟩ = some (.int .i64 y2) := ⟨(Below.refl _ _).drew, f1, f2, f3, f4⟩
            refine wp_region_held (S := fun w' => Below wr.heap.size wr w' ∧ w'.cell? ⟨bw, ow + j * 2, none⟩ = some (.int .i64 x') ∧ w'.cell? ⟨bw, ow + j * 2 + 1, none⟩ = some (.int .i64 y') ∧ w'.cell? ⟨bw, ow + k * 2, none⟩ = some (.int .i64 x2) ∧ w'.cell? ⟨bw, ow + k * 2 + 1, none⟩ = some (.int .i64 y2)) (by kernel_rfl) ?_
            change wpAnyH _ _ _ _ _ _ _ _ (World.drew _)
            refine takeY 103 (i := 0) (v := ?v0c) rfl rfl (by kernel_rfl) (by kernel_rfl) (by kernel_rfl) (fun _ _ _ h => h) (by kernel_rfl) ?y0c hs0 ?_
            case y0c =>
              intro w' hw'; (try dsimp only at hw'); obtain ⟨e0, e1, e2, e3, e4⟩ := hw'; go_simp; try with_reducible rfl
            simp only [Act.put, List.setIfInBounds_toArray, List.set_cons_zero, List.set_cons_succ]
            refine takeY 104 (i := 1) (v := ?v1c) rfl rfl (by kernel_rfl) (by kernel_rfl) (by kernel_rfl) (fun _ _ _ h => h) (by kernel_rfl) ?y1c hs0 ?_
            case y1c =>
              intro w' hw'; (try dsimp only at hw'); obtain ⟨e0, e1, e2, e3, e4⟩ := hw'; go_simp; try with_reducible rfl
            simp only [Act.put, List.setIfInBounds_toArray, List.set_cons_zero, List.set_cons_succ]
            refine takeY 105 (i := 2) (v := ?v2c) rfl rfl (by kernel_rfl) (by kernel_rfl) (by kernel_rfl) (fun _ _ _ h => h) (by kernel_rfl) ?y2c hs0 ?_
            case y2c =>
              intro w' hw'; (try dsimp only at hw'); obtain ⟨e0, e1, e2, e3, e4⟩ := hw'; go_simp; try with_reducible rfl
            simp only [Act.put, List.setIfInBounds_toArray, List.set_cons_zero, List.set_cons_succ]
            refine takeY 106 (i := 3) (v := ?v3c) rfl rfl (by kernel_rfl) (by kernel_rfl) (by kernel_rfl) (fun _ _ _ h => h) (by kernel_rfl) ?y3c hs0 ?_
            case y3c =>
              intro w' hw'; (try dsimp only at hw'); obtain ⟨e0, e1, e2, e3, e4⟩ := hw'; go_simp; try with_reducible rfl
            simp only [Act.put, List.setIfInBounds_toArray, List.set_cons_zero, List.set_cons_succ]
            refine takeY 107 (i := 4) (v := ?v4c) rfl rfl (by kernel_rfl) (by kernel_rfl) (by kernel_rfl) (fun _ _ _ h => h) (by kernel_rfl) ?y4c hs0 ?_
            case y4c =>
              intro w' hw'; (try dsimp only at hw'); obtain ⟨e0, e1, e2, e3, e4⟩ := hw'; go_simp; try with_reducible rfl
            simp only [Act.put, List.setIfInBounds_toArray, List.set_cons_zero, List.set_cons_succ]
            refine takeY 108 (i := 5) (v := ?v5c) rfl rfl (by kernel_rfl) (by kernel_rfl) (by kernel_rfl) (fun _ _ _ h => h) (by kernel_rfl) ?y5c hs0 ?_
            case y5c =>
              intro w' hw'; (try dsimp only at hw'); obtain ⟨e0, e1, e2, e3, e4⟩ := hw'; go_simp; try with_reducible rfl
            simp only [Act.put, List.setIfInBounds_toArray, List.set_cons_zero, List.set_cons_succ]
            refine takeY 109 (i := 6) (v := ?v6c) rfl rfl (by kernel_rfl) (by kernel_rfl) (by kernel_rfl) (fun _ _ _ h => h) (by kernel_rfl) ?y6c hs0 ?_
            case y6c =>
              intro w' hw'; (try dsimp only at hw'); obtain ⟨e0, e1, e2, e3, e4⟩ := hw'; go_simp; try with_reducible rfl
            simp only [Act.put, List.setIfInBounds_toArray, List.set_cons_zero, List.set_cons_succ]
            refine takeY 110 (i := 7) (v := ?v7c) rfl rfl (by kernel_rfl) (by kernel_rfl) (by kernel_rfl) (fun _ _ _ h => h) (by kernel_rfl) ?y7c hs0 ?_
            case y7c =>
              intro w' hw'; (try dsimp only at hw'); obtain ⟨e0, e1, e2, e3, e4⟩ := hw'; go_simp; try with_reducible rfl
            simp only [Act.put, List.setIfInBounds_toArray, List.set_cons_zero, List.set_cons_succ]
            refine takeY 111 (i := 8) (v := ?v8c) rfl rfl (by kernel_rfl) (by kernel_rfl) (by kernel_rfl) (fun _ _ _ h => h) (by kernel_rfl) ?y8c hs0 ?_
            case y8c =>
              intro w' hw'; (try dsimp only at hw'); obtain ⟨e0, e1, e2, e3, e4⟩ := hw'; go_simp; try with_reducible rfl
            simp only [Act.put, List.setIfInBounds_toArray, List.set_cons_zero, List.set_cons_succ]
            refine takeY 112 (i := 9) (v := ?v9c) rfl rfl (by kernel_rfl) (by kernel_rfl) (by kernel_rfl) (fun _ _ _ h => h) (by kernel_rfl) ?y9c hs0 ?_
            case y9c =>
              intro w' hw'; (try dsimp only at hw'); obtain ⟨e0, e1, e2, e3, e4⟩ := hw'; go_simp; try with_reducible rfl
            simp only [Act.put, List.setIfInBounds_toArray, List.set_cons_zero, List.set_cons_succ]
            refine takeY 113 (i := 10) (v := ?v10c) rfl rfl (by kernel_rfl) (by kernel_rfl) (by kernel_rfl) (fun _ _ _ h => h) (by kernel_rfl) ?y10c hs0 ?_
            case y10c =>
              intro w' hw'; (try dsimp only at hw'); obtain ⟨e0, e1, e2, e3, e4⟩ := hw'; go_simp; try with_reducible rfl
            simp only [Act.put, List.setIfInBounds_toArray, List.set_cons_zero, List.set_cons_succ]
            refine takeY 114 (i := 11) (v := ?v11c) rfl rfl (by kernel_rfl) (by kernel_rfl) (by kernel_rfl) (fun _ _ _ h => h) (by kernel_rfl) ?y11c hs0 ?_
            case y11c =>
              intro w' hw'; (try dsimp only at hw'); obtain ⟨e0, e1, e2, e3, e4⟩ := hw'; go_simp; try with_reducible rfl
            simp only [Act.put, List.setIfInBounds_toArray, List.set_cons_zero, List.set_cons_succ]
            refine takeU 115 (i := 12) rfl rfl (by kernel_rfl) (by kernel_rfl) (by kernel_rfl) (fun _ _ _ h => h) (by kernel_rfl) hs0 ?_
            simp only [Act.put, List.setIfInBounds_toArray, List.set_cons_zero, List.set_cons_succ]
            refine takeU 116 (i := 13) rfl rfl (by kernel_rfl) (by kernel_rfl) (by kernel_rfl) (fun _ _ _ h => h) (by kernel_rfl) hs0 ?_
            simp only [Act.put, List.setIfInBounds_toArray, List.set_cons_zero, List.set_cons_succ]
            refine takeU 117 (i := 14) rfl rfl (by kernel_rfl) (by kernel_rfl) (by kernel_rfl) (fun _ _ _ h => h) (by kernel_rfl) hs0 ?_
            simp only [Act.put, List.setIfInBounds_toArray, List.set_cons_zero, List.set_cons_succ]
            refine takeU 118 (i := 15) rfl rfl (by kernel_rfl) (by kernel_rfl) (by kernel_rfl) (fun _ _ _ h => h) (by kernel_rfl) hs0 ?_
            simp only [Act.put, List.setIfInBounds_toArray, List.set_cons_zero, List.set_cons_succ]
            refine takeU 119 (i := 16) rfl rfl (by kernel_rfl) (by kernel_rfl) (by kernel_rfl) (fun _ _ _ h => h) (by kernel_rfl) hs0 ?_
            simp only [Act.put, List.setIfInBounds_toArray, List.set_cons_zero, List.set_cons_succ]
            refine takeU 120 (i := 17) rfl rfl (by kernel_rfl) (by kernel_rfl) (by kernel_rfl) (fun _ _ _ h => h) (by kernel_rfl) hs0 ?_
            simp only [Act.put, List.setIfInBounds_toArray, List.set_cons_zero, List.set_cons_succ]
            refine takeU 121 (i := 18) rfl rfl (by kernel_rfl) (by kernel_rfl) (by kernel_rfl) (fun _ _ _ h => h) (by kernel_rfl) hs0 ?_
            simp only [Act.put, List.setIfInBounds_toArray, List.set_cons_zero, List.set_cons_succ]
            refine takeU 122 (i := 19) rfl rfl (by kernel_rfl) (by kernel_rfl) (by kernel_rfl) (fun _ _ _ h => h) (by kernel_rfl) hs0 ?_
            simp only [Act.put, List.setIfInBounds_toArray, List.set_cons_zero, List.set_cons_succ]
            refine takeU 123 (i := 20) rfl rfl (by kernel_rfl) (by kernel_rfl) (by kernel_rfl) (fun _ _ _ h => h) (by kernel_rfl) hs0 ?_
            simp only [Act.put, List.setIfInBounds_toArray, List.set_cons_zero, List.set_cons_succ]
            refine takeU 124 (i := 21) rfl rfl (by kernel_rfl) (by kernel_rfl) (by kernel_rfl) (fun _ _ _ h => h) (by kernel_rfl) hs0 ?_
            simp only [Act.put, List.setIfInBounds_toArray, List.set_cons_zero, List.set_cons_succ]
            refine takeU 125 (i := 22) rfl rfl (by kernel_rfl) (by kernel_rfl) (by kernel_rfl) (fun _ _ _ h => h) (by kernel_rfl) hs0 ?_
            simp only [Act.put, List.setIfInBounds_toArray, List.set_cons_zero, List.set_cons_succ]
            refine takeU 126 (i := 23) rfl rfl (by kernel_rfl) (by kernel_rfl) (by kernel_rfl) (fun _ _ _ h => h) (by kernel_rfl) hs0 ?_
            simp only [Act.put, List.setIfInBounds_toArray, List.set_cons_zero, List.set_cons_succ]
            refine takeU 127 (i := 24) rfl rfl (by kernel_rfl) (by kernel_rfl) (by kernel_rfl) (fun _ _ _ h => h) (by kernel_rfl) hs0 ?_
            simp only [Act.put, List.setIfInBounds_toArray, List.set_cons_zero, List.set_cons_succ]
            refine takeY 128 (i := 25) (v := ?v25c) rfl rfl (by kernel_rfl) (by kernel_rfl) (by kernel_rfl) (fun _ _ _ h => h) (by kernel_rfl) ?y25c hs0 ?_
            case y25c =>
              intro w' hw'; (try dsimp only at hw'); obtain ⟨e0, e1, e2, e3, e4⟩ := hw'; go_simp; try with_reducible rfl
            simp only [Act.put, List.setIfInBounds_toArray, List.set_cons_zero, List.set_cons_succ]
            refine wpAnyH_done (by kernel_rfl) ?_ _
            have HB' : Hid (Below w6.heap.size w6 wr.drew) := Lib.hid HB.out.drew
            clear f1 f2 f3 f4 hl1 hl2 hl3 hl4 hs0 HB
            go_wp2
            go_roundw
            case rel => exact ⟨j + 1, by omega, by go_num, HB'.out⟩
            case measure => simp [intOf]; omega
        · obtain rfl : j = N := by omega
          go_wp2
          go_roundw
          case rel => exact ⟨k + 1, by omega, by go_num, HB.out⟩
          case measure => simp [intOf]; omega
    · obtain rfl : k = N := by omega
      clear HX HW hN hNN hqq
      go_wp2_with fail
      refine (iLinearize wr w6.heap.size A n c ps (HP.out.below HB.out) HB.out.size hn5.out q HQ.out).mono ?_
      rintro e w7 ⟨⟨v, out, rfl, ho, hlin⟩, hb7⟩
      obtain ⟨Ao, no, co, rfl, hio⟩ := ho.ints
      have HL := Lib.hid hlin
      have HI7 := Lib.hid hio
      have HB7 := Lib.hid (HB.out.trans (hb7.mono HB.out.size))
      clear ho hlin hio hb7 HB
      go_wp2_with fail
      refine (sLinearize w7 w6.heap.size A n c ps (HP.out.below HB7.out) HB7.out.size hn5.out q HQ.out).mono ?_
      rintro e w8 ⟨⟨v, out', rfl, ho, hlin⟩, hb8⟩
      obtain rfl := HL.out.one hlin
      obtain ⟨As, ns, cs, rfl, his⟩ := ho.ints
      have HI8 := Lib.hid ((HI7.out.below hb8).more hb8.size)
      have HS8 := Lib.hid his
      have HB8 := Lib.hid (HB7.out.trans (hb8.mono HB7.out.size))
      have hno : no ≤ 1048576 := by rw [← HI7.out.1]; exact HL.out.small
      clear ho hlin his hb8 HI7 HB7
      go_wp2_with fail
      refine (sameInts_b w8 w8.heap.size Ao As no ns co cs out out HI8.out HS8.out hno true (by simp)).mono ?_
      rintro e w9 ⟨rfl, hb9⟩
      have HI := Lib.hid ((HI8.out.below hb9).more hb9.size)
      have HB9 := Lib.hid (HB8.out.trans (hb9.mono HB8.out.size))
      clear hb9 HI8 HS8 HB8
      go_wp2
      go_loopw [9] (fun i wr => ∃ k : Nat, k ≤ no ∧ i = .int .i64 k ∧ Below w9.heap.size w9 wr) (fun i _ => no - (intOf i).toNat)
      case atStart => exact ⟨0, Nat.zero_le _, rfl, Below.refl _ _⟩
      case round =>
        obtain ⟨k, hk, rfl, hbel⟩ := hrel
        have HB := Lib.hid hbel
        clear hbel
        by_cases hlt : k < no
        · have hd : decide ((k : Int) < (no : Int)) = true := by simp; omega
          go_wp2
          clear hd
          go_loopw [10] (fun i wr => ∃ j : Nat, j ≤ k ∧ i = .int .i64 j ∧ Below w9.heap.size w9 wr) (fun i _ => k - (intOf i).toNat)
          case atStart => exact ⟨0, Nat.zero_le _, rfl, HB.out⟩
          case round =>
            clear HB
            obtain ⟨j, hj, rfl, hbel⟩ := hrel
            have HB := Lib.hid hbel
            clear hbel
            by_cases hjt : j < k
            · obtain ⟨bo, oo, xo, rfl, hbo, hat1, hc1⟩ := HI.out.get j (by omega)
              obtain ⟨bo', oo', yo, he, _, hat2, hc2⟩ := HI.out.get k hlt
              obtain ⟨rfl, rfl⟩ : bo = bo' ∧ oo = oo' := by injection he with h; injection h with h1 h2; exact ⟨h1, h2⟩
              obtain ⟨hne, hnr⟩ := lin_at HQ.out HL.out hjt hat1 hat2
              have HT1 := Lib.hid hnr
              have hb : (xo == yo) = false := by simpa using hne
              have hl1 : bo < wr.heap.size := Nat.lt_of_lt_of_le hbo HB.out.size
              have hl2 := hl1
              have f1 := (HB.out.cell (p := ⟨bo, oo + j, none⟩) hbo).trans hc1
              have f2 := (HB.out.cell (p := ⟨bo, oo + k, none⟩) hbo).trans hc2
              have HPr := Lib.hid ((HP.out.below HB9.out).below (HB.out.mono HB9.out.size))
              have hszr := Lib.hid (Nat.le_trans HB9.out.size HB.out.size)
              have hjt' : (j : Int) < (k : Int) := by omega
              have hjn : (j : Int) < (no : Int) := by omega
              have hkn : (k : Int) < (no : Int) := by omega
              clear hat1 hat2 hne hnr hc1 hc2 he
              go_wp2
              have hs0 : Below wr.heap.size wr wr.drew ∧ wr.drew.cell? ⟨bo, oo + j, none⟩ = some (.int .i64 xo) ∧ wr.drew.cell? ⟨bo, oo + k, none⟩ = some (.int .i64 yo) := ⟨(Below.refl _ _).drew, f1, f2⟩
              refine wp_region_held (S := fun w' => Below wr.heap.size wr w' ∧ w'.cell? ⟨bo, oo + j, none⟩ = some (.int .i64 xo) ∧ w'.cell? ⟨bo, oo + k, none⟩ = some (.int .i64 yo)) (by kernel_rfl) ?_
              change wpAnyH _ _ _ _ _ _ _ _ (World.drew _)
              refine takeY 147 (i := 0) (v := ?v0d) rfl rfl (by kernel_rfl) (by kernel_rfl) (by kernel_rfl) (fun _ _ _ h => h) (by kernel_rfl) ?y0d hs0 ?_
              case y0d =>
                intro w' hw'; (try dsimp only at hw'); obtain ⟨e0, e1, e2⟩ := hw'; go_simp; try with_reducible rfl
              simp only [Act.put, List.setIfInBounds_toArray, List.set_cons_zero, List.set_cons_succ]
              refine takeY 148 (i := 1) (v := ?v1d) rfl rfl (by kernel_rfl) (by kernel_rfl) (by kernel_rfl) (fun _ _ _ h => h) (by kernel_rfl) ?y1d hs0 ?_
              case y1d =>
                intro w' hw'; (try dsimp only at hw'); obtain ⟨e0, e1, e2⟩ := hw'; go_simp; try with_reducible rfl
              simp only [Act.put, List.setIfInBounds_toArray, List.set_cons_zero, List.set_cons_succ]
              refine takeY 149 (i := 2) (v := ?v2d) rfl rfl (by kernel_rfl) (by kernel_rfl) (by kernel_rfl) (fun _ _ _ h => h) (by kernel_rfl) ?y2d hs0 ?_
              case y2d =>
                intro w' hw'; (try dsimp only at hw'); obtain ⟨e0, e1, e2⟩ := hw'; go_simp; try with_reducible rfl
              simp only [Act.put, List.setIfInBounds_toArray, List.set_cons_zero, List.set_cons_succ]
              refine takeY 150 (i := 3) (v := ?v3d) rfl rfl (by kernel_rfl) (by kernel_rfl) (by kernel_rfl) (fun _ _ _ h => h) (by kernel_rfl) ?y3d hs0 ?_
              case y3d =>
                intro w' hw'; (try dsimp only at hw'); obtain ⟨e0, e1, e2⟩ := hw'; go_simp; try with_reducible rfl
              simp only [Act.put, List.setIfInBounds_toArray, List.set_cons_zero, List.set_cons_succ]
              refine takeY 151 (i := 4) (v := ?v4d) rfl rfl (by kernel_rfl) (by kernel_rfl) (by kernel_rfl) (fun _ _ _ h => h) (by kernel_rfl) ?y4d hs0 ?_
              case y4d =>
                intro w' hw'; (try dsimp only at hw'); obtain ⟨e0, e1, e2⟩ := hw'; go_simp; try with_reducible rfl
              simp only [Act.put, List.setIfInBounds_toArray, List.set_cons_zero, List.set_cons_succ]
              refine takeY 152 (i := 5) (v := ?v5d) rfl rfl (by kernel_rfl) (by kernel_rfl) (by kernel_rfl) (fun _ _ _ h => h) (by kernel_rfl) ?y5d hs0 ?_
              case y5d =>
                intro w' hw'; (try dsimp only at hw'); obtain ⟨e0, e1, e2⟩ := hw'; go_simp; try with_reducible rfl
              simp only [Act.put, List.setIfInBounds_toArray, List.set_cons_zero, List.set_cons_succ]
              refine takeY 153 (i := 6) (v := ?v6d) rfl rfl (by kernel_rfl) (by kernel_rfl) (by kernel_rfl) (fun _ _ _ h => h) (by kernel_rfl) ?y6d hs0 ?_
              case y6d =>
                intro w' hw'; (try dsimp only at hw'); obtain ⟨e0, e1, e2⟩ := hw'; go_simp; try with_reducible rfl
              simp only [Act.put, List.setIfInBounds_toArray, List.set_cons_zero, List.set_cons_succ]
              refine takeY 154 (i := 7) (v := ?v7d) rfl rfl (by kernel_rfl) (by kernel_rfl) (by kernel_rfl) (fun _ _ _ h => h) (by kernel_rfl) ?y7d hs0 ?_
              case y7d =>
                intro w' hw'; (try dsimp only at hw'); obtain ⟨e0, e1, e2⟩ := hw'; go_simp; try with_reducible rfl
              simp only [Act.put, List.setIfInBounds_toArray, List.set_cons_zero, List.set_cons_succ]
              refine takeY 155 (i := 8) (v := ?v8d) rfl rfl (by kernel_rfl) (by kernel_rfl) (by kernel_rfl) (fun _ _ _ h => h) (by kernel_rfl) ?y8d hs0 ?_
              case y8d =>
                intro w' hw'; (try dsimp only at hw'); obtain ⟨e0, e1, e2⟩ := hw'; go_simp; try with_reducible rfl
              simp only [Act.put, List.setIfInBounds_toArray, List.set_cons_zero, List.set_cons_succ]
              refine takeY 156 (i := 9) (v := ?v9d) rfl rfl (by kernel_rfl) (by kernel_rfl) (by kernel_rfl) (fun _ _ _ h => h) (by kernel_rfl) ?y9d hs0 ?_
              case y9d =>
                intro w' hw'; (try dsimp only at hw'); obtain ⟨e0, e1, e2⟩ := hw'; go_simp; try with_reducible rfl
              simp only [Act.put, List.setIfInBounds_toArray, List.set_cons_zero, List.set_cons_succ]
              refine takeY 157 (i := 10) (v := ?v10d) rfl rfl (by kernel_rfl) (by kernel_rfl) (by kernel_rfl) (fun _ _ _ h => h) (by kernel_rfl) ?y10d hs0 ?_
              case y10d =>
                intro w' hw'; (try dsimp only at hw'); obtain ⟨e0, e1, e2⟩ := hw'; go_simp; try with_reducible rfl
              simp only [Act.put, List.setIfInBounds_toArray, List.set_cons_zero, List.set_cons_succ]
              refine takeY 158 (i := 11) (v := ?v11d) rfl rfl (by kernel_rfl) (by kernel_rfl) (by kernel_rfl) (fun _ _ _ h => h) (by kernel_rfl) ?y11d hs0 ?_
              case y11d =>
                intro w' hw'; (try dsimp only at hw'); obtain ⟨e0, e1, e2⟩ := hw'; go_simp; try with_reducible rfl
              simp only [Act.put, List.setIfInBounds_toArray, List.set_cons_zero, List.set_cons_succ]
              refine takeY 159 (i := 12) (v := ?v12d) rfl rfl (by kernel_rfl) (by kernel_rfl) (by kernel_rfl) (fun _ _ _ h => h) (by kernel_rfl) ?y12d hs0 ?_
              case y12d =>
                intro w' hw'; (try dsimp only at hw'); obtain ⟨e0, e1, e2⟩ := hw'; go_simp; try with_reducible rfl
              simp only [Act.put, List.setIfInBounds_toArray, List.set_cons_zero, List.set_cons_succ]
              refine takeY 160 (i := 13) (v := ?v13d) rfl rfl (by kernel_rfl) (by kernel_rfl) (by kernel_rfl) (fun _ _ _ h => h) (by kernel_rfl) ?y13d hs0 ?_
              case y13d =>
                intro w' hw'; (try dsimp only at hw'); obtain ⟨e0, e1, e2⟩ := hw'; go_simp; try with_reducible rfl
              simp only [Act.put, List.setIfInBounds_toArray, List.set_cons_zero, List.set_cons_succ]
              refine takeY 161 (i := 14) (v := ?v14d) rfl rfl (by kernel_rfl) (by kernel_rfl) (by kernel_rfl) (fun _ _ _ h => h) (by kernel_rfl) ?y14d hs0 ?_
              case y14d =>
                intro w' hw'; (try dsimp only at hw'); obtain ⟨e0, e1, e2⟩ := hw'; go_simp; try with_reducible rfl
              simp only [Act.put, List.setIfInBounds_toArray, List.set_cons_zero, List.set_cons_succ]
              refine takeY 162 (i := 15) (v := ?v15d) rfl rfl (by kernel_rfl) (by kernel_rfl) (by kernel_rfl) (fun _ _ _ h => h) (by kernel_rfl) ?y15d hs0 ?_
              case y15d =>
                intro w' hw'; (try dsimp only at hw'); obtain ⟨e0, e1, e2⟩ := hw'; go_simp; try with_reducible rfl
              simp only [Act.put, List.setIfInBounds_toArray, List.set_cons_zero, List.set_cons_succ]
              refine takeY 163 (i := 16) (v := ?v16d) rfl rfl (by kernel_rfl) (by kernel_rfl) (by kernel_rfl) (fun _ _ _ h => h) (by kernel_rfl) ?y16d hs0 ?_
              case y16d =>
                intro w' hw'; (try dsimp only at hw'); obtain ⟨e0, e1, e2⟩ := hw'; go_simp; try with_reducible rfl
              simp only [Act.put, List.setIfInBounds_toArray, List.set_cons_zero, List.set_cons_succ]
              refine takeY 164 (i := 17) (v := ?v17d) rfl rfl (by kernel_rfl) (by kernel_rfl) (by kernel_rfl) (fun _ _ _ h => h) (by kernel_rfl) ?y17d hs0 ?_
              case y17d =>
                intro w' hw'; (try dsimp only at hw'); obtain ⟨e0, e1, e2⟩ := hw'; go_simp; try with_reducible rfl
              simp only [Act.put, List.setIfInBounds_toArray, List.set_cons_zero, List.set_cons_succ]
              refine takeY 165 (i := 18) (v := ?v18d) rfl rfl (by kernel_rfl) (by kernel_rfl) (by kernel_rfl) (fun _ _ _ h => h) (by kernel_rfl) ?y18d hs0 ?_
              case y18d =>
                intro w' hw'; (try dsimp only at hw'); obtain ⟨e0, e1, e2⟩ := hw'; go_simp; try with_reducible rfl
              simp only [Act.put, List.setIfInBounds_toArray, List.set_cons_zero, List.set_cons_succ]
              refine wpAnyH_ready (rs := [19]) (by kernel_rfl) (by simp) ?_
              refine AllReadyH.cons rfl (fun K hK => ?_) AllReadyH.nil
              go_simp; go_at_call 20; refine (sIsAbove _ w6.heap.size A n c ps (HPr.out.below ((Below.refl wr.heap.size wr).drew.mono hszr.out)) hszr.out hn5.out yo xo false ⟨fun h => (by cases h), fun h => (HT1.out h.2).elim⟩).mono ?_; rintro e wa ⟨rfl, hbwa⟩; replace hbwa := (Below.refl wr.heap.size wr).drew.trans (hbwa.mono (Below.refl wr.heap.size wr).drew.size)
              refine hK.out _ _ ⟨hbwa, (hbwa.cell (p := ⟨bo, oo + j, none⟩) hl1).trans f1, (hbwa.cell (p := ⟨bo, oo + k, none⟩) hl2).trans f2⟩ (fun hS1 => ?_)
              clear hK K
              try simp only [Act.put, List.setIfInBounds_toArray, List.set_cons_zero, List.set_cons_succ]
              refine takeY 167 (i := 20) (v := ?v20d) rfl rfl (by kernel_rfl) (by kernel_rfl) (by kernel_rfl) (fun _ _ _ h => h) (by kernel_rfl) ?y20d hS1 ?_
              case y20d =>
                intro w' hw'; (try dsimp only at hw'); obtain ⟨e0, e1, e2⟩ := hw'; go_simp; try with_reducible rfl
              simp only [Act.put, List.setIfInBounds_toArray, List.set_cons_zero, List.set_cons_succ]
              refine wpAnyH_done (by kernel_rfl) ?_ _
              have HB' := Lib.hid (HB.out.trans (hbwa.mono HB.out.size))
              clear hbwa f1 f2 hl1 hl2 hs0 hS1 HT1 HB
              go_wp2
              go_roundw
              case rel => exact ⟨j + 1, by omega, by go_num, HB'.out⟩
              case measure => simp [intOf]; omega
            · obtain rfl : j = k := by omega
              go_wp2
              go_roundw
              case rel => exact ⟨j + 1, by omega, by go_num, HB.out⟩
              case measure => simp [intOf]; omega
        · obtain rfl : k = no := by omega
          have hRr : Row wr wr.heap.size a len := fun i hi => by
            obtain ⟨b, off, z, h1, h2, h3, h4⟩ := HRw.out i hi
            have hb6 : b < w9.heap.size := Nat.lt_of_lt_of_le h2 HB9.out.size
            exact ⟨b, off, z, h1, Nat.lt_of_lt_of_le hb6 HB.out.size, (HB.out.cell (p := ⟨b, off + i, none⟩) hb6).trans ((HB9.out.cell (p := ⟨b, off + i, none⟩) h2).trans h3), h4⟩
          have HBr := Lib.hid ((HBw.out.trans (HB9.out.mono HBw.out.size)).trans (HB.out.mono (Nat.le_trans HBw.out.size HB9.out.size)))
          have HPr := Lib.hid ((HP.out.below HB9.out).below (HB.out.mono HB9.out.size))
          have hszr := Lib.hid (Nat.le_trans HB9.out.size HB.out.size)
          have hRr' := Lib.hid hRr
          have hlo : Hid (((k : Int) == 10) = q) := Lib.hid (by
            have h := HI.out.1
            cases q
            · rw [HL.out.2 rfl] at h
              subst h; rfl
            · have := (HL.out.1 rfl).len
              have : k = 10 := by omega
              subst this; rfl)
          clear HB HP HI HL HB9 HBw HRw hRr
          go_wp2_with fail
          refine (draw_above wr a len cap hlen hRr'.out).mono ?_
          rintro e w10 ⟨v, ps1, x, y, rfl, hdr, hx0, hx1, hy0, hy1⟩
          obtain ⟨A1, n1, c1, rfl, hp1⟩ := hdr.1.pairs
          have hn1 : Hid (n1 ≤ 1048576) := Lib.hid (by have := hp1.1; have := hdr.2.1; omega)
          have HP1 := Lib.hid hp1
          have HT10 := Lib.hid hdr.2.2
          clear hdr hp1
          go_wp2_with fail
          refine (draw_height w10 a len cap hlen (fun i hi => by
            obtain ⟨b, off, z, h1, h2, h3, h4⟩ := hRr'.out i hi
            exact ⟨b, off, z, h1, Nat.lt_of_lt_of_le h2 HT10.out.size, (HT10.out.cell (p := ⟨b, off + i, none⟩) h2).trans h3, h4⟩)).mono ?_
          rintro e w11 ⟨v, ps2, u, rfl, hdr, hu0, hu1⟩
          obtain ⟨A2, n2, c2, rfl, hp2⟩ := hdr.1.pairs
          have hn2 : Hid (n2 ≤ 1048576) := Lib.hid (by have := hp2.1; have := hdr.2.1; omega)
          have HP2 := Lib.hid hp2
          have HP1' := Lib.hid ((HP1.out.below hdr.2.2).more hdr.2.2.size)
          have HT11 := Lib.hid (HT10.out.trans (hdr.2.2.mono HT10.out.size))
          clear hdr hp2 HP1 HT10
          have HWx := Lib.hid (WalkArith.wf_i64 (n := x) (by omega))
          have HWy := Lib.hid (WalkArith.wf_i64 (n := y) (by omega))
          obtain ⟨q1, hq1⟩ := bool_of (OkP ps1 ∧ Reach ps1 x y)
          obtain ⟨q2, hq2⟩ := bool_of (OkP ps2 ∧ InR u)
          have HQ1 := Lib.hid hq1
          have HQ2 := Lib.hid hq2
          obtain ⟨z, hz⟩ : ∃ z : Int, z = htOf ps2 u q2 := ⟨_, rfl⟩
          have HZ := Lib.hid hz
          have hlo' : ((k : Int) == 10) = q := hlo.out
          clear hq1 hq2 hz
          go_wp2_with fail
          refine (sArePairs w11 w6.heap.size A n c ps (HPr.out.below (HT11.out.mono hszr.out)) (Nat.le_trans hszr.out HT11.out.size) hn5.out q HQ.out).mono ?_
          rintro e w12 ⟨rfl, hb12⟩
          have hqe : (q == q) = true := by simp
          have hq1e : (q1 == q1) = true := by simp
          have hze : (z == z) = true := by simp
          have HT12 := Lib.hid hb12
          clear hb12
          go_wp2_with fail
          refine (iIsAbove w12 w11.heap.size A1 n1 c1 ps1 (HP1'.out.below HT12.out) HT12.out.size hn1.out x y HWx.out HWy.out q1 HQ1.out).mono ?_
          rintro e w13 ⟨rfl, hb13⟩
          have HT13 := Lib.hid (HT12.out.trans (hb13.mono HT12.out.size))
          clear hb13 HT12
          go_wp2_with fail
          refine (sIsAbove w13 w11.heap.size A1 n1 c1 ps1 (HP1'.out.below HT13.out) HT13.out.size hn1.out x y q1 HQ1.out).mono ?_
          rintro e w14 ⟨rfl, hb14⟩
          have HT14 := Lib.hid (HT13.out.trans (hb14.mono HT13.out.size))
          clear hb14 HT13
          go_wp2_with fail
          refine (iHeightOf w14 w11.heap.size A2 n2 c2 ps2 (HP2.out.below HT14.out) HT14.out.size hn2.out u q2 HQ2.out).mono ?_
          rintro e w15 ⟨rfl, hb15⟩
          rw [← HZ.out]
          have HT15 := Lib.hid (HT14.out.trans (hb15.mono HT14.out.size))
          clear hb15 HT14
          go_wp2_with fail
          refine (sHeightOf w15 w11.heap.size A2 n2 c2 ps2 (HP2.out.below HT15.out) HT15.out.size hn2.out u q2 HQ2.out).mono ?_
          rintro e w16 ⟨rfl, hb16⟩
          rw [← HZ.out]
          have HT16 := Lib.hid (HT15.out.trans (hb16.mono HT15.out.size))
          clear hb16 HT15
          have HBf := Lib.hid (HBr.out.trans ((HT11.out.trans (HT16.out.mono HT11.out.size)).mono HBr.out.size))
          go_wp2
          go_ret
          exact ⟨rfl, HBf.out⟩
end Go.Proofs.Ytddpfnidnkhfpaa.num
