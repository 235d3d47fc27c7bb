/-
  Wishes and expressions compared, by the model and by the program: contracts.
-/
import Derived.Test.YtaijajajpnekbaaGreatExpSpec
import Derived.Test.YtaijajajpnekbaaGreatItemEqs
import Derived.Test.YtaijajajpnekbaaGreatPairEq
import Derived.Test.YtaijajajpnekbaaGreatRegion
namespace Go.Proofs.YtaijajajpnekbaaGreat.num
set_option maxRecDepth 20000
open Go.RowKit
set_option linter.unusedVariables false
set_option linter.unusedSimpArgs false

set_option maxRecDepth 20000 in
theorem pair_neq (w : World) (x1 y1 x2 y2 : Int) : (binOp .neq 79 (.agg #[.int .i64 x1, .int .i64 y1]) (.agg #[.int .i64 x2, .int .i64 y2])).run Tryz.prog w = .ok (.bool (!(x1 == x2 && y1 == y2))) w := by
  have hu := Tryz.underlying79
  by_cases h1 : x1 = x2
  · go_simp
    by_cases h2 : y1 = y2 <;> simp [h1, h2]
  · go_simp

set_option maxRecDepth 20000 in
theorem sl5Pairs (w : World) (B : Nat) (A A' : Option Addr) (n n' c c' : Nat) (ps qs : List (Int × Int)) (h1 : Pairs w B A n ps) (h2 : Pairs w B A' n' qs) (hn : n ≤ 1048576) (b : Bool) (hb : b = true ↔ ps = qs) :
    Calls Tryz.prog 54 #[.slice A n c, .slice A' n' c'] w fun e w' => e = .returned (.bool b) ∧ ∃ m, w' = w.drewN m := by
  have HX := Lib.hid h1
  have HY := Lib.hid h2
  by_cases hl : n = n'
  · subst hl
    have HBo := Lib.hid hb
    clear h1 h2 hb
    go_enter Tryz.func54, Tryz.ntmps54
    go_wp2
    go_loopw [5] (fun i wr => ∃ k : Nat, k ≤ n ∧ i = .int .i64 k ∧ ps.take k = qs.take k ∧ ∃ m, wr = w.drewN m) (fun i _ => n - (intOf i).toNat)
    case atStart => exact ⟨0, Nat.zero_le _, rfl, rfl, 0, rfl⟩
    case round =>
      obtain ⟨k, hk, rfl, htake, m, rfl⟩ := hrel
      have HT := Lib.hid htake
      clear htake
      by_cases hlt : k < n
      · obtain ⟨b1, off1, x1, y1, rfl, hb1, hat1, hc1, hd1⟩ := HX.out.at k hlt
        obtain ⟨b2, off2, x2, y2, rfl, hb2, hat2, hc2, hd2⟩ := HY.out.at k hlt
        have HA1 := Lib.hid hat1
        have HA2 := Lib.hid hat2
        have hlt' : (k : Int) < (n : Int) := by omega
        obtain ⟨q, hq⟩ : ∃ q : Bool, q = true ↔ (x1, y1) = (x2, y2) := bool_of _
        have HQ := Lib.hid hq
        have hne : ∀ w1, (binOp .neq 79 (.agg #[.int .i64 x1, .int .i64 y1]) (.agg #[.int .i64 x2, .int .i64 y2])).run Tryz.prog w1 = .ok (.bool (!q)) w1 := fun w1 => by
          rw [pair_neq]
          congr 2
          cases q
          · have : (x1 == x2 && y1 == y2) = false := by
              cases h : (x1 == x2 && y1 == y2)
              · rfl
              · simp at h; exact absurd (HQ.out.2 (by rw [h.1, h.2])) (by simp)
            rw [this]
          · have h := Prod.mk.inj (HQ.out.1 rfl)
            rw [h.1, h.2]; simp
        clear hat1 hat2 hq
        cases q
        · have HF := Lib.hid (ne_atP HA1.out HA2.out (fun e => by have := HQ.out.2 e; cases this))
          obtain rfl : b = false := by
            cases b
            · rfl
            · exact absurd (HBo.out.1 rfl) HF.out
          go_wp2
          go_quiet (fail)
          go_wp2
          go_ret
          exact ⟨rfl, _, World.drewN_drewN _ _ _⟩
        · have HD := Lib.hid (HQ.out.1 rfl)
          go_wp2
          go_quiet (fail)
          go_wp2
          go_roundw
          case rel => exact ⟨k + 1, by omega, by go_num, by rw [ptake_at HA1.out, ptake_at HA2.out, HT.out, HD.out], _, rfl⟩
          case measure => simp [intOf]; omega
      · obtain rfl : k = n := by omega
        obtain rfl : b = true := HBo.out.2 (by have := HT.out; rwa [ptake_all HX.out.1, ptake_all HY.out.1] at this)
        go_wp2
        go_ret
        exact ⟨rfl, _, rfl⟩
  · obtain rfl : b = false := by
      cases b
      · rfl
      · exact absurd (by rw [← h1.1, hb.1 rfl, h2.1]) hl
    clear h1 h2 hb
    go_enter Tryz.func54, Tryz.ntmps54
    go_wp2
    go_ret
    exact ⟨rfl, 0, rfl⟩

set_option maxRecDepth 20000 in
theorem slEqualP (w : World) (B : Nat) (A A' : Option Addr) (n n' c c' : Nat) (ps qs : List (Int × Int)) (h1 : Pairs w B A n ps) (h2 : Pairs w B A' n' qs) (hn : n ≤ 1048576) (b : Bool) (hb : b = true ↔ ps = qs) :
    Calls Tryz.prog 89 #[.slice A n c, .slice A' n' c'] w fun e w' => e = .returned (.bool b) ∧ ∃ m, w' = w.drewN m := by
  have HX := Lib.hid h1
  have HY := Lib.hid h2
  by_cases hl : n = n'
  · subst hl
    have HBo := Lib.hid hb
    clear h1 h2 hb
    go_enter Tryz.func89, Tryz.ntmps89
    go_wp2
    go_loopw [13] (fun i wr => ∃ k : Nat, k ≤ n ∧ i = .int .i64 k ∧ ps.take k = qs.take k ∧ ∃ m, wr = w.drewN m) (fun i _ => n - (intOf i).toNat)
    case atStart => exact ⟨0, Nat.zero_le _, rfl, rfl, 0, rfl⟩
    case round =>
      obtain ⟨k, hk, rfl, htake, m, rfl⟩ := hrel
      have HT := Lib.hid htake
      clear htake
      by_cases hlt : k < n
      · obtain ⟨b1, off1, x1, y1, rfl, hb1, hat1, hc1, hd1⟩ := HX.out.at k hlt
        obtain ⟨b2, off2, x2, y2, rfl, hb2, hat2, hc2, hd2⟩ := HY.out.at k hlt
        have HA1 := Lib.hid hat1
        have HA2 := Lib.hid hat2
        have hlt' : (k : Int) < (n : Int) := by omega
        obtain ⟨q, hq⟩ : ∃ q : Bool, q = true ↔ (x1, y1) = (x2, y2) := bool_of _
        have HQ := Lib.hid hq
        have hne : ∀ w1, (binOp .neq 79 (.agg #[.int .i64 x1, .int .i64 y1]) (.agg #[.int .i64 x2, .int .i64 y2])).run Tryz.prog w1 = .ok (.bool (!q)) w1 := fun w1 => by
          rw [pair_neq]
          congr 2
          cases q
          · have : (x1 == x2 && y1 == y2) = false := by
              cases h : (x1 == x2 && y1 == y2)
              · rfl
              · simp at h; exact absurd (HQ.out.2 (by rw [h.1, h.2])) (by simp)
            rw [this]
          · have h := Prod.mk.inj (HQ.out.1 rfl)
            rw [h.1, h.2]; simp
        clear hat1 hat2 hq
        cases q
        · have HF := Lib.hid (ne_atP HA1.out HA2.out (fun e => by have := HQ.out.2 e; cases this))
          obtain rfl : b = false := by
            cases b
            · rfl
            · exact absurd (HBo.out.1 rfl) HF.out
          go_wp2
          go_quiet (fail)
          go_wp2
          go_ret
          exact ⟨rfl, _, World.drewN_drewN _ _ _⟩
        · have HD := Lib.hid (HQ.out.1 rfl)
          go_wp2
          go_quiet (fail)
          go_wp2
          go_roundw
          case rel => exact ⟨k + 1, by omega, by go_num, by rw [ptake_at HA1.out, ptake_at HA2.out, HT.out, HD.out], _, rfl⟩
          case measure => simp [intOf]; omega
      · obtain rfl : k = n := by omega
        obtain rfl : b = true := HBo.out.2 (by have := HT.out; rwa [ptake_all HX.out.1, ptake_all HY.out.1] at this)
        go_wp2
        go_ret
        exact ⟨rfl, _, rfl⟩
  · obtain rfl : b = false := by
      cases b
      · rfl
      · exact absurd (by rw [← h1.1, hb.1 rfl, h2.1]) hl
    clear h1 h2 hb
    go_enter Tryz.func89, Tryz.ntmps89
    go_wp2
    go_ret
    exact ⟨rfl, 0, rfl⟩

set_option maxRecDepth 20000 in
theorem sSameWish (w : World) (B : Nat) (t t' : Wi) (h1 : WiIn w B t) (h2 : WiIn w B t') (hB : B ≤ w.heap.size) (hn : t.Short) (b : Bool) (hb : b = true ↔ t.dat = t'.dat) :
    Calls Tryz.prog 32 #[t.val, t'.val] w fun e w' => e = .returned (.bool b) ∧ Below w.heap.size w w' := by
  obtain ⟨k, f, v, LA, Ln, Lc, ls, PA, Pn, Pc, ps⟩ := t
  obtain ⟨k', f', v', LA', Ln', Lc', ls', PA', Pn', Pc', ps'⟩ := t'
  obtain ⟨-, -, -, hl, hp⟩ := h1
  obtain ⟨-, -, -, hl', hp'⟩ := h2
  unfold Wi.val
  simp only [Wi.dat, WD.mk.injEq, Wi.Short] at hl hp hl' hp' hn hb ⊢
  have HB2 : Hid (∀ o1 o2 : Obj, Below B w ((w.alloc o1).alloc o2)) := Lib.hid fun o1 o2 => ((Below.refl B w).alloc hB _).alloc (by simp; omega) _
  have HW2 : Hid (∀ o1 o2 : Obj, Below w.heap.size w ((w.alloc o1).alloc o2)) := Lib.hid fun o1 o2 => ((Below.refl _ w).alloc (Nat.le_refl _) _).alloc (by simp) _
  obtain ⟨q1, hq1⟩ := bool_of (ls = ls')
  obtain ⟨q2, hq2⟩ := bool_of (ps = ps')
  have HI : Hid (∀ w1, Below B w w1 → Calls Tryz.prog 53 #[.slice LA Ln Lc, .slice LA' Ln' Lc'] w1 fun e w' => e = .returned (.bool q1) ∧ ∃ m, w' = w1.drewN m) := Lib.hid fun w1 h => sl2Ints w1 B LA LA' Ln Ln' Lc Lc' ls ls' (hl.below h) (hl'.below h) hn.1 q1 hq1
  have HP : Hid (∀ w1, Below B w w1 → Calls Tryz.prog 54 #[.slice PA Pn Pc, .slice PA' Pn' Pc'] w1 fun e w' => e = .returned (.bool q2) ∧ ∃ m, w' = w1.drewN m) := Lib.hid fun w1 h => sl5Pairs w1 B PA PA' Pn Pn' Pc Pc' ps ps' (hp.below h) (hp'.below h) hn.2 q2 hq2
  have HNo : Hid (¬ (k = k' ∧ f = f' ∧ v = v' ∧ q1 = true ∧ q2 = true) → b = false) := Lib.hid fun h => by
    cases b
    · rfl
    · obtain ⟨e1, e2, e3, e4, e5⟩ := hb.1 rfl
      exact absurd ⟨e1, e2, e3, hq1.2 e4, hq2.2 e5⟩ h
  have HYes : Hid (k = k' → f = f' → v = v' → q1 = true → q2 = true → b = true) := Lib.hid fun e1 e2 e3 e4 e5 => hb.2 ⟨e1, e2, e3, hq1.1 e4, hq2.1 e5⟩
  clear hl hp hl' hp' hb hq1 hq2 hn
  by_cases e1 : k = k'
  · by_cases e2 : f = f'
    · by_cases e3 : v = v'
      · cases q1
        · obtain rfl := HNo.out fun h => by have := h.2.2.2.1; cases this
          subst e1 e2 e3
          go_enter Tryz.func32, Tryz.ntmps32
          go_wp2_with fail
          refine (HI.out _ (HB2.out _ _)).mono ?_
          rintro e w1 ⟨rfl, m1, rfl⟩
          go_wp2
          go_ret
          exact ⟨rfl, below_drewN (HW2.out _ _) _⟩
        · have HR : Hid (b = q2) := Lib.hid (by
            cases q2
            · exact HNo.out fun h => by have := h.2.2.2.2; cases this
            · exact HYes.out e1 e2 e3 rfl rfl)
          obtain rfl := HR.out
          subst e1 e2 e3
          go_enter Tryz.func32, Tryz.ntmps32
          go_wp2_with fail
          refine (HI.out _ (HB2.out _ _)).mono ?_
          rintro e w1 ⟨rfl, m1, rfl⟩
          go_wp2_with fail
          refine (HP.out _ (below_drewN (HB2.out _ _) _)).mono ?_
          rintro e w1 ⟨rfl, m2, rfl⟩
          go_wp2
          go_ret
          exact ⟨rfl, below_drewN (HW2.out _ _) _⟩
      · obtain rfl := HNo.out fun h => e3 h.2.2.1
        subst e1 e2
        have hne : (v == v') = false := by simpa using e3
        go_enter Tryz.func32, Tryz.ntmps32
        go_wp2
        go_ret
        exact ⟨rfl, HW2.out _ _⟩
    · obtain rfl := HNo.out fun h => e2 h.2.1
      subst e1
      have hne : (f == f') = false := by simpa using e2
      go_enter Tryz.func32, Tryz.ntmps32
      go_wp2
      go_ret
      exact ⟨rfl, HW2.out _ _⟩
  · obtain rfl := HNo.out fun h => e1 h.1
    have hne : (k == k') = false := by simpa using e1
    go_enter Tryz.func32, Tryz.ntmps32
    go_wp2
    go_ret
    exact ⟨rfl, HW2.out _ _⟩

set_option maxRecDepth 20000 in
theorem iSameWish (w : World) (B : Nat) (t t' : Wi) (h1 : WiIn w B t) (h2 : WiIn w B t') (hB : B ≤ w.heap.size) (hn : t.Short) (b : Bool) (hb : b = true ↔ t.dat = t'.dat) :
    Calls Tryz.prog 70 #[t.val, t'.val] w fun e w' => e = .returned (.bool b) ∧ Below w.heap.size w w' := by
  obtain ⟨k, f, v, LA, Ln, Lc, ls, PA, Pn, Pc, ps⟩ := t
  obtain ⟨k', f', v', LA', Ln', Lc', ls', PA', Pn', Pc', ps'⟩ := t'
  obtain ⟨-, -, -, hl, hp⟩ := h1
  obtain ⟨-, -, -, hl', hp'⟩ := h2
  unfold Wi.val
  simp only [Wi.dat, WD.mk.injEq, Wi.Short] at hl hp hl' hp' hn hb ⊢
  have HB2 : Hid (∀ o1 o2 : Obj, Below B w ((w.alloc o1).alloc o2)) := Lib.hid fun o1 o2 => ((Below.refl B w).alloc hB _).alloc (by simp; omega) _
  have HW2 : Hid (∀ o1 o2 : Obj, Below w.heap.size w ((w.alloc o1).alloc o2)) := Lib.hid fun o1 o2 => ((Below.refl _ w).alloc (Nat.le_refl _) _).alloc (by simp) _
  obtain ⟨q1, hq1⟩ := bool_of (ls = ls')
  obtain ⟨q2, hq2⟩ := bool_of (ps = ps')
  have HI : Hid (∀ w1, Below B w w1 → Calls Tryz.prog 88 #[.slice LA Ln Lc, .slice LA' Ln' Lc'] w1 fun e w' => e = .returned (.bool q1) ∧ ∃ m, w' = w1.drewN m) := Lib.hid fun w1 h => slEqual w1 B LA LA' Ln Ln' Lc Lc' ls ls' (hl.below h) (hl'.below h) hn.1 q1 hq1
  have HP : Hid (∀ w1, Below B w w1 → Calls Tryz.prog 89 #[.slice PA Pn Pc, .slice PA' Pn' Pc'] w1 fun e w' => e = .returned (.bool q2) ∧ ∃ m, w' = w1.drewN m) := Lib.hid fun w1 h => slEqualP w1 B PA PA' Pn Pn' Pc Pc' ps ps' (hp.below h) (hp'.below h) hn.2 q2 hq2
  have HNo : Hid (¬ (k = k' ∧ f = f' ∧ v = v' ∧ q1 = true ∧ q2 = true) → b = false) := Lib.hid fun h => by
    cases b
    · rfl
    · obtain ⟨e1, e2, e3, e4, e5⟩ := hb.1 rfl
      exact absurd ⟨e1, e2, e3, hq1.2 e4, hq2.2 e5⟩ h
  have HYes : Hid (k = k' → f = f' → v = v' → q1 = true → q2 = true → b = true) := Lib.hid fun e1 e2 e3 e4 e5 => hb.2 ⟨e1, e2, e3, hq1.1 e4, hq2.1 e5⟩
  clear hl hp hl' hp' hb hq1 hq2 hn
  by_cases e1 : k = k'
  · by_cases e2 : f = f'
    · by_cases e3 : v = v'
      · cases q1
        · obtain rfl := HNo.out fun h => by have := h.2.2.2.1; cases this
          subst e1 e2 e3
          go_enter Tryz.func70, Tryz.ntmps70
          go_wp2_with fail
          refine (HI.out _ (HB2.out _ _)).mono ?_
          rintro e w1 ⟨rfl, m1, rfl⟩
          go_wp2
          go_ret
          exact ⟨rfl, below_drewN (HW2.out _ _) _⟩
        · have HR : Hid (b = q2) := Lib.hid (by
            cases q2
            · exact HNo.out fun h => by have := h.2.2.2.2; cases this
            · exact HYes.out e1 e2 e3 rfl rfl)
          obtain rfl := HR.out
          subst e1 e2 e3
          go_enter Tryz.func70, Tryz.ntmps70
          go_wp2_with fail
          refine (HI.out _ (HB2.out _ _)).mono ?_
          rintro e w1 ⟨rfl, m1, rfl⟩
          go_wp2_with fail
          refine (HP.out _ (below_drewN (HB2.out _ _) _)).mono ?_
          rintro e w1 ⟨rfl, m2, rfl⟩
          go_wp2
          go_ret
          exact ⟨rfl, below_drewN (HW2.out _ _) _⟩
      · obtain rfl := HNo.out fun h => e3 h.2.2.1
        subst e1 e2
        have hne : (v == v') = false := by simpa using e3
        go_enter Tryz.func70, Tryz.ntmps70
        go_wp2
        go_ret
        exact ⟨rfl, HW2.out _ _⟩
    · obtain rfl := HNo.out fun h => e2 h.2.1
      subst e1
      have hne : (f == f') = false := by simpa using e2
      go_enter Tryz.func70, Tryz.ntmps70
      go_wp2
      go_ret
      exact ⟨rfl, HW2.out _ _⟩
  · obtain rfl := HNo.out fun h => e1 h.1
    have hne : (k == k') = false := by simpa using e1
    go_enter Tryz.func70, Tryz.ntmps70
    go_wp2
    go_ret
    exact ⟨rfl, HW2.out _ _⟩

set_option maxRecDepth 20000 in
set_option maxHeartbeats 3200000 in
theorem sEqE (w : World) (B : Nat) (A A' : Option Addr) (n n' c c' : Nat) (xs ys : List Nd) (h1 : Nodes w B A n xs) (h2 : Nodes w B A' n' ys) (hB : B ≤ w.heap.size) (hn : n ≤ 1048576) (hN : ShortN xs) (b : Bool) (hb : b = true ↔ datN xs = datN ys) :
    Calls Tryz.prog 9 #[.slice A n c, .slice A' n' c'] w fun e w' => e = .returned (.bool b) ∧ Below w.heap.size w w' := by
  have HX := Lib.hid h1
  have HY := Lib.hid h2
  have HN := Lib.hid hN
  by_cases hl : n = n'
  · subst hl
    have HBo := Lib.hid hb
    clear h1 h2 hN hb
    go_enter Tryz.func9, Tryz.ntmps9
    go_wp2
    go_loopw [5] (fun i wr => ∃ k : Nat, k ≤ n ∧ i = .int .i64 k ∧ datN (xs.take k) = datN (ys.take k) ∧ Below w.heap.size w wr) (fun i _ => n - (intOf i).toNat)
    case atStart => exact ⟨0, Nat.zero_le _, rfl, rfl, Below.refl _ _⟩
    case round =>
      obtain ⟨k, hk, rfl, htake, hbel⟩ := hrel
      have HT := Lib.hid htake
      have HB := Lib.hid hbel
      clear htake
      by_cases hlt : k < n
      · obtain ⟨b1, off1, x, rfl, hb1, hat1, hw1, e0, e1, e2, e3, e4, e5⟩ := HX.out.at k hlt
        obtain ⟨b2, off2, y, rfl, hb2, hat2, hw2, f0, f1, f2, f3, f4, f5⟩ := HY.out.at k hlt
        have tr : ∀ {bb oo : Nat} {v : Value}, bb < B → w.cell? ⟨bb, oo, none⟩ = some v → wr.cell? ⟨bb, oo, none⟩ = some v := fun {bb oo v} hb h => (hbel.cell (p := ⟨bb, oo, none⟩) (Nat.lt_of_lt_of_le hb hB)).trans h
        have e0 := tr hb1 e0
        have e1 := tr hb1 e1
        have e2 := tr hb1 e2
        have e3 := tr hb1 e3
        have e4 := tr hb1 e4
        have e5 := tr hb1 e5
        have f0 := tr hb2 f0
        have f1 := tr hb2 f1
        have f2 := tr hb2 f2
        have f3 := tr hb2 f3
        have f4 := tr hb2 f4
        have f5 := tr hb2 f5
        have HA1 := Lib.hid hat1
        have HA2 := Lib.hid hat2
        have hsz := Lib.hid hbel.size
        have hl1 : b1 < wr.heap.size := by have := hbel.size; omega
        have hl2 : b2 < wr.heap.size := by have := hbel.size; omega
        have hlt' : (k : Int) < (n : Int) := by omega
        obtain ⟨q, hq⟩ : ∃ q : Bool, q = true ↔ x.t.dat = y.t.dat := bool_of _
        have HQ := Lib.hid hq
        have HC : Hid (∀ w1, Below wr.heap.size wr w1 → Calls Tryz.prog 32 #[.agg #[.int .i64 x.t.kind, .int .i64 x.t.field, .int .i64 x.t.value, .slice x.t.LA x.t.Ln x.t.Lc, .slice x.t.PA x.t.Pn x.t.Pc], .agg #[.int .i64 y.t.kind, .int .i64 y.t.field, .int .i64 y.t.value, .slice y.t.LA y.t.Ln y.t.Lc, .slice y.t.PA y.t.Pn y.t.Pc]] w1 fun e w' => e = .returned (.bool q) ∧ Below w1.heap.size w1 w') := Lib.hid fun w1 h =>
          sSameWish w1 B x.t y.t (hw1.2.below ((hbel.mono hB).trans (h.mono (Nat.le_trans hB hbel.size)))) (hw2.2.below ((hbel.mono hB).trans (h.mono (Nat.le_trans hB hbel.size)))) (Nat.le_trans hB (Nat.le_trans hbel.size h.size)) (HN.out x (List.mem_of_getElem? hat1)) q hq
        clear hat1 hat2 hbel hq hw1 hw2 tr
        by_cases he : x.op = y.op
        · have HE := Lib.hid he
          have hne : (x.op != y.op) = false := by simpa using he
          cases q
          · have HF := Lib.hid (ne_nd HA1.out HA2.out (fun e => by have := HQ.out.2 (nd_dat.1 e).2; cases this))
            obtain rfl : b = false := by
              cases b
              · rfl
              · exact absurd (HBo.out.1 rfl) HF.out
            clear he
            go_wp2
            have hs0 : Below wr.heap.size wr wr.drew ∧ wr.drew.cell? ⟨b1, off1 + k * 6, none⟩ = some (.int .i64 x.op) ∧ wr.drew.cell? ⟨b1, off1 + k * 6 + 1, none⟩ = some (.int .i64 x.t.kind) ∧ wr.drew.cell? ⟨b1, off1 + k * 6 + 2, none⟩ = some (.int .i64 x.t.field) ∧ wr.drew.cell? ⟨b1, off1 + k * 6 + 3, none⟩ = some (.int .i64 x.t.value) ∧ wr.drew.cell? ⟨b1, off1 + k * 6 + 4, none⟩ = some (.slice x.t.LA x.t.Ln x.t.Lc) ∧ wr.drew.cell? ⟨b1, off1 + k * 6 + 5, none⟩ = some (.slice x.t.PA x.t.Pn x.t.Pc) ∧ wr.drew.cell? ⟨b2, off2 + k * 6, none⟩ = some (.int .i64 y.op) ∧ wr.drew.cell? ⟨b2, off2 + k * 6 + 1, none⟩ = some (.int .i64 y.t.kind) ∧ wr.drew.cell? ⟨b2, off2 + k * 6 + 2, none⟩ = some (.int .i64 y.t.field) ∧ wr.drew.cell? ⟨b2, off2 + k * 6 + 3, none⟩ = some (.int .i64 y.t.value) ∧ wr.drew.cell? ⟨b2, off2 + k * 6 + 4, none⟩ = some (.slice y.t.LA y.t.Ln y.t.Lc) ∧ wr.drew.cell? ⟨b2, off2 + k * 6 + 5, none⟩ = some (.slice y.t.PA y.t.Pn y.t.Pc) := ⟨(Below.refl _ _).drew, e0, e1, e2, e3, e4, e5, f0, f1, f2, f3, f4, f5⟩
            refine wp_region_held (S := fun w' => Below wr.heap.size wr w' ∧ w'.cell? ⟨b1, off1 + k * 6, none⟩ = some (.int .i64 x.op) ∧ w'.cell? ⟨b1, off1 + k * 6 + 1, none⟩ = some (.int .i64 x.t.kind) ∧ w'.cell? ⟨b1, off1 + k * 6 + 2, none⟩ = some (.int .i64 x.t.field) ∧ w'.cell? ⟨b1, off1 + k * 6 + 3, none⟩ = some (.int .i64 x.t.value) ∧ w'.cell? ⟨b1, off1 + k * 6 + 4, none⟩ = some (.slice x.t.LA x.t.Ln x.t.Lc) ∧ w'.cell? ⟨b1, off1 + k * 6 + 5, none⟩ = some (.slice x.t.PA x.t.Pn x.t.Pc) ∧ w'.cell? ⟨b2, off2 + k * 6, none⟩ = some (.int .i64 y.op) ∧ w'.cell? ⟨b2, off2 + k * 6 + 1, none⟩ = some (.int .i64 y.t.kind) ∧ w'.cell? ⟨b2, off2 + k * 6 + 2, none⟩ = some (.int .i64 y.t.field) ∧ w'.cell? ⟨b2, off2 + k * 6 + 3, none⟩ = some (.int .i64 y.t.value) ∧ w'.cell? ⟨b2, off2 + k * 6 + 4, none⟩ = some (.slice y.t.LA y.t.Ln y.t.Lc) ∧ w'.cell? ⟨b2, off2 + k * 6 + 5, none⟩ = some (.slice y.t.PA y.t.Pn y.t.Pc)) (by kernel_rfl) ?_
            change wpAnyH _ _ _ _ _ _ _ _ (World.drew _)
            refine takeY 17 (i := 0) (v := ?v0a) rfl rfl (by kernel_rfl) (by kernel_rfl) (by kernel_rfl) (fun _ _ _ h => h) (by kernel_rfl) ?y0a hs0 ?_
            case y0a =>
              intro w' hw'; (try dsimp only at hw'); obtain ⟨r, a0, a1, a2, a3, a4, a5, a6, a7, a8, a9, a10, a11⟩ := hw'; go_simp; try with_reducible rfl
            simp only [Act.put, List.setIfInBounds_toArray, List.set_cons_zero, List.set_cons_succ]
            refine takeY 18 (i := 1) (v := ?v1a) rfl rfl (by kernel_rfl) (by kernel_rfl) (by kernel_rfl) (fun _ _ _ h => h) (by kernel_rfl) ?y1a hs0 ?_
            case y1a =>
              intro w' hw'; (try dsimp only at hw'); obtain ⟨r, a0, a1, a2, a3, a4, a5, a6, a7, a8, a9, a10, a11⟩ := hw'; go_simp; try with_reducible rfl
            simp only [Act.put, List.setIfInBounds_toArray, List.set_cons_zero, List.set_cons_succ]
            refine takeY 19 (i := 2) (v := ?v2a) rfl rfl (by kernel_rfl) (by kernel_rfl) (by kernel_rfl) (fun _ _ _ h => h) (by kernel_rfl) ?y2a hs0 ?_
            case y2a =>
              intro w' hw'; (try dsimp only at hw'); obtain ⟨r, a0, a1, a2, a3, a4, a5, a6, a7, a8, a9, a10, a11⟩ := hw'; go_simp; try with_reducible rfl
            simp only [Act.put, List.setIfInBounds_toArray, List.set_cons_zero, List.set_cons_succ]
            refine takeY 20 (i := 3) (v := ?v3a) rfl rfl (by kernel_rfl) (by kernel_rfl) (by kernel_rfl) (fun _ _ _ h => h) (by kernel_rfl) ?y3a hs0 ?_
            case y3a =>
              intro w' hw'; (try dsimp only at hw'); obtain ⟨r, a0, a1, a2, a3, a4, a5, a6, a7, a8, a9, a10, a11⟩ := hw'; go_simp; try with_reducible rfl
            simp only [Act.put, List.setIfInBounds_toArray, List.set_cons_zero, List.set_cons_succ]
            refine takeY 21 (i := 4) (v := ?v4a) rfl rfl (by kernel_rfl) (by kernel_rfl) (by kernel_rfl) (fun _ _ _ h => h) (by kernel_rfl) ?y4a hs0 ?_
            case y4a =>
              intro w' hw'; (try dsimp only at hw'); obtain ⟨r, a0, a1, a2, a3, a4, a5, a6, a7, a8, a9, a10, a11⟩ := hw'; go_simp; try with_reducible rfl
            simp only [Act.put, List.setIfInBounds_toArray, List.set_cons_zero, List.set_cons_succ]
            refine takeY 22 (i := 5) (v := ?v5a) rfl rfl (by kernel_rfl) (by kernel_rfl) (by kernel_rfl) (fun _ _ _ h => h) (by kernel_rfl) ?y5a hs0 ?_
            case y5a =>
              intro w' hw'; (try dsimp only at hw'); obtain ⟨r, a0, a1, a2, a3, a4, a5, a6, a7, a8, a9, a10, a11⟩ := hw'; go_simp; try with_reducible rfl
            simp only [Act.put, List.setIfInBounds_toArray, List.set_cons_zero, List.set_cons_succ]
            refine takeY 23 (i := 6) (v := ?v6a) rfl rfl (by kernel_rfl) (by kernel_rfl) (by kernel_rfl) (fun _ _ _ h => h) (by kernel_rfl) ?y6a hs0 ?_
            case y6a =>
              intro w' hw'; (try dsimp only at hw'); obtain ⟨r, a0, a1, a2, a3, a4, a5, a6, a7, a8, a9, a10, a11⟩ := hw'; go_simp; try with_reducible rfl
            simp only [Act.put, List.setIfInBounds_toArray, List.set_cons_zero, List.set_cons_succ]
            refine takeY 24 (i := 7) (v := ?v7a) rfl rfl (by kernel_rfl) (by kernel_rfl) (by kernel_rfl) (fun _ _ _ h => h) (by kernel_rfl) ?y7a hs0 ?_
            case y7a =>
              intro w' hw'; (try dsimp only at hw'); obtain ⟨r, a0, a1, a2, a3, a4, a5, a6, a7, a8, a9, a10, a11⟩ := hw'; go_simp; try with_reducible rfl
            simp only [Act.put, List.setIfInBounds_toArray, List.set_cons_zero, List.set_cons_succ]
            refine takeY 25 (i := 8) (v := ?v8a) rfl rfl (by kernel_rfl) (by kernel_rfl) (by kernel_rfl) (fun _ _ _ h => h) (by kernel_rfl) ?y8a hs0 ?_
            case y8a =>
              intro w' hw'; (try dsimp only at hw'); obtain ⟨r, a0, a1, a2, a3, a4, a5, a6, a7, a8, a9, a10, a11⟩ := hw'; go_simp; try with_reducible rfl
            simp only [Act.put, List.setIfInBounds_toArray, List.set_cons_zero, List.set_cons_succ]
            refine takeY 26 (i := 9) (v := ?v9a) rfl rfl (by kernel_rfl) (by kernel_rfl) (by kernel_rfl) (fun _ _ _ h => h) (by kernel_rfl) ?y9a hs0 ?_
            case y9a =>
              intro w' hw'; (try dsimp only at hw'); obtain ⟨r, a0, a1, a2, a3, a4, a5, a6, a7, a8, a9, a10, a11⟩ := hw'; go_simp; try with_reducible rfl
            simp only [Act.put, List.setIfInBounds_toArray, List.set_cons_zero, List.set_cons_succ]
            refine takeY 27 (i := 10) (v := ?v10a) rfl rfl (by kernel_rfl) (by kernel_rfl) (by kernel_rfl) (fun _ _ _ h => h) (by kernel_rfl) ?y10a hs0 ?_
            case y10a =>
              intro w' hw'; (try dsimp only at hw'); obtain ⟨r, a0, a1, a2, a3, a4, a5, a6, a7, a8, a9, a10, a11⟩ := hw'; go_simp; try with_reducible rfl
            simp only [Act.put, List.setIfInBounds_toArray, List.set_cons_zero, List.set_cons_succ]
            refine takeY 28 (i := 11) (v := ?v11a) rfl rfl (by kernel_rfl) (by kernel_rfl) (by kernel_rfl) (fun _ _ _ h => h) (by kernel_rfl) ?y11a hs0 ?_
            case y11a =>
              intro w' hw'; (try dsimp only at hw'); obtain ⟨r, a0, a1, a2, a3, a4, a5, a6, a7, a8, a9, a10, a11⟩ := hw'; go_simp; try with_reducible rfl
            simp only [Act.put, List.setIfInBounds_toArray, List.set_cons_zero, List.set_cons_succ]
            refine takeY 29 (i := 12) (v := ?v12a) rfl rfl (by kernel_rfl) (by kernel_rfl) (by kernel_rfl) (fun _ _ _ h => h) (by kernel_rfl) ?y12a hs0 ?_
            case y12a =>
              intro w' hw'; (try dsimp only at hw'); obtain ⟨r, a0, a1, a2, a3, a4, a5, a6, a7, a8, a9, a10, a11⟩ := hw'; go_simp; try with_reducible rfl
            simp only [Act.put, List.setIfInBounds_toArray, List.set_cons_zero, List.set_cons_succ]
            refine takeY 30 (i := 13) (v := ?v13a) rfl rfl (by kernel_rfl) (by kernel_rfl) (by kernel_rfl) (fun _ _ _ h => h) (by kernel_rfl) ?y13a hs0 ?_
            case y13a =>
              intro w' hw'; (try dsimp only at hw'); obtain ⟨r, a0, a1, a2, a3, a4, a5, a6, a7, a8, a9, a10, a11⟩ := hw'; go_simp; try with_reducible rfl
            simp only [Act.put, List.setIfInBounds_toArray, List.set_cons_zero, List.set_cons_succ]
            refine takeY 31 (i := 14) (v := ?v14a) rfl rfl (by kernel_rfl) (by kernel_rfl) (by kernel_rfl) (fun _ _ _ h => h) (by kernel_rfl) ?y14a hs0 ?_
            case y14a =>
              intro w' hw'; (try dsimp only at hw'); obtain ⟨r, a0, a1, a2, a3, a4, a5, a6, a7, a8, a9, a10, a11⟩ := hw'; go_simp; try with_reducible rfl
            simp only [Act.put, List.setIfInBounds_toArray, List.set_cons_zero, List.set_cons_succ]
            refine takeY 32 (i := 15) (v := ?v15a) rfl rfl (by kernel_rfl) (by kernel_rfl) (by kernel_rfl) (fun _ _ _ h => h) (by kernel_rfl) ?y15a hs0 ?_
            case y15a =>
              intro w' hw'; (try dsimp only at hw'); obtain ⟨r, a0, a1, a2, a3, a4, a5, a6, a7, a8, a9, a10, a11⟩ := hw'; go_simp; try with_reducible rfl
            simp only [Act.put, List.setIfInBounds_toArray, List.set_cons_zero, List.set_cons_succ]
            refine takeY 33 (i := 16) (v := ?v16a) rfl rfl (by kernel_rfl) (by kernel_rfl) (by kernel_rfl) (fun _ _ _ h => h) (by kernel_rfl) ?y16a hs0 ?_
            case y16a =>
              intro w' hw'; (try dsimp only at hw'); obtain ⟨r, a0, a1, a2, a3, a4, a5, a6, a7, a8, a9, a10, a11⟩ := hw'; go_simp; try with_reducible rfl
            simp only [Act.put, List.setIfInBounds_toArray, List.set_cons_zero, List.set_cons_succ]
            refine takeY 34 (i := 17) (v := ?v17a) rfl rfl (by kernel_rfl) (by kernel_rfl) (by kernel_rfl) (fun _ _ _ h => h) (by kernel_rfl) ?y17a hs0 ?_
            case y17a =>
              intro w' hw'; (try dsimp only at hw'); obtain ⟨r, a0, a1, a2, a3, a4, a5, a6, a7, a8, a9, a10, a11⟩ := hw'; go_simp; try with_reducible rfl
            simp only [Act.put, List.setIfInBounds_toArray, List.set_cons_zero, List.set_cons_succ]
            refine takeY 35 (i := 18) (v := ?v18a) rfl rfl (by kernel_rfl) (by kernel_rfl) (by kernel_rfl) (fun _ _ _ h => h) (by kernel_rfl) ?y18a hs0 ?_
            case y18a =>
              intro w' hw'; (try dsimp only at hw'); obtain ⟨r, a0, a1, a2, a3, a4, a5, a6, a7, a8, a9, a10, a11⟩ := hw'; go_simp; try with_reducible rfl
            simp only [Act.put, List.setIfInBounds_toArray, List.set_cons_zero, List.set_cons_succ]
            refine takeY 36 (i := 19) (v := ?v19a) rfl rfl (by kernel_rfl) (by kernel_rfl) (by kernel_rfl) (fun _ _ _ h => h) (by kernel_rfl) ?y19a hs0 ?_
            case y19a =>
              intro w' hw'; (try dsimp only at hw'); obtain ⟨r, a0, a1, a2, a3, a4, a5, a6, a7, a8, a9, a10, a11⟩ := hw'; go_simp; try with_reducible rfl
            simp only [Act.put, List.setIfInBounds_toArray, List.set_cons_zero, List.set_cons_succ]
            refine takeY 37 (i := 20) (v := ?v20a) rfl rfl (by kernel_rfl) (by kernel_rfl) (by kernel_rfl) (fun _ _ _ h => h) (by kernel_rfl) ?y20a hs0 ?_
            case y20a =>
              intro w' hw'; (try dsimp only at hw'); obtain ⟨r, a0, a1, a2, a3, a4, a5, a6, a7, a8, a9, a10, a11⟩ := hw'; go_simp; try with_reducible rfl
            simp only [Act.put, List.setIfInBounds_toArray, List.set_cons_zero, List.set_cons_succ]
            refine takeY 38 (i := 21) (v := ?v21a) rfl rfl (by kernel_rfl) (by kernel_rfl) (by kernel_rfl) (fun _ _ _ h => h) (by kernel_rfl) ?y21a hs0 ?_
            case y21a =>
              intro w' hw'; (try dsimp only at hw'); obtain ⟨r, a0, a1, a2, a3, a4, a5, a6, a7, a8, a9, a10, a11⟩ := hw'; go_simp; try with_reducible rfl
            simp only [Act.put, List.setIfInBounds_toArray, List.set_cons_zero, List.set_cons_succ]
            refine wpAnyH_ready (rs := [22]) (by kernel_rfl) (by simp) ?_
            refine AllReadyH.cons rfl (fun K hK => ?_) AllReadyH.nil
            go_simp; go_at_call 32; refine (HC.out _ (hs0.1)).mono ?_; rintro e w3 ⟨rfl, hb3'⟩; have hb3 : Below wr.heap.size wr w3 := below_on (Below.refl _ _).drew hb3'; clear hb3'
            refine hK.out _ _ ⟨hb3, (hb3.cell (p := ⟨b1, off1 + k * 6, none⟩) hl1).trans e0, (hb3.cell (p := ⟨b1, off1 + k * 6 + 1, none⟩) hl1).trans e1, (hb3.cell (p := ⟨b1, off1 + k * 6 + 2, none⟩) hl1).trans e2, (hb3.cell (p := ⟨b1, off1 + k * 6 + 3, none⟩) hl1).trans e3, (hb3.cell (p := ⟨b1, off1 + k * 6 + 4, none⟩) hl1).trans e4, (hb3.cell (p := ⟨b1, off1 + k * 6 + 5, none⟩) hl1).trans e5, (hb3.cell (p := ⟨b2, off2 + k * 6, none⟩) hl2).trans f0, (hb3.cell (p := ⟨b2, off2 + k * 6 + 1, none⟩) hl2).trans f1, (hb3.cell (p := ⟨b2, off2 + k * 6 + 2, none⟩) hl2).trans f2, (hb3.cell (p := ⟨b2, off2 + k * 6 + 3, none⟩) hl2).trans f3, (hb3.cell (p := ⟨b2, off2 + k * 6 + 4, none⟩) hl2).trans f4, (hb3.cell (p := ⟨b2, off2 + k * 6 + 5, none⟩) hl2).trans f5⟩ (fun hS1 => ?_)
            clear hK K
            try simp only [Act.put, List.setIfInBounds_toArray, List.set_cons_zero, List.set_cons_succ]
            refine takeY 40 (i := 23) (v := ?v23a) rfl rfl (by kernel_rfl) (by kernel_rfl) (by kernel_rfl) (fun _ _ _ h => h) (by kernel_rfl) ?y23a hS1 ?_
            case y23a =>
              intro w' hw'; (try dsimp only at hw'); obtain ⟨r, a0, a1, a2, a3, a4, a5, a6, a7, a8, a9, a10, a11⟩ := hw'; go_simp; try with_reducible rfl
            simp only [Act.put, List.setIfInBounds_toArray, List.set_cons_zero, List.set_cons_succ]
            refine takeY 41 (i := 24) (v := ?v24a) rfl rfl (by kernel_rfl) (by kernel_rfl) (by kernel_rfl) (fun _ _ _ h => h) (by kernel_rfl) ?y24a hS1 ?_
            case y24a =>
              intro w' hw'; (try dsimp only at hw'); obtain ⟨r, a0, a1, a2, a3, a4, a5, a6, a7, a8, a9, a10, a11⟩ := hw'; go_simp; try with_reducible rfl
            simp only [Act.put, List.setIfInBounds_toArray, List.set_cons_zero, List.set_cons_succ]
            refine wpAnyH_done (by kernel_rfl) ?_ _
            go_wp2
            go_ret
            exact ⟨rfl, HB.out.trans (hb3.mono hsz.out)⟩
          · have HD := Lib.hid (HQ.out.1 (by first | rfl | trivial))
            clear he
            go_wp2
            have hs0 : Below wr.heap.size wr wr.drew ∧ wr.drew.cell? ⟨b1, off1 + k * 6, none⟩ = some (.int .i64 x.op) ∧ wr.drew.cell? ⟨b1, off1 + k * 6 + 1, none⟩ = some (.int .i64 x.t.kind) ∧ wr.drew.cell? ⟨b1, off1 + k * 6 + 2, none⟩ = some (.int .i64 x.t.field) ∧ wr.drew.cell? ⟨b1, off1 + k * 6 + 3, none⟩ = some (.int .i64 x.t.value) ∧ wr.drew.cell? ⟨b1, off1 + k * 6 + 4, none⟩ = some (.slice x.t.LA x.t.Ln x.t.Lc) ∧ wr.drew.cell? ⟨b1, off1 + k * 6 + 5, none⟩ = some (.slice x.t.PA x.t.Pn x.t.Pc) ∧ wr.drew.cell? ⟨b2, off2 + k * 6, none⟩ = some (.int .i64 y.op) ∧ wr.drew.cell? ⟨b2, off2 + k * 6 + 1, none⟩ = some (.int .i64 y.t.kind) ∧ wr.drew.cell? ⟨b2, off2 + k * 6 + 2, none⟩ = some (.int .i64 y.t.field) ∧ wr.drew.cell? ⟨b2, off2 + k * 6 + 3, none⟩ = some (.int .i64 y.t.value) ∧ wr.drew.cell? ⟨b2, off2 + k * 6 + 4, none⟩ = some (.slice y.t.LA y.t.Ln y.t.Lc) ∧ wr.drew.cell? ⟨b2, off2 + k * 6 + 5, none⟩ = some (.slice y.t.PA y.t.Pn y.t.Pc) := ⟨(Below.refl _ _).drew, e0, e1, e2, e3, e4, e5, f0, f1, f2, f3, f4, f5⟩
            refine wp_region_held (S := fun w' => Below wr.heap.size wr w' ∧ w'.cell? ⟨b1, off1 + k * 6, none⟩ = some (.int .i64 x.op) ∧ w'.cell? ⟨b1, off1 + k * 6 + 1, none⟩ = some (.int .i64 x.t.kind) ∧ w'.cell? ⟨b1, off1 + k * 6 + 2, none⟩ = some (.int .i64 x.t.field) ∧ w'.cell? ⟨b1, off1 + k * 6 + 3, none⟩ = some (.int .i64 x.t.value) ∧ w'.cell? ⟨b1, off1 + k * 6 + 4, none⟩ = some (.slice x.t.LA x.t.Ln x.t.Lc) ∧ w'.cell? ⟨b1, off1 + k * 6 + 5, none⟩ = some (.slice x.t.PA x.t.Pn x.t.Pc) ∧ w'.cell? ⟨b2, off2 + k * 6, none⟩ = some (.int .i64 y.op) ∧ w'.cell? ⟨b2, off2 + k * 6 + 1, none⟩ = some (.int .i64 y.t.kind) ∧ w'.cell? ⟨b2, off2 + k * 6 + 2, none⟩ = some (.int .i64 y.t.field) ∧ w'.cell? ⟨b2, off2 + k * 6 + 3, none⟩ = some (.int .i64 y.t.value) ∧ w'.cell? ⟨b2, off2 + k * 6 + 4, none⟩ = some (.slice y.t.LA y.t.Ln y.t.Lc) ∧ w'.cell? ⟨b2, off2 + k * 6 + 5, none⟩ = some (.slice y.t.PA y.t.Pn y.t.Pc)) (by kernel_rfl) ?_
            change wpAnyH _ _ _ _ _ _ _ _ (World.drew _)
            refine takeY 17 (i := 0) (v := ?v0b) rfl rfl (by kernel_rfl) (by kernel_rfl) (by kernel_rfl) (fun _ _ _ h => h) (by kernel_rfl) ?y0b hs0 ?_
            case y0b =>
              intro w' hw'; (try dsimp only at hw'); obtain ⟨r, a0, a1, a2, a3, a4, a5, a6, a7, a8, a9, a10, a11⟩ := hw'; go_simp; try with_reducible rfl
            simp only [Act.put, List.setIfInBounds_toArray, List.set_cons_zero, List.set_cons_succ]
            refine takeY 18 (i := 1) (v := ?v1b) rfl rfl (by kernel_rfl) (by kernel_rfl) (by kernel_rfl) (fun _ _ _ h => h) (by kernel_rfl) ?y1b hs0 ?_
            case y1b =>
              intro w' hw'; (try dsimp only at hw'); obtain ⟨r, a0, a1, a2, a3, a4, a5, a6, a7, a8, a9, a10, a11⟩ := hw'; go_simp; try with_reducible rfl
            simp only [Act.put, List.setIfInBounds_toArray, List.set_cons_zero, List.set_cons_succ]
            refine takeY 19 (i := 2) (v := ?v2b) rfl rfl (by kernel_rfl) (by kernel_rfl) (by kernel_rfl) (fun _ _ _ h => h) (by kernel_rfl) ?y2b hs0 ?_
            case y2b =>
              intro w' hw'; (try dsimp only at hw'); obtain ⟨r, a0, a1, a2, a3, a4, a5, a6, a7, a8, a9, a10, a11⟩ := hw'; go_simp; try with_reducible rfl
            simp only [Act.put, List.setIfInBounds_toArray, List.set_cons_zero, List.set_cons_succ]
            refine takeY 20 (i := 3) (v := ?v3b) rfl rfl (by kernel_rfl) (by kernel_rfl) (by kernel_rfl) (fun _ _ _ h => h) (by kernel_rfl) ?y3b hs0 ?_
            case y3b =>
              intro w' hw'; (try dsimp only at hw'); obtain ⟨r, a0, a1, a2, a3, a4, a5, a6, a7, a8, a9, a10, a11⟩ := hw'; go_simp; try with_reducible rfl
            simp only [Act.put, List.setIfInBounds_toArray, List.set_cons_zero, List.set_cons_succ]
            refine takeY 21 (i := 4) (v := ?v4b) rfl rfl (by kernel_rfl) (by kernel_rfl) (by kernel_rfl) (fun _ _ _ h => h) (by kernel_rfl) ?y4b hs0 ?_
            case y4b =>
              intro w' hw'; (try dsimp only at hw'); obtain ⟨r, a0, a1, a2, a3, a4, a5, a6, a7, a8, a9, a10, a11⟩ := hw'; go_simp; try with_reducible rfl
            simp only [Act.put, List.setIfInBounds_toArray, List.set_cons_zero, List.set_cons_succ]
            refine takeY 22 (i := 5) (v := ?v5b) rfl rfl (by kernel_rfl) (by kernel_rfl) (by kernel_rfl) (fun _ _ _ h => h) (by kernel_rfl) ?y5b hs0 ?_
            case y5b =>
              intro w' hw'; (try dsimp only at hw'); obtain ⟨r, a0, a1, a2, a3, a4, a5, a6, a7, a8, a9, a10, a11⟩ := hw'; go_simp; try with_reducible rfl
            simp only [Act.put, List.setIfInBounds_toArray, List.set_cons_zero, List.set_cons_succ]
            refine takeY 23 (i := 6) (v := ?v6b) rfl rfl (by kernel_rfl) (by kernel_rfl) (by kernel_rfl) (fun _ _ _ h => h) (by kernel_rfl) ?y6b hs0 ?_
            case y6b =>
              intro w' hw'; (try dsimp only at hw'); obtain ⟨r, a0, a1, a2, a3, a4, a5, a6, a7, a8, a9, a10, a11⟩ := hw'; go_simp; try with_reducible rfl
            simp only [Act.put, List.setIfInBounds_toArray, List.set_cons_zero, List.set_cons_succ]
            refine takeY 24 (i := 7) (v := ?v7b) rfl rfl (by kernel_rfl) (by kernel_rfl) (by kernel_rfl) (fun _ _ _ h => h) (by kernel_rfl) ?y7b hs0 ?_
            case y7b =>
              intro w' hw'; (try dsimp only at hw'); obtain ⟨r, a0, a1, a2, a3, a4, a5, a6, a7, a8, a9, a10, a11⟩ := hw'; go_simp; try with_reducible rfl
            simp only [Act.put, List.setIfInBounds_toArray, List.set_cons_zero, List.set_cons_succ]
            refine takeY 25 (i := 8) (v := ?v8b) rfl rfl (by kernel_rfl) (by kernel_rfl) (by kernel_rfl) (fun _ _ _ h => h) (by kernel_rfl) ?y8b hs0 ?_
            case y8b =>
              intro w' hw'; (try dsimp only at hw'); obtain ⟨r, a0, a1, a2, a3, a4, a5, a6, a7, a8, a9, a10, a11⟩ := hw'; go_simp; try with_reducible rfl
            simp only [Act.put, List.setIfInBounds_toArray, List.set_cons_zero, List.set_cons_succ]
            refine takeY 26 (i := 9) (v := ?v9b) rfl rfl (by kernel_rfl) (by kernel_rfl) (by kernel_rfl) (fun _ _ _ h => h) (by kernel_rfl) ?y9b hs0 ?_
            case y9b =>
              intro w' hw'; (try dsimp only at hw'); obtain ⟨r, a0, a1, a2, a3, a4, a5, a6, a7, a8, a9, a10, a11⟩ := hw'; go_simp; try with_reducible rfl
            simp only [Act.put, List.setIfInBounds_toArray, List.set_cons_zero, List.set_cons_succ]
            refine takeY 27 (i := 10) (v := ?v10b) rfl rfl (by kernel_rfl) (by kernel_rfl) (by kernel_rfl) (fun _ _ _ h => h) (by kernel_rfl) ?y10b hs0 ?_
            case y10b =>
              intro w' hw'; (try dsimp only at hw'); obtain ⟨r, a0, a1, a2, a3, a4, a5, a6, a7, a8, a9, a10, a11⟩ := hw'; go_simp; try with_reducible rfl
            simp only [Act.put, List.setIfInBounds_toArray, List.set_cons_zero, List.set_cons_succ]
            refine takeY 28 (i := 11) (v := ?v11b) rfl rfl (by kernel_rfl) (by kernel_rfl) (by kernel_rfl) (fun _ _ _ h => h) (by kernel_rfl) ?y11b hs0 ?_
            case y11b =>
              intro w' hw'; (try dsimp only at hw'); obtain ⟨r, a0, a1, a2, a3, a4, a5, a6, a7, a8, a9, a10, a11⟩ := hw'; go_simp; try with_reducible rfl
            simp only [Act.put, List.setIfInBounds_toArray, List.set_cons_zero, List.set_cons_succ]
            refine takeY 29 (i := 12) (v := ?v12b) rfl rfl (by kernel_rfl) (by kernel_rfl) (by kernel_rfl) (fun _ _ _ h => h) (by kernel_rfl) ?y12b hs0 ?_
            case y12b =>
              intro w' hw'; (try dsimp only at hw'); obtain ⟨r, a0, a1, a2, a3, a4, a5, a6, a7, a8, a9, a10, a11⟩ := hw'; go_simp; try with_reducible rfl
            simp only [Act.put, List.setIfInBounds_toArray, List.set_cons_zero, List.set_cons_succ]
            refine takeY 30 (i := 13) (v := ?v13b) rfl rfl (by kernel_rfl) (by kernel_rfl) (by kernel_rfl) (fun _ _ _ h => h) (by kernel_rfl) ?y13b hs0 ?_
            case y13b =>
              intro w' hw'; (try dsimp only at hw'); obtain ⟨r, a0, a1, a2, a3, a4, a5, a6, a7, a8, a9, a10, a11⟩ := hw'; go_simp; try with_reducible rfl
            simp only [Act.put, List.setIfInBounds_toArray, List.set_cons_zero, List.set_cons_succ]
            refine takeY 31 (i := 14) (v := ?v14b) rfl rfl (by kernel_rfl) (by kernel_rfl) (by kernel_rfl) (fun _ _ _ h => h) (by kernel_rfl) ?y14b hs0 ?_
            case y14b =>
              intro w' hw'; (try dsimp only at hw'); obtain ⟨r, a0, a1, a2, a3, a4, a5, a6, a7, a8, a9, a10, a11⟩ := hw'; go_simp; try with_reducible rfl
            simp only [Act.put, List.setIfInBounds_toArray, List.set_cons_zero, List.set_cons_succ]
            refine takeY 32 (i := 15) (v := ?v15b) rfl rfl (by kernel_rfl) (by kernel_rfl) (by kernel_rfl) (fun _ _ _ h => h) (by kernel_rfl) ?y15b hs0 ?_
            case y15b =>
              intro w' hw'; (try dsimp only at hw'); obtain ⟨r, a0, a1, a2, a3, a4, a5, a6, a7, a8, a9, a10, a11⟩ := hw'; go_simp; try with_reducible rfl
            simp only [Act.put, List.setIfInBounds_toArray, List.set_cons_zero, List.set_cons_succ]
            refine takeY 33 (i := 16) (v := ?v16b) rfl rfl (by kernel_rfl) (by kernel_rfl) (by kernel_rfl) (fun _ _ _ h => h) (by kernel_rfl) ?y16b hs0 ?_
            case y16b =>
              intro w' hw'; (try dsimp only at hw'); obtain ⟨r, a0, a1, a2, a3, a4, a5, a6, a7, a8, a9, a10, a11⟩ := hw'; go_simp; try with_reducible rfl
            simp only [Act.put, List.setIfInBounds_toArray, List.set_cons_zero, List.set_cons_succ]
            refine takeY 34 (i := 17) (v := ?v17b) rfl rfl (by kernel_rfl) (by kernel_rfl) (by kernel_rfl) (fun _ _ _ h => h) (by kernel_rfl) ?y17b hs0 ?_
            case y17b =>
              intro w' hw'; (try dsimp only at hw'); obtain ⟨r, a0, a1, a2, a3, a4, a5, a6, a7, a8, a9, a10, a11⟩ := hw'; go_simp; try with_reducible rfl
            simp only [Act.put, List.setIfInBounds_toArray, List.set_cons_zero, List.set_cons_succ]
            refine takeY 35 (i := 18) (v := ?v18b) rfl rfl (by kernel_rfl) (by kernel_rfl) (by kernel_rfl) (fun _ _ _ h => h) (by kernel_rfl) ?y18b hs0 ?_
            case y18b =>
              intro w' hw'; (try dsimp only at hw'); obtain ⟨r, a0, a1, a2, a3, a4, a5, a6, a7, a8, a9, a10, a11⟩ := hw'; go_simp; try with_reducible rfl
            simp only [Act.put, List.setIfInBounds_toArray, List.set_cons_zero, List.set_cons_succ]
            refine takeY 36 (i := 19) (v := ?v19b) rfl rfl (by kernel_rfl) (by kernel_rfl) (by kernel_rfl) (fun _ _ _ h => h) (by kernel_rfl) ?y19b hs0 ?_
            case y19b =>
              intro w' hw'; (try dsimp only at hw'); obtain ⟨r, a0, a1, a2, a3, a4, a5, a6, a7, a8, a9, a10, a11⟩ := hw'; go_simp; try with_reducible rfl
            simp only [Act.put, List.setIfInBounds_toArray, List.set_cons_zero, List.set_cons_succ]
            refine takeY 37 (i := 20) (v := ?v20b) rfl rfl (by kernel_rfl) (by kernel_rfl) (by kernel_rfl) (fun _ _ _ h => h) (by kernel_rfl) ?y20b hs0 ?_
            case y20b =>
              intro w' hw'; (try dsimp only at hw'); obtain ⟨r, a0, a1, a2, a3, a4, a5, a6, a7, a8, a9, a10, a11⟩ := hw'; go_simp; try with_reducible rfl
            simp only [Act.put, List.setIfInBounds_toArray, List.set_cons_zero, List.set_cons_succ]
            refine takeY 38 (i := 21) (v := ?v21b) rfl rfl (by kernel_rfl) (by kernel_rfl) (by kernel_rfl) (fun _ _ _ h => h) (by kernel_rfl) ?y21b hs0 ?_
            case y21b =>
              intro w' hw'; (try dsimp only at hw'); obtain ⟨r, a0, a1, a2, a3, a4, a5, a6, a7, a8, a9, a10, a11⟩ := hw'; go_simp; try with_reducible rfl
            simp only [Act.put, List.setIfInBounds_toArray, List.set_cons_zero, List.set_cons_succ]
            refine wpAnyH_ready (rs := [22]) (by kernel_rfl) (by simp) ?_
            refine AllReadyH.cons rfl (fun K hK => ?_) AllReadyH.nil
            go_simp; go_at_call 32; refine (HC.out _ (hs0.1)).mono ?_; rintro e w3 ⟨rfl, hb3'⟩; have hb3 : Below wr.heap.size wr w3 := below_on (Below.refl _ _).drew hb3'; clear hb3'
            refine hK.out _ _ ⟨hb3, (hb3.cell (p := ⟨b1, off1 + k * 6, none⟩) hl1).trans e0, (hb3.cell (p := ⟨b1, off1 + k * 6 + 1, none⟩) hl1).trans e1, (hb3.cell (p := ⟨b1, off1 + k * 6 + 2, none⟩) hl1).trans e2, (hb3.cell (p := ⟨b1, off1 + k * 6 + 3, none⟩) hl1).trans e3, (hb3.cell (p := ⟨b1, off1 + k * 6 + 4, none⟩) hl1).trans e4, (hb3.cell (p := ⟨b1, off1 + k * 6 + 5, none⟩) hl1).trans e5, (hb3.cell (p := ⟨b2, off2 + k * 6, none⟩) hl2).trans f0, (hb3.cell (p := ⟨b2, off2 + k * 6 + 1, none⟩) hl2).trans f1, (hb3.cell (p := ⟨b2, off2 + k * 6 + 2, none⟩) hl2).trans f2, (hb3.cell (p := ⟨b2, off2 + k * 6 + 3, none⟩) hl2).trans f3, (hb3.cell (p := ⟨b2, off2 + k * 6 + 4, none⟩) hl2).trans f4, (hb3.cell (p := ⟨b2, off2 + k * 6 + 5, none⟩) hl2).trans f5⟩ (fun hS1 => ?_)
            clear hK K
            try simp only [Act.put, List.setIfInBounds_toArray, List.set_cons_zero, List.set_cons_succ]
            refine takeY 40 (i := 23) (v := ?v23b) rfl rfl (by kernel_rfl) (by kernel_rfl) (by kernel_rfl) (fun _ _ _ h => h) (by kernel_rfl) ?y23b hS1 ?_
            case y23b =>
              intro w' hw'; (try dsimp only at hw'); obtain ⟨r, a0, a1, a2, a3, a4, a5, a6, a7, a8, a9, a10, a11⟩ := hw'; go_simp; try with_reducible rfl
            simp only [Act.put, List.setIfInBounds_toArray, List.set_cons_zero, List.set_cons_succ]
            refine takeY 41 (i := 24) (v := ?v24b) rfl rfl (by kernel_rfl) (by kernel_rfl) (by kernel_rfl) (fun _ _ _ h => h) (by kernel_rfl) ?y24b hS1 ?_
            case y24b =>
              intro w' hw'; (try dsimp only at hw'); obtain ⟨r, a0, a1, a2, a3, a4, a5, a6, a7, a8, a9, a10, a11⟩ := hw'; go_simp; try with_reducible rfl
            simp only [Act.put, List.setIfInBounds_toArray, List.set_cons_zero, List.set_cons_succ]
            refine wpAnyH_done (by kernel_rfl) ?_ _
            go_wp2
            go_roundw
            case rel => exact ⟨k + 1, by omega, by go_num, by rw [datN_at HA1.out, datN_at HA2.out, HT.out, nd_dat.2 ⟨HE.out, HD.out⟩], HB.out.trans (hb3.mono hsz.out)⟩
            case measure => simp [intOf]; omega
        · have HF := Lib.hid (ne_nd HA1.out HA2.out (fun e => he (nd_dat.1 e).1))
          obtain rfl : b = false := by
            cases b
            · rfl
            · exact absurd (HBo.out.1 rfl) HF.out
          have hne : (x.op != y.op) = true := by simpa using he
          clear he
          go_wp2
          have hs0 : Below wr.heap.size wr wr.drew ∧ wr.drew.cell? ⟨b1, off1 + k * 6, none⟩ = some (.int .i64 x.op) ∧ wr.drew.cell? ⟨b1, off1 + k * 6 + 1, none⟩ = some (.int .i64 x.t.kind) ∧ wr.drew.cell? ⟨b1, off1 + k * 6 + 2, none⟩ = some (.int .i64 x.t.field) ∧ wr.drew.cell? ⟨b1, off1 + k * 6 + 3, none⟩ = some (.int .i64 x.t.value) ∧ wr.drew.cell? ⟨b1, off1 + k * 6 + 4, none⟩ = some (.slice x.t.LA x.t.Ln x.t.Lc) ∧ wr.drew.cell? ⟨b1, off1 + k * 6 + 5, none⟩ = some (.slice x.t.PA x.t.Pn x.t.Pc) ∧ wr.drew.cell? ⟨b2, off2 + k * 6, none⟩ = some (.int .i64 y.op) ∧ wr.drew.cell? ⟨b2, off2 + k * 6 + 1, none⟩ = some (.int .i64 y.t.kind) ∧ wr.drew.cell? ⟨b2, off2 + k * 6 + 2, none⟩ = some (.int .i64 y.t.field) ∧ wr.drew.cell? ⟨b2, off2 + k * 6 + 3, none⟩ = some (.int .i64 y.t.value) ∧ wr.drew.cell? ⟨b2, off2 + k * 6 + 4, none⟩ = some (.slice y.t.LA y.t.Ln y.t.Lc) ∧ wr.drew.cell? ⟨b2, off2 + k * 6 + 5, none⟩ = some (.slice y.t.PA y.t.Pn y.t.Pc) := ⟨(Below.refl _ _).drew, e0, e1, e2, e3, e4, e5, f0, f1, f2, f3, f4, f5⟩
          refine wp_region_held (S := fun w' => Below wr.heap.size wr w' ∧ w'.cell? ⟨b1, off1 + k * 6, none⟩ = some (.int .i64 x.op) ∧ w'.cell? ⟨b1, off1 + k * 6 + 1, none⟩ = some (.int .i64 x.t.kind) ∧ w'.cell? ⟨b1, off1 + k * 6 + 2, none⟩ = some (.int .i64 x.t.field) ∧ w'.cell? ⟨b1, off1 + k * 6 + 3, none⟩ = some (.int .i64 x.t.value) ∧ w'.cell? ⟨b1, off1 + k * 6 + 4, none⟩ = some (.slice x.t.LA x.t.Ln x.t.Lc) ∧ w'.cell? ⟨b1, off1 + k * 6 + 5, none⟩ = some (.slice x.t.PA x.t.Pn x.t.Pc) ∧ w'.cell? ⟨b2, off2 + k * 6, none⟩ = some (.int .i64 y.op) ∧ w'.cell? ⟨b2, off2 + k * 6 + 1, none⟩ = some (.int .i64 y.t.kind) ∧ w'.cell? ⟨b2, off2 + k * 6 + 2, none⟩ = some (.int .i64 y.t.field) ∧ w'.cell? ⟨b2, off2 + k * 6 + 3, none⟩ = some (.int .i64 y.t.value) ∧ w'.cell? ⟨b2, off2 + k * 6 + 4, none⟩ = some (.slice y.t.LA y.t.Ln y.t.Lc) ∧ w'.cell? ⟨b2, off2 + k * 6 + 5, none⟩ = some (.slice y.t.PA y.t.Pn y.t.Pc)) (by kernel_rfl) ?_
          change wpAnyH _ _ _ _ _ _ _ _ (World.drew _)
          refine takeY 17 (i := 0) (v := ?v0c) rfl rfl (by kernel_rfl) (by kernel_rfl) (by kernel_rfl) (fun _ _ _ h => h) (by kernel_rfl) ?y0c hs0 ?_
          case y0c =>
            intro w' hw'; (try dsimp only at hw'); obtain ⟨r, a0, a1, a2, a3, a4, a5, a6, a7, a8, a9, a10, a11⟩ := hw'; go_simp; try with_reducible rfl
          simp only [Act.put, List.setIfInBounds_toArray, List.set_cons_zero, List.set_cons_succ]
          refine takeY 18 (i := 1) (v := ?v1c) rfl rfl (by kernel_rfl) (by kernel_rfl) (by kernel_rfl) (fun _ _ _ h => h) (by kernel_rfl) ?y1c hs0 ?_
          case y1c =>
            intro w' hw'; (try dsimp only at hw'); obtain ⟨r, a0, a1, a2, a3, a4, a5, a6, a7, a8, a9, a10, a11⟩ := hw'; go_simp; try with_reducible rfl
          simp only [Act.put, List.setIfInBounds_toArray, List.set_cons_zero, List.set_cons_succ]
          refine takeY 19 (i := 2) (v := ?v2c) rfl rfl (by kernel_rfl) (by kernel_rfl) (by kernel_rfl) (fun _ _ _ h => h) (by kernel_rfl) ?y2c hs0 ?_
          case y2c =>
            intro w' hw'; (try dsimp only at hw'); obtain ⟨r, a0, a1, a2, a3, a4, a5, a6, a7, a8, a9, a10, a11⟩ := hw'; go_simp; try with_reducible rfl
          simp only [Act.put, List.setIfInBounds_toArray, List.set_cons_zero, List.set_cons_succ]
          refine takeY 20 (i := 3) (v := ?v3c) rfl rfl (by kernel_rfl) (by kernel_rfl) (by kernel_rfl) (fun _ _ _ h => h) (by kernel_rfl) ?y3c hs0 ?_
          case y3c =>
            intro w' hw'; (try dsimp only at hw'); obtain ⟨r, a0, a1, a2, a3, a4, a5, a6, a7, a8, a9, a10, a11⟩ := hw'; go_simp; try with_reducible rfl
          simp only [Act.put, List.setIfInBounds_toArray, List.set_cons_zero, List.set_cons_succ]
          refine takeY 21 (i := 4) (v := ?v4c) rfl rfl (by kernel_rfl) (by kernel_rfl) (by kernel_rfl) (fun _ _ _ h => h) (by kernel_rfl) ?y4c hs0 ?_
          case y4c =>
            intro w' hw'; (try dsimp only at hw'); obtain ⟨r, a0, a1, a2, a3, a4, a5, a6, a7, a8, a9, a10, a11⟩ := hw'; go_simp; try with_reducible rfl
          simp only [Act.put, List.setIfInBounds_toArray, List.set_cons_zero, List.set_cons_succ]
          refine takeY 22 (i := 5) (v := ?v5c) rfl rfl (by kernel_rfl) (by kernel_rfl) (by kernel_rfl) (fun _ _ _ h => h) (by kernel_rfl) ?y5c hs0 ?_
          case y5c =>
            intro w' hw'; (try dsimp only at hw'); obtain ⟨r, a0, a1, a2, a3, a4, a5, a6, a7, a8, a9, a10, a11⟩ := hw'; go_simp; try with_reducible rfl
          simp only [Act.put, List.setIfInBounds_toArray, List.set_cons_zero, List.set_cons_succ]
          refine takeY 23 (i := 6) (v := ?v6c) rfl rfl (by kernel_rfl) (by kernel_rfl) (by kernel_rfl) (fun _ _ _ h => h) (by kernel_rfl) ?y6c hs0 ?_
          case y6c =>
            intro w' hw'; (try dsimp only at hw'); obtain ⟨r, a0, a1, a2, a3, a4, a5, a6, a7, a8, a9, a10, a11⟩ := hw'; go_simp; try with_reducible rfl
          simp only [Act.put, List.setIfInBounds_toArray, List.set_cons_zero, List.set_cons_succ]
          refine takeY 24 (i := 7) (v := ?v7c) rfl rfl (by kernel_rfl) (by kernel_rfl) (by kernel_rfl) (fun _ _ _ h => h) (by kernel_rfl) ?y7c hs0 ?_
          case y7c =>
            intro w' hw'; (try dsimp only at hw'); obtain ⟨r, a0, a1, a2, a3, a4, a5, a6, a7, a8, a9, a10, a11⟩ := hw'; go_simp; try with_reducible rfl
          simp only [Act.put, List.setIfInBounds_toArray, List.set_cons_zero, List.set_cons_succ]
          refine takeY 25 (i := 8) (v := ?v8c) rfl rfl (by kernel_rfl) (by kernel_rfl) (by kernel_rfl) (fun _ _ _ h => h) (by kernel_rfl) ?y8c hs0 ?_
          case y8c =>
            intro w' hw'; (try dsimp only at hw'); obtain ⟨r, a0, a1, a2, a3, a4, a5, a6, a7, a8, a9, a10, a11⟩ := hw'; go_simp; try with_reducible rfl
          simp only [Act.put, List.setIfInBounds_toArray, List.set_cons_zero, List.set_cons_succ]
          refine takeY 26 (i := 9) (v := ?v9c) rfl rfl (by kernel_rfl) (by kernel_rfl) (by kernel_rfl) (fun _ _ _ h => h) (by kernel_rfl) ?y9c hs0 ?_
          case y9c =>
            intro w' hw'; (try dsimp only at hw'); obtain ⟨r, a0, a1, a2, a3, a4, a5, a6, a7, a8, a9, a10, a11⟩ := hw'; go_simp; try with_reducible rfl
          simp only [Act.put, List.setIfInBounds_toArray, List.set_cons_zero, List.set_cons_succ]
          refine takeY 27 (i := 10) (v := ?v10c) rfl rfl (by kernel_rfl) (by kernel_rfl) (by kernel_rfl) (fun _ _ _ h => h) (by kernel_rfl) ?y10c hs0 ?_
          case y10c =>
            intro w' hw'; (try dsimp only at hw'); obtain ⟨r, a0, a1, a2, a3, a4, a5, a6, a7, a8, a9, a10, a11⟩ := hw'; go_simp; try with_reducible rfl
          simp only [Act.put, List.setIfInBounds_toArray, List.set_cons_zero, List.set_cons_succ]
          refine takeY 28 (i := 11) (v := ?v11c) rfl rfl (by kernel_rfl) (by kernel_rfl) (by kernel_rfl) (fun _ _ _ h => h) (by kernel_rfl) ?y11c hs0 ?_
          case y11c =>
            intro w' hw'; (try dsimp only at hw'); obtain ⟨r, a0, a1, a2, a3, a4, a5, a6, a7, a8, a9, a10, a11⟩ := hw'; go_simp; try with_reducible rfl
          simp only [Act.put, List.setIfInBounds_toArray, List.set_cons_zero, List.set_cons_succ]
          refine takeU 29 (i := 12) rfl rfl (by kernel_rfl) (by kernel_rfl) (by kernel_rfl) (fun _ _ _ h => h) (by kernel_rfl) hs0 ?_
          simp only [Act.put, List.setIfInBounds_toArray, List.set_cons_zero, List.set_cons_succ]
          refine takeU 30 (i := 13) rfl rfl (by kernel_rfl) (by kernel_rfl) (by kernel_rfl) (fun _ _ _ h => h) (by kernel_rfl) hs0 ?_
          simp only [Act.put, List.setIfInBounds_toArray, List.set_cons_zero, List.set_cons_succ]
          refine takeU 31 (i := 14) rfl rfl (by kernel_rfl) (by kernel_rfl) (by kernel_rfl) (fun _ _ _ h => h) (by kernel_rfl) hs0 ?_
          simp only [Act.put, List.setIfInBounds_toArray, List.set_cons_zero, List.set_cons_succ]
          refine takeU 32 (i := 15) rfl rfl (by kernel_rfl) (by kernel_rfl) (by kernel_rfl) (fun _ _ _ h => h) (by kernel_rfl) hs0 ?_
          simp only [Act.put, List.setIfInBounds_toArray, List.set_cons_zero, List.set_cons_succ]
          refine takeU 33 (i := 16) rfl rfl (by kernel_rfl) (by kernel_rfl) (by kernel_rfl) (fun _ _ _ h => h) (by kernel_rfl) hs0 ?_
          simp only [Act.put, List.setIfInBounds_toArray, List.set_cons_zero, List.set_cons_succ]
          refine takeU 34 (i := 17) rfl rfl (by kernel_rfl) (by kernel_rfl) (by kernel_rfl) (fun _ _ _ h => h) (by kernel_rfl) hs0 ?_
          simp only [Act.put, List.setIfInBounds_toArray, List.set_cons_zero, List.set_cons_succ]
          refine takeU 35 (i := 18) rfl rfl (by kernel_rfl) (by kernel_rfl) (by kernel_rfl) (fun _ _ _ h => h) (by kernel_rfl) hs0 ?_
          simp only [Act.put, List.setIfInBounds_toArray, List.set_cons_zero, List.set_cons_succ]
          refine takeU 36 (i := 19) rfl rfl (by kernel_rfl) (by kernel_rfl) (by kernel_rfl) (fun _ _ _ h => h) (by kernel_rfl) hs0 ?_
          simp only [Act.put, List.setIfInBounds_toArray, List.set_cons_zero, List.set_cons_succ]
          refine takeU 37 (i := 20) rfl rfl (by kernel_rfl) (by kernel_rfl) (by kernel_rfl) (fun _ _ _ h => h) (by kernel_rfl) hs0 ?_
          simp only [Act.put, List.setIfInBounds_toArray, List.set_cons_zero, List.set_cons_succ]
          refine takeU 38 (i := 21) rfl rfl (by kernel_rfl) (by kernel_rfl) (by kernel_rfl) (fun _ _ _ h => h) (by kernel_rfl) hs0 ?_
          simp only [Act.put, List.setIfInBounds_toArray, List.set_cons_zero, List.set_cons_succ]
          refine takeU 39 (i := 22) rfl rfl (by kernel_rfl) (by kernel_rfl) (by kernel_rfl) (fun _ _ _ h => h) (by kernel_rfl) hs0 ?_
          simp only [Act.put, List.setIfInBounds_toArray, List.set_cons_zero, List.set_cons_succ]
          refine takeU 40 (i := 23) rfl rfl (by kernel_rfl) (by kernel_rfl) (by kernel_rfl) (fun _ _ _ h => h) (by kernel_rfl) hs0 ?_
          simp only [Act.put, List.setIfInBounds_toArray, List.set_cons_zero, List.set_cons_succ]
          refine takeY 41 (i := 24) (v := ?v24c) rfl rfl (by kernel_rfl) (by kernel_rfl) (by kernel_rfl) (fun _ _ _ h => h) (by kernel_rfl) ?y24c hs0 ?_
          case y24c =>
            intro w' hw'; (try dsimp only at hw'); obtain ⟨r, a0, a1, a2, a3, a4, a5, a6, a7, a8, a9, a10, a11⟩ := hw'; go_simp; try with_reducible rfl
          simp only [Act.put, List.setIfInBounds_toArray, List.set_cons_zero, List.set_cons_succ]
          refine wpAnyH_done (by kernel_rfl) ?_ _
          go_wp2
          go_ret
          exact ⟨rfl, HB.out.trans (hs0.1.mono hsz.out)⟩
      · obtain rfl : k = n := by omega
        obtain rfl : b = true := HBo.out.2 (by have := HT.out; rwa [ptake_all HX.out.len, ptake_all HY.out.len] at this)
        clear hbel
        go_wp2
        go_ret
        exact ⟨rfl, HB.out⟩
  · obtain rfl : b = false := by
      cases b
      · rfl
      · exact absurd (hb.1 rfl) (ne_len (by rw [h1.len, h2.len]; exact hl))
    clear h1 h2 hb
    go_enter Tryz.func9, Tryz.ntmps9
    go_wp2
    go_ret
    exact ⟨rfl, Below.refl _ _⟩

set_option maxRecDepth 20000 in
theorem iSameNode (w : World) (B : Nat) (x y : Nd) (h1 : WiIn w B x.t) (h2 : WiIn w B y.t) (hB : B ≤ w.heap.size) (hn : x.t.Short) (b : Bool) (hb : b = true ↔ x.dat = y.dat) :
    Calls Tryz.prog 83 #[x.val, y.val] w fun e w' => e = .returned (.bool b) ∧ Below w.heap.size w w' := by
  obtain ⟨op, t⟩ := x
  obtain ⟨op', t'⟩ := y
  rw [nd_dat] at hb
  have HW2 : Hid (∀ o1 o2 : Obj, Below w.heap.size w ((w.alloc o1).alloc o2)) := Lib.hid fun o1 o2 => ((Below.refl _ w).alloc (Nat.le_refl _) _).alloc (by simp) _
  have HB2 : Hid (∀ o1 o2 : Obj, Below B w ((w.alloc o1).alloc o2)) := Lib.hid fun o1 o2 => ((Below.refl B w).alloc hB _).alloc (by simp; omega) _
  obtain ⟨q, hq⟩ := bool_of (t.dat = t'.dat)
  have HC : Hid (∀ w1, Below B w w1 → Calls Tryz.prog 70 #[.agg #[.int .i64 t.kind, .int .i64 t.field, .int .i64 t.value, .slice t.LA t.Ln t.Lc, .slice t.PA t.Pn t.Pc], .agg #[.int .i64 t'.kind, .int .i64 t'.field, .int .i64 t'.value, .slice t'.LA t'.Ln t'.Lc, .slice t'.PA t'.Pn t'.Pc]] w1 fun e w' => e = .returned (.bool q) ∧ Below w1.heap.size w1 w') := Lib.hid fun w1 h => iSameWish w1 B t t' (h1.below h) (h2.below h) (Nat.le_trans hB h.size) hn q hq
  have HNo : Hid (¬ (op = op' ∧ q = true) → b = false) := Lib.hid fun h => by
    cases b
    · rfl
    · exact absurd ⟨(hb.1 rfl).1, hq.2 (hb.1 rfl).2⟩ h
  have HYes : Hid (op = op' → q = true → b = true) := Lib.hid fun e1 e2 => hb.2 ⟨e1, hq.1 e2⟩
  have hval : (Nd.mk op t).val = .agg #[.int .i64 op, .int .i64 t.kind, .int .i64 t.field, .int .i64 t.value, .slice t.LA t.Ln t.Lc, .slice t.PA t.Pn t.Pc] := rfl
  have hval' : (Nd.mk op' t').val = .agg #[.int .i64 op', .int .i64 t'.kind, .int .i64 t'.field, .int .i64 t'.value, .slice t'.LA t'.Ln t'.Lc, .slice t'.PA t'.Pn t'.Pc] := rfl
  rw [hval, hval']
  clear hval hval' hb hq h1 h2 hn
  by_cases e1 : op = op'
  · have HR : Hid (b = q) := Lib.hid (by
      cases q
      · exact HNo.out fun h => by have := h.2; cases this
      · exact HYes.out e1 rfl)
    obtain rfl := HR.out
    subst e1
    go_enter Tryz.func83, Tryz.ntmps83
    go_wp2_with fail
    refine (HC.out _ (HB2.out _ _)).mono ?_
    rintro e w1 ⟨rfl, hb1⟩
    have HBB := Lib.hid (below_on (HW2.out _ _) hb1)
    clear hb1
    go_wp2
    go_ret
    exact ⟨rfl, HBB.out⟩
  · obtain rfl := HNo.out fun h => e1 h.1
    have hne : (op == op') = false := by simpa using e1
    go_enter Tryz.func83, Tryz.ntmps83
    go_wp2
    go_ret
    exact ⟨rfl, HW2.out _ _⟩

set_option maxRecDepth 20000 in
theorem iEqFunc (w : World) (B : Nat) (A A' : Option Addr) (n n' c c' : Nat) (xs ys : List Nd) (h1 : Nodes w B A n xs) (h2 : Nodes w B A' n' ys) (hB : B ≤ w.heap.size) (hn : n ≤ 1048576) (hN : ShortN xs) (b : Bool) (hb : b = true ↔ datN xs = datN ys) :
    Calls Tryz.prog 82 #[.slice A n c, .slice A' n' c', .func (.func 83) #[] #[]] w fun e w' => e = .returned (.bool b) ∧ Below w.heap.size w w' := by
  have HX := Lib.hid h1
  have HY := Lib.hid h2
  have HN := Lib.hid hN
  by_cases hl : n = n'
  · subst hl
    have HBo := Lib.hid hb
    clear h1 h2 hN hb
    go_enter Tryz.func82, Tryz.ntmps82
    go_wp2
    go_loopw [17] (fun i wr => ∃ k : Nat, k ≤ n ∧ i = .int .i64 k ∧ datN (xs.take k) = datN (ys.take k) ∧ Below w.heap.size w wr) (fun i _ => n - (intOf i).toNat)
    case atStart => exact ⟨0, Nat.zero_le _, rfl, rfl, Below.refl _ _⟩
    case round =>
      obtain ⟨k, hk, rfl, htake, hbel⟩ := hrel
      have HT := Lib.hid htake
      have HB := Lib.hid hbel
      clear htake
      by_cases hlt : k < n
      · obtain ⟨b1, off1, x, rfl, hb1, hat1, hw1, e0, e1, e2, e3, e4, e5⟩ := HX.out.at k hlt
        obtain ⟨b2, off2, y, rfl, hb2, hat2, hw2, f0, f1, f2, f3, f4, f5⟩ := HY.out.at k hlt
        have tr : ∀ {bb oo : Nat} {v : Value}, bb < B → w.cell? ⟨bb, oo, none⟩ = some v → wr.cell? ⟨bb, oo, none⟩ = some v := fun {bb oo v} hb h => (hbel.cell (p := ⟨bb, oo, none⟩) (Nat.lt_of_lt_of_le hb hB)).trans h
        have e0 := tr hb1 e0
        have e1 := tr hb1 e1
        have e2 := tr hb1 e2
        have e3 := tr hb1 e3
        have e4 := tr hb1 e4
        have e5 := tr hb1 e5
        have f0 := tr hb2 f0
        have f1 := tr hb2 f1
        have f2 := tr hb2 f2
        have f3 := tr hb2 f3
        have f4 := tr hb2 f4
        have f5 := tr hb2 f5
        have HA1 := Lib.hid hat1
        have HA2 := Lib.hid hat2
        have hsz := Lib.hid hbel.size
        have hl1 : b1 < wr.heap.size := by have := hbel.size; omega
        have hl2 : b2 < wr.heap.size := by have := hbel.size; omega
        obtain ⟨q, hq⟩ : ∃ q : Bool, q = true ↔ x.dat = y.dat := bool_of _
        have HQ := Lib.hid hq
        have HC : Hid (∀ w1, Below wr.heap.size wr w1 → Calls Tryz.prog 83 #[.agg #[.int .i64 x.op, .int .i64 x.t.kind, .int .i64 x.t.field, .int .i64 x.t.value, .slice x.t.LA x.t.Ln x.t.Lc, .slice x.t.PA x.t.Pn x.t.Pc], .agg #[.int .i64 y.op, .int .i64 y.t.kind, .int .i64 y.t.field, .int .i64 y.t.value, .slice y.t.LA y.t.Ln y.t.Lc, .slice y.t.PA y.t.Pn y.t.Pc]] w1 fun e w' => e = .returned (.bool q) ∧ Below w1.heap.size w1 w') := Lib.hid fun w1 h =>
          iSameNode w1 B x y (hw1.2.below ((hbel.mono hB).trans (h.mono (Nat.le_trans hB hbel.size)))) (hw2.2.below ((hbel.mono hB).trans (h.mono (Nat.le_trans hB hbel.size)))) (Nat.le_trans hB (Nat.le_trans hbel.size h.size)) (HN.out x (List.mem_of_getElem? hat1)) q hq
        have HW2 : Hid (∀ o1 o2 : Obj, Below wr.heap.size wr ((wr.alloc o1).alloc o2)) := Lib.hid fun o1 o2 => ((Below.refl _ wr).alloc (Nat.le_refl _) _).alloc (by simp) _
        clear hat1 hat2 hbel hq hw1 hw2 tr
        go_wp2_with fail
        refine (HC.out _ (HW2.out _ _)).mono ?_
        rintro e w3 ⟨rfl, hb3⟩
        have HB3 := Lib.hid (below_on HB.out (below_on (HW2.out _ _) hb3))
        clear hb3 e0 e1 e2 e3 e4 e5 f0 f1 f2 f3 f4 f5
        cases q
        · have HF := Lib.hid (ne_nd HA1.out HA2.out (fun e => by have := HQ.out.2 e; cases this))
          obtain rfl : b = false := by
            cases b
            · rfl
            · exact absurd (HBo.out.1 rfl) HF.out
          go_wp2
          go_ret
          exact ⟨rfl, HB3.out⟩
        · have HD := Lib.hid (HQ.out.1 (by first | rfl | trivial))
          go_wp2
          go_roundw
          case rel => exact ⟨k + 1, by omega, by go_num, by rw [datN_at HA1.out, datN_at HA2.out, HT.out, HD.out], HB3.out⟩
          case measure => simp [intOf]; omega
      · obtain rfl : k = n := by omega
        obtain rfl : b = true := HBo.out.2 (by have := HT.out; rwa [ptake_all HX.out.len, ptake_all HY.out.len] at this)
        clear hbel
        go_wp2
        go_ret
        exact ⟨rfl, HB.out⟩
  · obtain rfl : b = false := by
      cases b
      · rfl
      · exact absurd (hb.1 rfl) (ne_len (by rw [h1.len, h2.len]; exact hl))
    clear h1 h2 hb
    go_enter Tryz.func82, Tryz.ntmps82
    go_wp2
    go_ret
    exact ⟨rfl, Below.refl _ _⟩
theorem iEqE (w : World) (B : Nat) (A A' : Option Addr) (n n' c c' : Nat) (xs ys : List Nd) (h1 : Nodes w B A n xs) (h2 : Nodes w B A' n' ys) (hB : B ≤ w.heap.size) (hn : n ≤ 1048576) (hN : ShortN xs) (b : Bool) (hb : b = true ↔ datN xs = datN ys) :
    Calls Tryz.prog 65 #[.slice A n c, .slice A' n' c'] w fun e w' => e = .returned (.bool b) ∧ Below w.heap.size w w' := by
  have HC := Lib.hid (iEqFunc w B A A' n n' c c' xs ys h1 h2 hB hn hN b hb)
  clear h1 h2 hN hb
  go_enter Tryz.func65, Tryz.ntmps65
  go_wp2_with fail
  refine HC.out.mono ?_
  rintro e w1 ⟨rfl, hb1⟩
  go_wp2
  go_ret
  exact ⟨rfl, hb1⟩
end Go.Proofs.YtaijajajpnekbaaGreat.num
