/- Contracts of functions that the laws of this chapter call, packed. -/
import Derived.Test.YtadjoiahllekdaaGreatDoorItemEq
import Derived.Test.YtadjoiahllekdaaGreatDoorRegion
import Derived.Test.YtadjoiahllekdaaGreatDoorExpSpec
import Derived.Test.YtadjoiahllekdaaGreatDoorPairEq
import Derived.Test.YtadjoiahllekdaaGreatDoorProg
import Derived.WalkKit
import Derived.Lib.Hide
import Derived.Maps.RangeWalk
import Derived.Maps.Ext
import Derived.Laws.IdiomRangeMap
import Derived.Test.YtadjoiahllekdaaGreatDoorPairSpecC
import Derived.Deep.Cut
import Derived.Test.YtadjoiahllekdaaGreatDoorPairSpecD
import Derived.Test.YtadjoiahllekdaaGreatDoorWishSpec
import Derived.Test.YtadjoiahllekdaaGreatDoorWishSpecC
import Derived.BigRegion
import Derived.Test.YtadjoiahllekdaaGreatDoorExpMath
import Derived.Test.YtadjoiahllekdaaGreatDoorWishCp
import Derived.Test.YtadjoiahllekdaaGreatDoorCopyN
import Derived.Lib.AppendZeros
import Derived.Test.YtadjoiahllekdaaGreatDoorItemDraw
namespace Go.Proofs.YtadjoiahllekdaaGreatDoor.num
set_option maxRecDepth 20000
open Go.RowKit
set_option linter.unusedSimpArgs false

theorem sl2Ints (w : World) (B : Nat) (A A' : Option Addr) (n n' c c' : Nat) (xs ys : List Int) (hx : Ints w B A n xs) (hy : Ints w B A' n' ys) (hn : n ≤ 1048576) (b : Bool) (hb : b = true ↔ xs = ys) :
    Calls Tryz.prog 120 #[.slice A n c, .slice A' n' c'] w fun e w' => e = .returned (.bool b) ∧ ∃ m, w' = w.drewN m := by
  have HX := Lib.hid hx
  have HY := Lib.hid hy
  by_cases hl : n = n'
  · subst hl
    have HB := Lib.hid hb
    clear hx hy hb
    go_enter Tryz.func120, Tryz.ntmps120
    go_wp2
    go_loopw [5] (fun i wr => ∃ k : Nat, k ≤ n ∧ i = .int .i64 k ∧ xs.take k = ys.take k ∧ ∃ m, wr = w.drewN m) (fun i _ => n - (intOf i).toNat)
    case atStart => exact ⟨0, Nat.zero_le _, rfl, rfl, 0, rfl⟩
    case round =>
      obtain ⟨k, hk, rfl, htake, m, rfl⟩ := hrel
      have HT := Lib.hid htake
      clear htake
      by_cases hlt : k < n
      · obtain ⟨b1, off1, rfl, hb1, hc1⟩ := HX.out.2 k hlt
        obtain ⟨b2, off2, rfl, hb2, hc2⟩ := HY.out.2 k hlt
        generalize hv1 : xs.getD k 0 = v1 at *
        generalize hv2 : ys.getD k 0 = v2 at *
        have HV1 := Lib.hid hv1
        have HV2 := Lib.hid hv2
        clear hv1 hv2
        have hlt' : (k : Int) < (n : Int) := by omega
        by_cases he : v1 = v2
        · subst he
          go_wp2
          go_quiet (fail)
          go_wp2
          go_roundw
          case rel => exact ⟨k + 1, by omega, by go_num, by rw [take_snoc_getD HX.out.1 hlt, take_snoc_getD HY.out.1 hlt, HT.out, HV1.out, HV2.out], _, rfl⟩
          case measure => simp [intOf]; omega
        · have hne : (v1 != v2) = true := by simpa using he
          have hxy : xs ≠ ys := ne_at (k := k) (by rw [HV1.out, HV2.out]; exact he)
          obtain rfl : b = false := by
            cases b
            · rfl
            · exact absurd (HB.out.1 rfl) hxy
          have HE := Lib.hid he
          clear he hxy
          go_wp2
          go_quiet (fail)
          go_wp2
          go_ret
          exact ⟨rfl, _, World.drewN_drewN _ _ _⟩
      · obtain rfl : k = n := by omega
        obtain rfl : b = true := HB.out.2 (by
          have h1 := HT.out
          rwa [List.take_of_length_le (by rw [HX.out.1]; exact Nat.le_refl _), List.take_of_length_le (by rw [HY.out.1]; exact Nat.le_refl _)] at h1)
        go_wp2
        go_ret
        exact ⟨rfl, _, rfl⟩
  · obtain rfl : b = false := by
      cases b
      · rfl
      · exact absurd (by rw [← hx.1, hb.1 rfl, hy.1]) hl
    clear hx hy hb
    go_enter Tryz.func120, Tryz.ntmps120
    go_wp2
    go_ret
    exact ⟨rfl, 0, rfl⟩
theorem slEqual (w : World) (B : Nat) (A A' : Option Addr) (n n' c c' : Nat) (xs ys : List Int) (hx : Ints w B A n xs) (hy : Ints w B A' n' ys) (hn : n ≤ 1048576) (b : Bool) (hb : b = true ↔ xs = ys) :
    Calls Tryz.prog 138 #[.slice A n c, .slice A' n' c'] w fun e w' => e = .returned (.bool b) ∧ ∃ m, w' = w.drewN m := by
  have HX := Lib.hid hx
  have HY := Lib.hid hy
  by_cases hl : n = n'
  · subst hl
    have HB := Lib.hid hb
    clear hx hy hb
    go_enter Tryz.func138, Tryz.ntmps138
    go_wp2
    go_loopw [13] (fun i wr => ∃ k : Nat, k ≤ n ∧ i = .int .i64 k ∧ xs.take k = ys.take k ∧ ∃ m, wr = w.drewN m) (fun i _ => n - (intOf i).toNat)
    case atStart => exact ⟨0, Nat.zero_le _, rfl, rfl, 0, rfl⟩
    case round =>
      obtain ⟨k, hk, rfl, htake, m, rfl⟩ := hrel
      have HT := Lib.hid htake
      clear htake
      by_cases hlt : k < n
      · obtain ⟨b1, off1, rfl, hb1, hc1⟩ := HX.out.2 k hlt
        obtain ⟨b2, off2, rfl, hb2, hc2⟩ := HY.out.2 k hlt
        generalize hv1 : xs.getD k 0 = v1 at *
        generalize hv2 : ys.getD k 0 = v2 at *
        have HV1 := Lib.hid hv1
        have HV2 := Lib.hid hv2
        clear hv1 hv2
        have hlt' : (k : Int) < (n : Int) := by omega
        by_cases he : v1 = v2
        · subst he
          go_wp2
          go_quiet (fail)
          go_wp2
          go_roundw
          case rel => exact ⟨k + 1, by omega, by go_num, by rw [take_snoc_getD HX.out.1 hlt, take_snoc_getD HY.out.1 hlt, HT.out, HV1.out, HV2.out], _, rfl⟩
          case measure => simp [intOf]; omega
        · have hne : (v1 != v2) = true := by simpa using he
          have hxy : xs ≠ ys := ne_at (k := k) (by rw [HV1.out, HV2.out]; exact he)
          obtain rfl : b = false := by
            cases b
            · rfl
            · exact absurd (HB.out.1 rfl) hxy
          have HE := Lib.hid he
          clear he hxy
          go_wp2
          go_quiet (fail)
          go_wp2
          go_ret
          exact ⟨rfl, _, World.drewN_drewN _ _ _⟩
      · obtain rfl : k = n := by omega
        obtain rfl : b = true := HB.out.2 (by
          have h1 := HT.out
          rwa [List.take_of_length_le (by rw [HX.out.1]; exact Nat.le_refl _), List.take_of_length_le (by rw [HY.out.1]; exact Nat.le_refl _)] at h1)
        go_wp2
        go_ret
        exact ⟨rfl, _, rfl⟩
  · obtain rfl : b = false := by
      cases b
      · rfl
      · exact absurd (by rw [← hx.1, hb.1 rfl, hy.1]) hl
    clear hx hy hb
    go_enter Tryz.func138, Tryz.ntmps138
    go_wp2
    go_ret
    exact ⟨rfl, 0, rfl⟩

end Go.Proofs.YtadjoiahllekdaaGreatDoor.num
namespace Go.Proofs.YtadjoiahllekdaaGreatDoor.num
set_option maxRecDepth 20000
open Go.RowKit
set_option linter.unusedVariables false
set_option linter.unusedSimpArgs false

set_option maxRecDepth 20000 in
theorem pair_neq (w : World) (x1 y1 x2 y2 : Int) : (binOp .neq 78 (.agg #[.int .i64 x1, .int .i64 y1]) (.agg #[.int .i64 x2, .int .i64 y2])).run Tryz.prog w = .ok (.bool (!(x1 == x2 && y1 == y2))) w := by
  have hu := Tryz.underlying78
  by_cases h1 : x1 = x2
  · go_simp
    by_cases h2 : y1 = y2 <;> simp [h1, h2]
  · go_simp

set_option maxRecDepth 20000 in
theorem sl5Pairs (w : World) (B : Nat) (A A' : Option Addr) (n n' c c' : Nat) (ps qs : List (Int × Int)) (h1 : Pairs w B A n ps) (h2 : Pairs w B A' n' qs) (hn : n ≤ 1048576) (b : Bool) (hb : b = true ↔ ps = qs) :
    Calls Tryz.prog 121 #[.slice A n c, .slice A' n' c'] w fun e w' => e = .returned (.bool b) ∧ ∃ m, w' = w.drewN m := by
  have HX := Lib.hid h1
  have HY := Lib.hid h2
  by_cases hl : n = n'
  · subst hl
    have HBo := Lib.hid hb
    clear h1 h2 hb
    go_enter Tryz.func121, Tryz.ntmps121
    go_wp2
    go_loopw [5] (fun i wr => ∃ k : Nat, k ≤ n ∧ i = .int .i64 k ∧ ps.take k = qs.take k ∧ ∃ m, wr = w.drewN m) (fun i _ => n - (intOf i).toNat)
    case atStart => exact ⟨0, Nat.zero_le _, rfl, rfl, 0, rfl⟩
    case round =>
      obtain ⟨k, hk, rfl, htake, m, rfl⟩ := hrel
      have HT := Lib.hid htake
      clear htake
      by_cases hlt : k < n
      · obtain ⟨b1, off1, x1, y1, rfl, hb1, hat1, hc1, hd1⟩ := HX.out.at k hlt
        obtain ⟨b2, off2, x2, y2, rfl, hb2, hat2, hc2, hd2⟩ := HY.out.at k hlt
        have HA1 := Lib.hid hat1
        have HA2 := Lib.hid hat2
        have hlt' : (k : Int) < (n : Int) := by omega
        obtain ⟨q, hq⟩ : ∃ q : Bool, q = true ↔ (x1, y1) = (x2, y2) := bool_of _
        have HQ := Lib.hid hq
        have hne : ∀ w1, (binOp .neq 78 (.agg #[.int .i64 x1, .int .i64 y1]) (.agg #[.int .i64 x2, .int .i64 y2])).run Tryz.prog w1 = .ok (.bool (!q)) w1 := fun w1 => by
          rw [pair_neq]
          congr 2
          cases q
          · have : (x1 == x2 && y1 == y2) = false := by
              cases h : (x1 == x2 && y1 == y2)
              · rfl
              · simp at h; exact absurd (HQ.out.2 (by rw [h.1, h.2])) (by simp)
            rw [this]
          · have h := Prod.mk.inj (HQ.out.1 rfl)
            rw [h.1, h.2]; simp
        clear hat1 hat2 hq
        cases q
        · have HF := Lib.hid (ne_atP HA1.out HA2.out (fun e => by have := HQ.out.2 e; cases this))
          obtain rfl : b = false := by
            cases b
            · rfl
            · exact absurd (HBo.out.1 rfl) HF.out
          go_wp2
          go_quiet (fail)
          go_wp2
          go_ret
          exact ⟨rfl, _, World.drewN_drewN _ _ _⟩
        · have HD := Lib.hid (HQ.out.1 rfl)
          go_wp2
          go_quiet (fail)
          go_wp2
          go_roundw
          case rel => exact ⟨k + 1, by omega, by go_num, by rw [ptake_at HA1.out, ptake_at HA2.out, HT.out, HD.out], _, rfl⟩
          case measure => simp [intOf]; omega
      · obtain rfl : k = n := by omega
        obtain rfl : b = true := HBo.out.2 (by have := HT.out; rwa [ptake_all HX.out.1, ptake_all HY.out.1] at this)
        go_wp2
        go_ret
        exact ⟨rfl, _, rfl⟩
  · obtain rfl : b = false := by
      cases b
      · rfl
      · exact absurd (by rw [← h1.1, hb.1 rfl, h2.1]) hl
    clear h1 h2 hb
    go_enter Tryz.func121, Tryz.ntmps121
    go_wp2
    go_ret
    exact ⟨rfl, 0, rfl⟩

set_option maxRecDepth 20000 in
theorem slEqualP (w : World) (B : Nat) (A A' : Option Addr) (n n' c c' : Nat) (ps qs : List (Int × Int)) (h1 : Pairs w B A n ps) (h2 : Pairs w B A' n' qs) (hn : n ≤ 1048576) (b : Bool) (hb : b = true ↔ ps = qs) :
    Calls Tryz.prog 139 #[.slice A n c, .slice A' n' c'] w fun e w' => e = .returned (.bool b) ∧ ∃ m, w' = w.drewN m := by
  have HX := Lib.hid h1
  have HY := Lib.hid h2
  by_cases hl : n = n'
  · subst hl
    have HBo := Lib.hid hb
    clear h1 h2 hb
    go_enter Tryz.func139, Tryz.ntmps139
    go_wp2
    go_loopw [13] (fun i wr => ∃ k : Nat, k ≤ n ∧ i = .int .i64 k ∧ ps.take k = qs.take k ∧ ∃ m, wr = w.drewN m) (fun i _ => n - (intOf i).toNat)
    case atStart => exact ⟨0, Nat.zero_le _, rfl, rfl, 0, rfl⟩
    case round =>
      obtain ⟨k, hk, rfl, htake, m, rfl⟩ := hrel
      have HT := Lib.hid htake
      clear htake
      by_cases hlt : k < n
      · obtain ⟨b1, off1, x1, y1, rfl, hb1, hat1, hc1, hd1⟩ := HX.out.at k hlt
        obtain ⟨b2, off2, x2, y2, rfl, hb2, hat2, hc2, hd2⟩ := HY.out.at k hlt
        have HA1 := Lib.hid hat1
        have HA2 := Lib.hid hat2
        have hlt' : (k : Int) < (n : Int) := by omega
        obtain ⟨q, hq⟩ : ∃ q : Bool, q = true ↔ (x1, y1) = (x2, y2) := bool_of _
        have HQ := Lib.hid hq
        have hne : ∀ w1, (binOp .neq 78 (.agg #[.int .i64 x1, .int .i64 y1]) (.agg #[.int .i64 x2, .int .i64 y2])).run Tryz.prog w1 = .ok (.bool (!q)) w1 := fun w1 => by
          rw [pair_neq]
          congr 2
          cases q
          · have : (x1 == x2 && y1 == y2) = false := by
              cases h : (x1 == x2 && y1 == y2)
              · rfl
              · simp at h; exact absurd (HQ.out.2 (by rw [h.1, h.2])) (by simp)
            rw [this]
          · have h := Prod.mk.inj (HQ.out.1 rfl)
            rw [h.1, h.2]; simp
        clear hat1 hat2 hq
        cases q
        · have HF := Lib.hid (ne_atP HA1.out HA2.out (fun e => by have := HQ.out.2 e; cases this))
          obtain rfl : b = false := by
            cases b
            · rfl
            · exact absurd (HBo.out.1 rfl) HF.out
          go_wp2
          go_quiet (fail)
          go_wp2
          go_ret
          exact ⟨rfl, _, World.drewN_drewN _ _ _⟩
        · have HD := Lib.hid (HQ.out.1 rfl)
          go_wp2
          go_quiet (fail)
          go_wp2
          go_roundw
          case rel => exact ⟨k + 1, by omega, by go_num, by rw [ptake_at HA1.out, ptake_at HA2.out, HT.out, HD.out], _, rfl⟩
          case measure => simp [intOf]; omega
      · obtain rfl : k = n := by omega
        obtain rfl : b = true := HBo.out.2 (by have := HT.out; rwa [ptake_all HX.out.1, ptake_all HY.out.1] at this)
        go_wp2
        go_ret
        exact ⟨rfl, _, rfl⟩
  · obtain rfl : b = false := by
      cases b
      · rfl
      · exact absurd (by rw [← h1.1, hb.1 rfl, h2.1]) hl
    clear h1 h2 hb
    go_enter Tryz.func139, Tryz.ntmps139
    go_wp2
    go_ret
    exact ⟨rfl, 0, rfl⟩

set_option maxRecDepth 20000 in
theorem sSameWish (w : World) (B : Nat) (t t' : Wi) (h1 : WiIn w B t) (h2 : WiIn w B t') (hB : B ≤ w.heap.size) (hn : t.Short) (b : Bool) (hb : b = true ↔ t.dat = t'.dat) :
    Calls Tryz.prog 82 #[t.val, t'.val] w fun e w' => e = .returned (.bool b) ∧ Below w.heap.size w w' := by
  obtain ⟨k, f, v, LA, Ln, Lc, ls, PA, Pn, Pc, ps⟩ := t
  obtain ⟨k', f', v', LA', Ln', Lc', ls', PA', Pn', Pc', ps'⟩ := t'
  obtain ⟨-, -, -, hl, hp⟩ := h1
  obtain ⟨-, -, -, hl', hp'⟩ := h2
  unfold Wi.val
  simp only [Wi.dat, WD.mk.injEq, Wi.Short] at hl hp hl' hp' hn hb ⊢
  have HB2 : Hid (∀ o1 o2 : Obj, Below B w ((w.alloc o1).alloc o2)) := Lib.hid fun o1 o2 => ((Below.refl B w).alloc hB _).alloc (by simp; omega) _
  have HW2 : Hid (∀ o1 o2 : Obj, Below w.heap.size w ((w.alloc o1).alloc o2)) := Lib.hid fun o1 o2 => ((Below.refl _ w).alloc (Nat.le_refl _) _).alloc (by simp) _
  obtain ⟨q1, hq1⟩ := bool_of (ls = ls')
  obtain ⟨q2, hq2⟩ := bool_of (ps = ps')
  have HI : Hid (∀ w1, Below B w w1 → Calls Tryz.prog 120 #[.slice LA Ln Lc, .slice LA' Ln' Lc'] w1 fun e w' => e = .returned (.bool q1) ∧ ∃ m, w' = w1.drewN m) := Lib.hid fun w1 h => sl2Ints w1 B LA LA' Ln Ln' Lc Lc' ls ls' (hl.below h) (hl'.below h) hn.1 q1 hq1
  have HP : Hid (∀ w1, Below B w w1 → Calls Tryz.prog 121 #[.slice PA Pn Pc, .slice PA' Pn' Pc'] w1 fun e w' => e = .returned (.bool q2) ∧ ∃ m, w' = w1.drewN m) := Lib.hid fun w1 h => sl5Pairs w1 B PA PA' Pn Pn' Pc Pc' ps ps' (hp.below h) (hp'.below h) hn.2 q2 hq2
  have HNo : Hid (¬ (k = k' ∧ f = f' ∧ v = v' ∧ q1 = true ∧ q2 = true) → b = false) := Lib.hid fun h => by
    cases b
    · rfl
    · obtain ⟨e1, e2, e3, e4, e5⟩ := hb.1 rfl
      exact absurd ⟨e1, e2, e3, hq1.2 e4, hq2.2 e5⟩ h
  have HYes : Hid (k = k' → f = f' → v = v' → q1 = true → q2 = true → b = true) := Lib.hid fun e1 e2 e3 e4 e5 => hb.2 ⟨e1, e2, e3, hq1.1 e4, hq2.1 e5⟩
  clear hl hp hl' hp' hb hq1 hq2 hn
  by_cases e1 : k = k'
  · by_cases e2 : f = f'
    · by_cases e3 : v = v'
      · cases q1
        · obtain rfl := HNo.out fun h => by have := h.2.2.2.1; cases this
          subst e1 e2 e3
          go_enter Tryz.func82, Tryz.ntmps82
          go_wp2_with fail
          refine (HI.out _ (HB2.out _ _)).mono ?_
          rintro e w1 ⟨rfl, m1, rfl⟩
          go_wp2
          go_ret
          exact ⟨rfl, below_drewN (HW2.out _ _) _⟩
        · have HR : Hid (b = q2) := Lib.hid (by
            cases q2
            · exact HNo.out fun h => by have := h.2.2.2.2; cases this
            · exact HYes.out e1 e2 e3 rfl rfl)
          obtain rfl := HR.out
          subst e1 e2 e3
          go_enter Tryz.func82, Tryz.ntmps82
          go_wp2_with fail
          refine (HI.out _ (HB2.out _ _)).mono ?_
          rintro e w1 ⟨rfl, m1, rfl⟩
          go_wp2_with fail
          refine (HP.out _ (below_drewN (HB2.out _ _) _)).mono ?_
          rintro e w1 ⟨rfl, m2, rfl⟩
          go_wp2
          go_ret
          exact ⟨rfl, below_drewN (HW2.out _ _) _⟩
      · obtain rfl := HNo.out fun h => e3 h.2.2.1
        subst e1 e2
        have hne : (v == v') = false := by simpa using e3
        go_enter Tryz.func82, Tryz.ntmps82
        go_wp2
        go_ret
        exact ⟨rfl, HW2.out _ _⟩
    · obtain rfl := HNo.out fun h => e2 h.2.1
      subst e1
      have hne : (f == f') = false := by simpa using e2
      go_enter Tryz.func82, Tryz.ntmps82
      go_wp2
      go_ret
      exact ⟨rfl, HW2.out _ _⟩
  · obtain rfl := HNo.out fun h => e1 h.1
    have hne : (k == k') = false := by simpa using e1
    go_enter Tryz.func82, Tryz.ntmps82
    go_wp2
    go_ret
    exact ⟨rfl, HW2.out _ _⟩

set_option maxRecDepth 20000 in
theorem iSameWish (w : World) (B : Nat) (t t' : Wi) (h1 : WiIn w B t) (h2 : WiIn w B t') (hB : B ≤ w.heap.size) (hn : t.Short) (b : Bool) (hb : b = true ↔ t.dat = t'.dat) :
    Calls Tryz.prog 112 #[t.val, t'.val] w fun e w' => e = .returned (.bool b) ∧ Below w.heap.size w w' := by
  obtain ⟨k, f, v, LA, Ln, Lc, ls, PA, Pn, Pc, ps⟩ := t
  obtain ⟨k', f', v', LA', Ln', Lc', ls', PA', Pn', Pc', ps'⟩ := t'
  obtain ⟨-, -, -, hl, hp⟩ := h1
  obtain ⟨-, -, -, hl', hp'⟩ := h2
  unfold Wi.val
  simp only [Wi.dat, WD.mk.injEq, Wi.Short] at hl hp hl' hp' hn hb ⊢
  have HB2 : Hid (∀ o1 o2 : Obj, Below B w ((w.alloc o1).alloc o2)) := Lib.hid fun o1 o2 => ((Below.refl B w).alloc hB _).alloc (by simp; omega) _
  have HW2 : Hid (∀ o1 o2 : Obj, Below w.heap.size w ((w.alloc o1).alloc o2)) := Lib.hid fun o1 o2 => ((Below.refl _ w).alloc (Nat.le_refl _) _).alloc (by simp) _
  obtain ⟨q1, hq1⟩ := bool_of (ls = ls')
  obtain ⟨q2, hq2⟩ := bool_of (ps = ps')
  have HI : Hid (∀ w1, Below B w w1 → Calls Tryz.prog 138 #[.slice LA Ln Lc, .slice LA' Ln' Lc'] w1 fun e w' => e = .returned (.bool q1) ∧ ∃ m, w' = w1.drewN m) := Lib.hid fun w1 h => slEqual w1 B LA LA' Ln Ln' Lc Lc' ls ls' (hl.below h) (hl'.below h) hn.1 q1 hq1
  have HP : Hid (∀ w1, Below B w w1 → Calls Tryz.prog 139 #[.slice PA Pn Pc, .slice PA' Pn' Pc'] w1 fun e w' => e = .returned (.bool q2) ∧ ∃ m, w' = w1.drewN m) := Lib.hid fun w1 h => slEqualP w1 B PA PA' Pn Pn' Pc Pc' ps ps' (hp.below h) (hp'.below h) hn.2 q2 hq2
  have HNo : Hid (¬ (k = k' ∧ f = f' ∧ v = v' ∧ q1 = true ∧ q2 = true) → b = false) := Lib.hid fun h => by
    cases b
    · rfl
    · obtain ⟨e1, e2, e3, e4, e5⟩ := hb.1 rfl
      exact absurd ⟨e1, e2, e3, hq1.2 e4, hq2.2 e5⟩ h
  have HYes : Hid (k = k' → f = f' → v = v' → q1 = true → q2 = true → b = true) := Lib.hid fun e1 e2 e3 e4 e5 => hb.2 ⟨e1, e2, e3, hq1.1 e4, hq2.1 e5⟩
  clear hl hp hl' hp' hb hq1 hq2 hn
  by_cases e1 : k = k'
  · by_cases e2 : f = f'
    · by_cases e3 : v = v'
      · cases q1
        · obtain rfl := HNo.out fun h => by have := h.2.2.2.1; cases this
          subst e1 e2 e3
          go_enter Tryz.func112, Tryz.ntmps112
          go_wp2_with fail
          refine (HI.out _ (HB2.out _ _)).mono ?_
          rintro e w1 ⟨rfl, m1, rfl⟩
          go_wp2
          go_ret
          exact ⟨rfl, below_drewN (HW2.out _ _) _⟩
        · have HR : Hid (b = q2) := Lib.hid (by
            cases q2
            · exact HNo.out fun h => by have := h.2.2.2.2; cases this
            · exact HYes.out e1 e2 e3 rfl rfl)
          obtain rfl := HR.out
          subst e1 e2 e3
          go_enter Tryz.func112, Tryz.ntmps112
          go_wp2_with fail
          refine (HI.out _ (HB2.out _ _)).mono ?_
          rintro e w1 ⟨rfl, m1, rfl⟩
          go_wp2_with fail
          refine (HP.out _ (below_drewN (HB2.out _ _) _)).mono ?_
          rintro e w1 ⟨rfl, m2, rfl⟩
          go_wp2
          go_ret
          exact ⟨rfl, below_drewN (HW2.out _ _) _⟩
      · obtain rfl := HNo.out fun h => e3 h.2.2.1
        subst e1 e2
        have hne : (v == v') = false := by simpa using e3
        go_enter Tryz.func112, Tryz.ntmps112
        go_wp2
        go_ret
        exact ⟨rfl, HW2.out _ _⟩
    · obtain rfl := HNo.out fun h => e2 h.2.1
      subst e1
      have hne : (f == f') = false := by simpa using e2
      go_enter Tryz.func112, Tryz.ntmps112
      go_wp2
      go_ret
      exact ⟨rfl, HW2.out _ _⟩
  · obtain rfl := HNo.out fun h => e1 h.1
    have hne : (k == k') = false := by simpa using e1
    go_enter Tryz.func112, Tryz.ntmps112
    go_wp2
    go_ret
    exact ⟨rfl, HW2.out _ _⟩

set_option maxRecDepth 20000 in
set_option maxHeartbeats 3200000 in
theorem sEqE (w : World) (B : Nat) (A A' : Option Addr) (n n' c c' : Nat) (xs ys : List Nd) (h1 : Nodes w B A n xs) (h2 : Nodes w B A' n' ys) (hB : B ≤ w.heap.size) (hn : n ≤ 1048576) (hN : ShortN xs) (b : Bool) (hb : b = true ↔ datN xs = datN ys) :
    Calls Tryz.prog 32 #[.slice A n c, .slice A' n' c'] w fun e w' => e = .returned (.bool b) ∧ Below w.heap.size w w' := by
  have HX := Lib.hid h1
  have HY := Lib.hid h2
  have HN := Lib.hid hN
  by_cases hl : n = n'
  · subst hl
    have HBo := Lib.hid hb
    clear h1 h2 hN hb
    go_enter Tryz.func32, Tryz.ntmps32
    go_wp2
    go_loopw [5] (fun i wr => ∃ k : Nat, k ≤ n ∧ i = .int .i64 k ∧ datN (xs.take k) = datN (ys.take k) ∧ Below w.heap.size w wr) (fun i _ => n - (intOf i).toNat)
    case atStart => exact ⟨0, Nat.zero_le _, rfl, rfl, Below.refl _ _⟩
    case round =>
      obtain ⟨k, hk, rfl, htake, hbel⟩ := hrel
      have HT := Lib.hid htake
      have HB := Lib.hid hbel
      clear htake
      by_cases hlt : k < n
      · obtain ⟨b1, off1, x, rfl, hb1, hat1, hw1, e0, e1, e2, e3, e4, e5⟩ := HX.out.at k hlt
        obtain ⟨b2, off2, y, rfl, hb2, hat2, hw2, f0, f1, f2, f3, f4, f5⟩ := HY.out.at k hlt
        have tr : ∀ {bb oo : Nat} {v : Value}, bb < B → w.cell? ⟨bb, oo, none⟩ = some v → wr.cell? ⟨bb, oo, none⟩ = some v := fun {bb oo v} hb h => (hbel.cell (p := ⟨bb, oo, none⟩) (Nat.lt_of_lt_of_le hb hB)).trans h
        have e0 := tr hb1 e0
        have e1 := tr hb1 e1
        have e2 := tr hb1 e2
        have e3 := tr hb1 e3
        have e4 := tr hb1 e4
        have e5 := tr hb1 e5
        have f0 := tr hb2 f0
        have f1 := tr hb2 f1
        have f2 := tr hb2 f2
        have f3 := tr hb2 f3
        have f4 := tr hb2 f4
        have f5 := tr hb2 f5
        have HA1 := Lib.hid hat1
        have HA2 := Lib.hid hat2
        have hsz := Lib.hid hbel.size
        have hl1 : b1 < wr.heap.size := by have := hbel.size; omega
        have hl2 : b2 < wr.heap.size := by have := hbel.size; omega
        have hlt' : (k : Int) < (n : Int) := by omega
        obtain ⟨q, hq⟩ : ∃ q : Bool, q = true ↔ x.t.dat = y.t.dat := bool_of _
        have HQ := Lib.hid hq
        have HC : Hid (∀ w1, Below wr.heap.size wr w1 → Calls Tryz.prog 82 #[.agg #[.int .i64 x.t.kind, .int .i64 x.t.field, .int .i64 x.t.value, .slice x.t.LA x.t.Ln x.t.Lc, .slice x.t.PA x.t.Pn x.t.Pc], .agg #[.int .i64 y.t.kind, .int .i64 y.t.field, .int .i64 y.t.value, .slice y.t.LA y.t.Ln y.t.Lc, .slice y.t.PA y.t.Pn y.t.Pc]] w1 fun e w' => e = .returned (.bool q) ∧ Below w1.heap.size w1 w') := Lib.hid fun w1 h =>
          sSameWish w1 B x.t y.t (hw1.2.below ((hbel.mono hB).trans (h.mono (Nat.le_trans hB hbel.size)))) (hw2.2.below ((hbel.mono hB).trans (h.mono (Nat.le_trans hB hbel.size)))) (Nat.le_trans hB (Nat.le_trans hbel.size h.size)) (HN.out x (List.mem_of_getElem? hat1)) q hq
        clear hat1 hat2 hbel hq hw1 hw2 tr
        by_cases he : x.op = y.op
        · have HE := Lib.hid he
          have hne : (x.op != y.op) = false := by simpa using he
          cases q
          · have HF := Lib.hid (ne_nd HA1.out HA2.out (fun e => by have := HQ.out.2 (nd_dat.1 e).2; cases this))
            obtain rfl : b = false := by
              cases b
              · rfl
              · exact absurd (HBo.out.1 rfl) HF.out
            clear he
            go_wp2
            have hs0 : Below wr.heap.size wr wr.drew ∧ wr.drew.cell? ⟨b1, off1 + k * 6, none⟩ = some (.int .i64 x.op) ∧ wr.drew.cell? ⟨b1, off1 + k * 6 + 1, none⟩ = some (.int .i64 x.t.kind) ∧ wr.drew.cell? ⟨b1, off1 + k * 6 + 2, none⟩ = some (.int .i64 x.t.field) ∧ wr.drew.cell? ⟨b1, off1 + k * 6 + 3, none⟩ = some (.int .i64 x.t.value) ∧ wr.drew.cell? ⟨b1, off1 + k * 6 + 4, none⟩ = some (.slice x.t.LA x.t.Ln x.t.Lc) ∧ wr.drew.cell? ⟨b1, off1 + k * 6 + 5, none⟩ = some (.slice x.t.PA x.t.Pn x.t.Pc) ∧ wr.drew.cell? ⟨b2, off2 + k * 6, none⟩ = some (.int .i64 y.op) ∧ wr.drew.cell? ⟨b2, off2 + k * 6 + 1, none⟩ = some (.int .i64 y.t.kind) ∧ wr.drew.cell? ⟨b2, off2 + k * 6 + 2, none⟩ = some (.int .i64 y.t.field) ∧ wr.drew.cell? ⟨b2, off2 + k * 6 + 3, none⟩ = some (.int .i64 y.t.value) ∧ wr.drew.cell? ⟨b2, off2 + k * 6 + 4, none⟩ = some (.slice y.t.LA y.t.Ln y.t.Lc) ∧ wr.drew.cell? ⟨b2, off2 + k * 6 + 5, none⟩ = some (.slice y.t.PA y.t.Pn y.t.Pc) := ⟨(Below.refl _ _).drew, e0, e1, e2, e3, e4, e5, f0, f1, f2, f3, f4, f5⟩
            refine wp_region_held (S := fun w' => Below wr.heap.size wr w' ∧ w'.cell? ⟨b1, off1 + k * 6, none⟩ = some (.int .i64 x.op) ∧ w'.cell? ⟨b1, off1 + k * 6 + 1, none⟩ = some (.int .i64 x.t.kind) ∧ w'.cell? ⟨b1, off1 + k * 6 + 2, none⟩ = some (.int .i64 x.t.field) ∧ w'.cell? ⟨b1, off1 + k * 6 + 3, none⟩ = some (.int .i64 x.t.value) ∧ w'.cell? ⟨b1, off1 + k * 6 + 4, none⟩ = some (.slice x.t.LA x.t.Ln x.t.Lc) ∧ w'.cell? ⟨b1, off1 + k * 6 + 5, none⟩ = some (.slice x.t.PA x.t.Pn x.t.Pc) ∧ w'.cell? ⟨b2, off2 + k * 6, none⟩ = some (.int .i64 y.op) ∧ w'.cell? ⟨b2, off2 + k * 6 + 1, none⟩ = some (.int .i64 y.t.kind) ∧ w'.cell? ⟨b2, off2 + k * 6 + 2, none⟩ = some (.int .i64 y.t.field) ∧ w'.cell? ⟨b2, off2 + k * 6 + 3, none⟩ = some (.int .i64 y.t.value) ∧ w'.cell? ⟨b2, off2 + k * 6 + 4, none⟩ = some (.slice y.t.LA y.t.Ln y.t.Lc) ∧ w'.cell? ⟨b2, off2 + k * 6 + 5, none⟩ = some (.slice y.t.PA y.t.Pn y.t.Pc)) (by kernel_rfl) ?_
            change wpAnyH _ _ _ _ _ _ _ _ (World.drew _)
            refine takeY 17 (i := 0) (v := ?v0a) rfl rfl (by kernel_rfl) (by kernel_rfl) (by kernel_rfl) (fun _ _ _ h => h) (by kernel_rfl) ?y0a hs0 ?_
            case y0a =>
              intro w' hw'; (try dsimp only at hw'); obtain ⟨r, a0, a1, a2, a3, a4, a5, a6, a7, a8, a9, a10, a11⟩ := hw'; go_simp; try with_reducible rfl
            simp only [Act.put, List.setIfInBounds_toArray, List.set_cons_zero, List.set_cons_succ]
            refine takeY 18 (i := 1) (v := ?v1a) rfl rfl (by kernel_rfl) (by kernel_rfl) (by kernel_rfl) (fun _ _ _ h => h) (by kernel_rfl) ?y1a hs0 ?_
            case y1a =>
              intro w' hw'; (try dsimp only at hw'); obtain ⟨r, a0, a1, a2, a3, a4, a5, a6, a7, a8, a9, a10, a11⟩ := hw'; go_simp; try with_reducible rfl
            simp only [Act.put, List.setIfInBounds_toArray, List.set_cons_zero, List.set_cons_succ]
            refine takeY 19 (i := 2) (v := ?v2a) rfl rfl (by kernel_rfl) (by kernel_rfl) (by kernel_rfl) (fun _ _ _ h => h) (by kernel_rfl) ?y2a hs0 ?_
            case y2a =>
              intro w' hw'; (try dsimp only at hw'); obtain ⟨r, a0, a1, a2, a3, a4, a5, a6, a7, a8, a9, a10, a11⟩ := hw'; go_simp; try with_reducible rfl
            simp only [Act.put, List.setIfInBounds_toArray, List.set_cons_zero, List.set_cons_succ]
            refine takeY 20 (i := 3) (v := ?v3a) rfl rfl (by kernel_rfl) (by kernel_rfl) (by kernel_rfl) (fun _ _ _ h => h) (by kernel_rfl) ?y3a hs0 ?_
            case y3a =>
              intro w' hw'; (try dsimp only at hw'); obtain ⟨r, a0, a1, a2, a3, a4, a5, a6, a7, a8, a9, a10, a11⟩ := hw'; go_simp; try with_reducible rfl
            simp only [Act.put, List.setIfInBounds_toArray, List.set_cons_zero, List.set_cons_succ]
            refine takeY 21 (i := 4) (v := ?v4a) rfl rfl (by kernel_rfl) (by kernel_rfl) (by kernel_rfl) (fun _ _ _ h => h) (by kernel_rfl) ?y4a hs0 ?_
            case y4a =>
              intro w' hw'; (try dsimp only at hw'); obtain ⟨r, a0, a1, a2, a3, a4, a5, a6, a7, a8, a9, a10, a11⟩ := hw'; go_simp; try with_reducible rfl
            simp only [Act.put, List.setIfInBounds_toArray, List.set_cons_zero, List.set_cons_succ]
            refine takeY 22 (i := 5) (v := ?v5a) rfl rfl (by kernel_rfl) (by kernel_rfl) (by kernel_rfl) (fun _ _ _ h => h) (by kernel_rfl) ?y5a hs0 ?_
            case y5a =>
              intro w' hw'; (try dsimp only at hw'); obtain ⟨r, a0, a1, a2, a3, a4, a5, a6, a7, a8, a9, a10, a11⟩ := hw'; go_simp; try with_reducible rfl
            simp only [Act.put, List.setIfInBounds_toArray, List.set_cons_zero, List.set_cons_succ]
            refine takeY 23 (i := 6) (v := ?v6a) rfl rfl (by kernel_rfl) (by kernel_rfl) (by kernel_rfl) (fun _ _ _ h => h) (by kernel_rfl) ?y6a hs0 ?_
            case y6a =>
              intro w' hw'; (try dsimp only at hw'); obtain ⟨r, a0, a1, a2, a3, a4, a5, a6, a7, a8, a9, a10, a11⟩ := hw'; go_simp; try with_reducible rfl
            simp only [Act.put, List.setIfInBounds_toArray, List.set_cons_zero, List.set_cons_succ]
            refine takeY 24 (i := 7) (v := ?v7a) rfl rfl (by kernel_rfl) (by kernel_rfl) (by kernel_rfl) (fun _ _ _ h => h) (by kernel_rfl) ?y7a hs0 ?_
            case y7a =>
              intro w' hw'; (try dsimp only at hw'); obtain ⟨r, a0, a1, a2, a3, a4, a5, a6, a7, a8, a9, a10, a11⟩ := hw'; go_simp; try with_reducible rfl
            simp only [Act.put, List.setIfInBounds_toArray, List.set_cons_zero, List.set_cons_succ]
            refine takeY 25 (i := 8) (v := ?v8a) rfl rfl (by kernel_rfl) (by kernel_rfl) (by kernel_rfl) (fun _ _ _ h => h) (by kernel_rfl) ?y8a hs0 ?_
            case y8a =>
              intro w' hw'; (try dsimp only at hw'); obtain ⟨r, a0, a1, a2, a3, a4, a5, a6, a7, a8, a9, a10, a11⟩ := hw'; go_simp; try with_reducible rfl
            simp only [Act.put, List.setIfInBounds_toArray, List.set_cons_zero, List.set_cons_succ]
            refine takeY 26 (i := 9) (v := ?v9a) rfl rfl (by kernel_rfl) (by kernel_rfl) (by kernel_rfl) (fun _ _ _ h => h) (by kernel_rfl) ?y9a hs0 ?_
            case y9a =>
              intro w' hw'; (try dsimp only at hw'); obtain ⟨r, a0, a1, a2, a3, a4, a5, a6, a7, a8, a9, a10, a11⟩ := hw'; go_simp; try with_reducible rfl
            simp only [Act.put, List.setIfInBounds_toArray, List.set_cons_zero, List.set_cons_succ]
            refine takeY 27 (i := 10) (v := ?v10a) rfl rfl (by kernel_rfl) (by kernel_rfl) (by kernel_rfl) (fun _ _ _ h => h) (by kernel_rfl) ?y10a hs0 ?_
            case y10a =>
              intro w' hw'; (try dsimp only at hw'); obtain ⟨r, a0, a1, a2, a3, a4, a5, a6, a7, a8, a9, a10, a11⟩ := hw'; go_simp; try with_reducible rfl
            simp only [Act.put, List.setIfInBounds_toArray, List.set_cons_zero, List.set_cons_succ]
            refine takeY 28 (i := 11) (v := ?v11a) rfl rfl (by kernel_rfl) (by kernel_rfl) (by kernel_rfl) (fun _ _ _ h => h) (by kernel_rfl) ?y11a hs0 ?_
            case y11a =>
              intro w' hw'; (try dsimp only at hw'); obtain ⟨r, a0, a1, a2, a3, a4, a5, a6, a7, a8, a9, a10, a11⟩ := hw'; go_simp; try with_reducible rfl
            simp only [Act.put, List.setIfInBounds_toArray, List.set_cons_zero, List.set_cons_succ]
            refine takeY 29 (i := 12) (v := ?v12a) rfl rfl (by kernel_rfl) (by kernel_rfl) (by kernel_rfl) (fun _ _ _ h => h) (by kernel_rfl) ?y12a hs0 ?_
            case y12a =>
              intro w' hw'; (try dsimp only at hw'); obtain ⟨r, a0, a1, a2, a3, a4, a5, a6, a7, a8, a9, a10, a11⟩ := hw'; go_simp; try with_reducible rfl
            simp only [Act.put, List.setIfInBounds_toArray, List.set_cons_zero, List.set_cons_succ]
            refine takeY 30 (i := 13) (v := ?v13a) rfl rfl (by kernel_rfl) (by kernel_rfl) (by kernel_rfl) (fun _ _ _ h => h) (by kernel_rfl) ?y13a hs0 ?_
            case y13a =>
              intro w' hw'; (try dsimp only at hw'); obtain ⟨r, a0, a1, a2, a3, a4, a5, a6, a7, a8, a9, a10, a11⟩ := hw'; go_simp; try with_reducible rfl
            simp only [Act.put, List.setIfInBounds_toArray, List.set_cons_zero, List.set_cons_succ]
            refine takeY 31 (i := 14) (v := ?v14a) rfl rfl (by kernel_rfl) (by kernel_rfl) (by kernel_rfl) (fun _ _ _ h => h) (by kernel_rfl) ?y14a hs0 ?_
            case y14a =>
              intro w' hw'; (try dsimp only at hw'); obtain ⟨r, a0, a1, a2, a3, a4, a5, a6, a7, a8, a9, a10, a11⟩ := hw'; go_simp; try with_reducible rfl
            simp only [Act.put, List.setIfInBounds_toArray, List.set_cons_zero, List.set_cons_succ]
            refine takeY 32 (i := 15) (v := ?v15a) rfl rfl (by kernel_rfl) (by kernel_rfl) (by kernel_rfl) (fun _ _ _ h => h) (by kernel_rfl) ?y15a hs0 ?_
            case y15a =>
              intro w' hw'; (try dsimp only at hw'); obtain ⟨r, a0, a1, a2, a3, a4, a5, a6, a7, a8, a9, a10, a11⟩ := hw'; go_simp; try with_reducible rfl
            simp only [Act.put, List.setIfInBounds_toArray, List.set_cons_zero, List.set_cons_succ]
            refine takeY 33 (i := 16) (v := ?v16a) rfl rfl (by kernel_rfl) (by kernel_rfl) (by kernel_rfl) (fun _ _ _ h => h) (by kernel_rfl) ?y16a hs0 ?_
            case y16a =>
              intro w' hw'; (try dsimp only at hw'); obtain ⟨r, a0, a1, a2, a3, a4, a5, a6, a7, a8, a9, a10, a11⟩ := hw'; go_simp; try with_reducible rfl
            simp only [Act.put, List.setIfInBounds_toArray, List.set_cons_zero, List.set_cons_succ]
            refine takeY 34 (i := 17) (v := ?v17a) rfl rfl (by kernel_rfl) (by kernel_rfl) (by kernel_rfl) (fun _ _ _ h => h) (by kernel_rfl) ?y17a hs0 ?_
            case y17a =>
              intro w' hw'; (try dsimp only at hw'); obtain ⟨r, a0, a1, a2, a3, a4, a5, a6, a7, a8, a9, a10, a11⟩ := hw'; go_simp; try with_reducible rfl
            simp only [Act.put, List.setIfInBounds_toArray, List.set_cons_zero, List.set_cons_succ]
            refine takeY 35 (i := 18) (v := ?v18a) rfl rfl (by kernel_rfl) (by kernel_rfl) (by kernel_rfl) (fun _ _ _ h => h) (by kernel_rfl) ?y18a hs0 ?_
            case y18a =>
              intro w' hw'; (try dsimp only at hw'); obtain ⟨r, a0, a1, a2, a3, a4, a5, a6, a7, a8, a9, a10, a11⟩ := hw'; go_simp; try with_reducible rfl
            simp only [Act.put, List.setIfInBounds_toArray, List.set_cons_zero, List.set_cons_succ]
            refine takeY 36 (i := 19) (v := ?v19a) rfl rfl (by kernel_rfl) (by kernel_rfl) (by kernel_rfl) (fun _ _ _ h => h) (by kernel_rfl) ?y19a hs0 ?_
            case y19a =>
              intro w' hw'; (try dsimp only at hw'); obtain ⟨r, a0, a1, a2, a3, a4, a5, a6, a7, a8, a9, a10, a11⟩ := hw'; go_simp; try with_reducible rfl
            simp only [Act.put, List.setIfInBounds_toArray, List.set_cons_zero, List.set_cons_succ]
            refine takeY 37 (i := 20) (v := ?v20a) rfl rfl (by kernel_rfl) (by kernel_rfl) (by kernel_rfl) (fun _ _ _ h => h) (by kernel_rfl) ?y20a hs0 ?_
            case y20a =>
              intro w' hw'; (try dsimp only at hw'); obtain ⟨r, a0, a1, a2, a3, a4, a5, a6, a7, a8, a9, a10, a11⟩ := hw'; go_simp; try with_reducible rfl
            simp only [Act.put, List.setIfInBounds_toArray, List.set_cons_zero, List.set_cons_succ]
            refine takeY 38 (i := 21) (v := ?v21a) rfl rfl (by kernel_rfl) (by kernel_rfl) (by kernel_rfl) (fun _ _ _ h => h) (by kernel_rfl) ?y21a hs0 ?_
            case y21a =>
              intro w' hw'; (try dsimp only at hw'); obtain ⟨r, a0, a1, a2, a3, a4, a5, a6, a7, a8, a9, a10, a11⟩ := hw'; go_simp; try with_reducible rfl
            simp only [Act.put, List.setIfInBounds_toArray, List.set_cons_zero, List.set_cons_succ]
            refine wpAnyH_ready (rs := [22]) (by kernel_rfl) (by simp) ?_
            refine AllReadyH.cons rfl (fun K hK => ?_) AllReadyH.nil
            go_simp; go_at_call 82; refine (HC.out _ (hs0.1)).mono ?_; rintro e w3 ⟨rfl, hb3'⟩; have hb3 : Below wr.heap.size wr w3 := below_on (Below.refl _ _).drew hb3'; clear hb3'
            refine hK.out _ _ ⟨hb3, (hb3.cell (p := ⟨b1, off1 + k * 6, none⟩) hl1).trans e0, (hb3.cell (p := ⟨b1, off1 + k * 6 + 1, none⟩) hl1).trans e1, (hb3.cell (p := ⟨b1, off1 + k * 6 + 2, none⟩) hl1).trans e2, (hb3.cell (p := ⟨b1, off1 + k * 6 + 3, none⟩) hl1).trans e3, (hb3.cell (p := ⟨b1, off1 + k * 6 + 4, none⟩) hl1).trans e4, (hb3.cell (p := ⟨b1, off1 + k * 6 + 5, none⟩) hl1).trans e5, (hb3.cell (p := ⟨b2, off2 + k * 6, none⟩) hl2).trans f0, (hb3.cell (p := ⟨b2, off2 + k * 6 + 1, none⟩) hl2).trans f1, (hb3.cell (p := ⟨b2, off2 + k * 6 + 2, none⟩) hl2).trans f2, (hb3.cell (p := ⟨b2, off2 + k * 6 + 3, none⟩) hl2).trans f3, (hb3.cell (p := ⟨b2, off2 + k * 6 + 4, none⟩) hl2).trans f4, (hb3.cell (p := ⟨b2, off2 + k * 6 + 5, none⟩) hl2).trans f5⟩ (fun hS1 => ?_)
            clear hK K
            try simp only [Act.put, List.setIfInBounds_toArray, List.set_cons_zero, List.set_cons_succ]
            refine takeY 40 (i := 23) (v := ?v23a) rfl rfl (by kernel_rfl) (by kernel_rfl) (by kernel_rfl) (fun _ _ _ h => h) (by kernel_rfl) ?y23a hS1 ?_
            case y23a =>
              intro w' hw'; (try dsimp only at hw'); obtain ⟨r, a0, a1, a2, a3, a4, a5, a6, a7, a8, a9, a10, a11⟩ := hw'; go_simp; try with_reducible rfl
            simp only [Act.put, List.setIfInBounds_toArray, List.set_cons_zero, List.set_cons_succ]
            refine takeY 41 (i := 24) (v := ?v24a) rfl rfl (by kernel_rfl) (by kernel_rfl) (by kernel_rfl) (fun _ _ _ h => h) (by kernel_rfl) ?y24a hS1 ?_
            case y24a =>
              intro w' hw'; (try dsimp only at hw'); obtain ⟨r, a0, a1, a2, a3, a4, a5, a6, a7, a8, a9, a10, a11⟩ := hw'; go_simp; try with_reducible rfl
            simp only [Act.put, List.setIfInBounds_toArray, List.set_cons_zero, List.set_cons_succ]
            refine wpAnyH_done (by kernel_rfl) ?_ _
            go_wp2
            go_ret
            exact ⟨rfl, HB.out.trans (hb3.mono hsz.out)⟩
          · have HD := Lib.hid (HQ.out.1 (by first | rfl | trivial))
            clear he
            go_wp2
            have hs0 : Below wr.heap.size wr wr.drew ∧ wr.drew.cell? ⟨b1, off1 + k * 6, none⟩ = some (.int .i64 x.op) ∧ wr.drew.cell? ⟨b1, off1 + k * 6 + 1, none⟩ = some (.int .i64 x.t.kind) ∧ wr.drew.cell? ⟨b1, off1 + k * 6 + 2, none⟩ = some (.int .i64 x.t.field) ∧ wr.drew.cell? ⟨b1, off1 + k * 6 + 3, none⟩ = some (.int .i64 x.t.value) ∧ wr.drew.cell? ⟨b1, off1 + k * 6 + 4, none⟩ = some (.slice x.t.LA x.t.Ln x.t.Lc) ∧ wr.drew.cell? ⟨b1, off1 + k * 6 + 5, none⟩ = some (.slice x.t.PA x.t.Pn x.t.Pc) ∧ wr.drew.cell? ⟨b2, off2 + k * 6, none⟩ = some (.int .i64 y.op) ∧ wr.drew.cell? ⟨b2, off2 + k * 6 + 1, none⟩ = some (.int .i64 y.t.kind) ∧ wr.drew.cell? ⟨b2, off2 + k * 6 + 2, none⟩ = some (.int .i64 y.t.field) ∧ wr.drew.cell? ⟨b2, off2 + k * 6 + 3, none⟩ = some (.int .i64 y.t.value) ∧ wr.drew.cell? ⟨b2, off2 + k * 6 + 4, none⟩ = some (.slice y.t.LA y.t.Ln y.t.Lc) ∧ wr.drew.cell? ⟨b2, off2 + k * 6 + 5, none⟩ = some (.slice y.t.PA y.t.Pn y.t.Pc) := ⟨(Below.refl _ _).drew, e0, e1, e2, e3, e4, e5, f0, f1, f2, f3, f4, f5⟩
            refine wp_region_held (S := fun w' => Below wr.heap.size wr w' ∧ w'.cell? ⟨b1, off1 + k * 6, none⟩ = some (.int .i64 x.op) ∧ w'.cell? ⟨b1, off1 + k * 6 + 1, none⟩ = some (.int .i64 x.t.kind) ∧ w'.cell? ⟨b1, off1 + k * 6 + 2, none⟩ = some (.int .i64 x.t.field) ∧ w'.cell? ⟨b1, off1 + k * 6 + 3, none⟩ = some (.int .i64 x.t.value) ∧ w'.cell? ⟨b1, off1 + k * 6 + 4, none⟩ = some (.slice x.t.LA x.t.Ln x.t.Lc) ∧ w'.cell? ⟨b1, off1 + k * 6 + 5, none⟩ = some (.slice x.t.PA x.t.Pn x.t.Pc) ∧ w'.cell? ⟨b2, off2 + k * 6, none⟩ = some (.int .i64 y.op) ∧ w'.cell? ⟨b2, off2 + k * 6 + 1, none⟩ = some (.int .i64 y.t.kind) ∧ w'.cell? ⟨b2, off2 + k * 6 + 2, none⟩ = some (.int .i64 y.t.field) ∧ w'.cell? ⟨b2, off2 + k * 6 + 3, none⟩ = some (.int .i64 y.t.value) ∧ w'.cell? ⟨b2, off2 + k * 6 + 4, none⟩ = some (.slice y.t.LA y.t.Ln y.t.Lc) ∧ w'.cell? ⟨b2, off2 + k * 6 + 5, none⟩ = some (.slice y.t.PA y.t.Pn y.t.Pc)) (by kernel_rfl) ?_
            change wpAnyH _ _ _ _ _ _ _ _ (World.drew _)
            refine takeY 17 (i := 0) (v := ?v0b) rfl rfl (by kernel_rfl) (by kernel_rfl) (by kernel_rfl) (fun _ _ _ h => h) (by kernel_rfl) ?y0b hs0 ?_
            case y0b =>
              intro w' hw'; (try dsimp only at hw'); obtain ⟨r, a0, a1, a2, a3, a4, a5, a6, a7, a8, a9, a10, a11⟩ := hw'; go_simp; try with_reducible rfl
            simp only [Act.put, List.setIfInBounds_toArray, List.set_cons_zero, List.set_cons_succ]
            refine takeY 18 (i := 1) (v := ?v1b) rfl rfl (by kernel_rfl) (by kernel_rfl) (by kernel_rfl) (fun _ _ _ h => h) (by kernel_rfl) ?y1b hs0 ?_
            case y1b =>
              intro w' hw'; (try dsimp only at hw'); obtain ⟨r, a0, a1, a2, a3, a4, a5, a6, a7, a8, a9, a10, a11⟩ := hw'; go_simp; try with_reducible rfl
            simp only [Act.put, List.setIfInBounds_toArray, List.set_cons_zero, List.set_cons_succ]
            refine takeY 19 (i := 2) (v := ?v2b) rfl rfl (by kernel_rfl) (by kernel_rfl) (by kernel_rfl) (fun _ _ _ h => h) (by kernel_rfl) ?y2b hs0 ?_
            case y2b =>
              intro w' hw'; (try dsimp only at hw'); obtain ⟨r, a0, a1, a2, a3, a4, a5, a6, a7, a8, a9, a10, a11⟩ := hw'; go_simp; try with_reducible rfl
            simp only [Act.put, List.setIfInBounds_toArray, List.set_cons_zero, List.set_cons_succ]
            refine takeY 20 (i := 3) (v := ?v3b) rfl rfl (by kernel_rfl) (by kernel_rfl) (by kernel_rfl) (fun _ _ _ h => h) (by kernel_rfl) ?y3b hs0 ?_
            case y3b =>
              intro w' hw'; (try dsimp only at hw'); obtain ⟨r, a0, a1, a2, a3, a4, a5, a6, a7, a8, a9, a10, a11⟩ := hw'; go_simp; try with_reducible rfl
            simp only [Act.put, List.setIfInBounds_toArray, List.set_cons_zero, List.set_cons_succ]
            refine takeY 21 (i := 4) (v := ?v4b) rfl rfl (by kernel_rfl) (by kernel_rfl) (by kernel_rfl) (fun _ _ _ h => h) (by kernel_rfl) ?y4b hs0 ?_
            case y4b =>
              intro w' hw'; (try dsimp only at hw'); obtain ⟨r, a0, a1, a2, a3, a4, a5, a6, a7, a8, a9, a10, a11⟩ := hw'; go_simp; try with_reducible rfl
            simp only [Act.put, List.setIfInBounds_toArray, List.set_cons_zero, List.set_cons_succ]
            refine takeY 22 (i := 5) (v := ?v5b) rfl rfl (by kernel_rfl) (by kernel_rfl) (by kernel_rfl) (fun _ _ _ h => h) (by kernel_rfl) ?y5b hs0 ?_
            case y5b =>
              intro w' hw'; (try dsimp only at hw'); obtain ⟨r, a0, a1, a2, a3, a4, a5, a6, a7, a8, a9, a10, a11⟩ := hw'; go_simp; try with_reducible rfl
            simp only [Act.put, List.setIfInBounds_toArray, List.set_cons_zero, List.set_cons_succ]
            refine takeY 23 (i := 6) (v := ?v6b) rfl rfl (by kernel_rfl) (by kernel_rfl) (by kernel_rfl) (fun _ _ _ h => h) (by kernel_rfl) ?y6b hs0 ?_
            case y6b =>
              intro w' hw'; (try dsimp only at hw'); obtain ⟨r, a0, a1, a2, a3, a4, a5, a6, a7, a8, a9, a10, a11⟩ := hw'; go_simp; try with_reducible rfl
            simp only [Act.put, List.setIfInBounds_toArray, List.set_cons_zero, List.set_cons_succ]
            refine takeY 24 (i := 7) (v := ?v7b) rfl rfl (by kernel_rfl) (by kernel_rfl) (by kernel_rfl) (fun _ _ _ h => h) (by kernel_rfl) ?y7b hs0 ?_
            case y7b =>
              intro w' hw'; (try dsimp only at hw'); obtain ⟨r, a0, a1, a2, a3, a4, a5, a6, a7, a8, a9, a10, a11⟩ := hw'; go_simp; try with_reducible rfl
            simp only [Act.put, List.setIfInBounds_toArray, List.set_cons_zero, List.set_cons_succ]
            refine takeY 25 (i := 8) (v := ?v8b) rfl rfl (by kernel_rfl) (by kernel_rfl) (by kernel_rfl) (fun _ _ _ h => h) (by kernel_rfl) ?y8b hs0 ?_
            case y8b =>
              intro w' hw'; (try dsimp only at hw'); obtain ⟨r, a0, a1, a2, a3, a4, a5, a6, a7, a8, a9, a10, a11⟩ := hw'; go_simp; try with_reducible rfl
            simp only [Act.put, List.setIfInBounds_toArray, List.set_cons_zero, List.set_cons_succ]
            refine takeY 26 (i := 9) (v := ?v9b) rfl rfl (by kernel_rfl) (by kernel_rfl) (by kernel_rfl) (fun _ _ _ h => h) (by kernel_rfl) ?y9b hs0 ?_
            case y9b =>
              intro w' hw'; (try dsimp only at hw'); obtain ⟨r, a0, a1, a2, a3, a4, a5, a6, a7, a8, a9, a10, a11⟩ := hw'; go_simp; try with_reducible rfl
            simp only [Act.put, List.setIfInBounds_toArray, List.set_cons_zero, List.set_cons_succ]
            refine takeY 27 (i := 10) (v := ?v10b) rfl rfl (by kernel_rfl) (by kernel_rfl) (by kernel_rfl) (fun _ _ _ h => h) (by kernel_rfl) ?y10b hs0 ?_
            case y10b =>
              intro w' hw'; (try dsimp only at hw'); obtain ⟨r, a0, a1, a2, a3, a4, a5, a6, a7, a8, a9, a10, a11⟩ := hw'; go_simp; try with_reducible rfl
            simp only [Act.put, List.setIfInBounds_toArray, List.set_cons_zero, List.set_cons_succ]
            refine takeY 28 (i := 11) (v := ?v11b) rfl rfl (by kernel_rfl) (by kernel_rfl) (by kernel_rfl) (fun _ _ _ h => h) (by kernel_rfl) ?y11b hs0 ?_
            case y11b =>
              intro w' hw'; (try dsimp only at hw'); obtain ⟨r, a0, a1, a2, a3, a4, a5, a6, a7, a8, a9, a10, a11⟩ := hw'; go_simp; try with_reducible rfl
            simp only [Act.put, List.setIfInBounds_toArray, List.set_cons_zero, List.set_cons_succ]
            refine takeY 29 (i := 12) (v := ?v12b) rfl rfl (by kernel_rfl) (by kernel_rfl) (by kernel_rfl) (fun _ _ _ h => h) (by kernel_rfl) ?y12b hs0 ?_
            case y12b =>
              intro w' hw'; (try dsimp only at hw'); obtain ⟨r, a0, a1, a2, a3, a4, a5, a6, a7, a8, a9, a10, a11⟩ := hw'; go_simp; try with_reducible rfl
            simp only [Act.put, List.setIfInBounds_toArray, List.set_cons_zero, List.set_cons_succ]
            refine takeY 30 (i := 13) (v := ?v13b) rfl rfl (by kernel_rfl) (by kernel_rfl) (by kernel_rfl) (fun _ _ _ h => h) (by kernel_rfl) ?y13b hs0 ?_
            case y13b =>
              intro w' hw'; (try dsimp only at hw'); obtain ⟨r, a0, a1, a2, a3, a4, a5, a6, a7, a8, a9, a10, a11⟩ := hw'; go_simp; try with_reducible rfl
            simp only [Act.put, List.setIfInBounds_toArray, List.set_cons_zero, List.set_cons_succ]
            refine takeY 31 (i := 14) (v := ?v14b) rfl rfl (by kernel_rfl) (by kernel_rfl) (by kernel_rfl) (fun _ _ _ h => h) (by kernel_rfl) ?y14b hs0 ?_
            case y14b =>
              intro w' hw'; (try dsimp only at hw'); obtain ⟨r, a0, a1, a2, a3, a4, a5, a6, a7, a8, a9, a10, a11⟩ := hw'; go_simp; try with_reducible rfl
            simp only [Act.put, List.setIfInBounds_toArray, List.set_cons_zero, List.set_cons_succ]
            refine takeY 32 (i := 15) (v := ?v15b) rfl rfl (by kernel_rfl) (by kernel_rfl) (by kernel_rfl) (fun _ _ _ h => h) (by kernel_rfl) ?y15b hs0 ?_
            case y15b =>
              intro w' hw'; (try dsimp only at hw'); obtain ⟨r, a0, a1, a2, a3, a4, a5, a6, a7, a8, a9, a10, a11⟩ := hw'; go_simp; try with_reducible rfl
            simp only [Act.put, List.setIfInBounds_toArray, List.set_cons_zero, List.set_cons_succ]
            refine takeY 33 (i := 16) (v := ?v16b) rfl rfl (by kernel_rfl) (by kernel_rfl) (by kernel_rfl) (fun _ _ _ h => h) (by kernel_rfl) ?y16b hs0 ?_
            case y16b =>
              intro w' hw'; (try dsimp only at hw'); obtain ⟨r, a0, a1, a2, a3, a4, a5, a6, a7, a8, a9, a10, a11⟩ := hw'; go_simp; try with_reducible rfl
            simp only [Act.put, List.setIfInBounds_toArray, List.set_cons_zero, List.set_cons_succ]
            refine takeY 34 (i := 17) (v := ?v17b) rfl rfl (by kernel_rfl) (by kernel_rfl) (by kernel_rfl) (fun _ _ _ h => h) (by kernel_rfl) ?y17b hs0 ?_
            case y17b =>
              intro w' hw'; (try dsimp only at hw'); obtain ⟨r, a0, a1, a2, a3, a4, a5, a6, a7, a8, a9, a10, a11⟩ := hw'; go_simp; try with_reducible rfl
            simp only [Act.put, List.setIfInBounds_toArray, List.set_cons_zero, List.set_cons_succ]
            refine takeY 35 (i := 18) (v := ?v18b) rfl rfl (by kernel_rfl) (by kernel_rfl) (by kernel_rfl) (fun _ _ _ h => h) (by kernel_rfl) ?y18b hs0 ?_
            case y18b =>
              intro w' hw'; (try dsimp only at hw'); obtain ⟨r, a0, a1, a2, a3, a4, a5, a6, a7, a8, a9, a10, a11⟩ := hw'; go_simp; try with_reducible rfl
            simp only [Act.put, List.setIfInBounds_toArray, List.set_cons_zero, List.set_cons_succ]
            refine takeY 36 (i := 19) (v := ?v19b) rfl rfl (by kernel_rfl) (by kernel_rfl) (by kernel_rfl) (fun _ _ _ h => h) (by kernel_rfl) ?y19b hs0 ?_
            case y19b =>
              intro w' hw'; (try dsimp only at hw'); obtain ⟨r, a0, a1, a2, a3, a4, a5, a6, a7, a8, a9, a10, a11⟩ := hw'; go_simp; try with_reducible rfl
            simp only [Act.put, List.setIfInBounds_toArray, List.set_cons_zero, List.set_cons_succ]
            refine takeY 37 (i := 20) (v := ?v20b) rfl rfl (by kernel_rfl) (by kernel_rfl) (by kernel_rfl) (fun _ _ _ h => h) (by kernel_rfl) ?y20b hs0 ?_
            case y20b =>
              intro w' hw'; (try dsimp only at hw'); obtain ⟨r, a0, a1, a2, a3, a4, a5, a6, a7, a8, a9, a10, a11⟩ := hw'; go_simp; try with_reducible rfl
            simp only [Act.put, List.setIfInBounds_toArray, List.set_cons_zero, List.set_cons_succ]
            refine takeY 38 (i := 21) (v := ?v21b) rfl rfl (by kernel_rfl) (by kernel_rfl) (by kernel_rfl) (fun _ _ _ h => h) (by kernel_rfl) ?y21b hs0 ?_
            case y21b =>
              intro w' hw'; (try dsimp only at hw'); obtain ⟨r, a0, a1, a2, a3, a4, a5, a6, a7, a8, a9, a10, a11⟩ := hw'; go_simp; try with_reducible rfl
            simp only [Act.put, List.setIfInBounds_toArray, List.set_cons_zero, List.set_cons_succ]
            refine wpAnyH_ready (rs := [22]) (by kernel_rfl) (by simp) ?_
            refine AllReadyH.cons rfl (fun K hK => ?_) AllReadyH.nil
            go_simp; go_at_call 82; refine (HC.out _ (hs0.1)).mono ?_; rintro e w3 ⟨rfl, hb3'⟩; have hb3 : Below wr.heap.size wr w3 := below_on (Below.refl _ _).drew hb3'; clear hb3'
            refine hK.out _ _ ⟨hb3, (hb3.cell (p := ⟨b1, off1 + k * 6, none⟩) hl1).trans e0, (hb3.cell (p := ⟨b1, off1 + k * 6 + 1, none⟩) hl1).trans e1, (hb3.cell (p := ⟨b1, off1 + k * 6 + 2, none⟩) hl1).trans e2, (hb3.cell (p := ⟨b1, off1 + k * 6 + 3, none⟩) hl1).trans e3, (hb3.cell (p := ⟨b1, off1 + k * 6 + 4, none⟩) hl1).trans e4, (hb3.cell (p := ⟨b1, off1 + k * 6 + 5, none⟩) hl1).trans e5, (hb3.cell (p := ⟨b2, off2 + k * 6, none⟩) hl2).trans f0, (hb3.cell (p := ⟨b2, off2 + k * 6 + 1, none⟩) hl2).trans f1, (hb3.cell (p := ⟨b2, off2 + k * 6 + 2, none⟩) hl2).trans f2, (hb3.cell (p := ⟨b2, off2 + k * 6 + 3, none⟩) hl2).trans f3, (hb3.cell (p := ⟨b2, off2 + k * 6 + 4, none⟩) hl2).trans f4, (hb3.cell (p := ⟨b2, off2 + k * 6 + 5, none⟩) hl2).trans f5⟩ (fun hS1 => ?_)
            clear hK K
            try simp only [Act.put, List.setIfInBounds_toArray, List.set_cons_zero, List.set_cons_succ]
            refine takeY 40 (i := 23) (v := ?v23b) rfl rfl (by kernel_rfl) (by kernel_rfl) (by kernel_rfl) (fun _ _ _ h => h) (by kernel_rfl) ?y23b hS1 ?_
            case y23b =>
              intro w' hw'; (try dsimp only at hw'); obtain ⟨r, a0, a1, a2, a3, a4, a5, a6, a7, a8, a9, a10, a11⟩ := hw'; go_simp; try with_reducible rfl
            simp only [Act.put, List.setIfInBounds_toArray, List.set_cons_zero, List.set_cons_succ]
            refine takeY 41 (i := 24) (v := ?v24b) rfl rfl (by kernel_rfl) (by kernel_rfl) (by kernel_rfl) (fun _ _ _ h => h) (by kernel_rfl) ?y24b hS1 ?_
            case y24b =>
              intro w' hw'; (try dsimp only at hw'); obtain ⟨r, a0, a1, a2, a3, a4, a5, a6, a7, a8, a9, a10, a11⟩ := hw'; go_simp; try with_reducible rfl
            simp only [Act.put, List.setIfInBounds_toArray, List.set_cons_zero, List.set_cons_succ]
            refine wpAnyH_done (by kernel_rfl) ?_ _
            go_wp2
            go_roundw
            case rel => exact ⟨k + 1, by omega, by go_num, by rw [datN_at HA1.out, datN_at HA2.out, HT.out, nd_dat.2 ⟨HE.out, HD.out⟩], HB.out.trans (hb3.mono hsz.out)⟩
            case measure => simp [intOf]; omega
        · have HF := Lib.hid (ne_nd HA1.out HA2.out (fun e => he (nd_dat.1 e).1))
          obtain rfl : b = false := by
            cases b
            · rfl
            · exact absurd (HBo.out.1 rfl) HF.out
          have hne : (x.op != y.op) = true := by simpa using he
          clear he
          go_wp2
          have hs0 : Below wr.heap.size wr wr.drew ∧ wr.drew.cell? ⟨b1, off1 + k * 6, none⟩ = some (.int .i64 x.op) ∧ wr.drew.cell? ⟨b1, off1 + k * 6 + 1, none⟩ = some (.int .i64 x.t.kind) ∧ wr.drew.cell? ⟨b1, off1 + k * 6 + 2, none⟩ = some (.int .i64 x.t.field) ∧ wr.drew.cell? ⟨b1, off1 + k * 6 + 3, none⟩ = some (.int .i64 x.t.value) ∧ wr.drew.cell? ⟨b1, off1 + k * 6 + 4, none⟩ = some (.slice x.t.LA x.t.Ln x.t.Lc) ∧ wr.drew.cell? ⟨b1, off1 + k * 6 + 5, none⟩ = some (.slice x.t.PA x.t.Pn x.t.Pc) ∧ wr.drew.cell? ⟨b2, off2 + k * 6, none⟩ = some (.int .i64 y.op) ∧ wr.drew.cell? ⟨b2, off2 + k * 6 + 1, none⟩ = some (.int .i64 y.t.kind) ∧ wr.drew.cell? ⟨b2, off2 + k * 6 + 2, none⟩ = some (.int .i64 y.t.field) ∧ wr.drew.cell? ⟨b2, off2 + k * 6 + 3, none⟩ = some (.int .i64 y.t.value) ∧ wr.drew.cell? ⟨b2, off2 + k * 6 + 4, none⟩ = some (.slice y.t.LA y.t.Ln y.t.Lc) ∧ wr.drew.cell? ⟨b2, off2 + k * 6 + 5, none⟩ = some (.slice y.t.PA y.t.Pn y.t.Pc) := ⟨(Below.refl _ _).drew, e0, e1, e2, e3, e4, e5, f0, f1, f2, f3, f4, f5⟩
          refine wp_region_held (S := fun w' => Below wr.heap.size wr w' ∧ w'.cell? ⟨b1, off1 + k * 6, none⟩ = some (.int .i64 x.op) ∧ w'.cell? ⟨b1, off1 + k * 6 + 1, none⟩ = some (.int .i64 x.t.kind) ∧ w'.cell? ⟨b1, off1 + k * 6 + 2, none⟩ = some (.int .i64 x.t.field) ∧ w'.cell? ⟨b1, off1 + k * 6 + 3, none⟩ = some (.int .i64 x.t.value) ∧ w'.cell? ⟨b1, off1 + k * 6 + 4, none⟩ = some (.slice x.t.LA x.t.Ln x.t.Lc) ∧ w'.cell? ⟨b1, off1 + k * 6 + 5, none⟩ = some (.slice x.t.PA x.t.Pn x.t.Pc) ∧ w'.cell? ⟨b2, off2 + k * 6, none⟩ = some (.int .i64 y.op) ∧ w'.cell? ⟨b2, off2 + k * 6 + 1, none⟩ = some (.int .i64 y.t.kind) ∧ w'.cell? ⟨b2, off2 + k * 6 + 2, none⟩ = some (.int .i64 y.t.field) ∧ w'.cell? ⟨b2, off2 + k * 6 + 3, none⟩ = some (.int .i64 y.t.value) ∧ w'.cell? ⟨b2, off2 + k * 6 + 4, none⟩ = some (.slice y.t.LA y.t.Ln y.t.Lc) ∧ w'.cell? ⟨b2, off2 + k * 6 + 5, none⟩ = some (.slice y.t.PA y.t.Pn y.t.Pc)) (by kernel_rfl) ?_
          change wpAnyH _ _ _ _ _ _ _ _ (World.drew _)
          refine takeY 17 (i := 0) (v := ?v0c) rfl rfl (by kernel_rfl) (by kernel_rfl) (by kernel_rfl) (fun _ _ _ h => h) (by kernel_rfl) ?y0c hs0 ?_
          case y0c =>
            intro w' hw'; (try dsimp only at hw'); obtain ⟨r, a0, a1, a2, a3, a4, a5, a6, a7, a8, a9, a10, a11⟩ := hw'; go_simp; try with_reducible rfl
          simp only [Act.put, List.setIfInBounds_toArray, List.set_cons_zero, List.set_cons_succ]
          refine takeY 18 (i := 1) (v := ?v1c) rfl rfl (by kernel_rfl) (by kernel_rfl) (by kernel_rfl) (fun _ _ _ h => h) (by kernel_rfl) ?y1c hs0 ?_
          case y1c =>
            intro w' hw'; (try dsimp only at hw'); obtain ⟨r, a0, a1, a2, a3, a4, a5, a6, a7, a8, a9, a10, a11⟩ := hw'; go_simp; try with_reducible rfl
          simp only [Act.put, List.setIfInBounds_toArray, List.set_cons_zero, List.set_cons_succ]
          refine takeY 19 (i := 2) (v := ?v2c) rfl rfl (by kernel_rfl) (by kernel_rfl) (by kernel_rfl) (fun _ _ _ h => h) (by kernel_rfl) ?y2c hs0 ?_
          case y2c =>
            intro w' hw'; (try dsimp only at hw'); obtain ⟨r, a0, a1, a2, a3, a4, a5, a6, a7, a8, a9, a10, a11⟩ := hw'; go_simp; try with_reducible rfl
          simp only [Act.put, List.setIfInBounds_toArray, List.set_cons_zero, List.set_cons_succ]
          refine takeY 20 (i := 3) (v := ?v3c) rfl rfl (by kernel_rfl) (by kernel_rfl) (by kernel_rfl) (fun _ _ _ h => h) (by kernel_rfl) ?y3c hs0 ?_
          case y3c =>
            intro w' hw'; (try dsimp only at hw'); obtain ⟨r, a0, a1, a2, a3, a4, a5, a6, a7, a8, a9, a10, a11⟩ := hw'; go_simp; try with_reducible rfl
          simp only [Act.put, List.setIfInBounds_toArray, List.set_cons_zero, List.set_cons_succ]
          refine takeY 21 (i := 4) (v := ?v4c) rfl rfl (by kernel_rfl) (by kernel_rfl) (by kernel_rfl) (fun _ _ _ h => h) (by kernel_rfl) ?y4c hs0 ?_
          case y4c =>
            intro w' hw'; (try dsimp only at hw'); obtain ⟨r, a0, a1, a2, a3, a4, a5, a6, a7, a8, a9, a10, a11⟩ := hw'; go_simp; try with_reducible rfl
          simp only [Act.put, List.setIfInBounds_toArray, List.set_cons_zero, List.set_cons_succ]
          refine takeY 22 (i := 5) (v := ?v5c) rfl rfl (by kernel_rfl) (by kernel_rfl) (by kernel_rfl) (fun _ _ _ h => h) (by kernel_rfl) ?y5c hs0 ?_
          case y5c =>
            intro w' hw'; (try dsimp only at hw'); obtain ⟨r, a0, a1, a2, a3, a4, a5, a6, a7, a8, a9, a10, a11⟩ := hw'; go_simp; try with_reducible rfl
          simp only [Act.put, List.setIfInBounds_toArray, List.set_cons_zero, List.set_cons_succ]
          refine takeY 23 (i := 6) (v := ?v6c) rfl rfl (by kernel_rfl) (by kernel_rfl) (by kernel_rfl) (fun _ _ _ h => h) (by kernel_rfl) ?y6c hs0 ?_
          case y6c =>
            intro w' hw'; (try dsimp only at hw'); obtain ⟨r, a0, a1, a2, a3, a4, a5, a6, a7, a8, a9, a10, a11⟩ := hw'; go_simp; try with_reducible rfl
          simp only [Act.put, List.setIfInBounds_toArray, List.set_cons_zero, List.set_cons_succ]
          refine takeY 24 (i := 7) (v := ?v7c) rfl rfl (by kernel_rfl) (by kernel_rfl) (by kernel_rfl) (fun _ _ _ h => h) (by kernel_rfl) ?y7c hs0 ?_
          case y7c =>
            intro w' hw'; (try dsimp only at hw'); obtain ⟨r, a0, a1, a2, a3, a4, a5, a6, a7, a8, a9, a10, a11⟩ := hw'; go_simp; try with_reducible rfl
          simp only [Act.put, List.setIfInBounds_toArray, List.set_cons_zero, List.set_cons_succ]
          refine takeY 25 (i := 8) (v := ?v8c) rfl rfl (by kernel_rfl) (by kernel_rfl) (by kernel_rfl) (fun _ _ _ h => h) (by kernel_rfl) ?y8c hs0 ?_
          case y8c =>
            intro w' hw'; (try dsimp only at hw'); obtain ⟨r, a0, a1, a2, a3, a4, a5, a6, a7, a8, a9, a10, a11⟩ := hw'; go_simp; try with_reducible rfl
          simp only [Act.put, List.setIfInBounds_toArray, List.set_cons_zero, List.set_cons_succ]
          refine takeY 26 (i := 9) (v := ?v9c) rfl rfl (by kernel_rfl) (by kernel_rfl) (by kernel_rfl) (fun _ _ _ h => h) (by kernel_rfl) ?y9c hs0 ?_
          case y9c =>
            intro w' hw'; (try dsimp only at hw'); obtain ⟨r, a0, a1, a2, a3, a4, a5, a6, a7, a8, a9, a10, a11⟩ := hw'; go_simp; try with_reducible rfl
          simp only [Act.put, List.setIfInBounds_toArray, List.set_cons_zero, List.set_cons_succ]
          refine takeY 27 (i := 10) (v := ?v10c) rfl rfl (by kernel_rfl) (by kernel_rfl) (by kernel_rfl) (fun _ _ _ h => h) (by kernel_rfl) ?y10c hs0 ?_
          case y10c =>
            intro w' hw'; (try dsimp only at hw'); obtain ⟨r, a0, a1, a2, a3, a4, a5, a6, a7, a8, a9, a10, a11⟩ := hw'; go_simp; try with_reducible rfl
          simp only [Act.put, List.setIfInBounds_toArray, List.set_cons_zero, List.set_cons_succ]
          refine takeY 28 (i := 11) (v := ?v11c) rfl rfl (by kernel_rfl) (by kernel_rfl) (by kernel_rfl) (fun _ _ _ h => h) (by kernel_rfl) ?y11c hs0 ?_
          case y11c =>
            intro w' hw'; (try dsimp only at hw'); obtain ⟨r, a0, a1, a2, a3, a4, a5, a6, a7, a8, a9, a10, a11⟩ := hw'; go_simp; try with_reducible rfl
          simp only [Act.put, List.setIfInBounds_toArray, List.set_cons_zero, List.set_cons_succ]
          refine takeU 29 (i := 12) rfl rfl (by kernel_rfl) (by kernel_rfl) (by kernel_rfl) (fun _ _ _ h => h) (by kernel_rfl) hs0 ?_
          simp only [Act.put, List.setIfInBounds_toArray, List.set_cons_zero, List.set_cons_succ]
          refine takeU 30 (i := 13) rfl rfl (by kernel_rfl) (by kernel_rfl) (by kernel_rfl) (fun _ _ _ h => h) (by kernel_rfl) hs0 ?_
          simp only [Act.put, List.setIfInBounds_toArray, List.set_cons_zero, List.set_cons_succ]
          refine takeU 31 (i := 14) rfl rfl (by kernel_rfl) (by kernel_rfl) (by kernel_rfl) (fun _ _ _ h => h) (by kernel_rfl) hs0 ?_
          simp only [Act.put, List.setIfInBounds_toArray, List.set_cons_zero, List.set_cons_succ]
          refine takeU 32 (i := 15) rfl rfl (by kernel_rfl) (by kernel_rfl) (by kernel_rfl) (fun _ _ _ h => h) (by kernel_rfl) hs0 ?_
          simp only [Act.put, List.setIfInBounds_toArray, List.set_cons_zero, List.set_cons_succ]
          refine takeU 33 (i := 16) rfl rfl (by kernel_rfl) (by kernel_rfl) (by kernel_rfl) (fun _ _ _ h => h) (by kernel_rfl) hs0 ?_
          simp only [Act.put, List.setIfInBounds_toArray, List.set_cons_zero, List.set_cons_succ]
          refine takeU 34 (i := 17) rfl rfl (by kernel_rfl) (by kernel_rfl) (by kernel_rfl) (fun _ _ _ h => h) (by kernel_rfl) hs0 ?_
          simp only [Act.put, List.setIfInBounds_toArray, List.set_cons_zero, List.set_cons_succ]
          refine takeU 35 (i := 18) rfl rfl (by kernel_rfl) (by kernel_rfl) (by kernel_rfl) (fun _ _ _ h => h) (by kernel_rfl) hs0 ?_
          simp only [Act.put, List.setIfInBounds_toArray, List.set_cons_zero, List.set_cons_succ]
          refine takeU 36 (i := 19) rfl rfl (by kernel_rfl) (by kernel_rfl) (by kernel_rfl) (fun _ _ _ h => h) (by kernel_rfl) hs0 ?_
          simp only [Act.put, List.setIfInBounds_toArray, List.set_cons_zero, List.set_cons_succ]
          refine takeU 37 (i := 20) rfl rfl (by kernel_rfl) (by kernel_rfl) (by kernel_rfl) (fun _ _ _ h => h) (by kernel_rfl) hs0 ?_
          simp only [Act.put, List.setIfInBounds_toArray, List.set_cons_zero, List.set_cons_succ]
          refine takeU 38 (i := 21) rfl rfl (by kernel_rfl) (by kernel_rfl) (by kernel_rfl) (fun _ _ _ h => h) (by kernel_rfl) hs0 ?_
          simp only [Act.put, List.setIfInBounds_toArray, List.set_cons_zero, List.set_cons_succ]
          refine takeU 39 (i := 22) rfl rfl (by kernel_rfl) (by kernel_rfl) (by kernel_rfl) (fun _ _ _ h => h) (by kernel_rfl) hs0 ?_
          simp only [Act.put, List.setIfInBounds_toArray, List.set_cons_zero, List.set_cons_succ]
          refine takeU 40 (i := 23) rfl rfl (by kernel_rfl) (by kernel_rfl) (by kernel_rfl) (fun _ _ _ h => h) (by kernel_rfl) hs0 ?_
          simp only [Act.put, List.setIfInBounds_toArray, List.set_cons_zero, List.set_cons_succ]
          refine takeY 41 (i := 24) (v := ?v24c) rfl rfl (by kernel_rfl) (by kernel_rfl) (by kernel_rfl) (fun _ _ _ h => h) (by kernel_rfl) ?y24c hs0 ?_
          case y24c =>
            intro w' hw'; (try dsimp only at hw'); obtain ⟨r, a0, a1, a2, a3, a4, a5, a6, a7, a8, a9, a10, a11⟩ := hw'; go_simp; try with_reducible rfl
          simp only [Act.put, List.setIfInBounds_toArray, List.set_cons_zero, List.set_cons_succ]
          refine wpAnyH_done (by kernel_rfl) ?_ _
          go_wp2
          go_ret
          exact ⟨rfl, HB.out.trans (hs0.1.mono hsz.out)⟩
      · obtain rfl : k = n := by omega
        obtain rfl : b = true := HBo.out.2 (by have := HT.out; rwa [ptake_all HX.out.len, ptake_all HY.out.len] at this)
        clear hbel
        go_wp2
        go_ret
        exact ⟨rfl, HB.out⟩
  · obtain rfl : b = false := by
      cases b
      · rfl
      · exact absurd (hb.1 rfl) (ne_len (by rw [h1.len, h2.len]; exact hl))
    clear h1 h2 hb
    go_enter Tryz.func32, Tryz.ntmps32
    go_wp2
    go_ret
    exact ⟨rfl, Below.refl _ _⟩

set_option maxRecDepth 20000 in
theorem iSameNode (w : World) (B : Nat) (x y : Nd) (h1 : WiIn w B x.t) (h2 : WiIn w B y.t) (hB : B ≤ w.heap.size) (hn : x.t.Short) (b : Bool) (hb : b = true ↔ x.dat = y.dat) :
    Calls Tryz.prog 75 #[x.val, y.val] w fun e w' => e = .returned (.bool b) ∧ Below w.heap.size w w' := by
  obtain ⟨op, t⟩ := x
  obtain ⟨op', t'⟩ := y
  rw [nd_dat] at hb
  have HW2 : Hid (∀ o1 o2 : Obj, Below w.heap.size w ((w.alloc o1).alloc o2)) := Lib.hid fun o1 o2 => ((Below.refl _ w).alloc (Nat.le_refl _) _).alloc (by simp) _
  have HB2 : Hid (∀ o1 o2 : Obj, Below B w ((w.alloc o1).alloc o2)) := Lib.hid fun o1 o2 => ((Below.refl B w).alloc hB _).alloc (by simp; omega) _
  obtain ⟨q, hq⟩ := bool_of (t.dat = t'.dat)
  have HC : Hid (∀ w1, Below B w w1 → Calls Tryz.prog 112 #[.agg #[.int .i64 t.kind, .int .i64 t.field, .int .i64 t.value, .slice t.LA t.Ln t.Lc, .slice t.PA t.Pn t.Pc], .agg #[.int .i64 t'.kind, .int .i64 t'.field, .int .i64 t'.value, .slice t'.LA t'.Ln t'.Lc, .slice t'.PA t'.Pn t'.Pc]] w1 fun e w' => e = .returned (.bool q) ∧ Below w1.heap.size w1 w') := Lib.hid fun w1 h => iSameWish w1 B t t' (h1.below h) (h2.below h) (Nat.le_trans hB h.size) hn q hq
  have HNo : Hid (¬ (op = op' ∧ q = true) → b = false) := Lib.hid fun h => by
    cases b
    · rfl
    · exact absurd ⟨(hb.1 rfl).1, hq.2 (hb.1 rfl).2⟩ h
  have HYes : Hid (op = op' → q = true → b = true) := Lib.hid fun e1 e2 => hb.2 ⟨e1, hq.1 e2⟩
  have hval : (Nd.mk op t).val = .agg #[.int .i64 op, .int .i64 t.kind, .int .i64 t.field, .int .i64 t.value, .slice t.LA t.Ln t.Lc, .slice t.PA t.Pn t.Pc] := rfl
  have hval' : (Nd.mk op' t').val = .agg #[.int .i64 op', .int .i64 t'.kind, .int .i64 t'.field, .int .i64 t'.value, .slice t'.LA t'.Ln t'.Lc, .slice t'.PA t'.Pn t'.Pc] := rfl
  rw [hval, hval']
  clear hval hval' hb hq h1 h2 hn
  by_cases e1 : op = op'
  · have HR : Hid (b = q) := Lib.hid (by
      cases q
      · exact HNo.out fun h => by have := h.2; cases this
      · exact HYes.out e1 rfl)
    obtain rfl := HR.out
    subst e1
    go_enter Tryz.func75, Tryz.ntmps75
    go_wp2_with fail
    refine (HC.out _ (HB2.out _ _)).mono ?_
    rintro e w1 ⟨rfl, hb1⟩
    have HBB := Lib.hid (below_on (HW2.out _ _) hb1)
    clear hb1
    go_wp2
    go_ret
    exact ⟨rfl, HBB.out⟩
  · obtain rfl := HNo.out fun h => e1 h.1
    have hne : (op == op') = false := by simpa using e1
    go_enter Tryz.func75, Tryz.ntmps75
    go_wp2
    go_ret
    exact ⟨rfl, HW2.out _ _⟩

set_option maxRecDepth 20000 in
theorem iEqFunc (w : World) (B : Nat) (A A' : Option Addr) (n n' c c' : Nat) (xs ys : List Nd) (h1 : Nodes w B A n xs) (h2 : Nodes w B A' n' ys) (hB : B ≤ w.heap.size) (hn : n ≤ 1048576) (hN : ShortN xs) (b : Bool) (hb : b = true ↔ datN xs = datN ys) :
    Calls Tryz.prog 74 #[.slice A n c, .slice A' n' c', .func (.func 75) #[] #[]] w fun e w' => e = .returned (.bool b) ∧ Below w.heap.size w w' := by
  have HX := Lib.hid h1
  have HY := Lib.hid h2
  have HN := Lib.hid hN
  by_cases hl : n = n'
  · subst hl
    have HBo := Lib.hid hb
    clear h1 h2 hN hb
    go_enter Tryz.func74, Tryz.ntmps74
    go_wp2
    go_loopw [17] (fun i wr => ∃ k : Nat, k ≤ n ∧ i = .int .i64 k ∧ datN (xs.take k) = datN (ys.take k) ∧ Below w.heap.size w wr) (fun i _ => n - (intOf i).toNat)
    case atStart => exact ⟨0, Nat.zero_le _, rfl, rfl, Below.refl _ _⟩
    case round =>
      obtain ⟨k, hk, rfl, htake, hbel⟩ := hrel
      have HT := Lib.hid htake
      have HB := Lib.hid hbel
      clear htake
      by_cases hlt : k < n
      · obtain ⟨b1, off1, x, rfl, hb1, hat1, hw1, e0, e1, e2, e3, e4, e5⟩ := HX.out.at k hlt
        obtain ⟨b2, off2, y, rfl, hb2, hat2, hw2, f0, f1, f2, f3, f4, f5⟩ := HY.out.at k hlt
        have tr : ∀ {bb oo : Nat} {v : Value}, bb < B → w.cell? ⟨bb, oo, none⟩ = some v → wr.cell? ⟨bb, oo, none⟩ = some v := fun {bb oo v} hb h => (hbel.cell (p := ⟨bb, oo, none⟩) (Nat.lt_of_lt_of_le hb hB)).trans h
        have e0 := tr hb1 e0
        have e1 := tr hb1 e1
        have e2 := tr hb1 e2
        have e3 := tr hb1 e3
        have e4 := tr hb1 e4
        have e5 := tr hb1 e5
        have f0 := tr hb2 f0
        have f1 := tr hb2 f1
        have f2 := tr hb2 f2
        have f3 := tr hb2 f3
        have f4 := tr hb2 f4
        have f5 := tr hb2 f5
        have HA1 := Lib.hid hat1
        have HA2 := Lib.hid hat2
        have hsz := Lib.hid hbel.size
        have hl1 : b1 < wr.heap.size := by have := hbel.size; omega
        have hl2 : b2 < wr.heap.size := by have := hbel.size; omega
        obtain ⟨q, hq⟩ : ∃ q : Bool, q = true ↔ x.dat = y.dat := bool_of _
        have HQ := Lib.hid hq
        have HC : Hid (∀ w1, Below wr.heap.size wr w1 → Calls Tryz.prog 75 #[.agg #[.int .i64 x.op, .int .i64 x.t.kind, .int .i64 x.t.field, .int .i64 x.t.value, .slice x.t.LA x.t.Ln x.t.Lc, .slice x.t.PA x.t.Pn x.t.Pc], .agg #[.int .i64 y.op, .int .i64 y.t.kind, .int .i64 y.t.field, .int .i64 y.t.value, .slice y.t.LA y.t.Ln y.t.Lc, .slice y.t.PA y.t.Pn y.t.Pc]] w1 fun e w' => e = .returned (.bool q) ∧ Below w1.heap.size w1 w') := Lib.hid fun w1 h =>
          iSameNode w1 B x y (hw1.2.below ((hbel.mono hB).trans (h.mono (Nat.le_trans hB hbel.size)))) (hw2.2.below ((hbel.mono hB).trans (h.mono (Nat.le_trans hB hbel.size)))) (Nat.le_trans hB (Nat.le_trans hbel.size h.size)) (HN.out x (List.mem_of_getElem? hat1)) q hq
        have HW2 : Hid (∀ o1 o2 : Obj, Below wr.heap.size wr ((wr.alloc o1).alloc o2)) := Lib.hid fun o1 o2 => ((Below.refl _ wr).alloc (Nat.le_refl _) _).alloc (by simp) _
        clear hat1 hat2 hbel hq hw1 hw2 tr
        go_wp2_with fail
        refine (HC.out _ (HW2.out _ _)).mono ?_
        rintro e w3 ⟨rfl, hb3⟩
        have HB3 := Lib.hid (below_on HB.out (below_on (HW2.out _ _) hb3))
        clear hb3 e0 e1 e2 e3 e4 e5 f0 f1 f2 f3 f4 f5
        cases q
        · have HF := Lib.hid (ne_nd HA1.out HA2.out (fun e => by have := HQ.out.2 e; cases this))
          obtain rfl : b = false := by
            cases b
            · rfl
            · exact absurd (HBo.out.1 rfl) HF.out
          go_wp2
          go_ret
          exact ⟨rfl, HB3.out⟩
        · have HD := Lib.hid (HQ.out.1 (by first | rfl | trivial))
          go_wp2
          go_roundw
          case rel => exact ⟨k + 1, by omega, by go_num, by rw [datN_at HA1.out, datN_at HA2.out, HT.out, HD.out], HB3.out⟩
          case measure => simp [intOf]; omega
      · obtain rfl : k = n := by omega
        obtain rfl : b = true := HBo.out.2 (by have := HT.out; rwa [ptake_all HX.out.len, ptake_all HY.out.len] at this)
        clear hbel
        go_wp2
        go_ret
        exact ⟨rfl, HB.out⟩
  · obtain rfl : b = false := by
      cases b
      · rfl
      · exact absurd (hb.1 rfl) (ne_len (by rw [h1.len, h2.len]; exact hl))
    clear h1 h2 hb
    go_enter Tryz.func74, Tryz.ntmps74
    go_wp2
    go_ret
    exact ⟨rfl, Below.refl _ _⟩
theorem iEqE (w : World) (B : Nat) (A A' : Option Addr) (n n' c c' : Nat) (xs ys : List Nd) (h1 : Nodes w B A n xs) (h2 : Nodes w B A' n' ys) (hB : B ≤ w.heap.size) (hn : n ≤ 1048576) (hN : ShortN xs) (b : Bool) (hb : b = true ↔ datN xs = datN ys) :
    Calls Tryz.prog 26 #[.slice A n c, .slice A' n' c'] w fun e w' => e = .returned (.bool b) ∧ Below w.heap.size w w' := by
  have HC := Lib.hid (iEqFunc w B A A' n n' c c' xs ys h1 h2 hB hn hN b hb)
  clear h1 h2 hN hb
  go_enter Tryz.func26, Tryz.ntmps26
  go_wp2_with fail
  refine HC.out.mono ?_
  rintro e w1 ⟨rfl, hb1⟩
  go_wp2
  go_ret
  exact ⟨rfl, hb1⟩
end Go.Proofs.YtadjoiahllekdaaGreatDoor.num
namespace Go.Proofs.YtadjoiahllekdaaGreatDoor.num
set_option maxRecDepth 20000
open Go.RowKit Go.Maps
set_option linter.unusedVariables false

def kI (v : Int) : Lit := .int .i64 v
theorem kI_inj {u v : Int} (h : kI u = kI v) : u = v := by unfold kI at h; injection h
theorem kI_key (v : Int) : WideAt.IsKeyLit (kI v) := trivial
theorem kI_same (u v : Int) : (kI u).sameKey (kI v) = (u == v) := by
  by_cases h : u = v
  · subst h
    rw [WideAt.sameKey_self (kI_key u)]
    simp
  · rw [sameKey_ne (fun e => h (kI_inj e))]
    simpa using h
/-- D's elements, key by key. -/
def Reads (D : DataW Unit) (f : Int → Option (DataW Unit)) : Prop := ∀ v : Int, (Lit.int .i64 v).wf = true → ∀ z, D.atKey (kI v) z = (f v).getD z
theorem Reads.has {D : DataW Unit} {f : Int → Option (DataW Unit)} (h : Reads D f) {v : Int} (hv : (Lit.int .i64 v).wf = true) : Maps.has D (kI v) = (f v).isSome := by
  cases e : f v with
  | none => exact has_false_of_atKey fun z => by rw [h v hv z, e]; rfl
  | some d => exact has_true_of_atKey fun z => by rw [h v hv z, e]; rfl
theorem Reads.of_at {D : DataW Unit} {f : Int → Option (DataW Unit)} (h : Reads D f) {v : Int} (hv : (Lit.int .i64 v).wf = true) {d : DataW Unit} (hat : ∀ z, D.atKey (kI v) z = d) : f v = some d := by
  cases e : f v with
  | none =>
    have h1 := (h v hv .nil).symm.trans (hat .nil)
    have h2 := (h v hv (.lit (.bool true))).symm.trans (hat _)
    rw [e] at h1 h2
    simp at h1 h2
    rw [← h1] at h2; cases h2
  | some d' =>
    have h1 := (h v hv .nil).symm.trans (hat .nil)
    rw [e] at h1
    simp at h1
    rw [h1]
theorem Reads.congr {D : DataW Unit} {f g : Int → Option (DataW Unit)} (h : Reads D f) (e : ∀ v, (Lit.int .i64 v).wf = true → f v = g v) : Reads D g := fun v hv z => by rw [← e v hv]; exact h v hv z
theorem Reads.put {D : DataW Unit} {f : Int → Option (DataW Unit)} (h : Reads D f) (hm : IsMap D) (v : Int) (d : DataW Unit) : Reads (D.put (kI v) d) (fun x => if x = v then some d else f x) := fun x hx z => by
  by_cases e : x = v
  · subst e
    rw [atKey_put_same hm (kI_key _)]
    show _ = (if x = x then some d else f x).getD z
    rw [if_pos rfl]; rfl
  · rw [atKey_put_other (fun e' => e (kI_inj e'))]
    show _ = (if x = v then some d else f x).getD z
    rw [if_neg e]; exact h x hx z
section
variable {P : Program} {k : TypeId} {R : Value → Option (DataW Unit × List MemPlace)} {w w' : World} {b n : Nat} {f : Int → Option (DataW Unit)}
/-- Block b is a map of at most n entries that holds f. -/
def MapAt (P : Program) (k : TypeId) (R : Value → Option (DataW Unit × List MemPlace)) (w : World) (b n : Nat) (f : Int → Option (DataW Unit)) : Prop := ∃ D, w.ownsMap P k R b n D ∧ Reads D f
theorem MapAt.lt (h : MapAt P k R w b n f) : b < w.heap.size := by obtain ⟨D, h, _⟩ := h; exact h.lt
theorem MapAt.mono (h : MapAt P k R w b n f) {m : Nat} (hm : n ≤ m) : MapAt P k R w b m f := by obtain ⟨D, h, r⟩ := h; exact ⟨D, h.mono hm, r⟩
theorem MapAt.block (h : MapAt P k R w b n f) (hb : w'.heap[b]? = w.heap[b]?) : MapAt P k R w' b n f := by
  obtain ⟨D, ⟨es, clock, h1, h2⟩, r⟩ := h
  exact ⟨D, ⟨es, clock, hb.trans h1, h2⟩, r⟩
theorem MapAt.kept {row : Option Nat} (h : MapAt P k R w b n f) (hg : w.grownBy w' row) (hne : some b ≠ row) : MapAt P k R w' b n f := h.block (hg.block b h.lt hne)
theorem MapAt.alloc (h : MapAt P k R w b n f) (o : Obj) : MapAt P k R (w.alloc o) b n f := h.block (Below.heap_alloc _ _ _ h.lt)
theorem MapAt.congr (h : MapAt P k R w b n f) {g : Int → Option (DataW Unit)} (e : ∀ v, (Lit.int .i64 v).wf = true → f v = g v) : MapAt P k R w b n g := by obtain ⟨D, h, r⟩ := h; exact ⟨D, h, r.congr e⟩
theorem MapAt.made (w : World) : MapAt P k R (w.alloc (.map #[] 0)) w.heap.size 0 (fun _ => none) := ⟨.map [], World.ownsMap_made w P k R, fun _ _ _ => rfl⟩
/-- m[v]. -/
theorem MapAt.look {t e : TypeId} (h : MapAt P k R w b n f) (K : Keyed P k) (hk : P.underlying k = some (.int .i64)) (ht : P.underlying t = some (.map k e)) {z : Value} (hz : (zeroValue e).run P w = .ok z w) {zd : DataW Unit} {zp : List MemPlace} (hzd : R z = some (zd, zp)) {v : Int} (hv : (Lit.int .i64 v).wf = true) :
    ∃ val ps, (Instr.lookup t (.map (some b)) (.int .i64 v) false).run P w = .ok val w ∧ R val = some ((f v).getD zd, ps) := by
  obtain ⟨D, h, r⟩ := h
  obtain ⟨val, ps, h1, h2⟩ := h.lookup K ht hz hzd (kl := kI v) (keyOf_int_mk hk hv)
  exact ⟨val, ps, h1, by rw [h2, r v hv]⟩
/-- len(m) is 0 just where nothing is held. -/
theorem MapAt.len {t e : TypeId} (h : MapAt P k R w b n f) (hk : P.underlying k = some (.int .i64)) (K : Keyed P k) (ht : P.underlying t = some (.map k e)) (ty : TypeId) :
    ∃ m : Nat, (Builtin.len_ #[t] ty #[.map (some b)]).run P w = .ok (.int .i64 m) w ∧ (m = 0 ↔ ∀ v : Int, (Lit.int .i64 v).wf = true → f v = none) := by
  obtain ⟨D, h, r⟩ := h
  refine ⟨Maps.size D, h.len ht ty, ?_⟩
  obtain ⟨es, clock, hb, F, hs, rfl⟩ := h
  constructor
  · intro h0 v hv
    have hn := r.has hv
    have he : (es.toList.map (WideElems.rg P k R)).foldr DataW.insert [] = [] := List.eq_nil_of_length_eq_zero h0
    rw [he] at hn
    cases e : f v
    · rfl
    · rw [e] at hn; cases hn
  · intro hall
    refine Classical.byContradiction fun hne => ?_
    have : es.toList ≠ [] := fun e => hne (by rw [e]; rfl)
    obtain ⟨x, l, hx⟩ := List.exists_cons_of_ne_nil this
    have hxm : x ∈ es.toList := by rw [hx]; simp
    obtain ⟨y, hy⟩ := F.reads x hxm
    have hkey := WideElems.rd_key hy
    obtain ⟨v, _, hkl, hv⟩ := keyOf_int_inv hk hkey
    have h1 := r.has hv
    rw [hall v hv] at h1
    have h2 : Maps.has (.map ((es.toList.map (WideElems.rg P k R)).foldr DataW.insert [])) (kI v) = true := by
      refine List.any_eq_true.2 ⟨WideElems.rg P k R x, mem_sorted.2 (List.mem_map.2 ⟨x, hxm, rfl⟩), ?_⟩
      rw [WideElems.rg_of hy, hkl]
      exact WideAt.sameKey_self (kI_key v)
    rw [h2] at h1
    cases h1
end

section
variable {P : Program} {k : TypeId} {R : Value → Option (DataW Unit × List MemPlace)} (w : World) {b n : Nat} {f : Int → Option (DataW Unit)} {ops : Array Oper} {rest : List Oper} {o : Oper} {a : Act} {Q : Exit → Act → World → Prop}
/-- 'm[v] = x'. -/
theorem wp_put (hg : o.guard = none) (m x y : Operand) (t : TypeId) (hop : o.op = Op.mapUpdate t m x y) {e : TypeId} (K : Keyed P k) (hk : P.underlying k = some (.int .i64)) (ht : P.underlying t = some (.map k e))
    (hm : a.eval m = .map (some b)) (h : MapAt P k R w b n f) (hn : n < maxLen) (v : Int) (hx : a.eval x = .int .i64 v) (hv : (Lit.int .i64 v).wf = true) (val : Value) (hy : a.eval y = val) (d : DataW Unit) (ps : List MemPlace) (hval : R val = some (d, ps))
    (hK : ∀ w', MapAt P k R w' b (n + 1) (fun x => if x = v then some d else f x) → w.grownBy w' (some b) → w'.heap.size = w.heap.size → wpList P ops Q rest (a.put o.dst undef) w') :
    wpList P ops Q (o :: rest) a w := by
  obtain ⟨D, h, r⟩ := h
  refine wpList_mapUpdate_in w hg m x y t hop k e K ht R b n D hm h hn _ val (kI v) hx hy (keyOf_int_mk hk hv) d ps hval fun w' h' ht' => ?_
  refine hK w' ⟨_, h', r.put h.isMap v d⟩ ht'.grown ?_
  obtain ⟨_, _, _, _, _, rfl⟩ := ht'
  simp [Go.ChangeMaps.setBlock]
/-- A range over the map is under way: what is still to come, by key. -/
def RangeAt (P : Program) (k : TypeId) (R : Value → Option (DataW Unit × List MemPlace)) (w : World) (b r n : Nat) (f : Int → Option (DataW Unit)) (L : Int → Bool) (cnt : Nat) : Prop :=
  ∃ D left, w.ranges P k R b r n D left cnt ∧ Reads D f ∧ ∀ v, L v = left (kI v)
/-- 'range m'. -/
theorem wp_range (hg : o.guard = none) (m : Operand) (t : TypeId) (hop : o.op = Op.range t m) {e : TypeId} (K : Keyed P k) (ht : P.underlying t = some (.map k e))
    (hm : a.eval m = .map (some b)) (h : MapAt P k R w b n f)
    (hK : ∀ w' L cnt, RangeAt P k R w' b w.heap.size n f L cnt → (∀ v, (Lit.int .i64 v).wf = true → L v = (f v).isSome) → cnt ≤ n → w.grownBy w' none → w'.heap.size = w.heap.size + 1 → wpList P ops Q rest (a.put o.dst (.pointer (some ⟨w.heap.size, 0, none⟩))) w') :
    wpList P ops Q (o :: rest) a w := by
  obtain ⟨D, h, r⟩ := h
  refine wpList_range_own w hg m t hop k e K ht R b n D hm h fun w' h1 h2 h3 => ?_
  exact hK w' (fun v => Maps.has D (kI v)) _ ⟨D, _, h1, r, fun _ => rfl⟩ (fun v hv => r.has hv) h.size_le h2 h3
/-- The step. -/
theorem wp_next {β : Type} {r : Nat} {L : Int → Bool} {cnt : Nat} (hg : o.guard = none) (it : Operand) (hop : o.op = Op.next it false) (K : Keyed P k) (hk : P.underlying k = some (.int .i64)) (mkV : β → Value) (invV : ∀ v y, R v = some y → ∃ c, v = mkV c)
    (hit : a.eval it = .pointer (some ⟨r, 0, none⟩)) (h : RangeAt P k R w b r n f L cnt)
    (hDone : (∀ v, L v = false) → MapAt P k R w b n f → wpList P ops Q rest (a.put o.dst (.tuple #[.bool false])) w)
    (hMore : ∀ (x : Int) (c : β) (w' : World) (cnt' : Nat), (Lit.int .i64 x).wf = true → L x = true → (∃ d ps, R (mkV c) = some (d, ps) ∧ f x = some d) → RangeAt P k R w' b r n f (fun v => L v && !(v == x)) cnt' → cnt' < cnt →
      w.grownBy w' (some r) → w'.heap.size = w.heap.size → (Instr.entry (.pointer (some ⟨r, 0, none⟩))).run P w' = .ok (.tuple #[.int .i64 x, mkV c]) w' → wpList P ops Q rest (a.put o.dst (.tuple #[.bool true, .int .i64 x, mkV c])) w') :
    wpList P ops Q (o :: rest) a w := by
  obtain ⟨D, left, h, rd, hL⟩ := h
  refine wpList_next_ranges w hg it hop k K R (Value.int .i64) mkV (fun key kl hkey => by obtain ⟨x, rfl, _⟩ := keyOf_int_inv hk hkey; exact ⟨x, rfl⟩) invV b r n D left cnt hit h
    (fun _ hl => hDone (fun v => by rw [hL, hl]) ⟨D, h.owns, rd⟩) (fun x c kl y w' cnt' hkey hlk hv hat hrg hlt hgr hsz hen => ?_)
  obtain ⟨x', ex, rfl, hwx⟩ := keyOf_int_inv hk hkey
  cases ex
  exact hMore x c w' cnt' hwx (by rw [hL]; exact hlk) ⟨y.1, y.2, hv, rd.of_at hwx hat⟩ ⟨D, _, hrg, rd, fun v => by show (L v && !(v == x)) = (left (kI v) && !(kI v).sameKey (kI x)); rw [hL, kI_same]⟩ hlt hgr hsz hen
end
theorem RangeAt.kept {P : Program} {k : TypeId} {R : Value → Option (DataW Unit × List MemPlace)} {w w' : World} {b r n : Nat} {f : Int → Option (DataW Unit)} {L : Int → Bool} {cnt : Nat} {row : Option Nat}
    (h : RangeAt P k R w b r n f L cnt) (hg : w.grownBy w' row) (h1 : some b ≠ row) (h2 : some r ≠ row) : RangeAt P k R w' b r n f L cnt := by
  obtain ⟨D, left, h, rest⟩ := h
  exact ⟨D, left, h.kept hg h1 h2, rest⟩
theorem RangeAt.owns {P : Program} {k : TypeId} {R : Value → Option (DataW Unit × List MemPlace)} {w : World} {b r n : Nat} {f : Int → Option (DataW Unit)} {L : Int → Bool} {cnt : Nat} (h : RangeAt P k R w b r n f L cnt) : MapAt P k R w b n f := by
  obtain ⟨D, left, h, rd, _⟩ := h
  exact ⟨D, h.owns, rd⟩
theorem RangeAt.left_eq {P : Program} {k : TypeId} {R : Value → Option (DataW Unit × List MemPlace)} {w : World} {b r n : Nat} {f : Int → Option (DataW Unit)} {L : Int → Bool} {cnt : Nat} (h : RangeAt P k R w b r n f L cnt) : w.rangeLeft b r = cnt := by
  obtain ⟨D, left, h, _⟩ := h
  exact h.left_eq
theorem RangeAt.lt {P : Program} {k : TypeId} {R : Value → Option (DataW Unit × List MemPlace)} {w : World} {b r n : Nat} {f : Int → Option (DataW Unit)} {L : Int → Bool} {cnt : Nat} (h : RangeAt P k R w b r n f L cnt) : r < w.heap.size := by
  obtain ⟨D, left, h, _⟩ := h
  exact h.lt
end Go.Proofs.YtadjoiahllekdaaGreatDoor.num
namespace Go.Proofs.YtadjoiahllekdaaGreatDoor.num
set_option maxRecDepth 20000
open Go.RowKit Go.Maps
set_option linter.unusedVariables false

theorem keyInt : Keyed Tryz.prog 3 := int_keyed Tryz.underlying3
def setElem (v : Value) : Option (DataW Unit × List MemPlace) := match v with
  | .bool x => some (.lit (.bool x), [])
  | _ => none
def refElem (v : Value) : Option (DataW Unit × List MemPlace) := match v with
  | .map none => some (.lit (.int .i64 (-1)), [])
  | .map (some b) => some (.lit (.int .i64 b), [])
  | _ => none
def refLit : Option Nat → DataW Unit
  | none => .lit (.int .i64 (-1))
  | some b => .lit (.int .i64 b)
theorem refElem_map (o : Option Nat) : refElem (.map o) = some (refLit o, []) := by cases o <;> rfl
theorem refLit_inj {o o' : Option Nat} (h : refLit o = refLit o') : o = o' := by
  cases o <;> cases o' <;> simp [refLit] at h ⊢ <;> omega
theorem setElem_inv (v : Value) (y : DataW Unit × List MemPlace) (h : setElem v = some y) : ∃ c : Bool, v = .bool c := by
  unfold setElem at h
  split at h
  · exact ⟨_, rfl⟩
  · cases h
theorem refElem_inv (v : Value) (y : DataW Unit × List MemPlace) (h : refElem v = some y) : ∃ c : Option Nat, v = .map c := by
  unfold refElem at h
  split at h
  · exact ⟨_, rfl⟩
  · exact ⟨_, rfl⟩
  · cases h

def bit (S : Int → Bool) (v : Int) : Option (DataW Unit) := if S v then some (.lit (.bool true)) else none
/-- Block b is a map[int]bool that holds just the values of S, each with true. -/
def SetAt (w : World) (b n : Nat) (S : Int → Bool) : Prop := MapAt Tryz.prog 3 setElem w b n (bit S)
/-- Block b is a map from values to sets: M v is the element at v. -/
def OutAt (w : World) (b n : Nat) (M : Int → Option (Option Nat)) : Prop := MapAt Tryz.prog 3 refElem w b n (fun v => (M v).map refLit)
theorem bit_congr {S S' : Int → Bool} {v : Int} (h : S v = S' v) : bit S v = bit S' v := by unfold bit; rw [h]
/-- The element at v, as a place; nil where there is none. -/
def elt (M : Int → Option (Option Nat)) (v : Int) : Option Nat := (M v).getD none
theorem SetAt.congr {w : World} {b n : Nat} {S S' : Int → Bool} (h : SetAt w b n S) (e : ∀ v, (Lit.int .i64 v).wf = true → S v = S' v) : SetAt w b n S' := MapAt.congr h fun v hv => by unfold bit; rw [e v hv]
theorem SetAt.made (w : World) : SetAt (w.alloc (.map #[] 0)) w.heap.size 0 (fun _ => false) := MapAt.made w
theorem OutAt.made (w : World) : OutAt (w.alloc (.map #[] 0)) w.heap.size 0 (fun _ => none) := MapAt.made w
theorem zero_bool (w : World) : (zeroValue 4).run Tryz.prog w = .ok (.bool false) w := by kernel_rfl
theorem zero_set (w : World) : (zeroValue 179).run Tryz.prog w = .ok (.map none) w := by kernel_rfl
/-- s[v]. -/
theorem SetAt.look {w : World} {b n : Nat} {S : Int → Bool} (h : SetAt w b n S) (v : Int) (hv : (Lit.int .i64 v).wf = true) : (Instr.lookup 179 (.map (some b)) (.int .i64 v) false).run Tryz.prog w = .ok (.bool (S v)) w := by
  obtain ⟨val, ps, h1, h2⟩ := MapAt.look h keyInt Tryz.underlying3 Tryz.underlying179 (zero_bool w) (zd := .lit (.bool false)) (zp := []) rfl hv
  obtain ⟨c, rfl⟩ := setElem_inv _ _ h2
  rw [h1]
  unfold bit setElem at h2
  cases e : S v <;> rw [e] at h2 <;> simp at h2 <;> rw [h2.1]
theorem nil_look (w : World) (v : Int) (hv : (Lit.int .i64 v).wf = true) : (Instr.lookup 179 (.map none) (.int .i64 v) false).run Tryz.prog w = .ok (.bool false) w :=
  Maps.look_nil false keyInt Tryz.underlying179 (zero_bool w) (keyOf_int_mk Tryz.underlying3 hv)
theorem OutAt.look {w : World} {b n : Nat} {M : Int → Option (Option Nat)} (h : OutAt w b n M) (v : Int) (hv : (Lit.int .i64 v).wf = true) : (Instr.lookup 126 (.map (some b)) (.int .i64 v) false).run Tryz.prog w = .ok (.map (elt M v)) w := by
  obtain ⟨val, ps, h1, h2⟩ := MapAt.look h keyInt Tryz.underlying3 Tryz.underlying126 (zero_set w) (zd := refLit none) (zp := []) rfl hv
  obtain ⟨c, rfl⟩ := refElem_inv _ _ h2
  rw [h1]
  rw [refElem_map] at h2
  have h3 := congrArg Prod.fst (Option.some.inj h2)
  unfold elt
  cases e : M v with
  | none => rw [e] at h3; exact congrArg (fun c => Result.ok (Value.map c) w) (refLit_inj h3)
  | some o => rw [e] at h3; exact congrArg (fun c => Result.ok (Value.map c) w) (refLit_inj h3)
theorem nil_out (w : World) (v : Int) (hv : (Lit.int .i64 v).wf = true) : (Instr.lookup 126 (.map none) (.int .i64 v) false).run Tryz.prog w = .ok (.map none) w :=
  Maps.look_nil false keyInt Tryz.underlying126 (zero_set w) (keyOf_int_mk Tryz.underlying3 hv)
/-- A set that may be nil. -/
def OptSet (w : World) (o : Option Nat) (n : Nat) (S : Int → Bool) : Prop := match o with
  | none => ∀ v, S v = false
  | some b => SetAt w b n S
theorem OptSet.kept {w w' : World} {o : Option Nat} {n : Nat} {S : Int → Bool} {row : Option Nat} (h : OptSet w o n S) (hg : w.grownBy w' row) (hne : ∀ b, o = some b → some b ≠ row) : OptSet w' o n S := by
  cases o with
  | none => exact h
  | some b => exact MapAt.kept h hg (hne b rfl)
theorem OptSet.look {w : World} {o : Option Nat} {n : Nat} {S : Int → Bool} (h : OptSet w o n S) (v : Int) (hv : (Lit.int .i64 v).wf = true) : (Instr.lookup 179 (.map o) (.int .i64 v) false).run Tryz.prog w = .ok (.bool (S v)) w := by
  cases o with
  | none => rw [nil_look w v hv, h v]
  | some b => exact SetAt.look h v hv

section
variable (w : World) {b n : Nat} {ops : Array Oper} {rest : List Oper} {o : Oper} {a : Act} {Q : Exit → Act → World → Prop}
/-- The step of a range over a set. -/
theorem wp_next_set {S : Int → Bool} {r : Nat} {L : Int → Bool} {cnt : Nat} (hg : o.guard = none) (it : Operand) (hop : o.op = Op.next it false)
    (hit : a.eval it = .pointer (some ⟨r, 0, none⟩)) (h : RangeAt Tryz.prog 3 setElem w b r n (bit S) L cnt)
    (hDone : (∀ v, L v = false) → wpList Tryz.prog ops Q rest (a.put o.dst (.tuple #[.bool false])) w)
    (hMore : ∀ (x : Int) (w' : World) (cnt' : Nat), (Lit.int .i64 x).wf = true → L x = true → S x = true → RangeAt Tryz.prog 3 setElem w' b r n (bit S) (fun v => L v && !(v == x)) cnt' → cnt' < cnt →
      w.grownBy w' (some r) → w'.heap.size = w.heap.size → (Instr.entry (.pointer (some ⟨r, 0, none⟩))).run Tryz.prog w' = .ok (.tuple #[.int .i64 x, .bool true]) w' → wpList Tryz.prog ops Q rest (a.put o.dst (.tuple #[.bool true, .int .i64 x, .bool true])) w') :
    wpList Tryz.prog ops Q (o :: rest) a w :=
  wp_next w hg it hop keyInt Tryz.underlying3 Value.bool setElem_inv hit h (fun h1 _ => hDone h1) (fun x c w' cnt' h1 h2 h3 h4 h5 h6 h7 h8 => by
    obtain ⟨d, ps, e1, e2⟩ := h3
    unfold bit at e2
    cases e : S x
    · rw [e] at e2; cases e2
    · rw [e] at e2
      cases e2
      cases c
      · cases e1
      · exact hMore x w' cnt' h1 h2 e h4 h5 h6 h7 h8)
/-- An entry of a map of sets has come: at x, the element o. -/
structure Came (w w' : World) (b r n : Nat) (M : Int → Option (Option Nat)) (L : Int → Bool) (cnt cnt' : Nat) (x : Int) (o : Option Nat) : Prop where
  wf : (Lit.int .i64 x).wf = true
  left : L x = true
  elem : M x = some o
  range : RangeAt Tryz.prog 3 refElem w' b r n (fun v => (M v).map refLit) (fun v => L v && !(v == x)) cnt'
  lt : cnt' < cnt
  grown : w.grownBy w' (some r)
  size : w'.heap.size = w.heap.size
  entry : (Instr.entry (.pointer (some ⟨r, 0, none⟩))).run Tryz.prog w' = .ok (.tuple #[.int .i64 x, .map o]) w'
/-- The step of a range over a map of sets, all of them there. -/
theorem wp_next_ref {M : Int → Option Nat} {r : Nat} {L : Int → Bool} {cnt : Nat} (hg : o.guard = none) (it : Operand) (hop : o.op = Op.next it false)
    (hit : a.eval it = .pointer (some ⟨r, 0, none⟩)) (h : RangeAt Tryz.prog 3 refElem w b r n (fun v => (M v).map some |>.map refLit) L cnt)
    (hDone : (∀ v, L v = false) → wpList Tryz.prog ops Q rest (a.put o.dst (.tuple #[.bool false])) w)
    (hMore : ∀ (x : Int) (z : Nat) (w' : World) (cnt' : Nat), Came w w' b r n (fun v => (M v).map some) L cnt cnt' x (some z) → wpList Tryz.prog ops Q rest (a.put o.dst (.tuple #[.bool true, .int .i64 x, .map (some z)])) w') :
    wpList Tryz.prog ops Q (o :: rest) a w :=
  wp_next w hg it hop keyInt Tryz.underlying3 Value.map refElem_inv hit h (fun h1 _ => hDone h1) (fun x c w' cnt' h1 h2 h3 h4 h5 h6 h7 h8 => by
    obtain ⟨d, ps, e1, e2⟩ := h3
    rw [refElem_map] at e1
    cases e1
    cases e : M x with
    | none => simp [e] at e2
    | some z =>
      simp only [e, Option.map_some, Option.some.injEq] at e2
      obtain rfl := refLit_inj e2
      exact hMore x z w' cnt' ⟨h1, h2, by simp [e], h4, h5, h6, h7, h8⟩)
end

theorem copy_set (w : World) (bd bs nd ns : Nat) (S S' : Int → Bool) (hd : SetAt w bd nd S) (hs : SetAt w bs ns S') (hne : bd ≠ bs) (hroom : nd + ns ≤ 1048576) :
    Calls Tryz.prog 154 #[.map (some bd), .map (some bs)] w fun e w' => e = .returned (.tuple #[]) ∧ SetAt w' bd (nd + ns) (fun v => S v || S' v) ∧ w.grownBy w' (some bd) := by
  have hbd : bd < w.heap.size := MapAt.lt hd
  have hbs : bs < w.heap.size := MapAt.lt hs
  go_enter Tryz.func154, Tryz.ntmps154
  go_wp2_with (first
    | (at_range; refine wp_range _ rfl _ 179 rfl keyInt Tryz.underlying179 rfl hs ?_; intro w0 L0 cnt0 hrg0 hL0 hc0 hg0 hs0)
    | go_in)
  go_frame
  go_loopw [8] (fun _ wr => ∃ (L : Int → Bool) (cnt : Nat), RangeAt Tryz.prog 3 setElem wr bs w.heap.size ns (bit S') L cnt ∧ cnt ≤ ns ∧ SetAt wr bd (nd + (ns - cnt)) (fun v => S v || (S' v && !L v)) ∧ w.grownBy wr (some bd))
    (fun _ wr => wr.rangeLeft bs w.heap.size)
  case atStart =>
    refine ⟨_, _, hrg0, hc0, ((MapAt.kept hd hg0 (by simp)).mono (by omega)).congr fun v hv => ?_, hg0.but _⟩
    refine bit_congr ?_
    have := hL0 v hv
    unfold bit at this
    show S v = (S v || (S' v && !L0 v))
    rw [this]
    cases S v <;> cases S' v <;> rfl
  case round =>
    obtain ⟨L, cnt, hrg, hcn, hout, hgw⟩ := hrel
    go_wp2_with (first
      | (at_next; refine wp_next_set _ rfl _ rfl rfl hrg ?_ ?_)
      | go_in)
    · intro hl0
      go_wp2
      go_end0
      exact ⟨rfl, (MapAt.mono hout (by omega)).congr fun v _ => bit_congr (by simp [hl0]), hgw⟩
    · intro x w1 cnt1 hwx hlx hsx hrg1 hlt hg1 hs1 hen
      have hr1 := hrg.lt
      have hgr := hgw.size
      have hout1 := MapAt.kept hout hg1 (fun e => by have := Option.some.inj e; omega)
      have HSX := Lib.hid hsx
      have HL := Lib.hid hlx
      clear hsx hlx
      go_wp2_with (first
        | (at_mapUpdate; refine wp_put _ rfl _ _ _ 179 rfl keyInt Tryz.underlying3 Tryz.underlying179 rfl hout1 (by unfold maxLen; omega) x rfl hwx _ rfl (.lit (.bool true)) [] rfl ?_; intro w2 hout2 hg2 hs2; go_frame)
        | go_in)
      have hrg2 := hrg1.kept hg2 (fun e => hne (Option.some.inj e).symm) (fun e => by have := Option.some.inj e; omega)
      go_roundw
      case rel =>
        refine ⟨_, cnt1, hrg2, by omega, (MapAt.mono hout2 (by omega)).congr fun v hv => ?_, (hgw.andThen hg1 (fun j hj => .inl (by cases hj; exact Nat.le_refl _))).andThen hg2 (fun j hj => .inr hj)⟩
        show (if v = x then some (DataW.lit (Lit.bool true)) else bit (fun v => S v || (S' v && !L v)) v) = bit (fun v => S v || (S' v && !(L v && !(v == x)))) v
        by_cases e : v = x
        · subst e
          simp [bit, HSX.out]
        · have e' : (v == x) = false := by simpa using e
          simp [bit, e, e']
      case measure => rw [hrg2.left_eq, hrg.left_eq]; exact hlt

theorem copy_nil (w : World) (pd : Option Nat) :
    Calls Tryz.prog 154 #[.map pd, .map none] w fun e w' => e = .returned (.tuple #[]) ∧ w' = w.alloc (.mapIter none 0 #[] 0) := by
  have hrg := run_range_nilMap (P := Tryz.prog) w 179 _ _ Tryz.underlying179
  have hnx : ∀ ty, (Instr.next (.pointer (some ⟨w.heap.size, 0, none⟩)) false ty).run Tryz.prog (w.alloc (.mapIter none 0 #[] 0)) = _ := fun ty => run_next_nilMap _ ty 0 0 #[]
  go_enter Tryz.func154, Tryz.ntmps154
  go_wp2
  refine wp_loop_rounds 1 ?_
  rw [rounds_succ]
  go_wp2
  go_end0
  exact ⟨rfl, rfl⟩

theorem copy_of_set (w : World) (bd nd ns : Nat) (o : Option Nat) (S S' : Int → Bool) (hd : SetAt w bd nd S) (hs : OptSet w o ns S') (hne : o ≠ some bd) (hroom : nd + ns ≤ 1048576) :
    Calls Tryz.prog 154 #[.map (some bd), .map o] w fun e w' => e = .returned (.tuple #[]) ∧ SetAt w' bd (nd + ns) (fun v => S v || S' v) ∧ w.grownBy w' (some bd) := by
  cases o with
  | none =>
    refine (copy_nil w (some bd)).mono fun e w' ⟨he, hw⟩ => ?_
    subst hw
    refine ⟨he, ((MapAt.alloc hd _).mono (Nat.le_add_right _ _)).congr fun v _ => ?_, World.grownBy_alloc w _ _⟩
    refine bit_congr ?_
    show S v = (S v || S' v)
    rw [hs v]
    simp
  | some b => exact copy_set w bd b nd ns S S' hd hs (fun e => hne (by rw [e])) hroom
end Go.Proofs.YtadjoiahllekdaaGreatDoor.num
namespace Go.Proofs.YtadjoiahllekdaaGreatDoor.num
set_option maxRecDepth 20000
open Go.RowKit Go.Maps
set_option linter.unusedVariables false

/-- Block b of w is the map whose element at v (block M v) is the set of those a with R a v; all of it from block B on. -/
structure SetsR (w : World) (B b n : Nat) (M : Int → Option Nat) (R : Int → Int → Bool) : Prop where
  out : OutAt w b n (fun v => (M v).map some)
  low : B ≤ b
  has : ∀ v a, R a v = true → ∃ x, M v = some x
  rng : ∀ v x, M v = some x → InR v
  sets : ∀ v x, M v = some x → B ≤ x ∧ x ≠ b ∧ SetAt w x n (fun a => R a v)
  inj : ∀ v v' x, M v = some x → M v' = some x → v = v'
theorem SetsR.below {w w' : World} {B b n : Nat} {M : Int → Option Nat} {R : Int → Int → Bool} (h : SetsR w B b n M R) (hb : Below w.heap.size w w') : SetsR w' B b n M R :=
  ⟨MapAt.block h.out (hb.block _ (MapAt.lt h.out)), h.low, h.has, h.rng, fun v x hx => by
    obtain ⟨h1, h2, h3⟩ := h.sets v x hx
    exact ⟨h1, h2, MapAt.block h3 (hb.block _ (MapAt.lt h3))⟩, h.inj⟩
theorem SetsR.none {w : World} {B b n : Nat} {M : Int → Option Nat} {R : Int → Int → Bool} (h : SetsR w B b n M R) {v : Int} (hv : M v = none) (a : Int) : R a v = false := by
  cases e : R a v
  · rfl
  · obtain ⟨x, hx⟩ := h.has v a e
    rw [hv] at hx; cases hx
theorem elt_some (M : Int → Option Nat) (v : Int) : elt (fun v => (M v).map some) v = M v := by
  unfold elt
  cases e : M v <;> simp [e]
theorem SetsR.opt {w : World} {B b n : Nat} {M : Int → Option Nat} {R : Int → Int → Bool} (h : SetsR w B b n M R) (v : Int) : OptSet w (M v) n (fun a => R a v) := by
  cases e : M v with
  | none => exact fun a => h.none e a
  | some x => exact (h.sets v x e).2.2
theorem inR_wf {v : Int} (h : InR v) : (Lit.int .i64 v).wf = true := WalkArith.wf_i64 (by unfold InR at h; omega)

theorem eq_nil_yes (w : World) : (binOp BinOp.eql 179 (.map none) (.map none)).run Tryz.prog w = .ok (.bool true) w := by kernel_rfl
theorem eq_nil_no (w : World) (z : Nat) : (binOp BinOp.eql 179 (.map (some z)) (.map none)).run Tryz.prog w = .ok (.bool false) w := by kernel_rfl

theorem closes_of (w : World) (B b n : Nat) (M : Int → Option Nat) (R : Int → Int → Bool) (h : SetsR w B b n M R) (x y : Int) (hx : InR x) (hy : InR y) (q : Bool) (hq : q = true ↔ x = y ∨ R y x = true) :
    Calls Tryz.prog 130 #[.map (some b), .agg #[.int .i64 x, .int .i64 y]] w fun e w' => e = .returned (.bool q) ∧ Below w.heap.size w w' := by
  have HQ := Lib.hid hq
  have HS := Lib.hid h
  have HX := Lib.hid hx
  have HY := Lib.hid hy
  clear hq h hx hy
  by_cases he : x = y
  · subst he
    obtain rfl : q = true := HQ.out.2 (.inl rfl)
    go_enter Tryz.func130, Tryz.ntmps130
    go_wp2
    go_ret
    exact ⟨rfl, (Below.refl _ w).alloc (Nat.le_refl _) _⟩
  · have hne : (x == y) = false := by simpa using he
    obtain rfl : q = R y x := by
      rw [Bool.eq_iff_iff, HQ.out]
      exact ⟨fun h => h.resolve_left he, fun h => .inr h⟩
    have HE := Lib.hid he
    clear he HQ
    have hS1 := HS.out.below ((Below.refl w.heap.size w).alloc (Nat.le_refl _) (.cells #[.int .i64 x, .int .i64 y] 78))
    have e1 := hS1.out.look x (inR_wf HX.out)
    rw [elt_some] at e1
    have e2 := (hS1.opt x).look y (inR_wf HY.out)
    clear hS1
    go_enter Tryz.func130, Tryz.ntmps130
    go_wp2
    go_ret
    exact ⟨rfl, (Below.refl _ w).alloc (Nat.le_refl _) _⟩

/-- addPair's loop under way: the sets of those values that have come are the new ones. -/
structure AddInv (wr w : World) (B b pb r n : Nat) (x y : Int) (M : Int → Option Nat) (R : Int → Int → Bool) (L : Int → Bool) : Prop where
  low : Below B w wr
  box : wr.heap[pb]? = some (.cells #[.int .i64 x, .int .i64 y] 78)
  sets : ∀ v z, M v = some z → SetAt wr z (if L v then n else 2 * n + 1) (fun a => if L v then R a v else stepR R (x, y) a v)
  src : ∀ z, M x = some z → SetAt wr z n (fun a => R a x)
  ends : ∀ v z, M v = some z → B ≤ z ∧ z ≠ b ∧ z ≠ pb ∧ z < r
  pbr : pb < r ∧ B ≤ r ∧ B ≤ pb ∧ b < r ∧ B ≤ b ∧ b ≠ pb
/-- Blocks that are none of the sets, nor the pair's own, may turn. -/
theorem AddInv.kept {wr w1 w : World} {B b pb r n : Nat} {x y : Int} {M : Int → Option Nat} {R : Int → Int → Bool} {L : Int → Bool} (h : AddInv wr w B b pb r n x y M R L) (hg : wr.grownBy w1 (some r)) (hr : r < wr.heap.size) : AddInv w1 w B b pb r n x y M R L :=
  ⟨h.low.grown hg (by have := h.pbr; omega) (fun k hk => by cases hk; exact h.pbr.2.1), (hg.block pb (by have := h.pbr; omega) (fun e => by have := Option.some.inj e; have := h.pbr; omega)).trans h.box,
    fun v z hz => MapAt.kept (h.sets v z hz) hg (fun e => by have := Option.some.inj e; have := h.ends v z hz; omega),
    fun z hz => MapAt.kept (h.src z hz) hg (fun e => by have := Option.some.inj e; have := h.ends x z hz; omega), h.ends, h.pbr⟩
theorem AddInv.cells {wr w : World} {B b pb r n : Nat} {x y : Int} {M : Int → Option Nat} {R : Int → Int → Bool} {L : Int → Bool} (h : AddInv wr w B b pb r n x y M R L) : wr.cell? ⟨pb, 0, none⟩ = some (.int .i64 x) ∧ wr.cell? ⟨pb, 1, none⟩ = some (.int .i64 y) := by
  have := h.box
  constructor <;> simp [World.cell?, this]
/-- The value u has come, and nothing is to be done. -/
theorem AddInv.skip {wr w : World} {B b pb r n : Nat} {x y u : Int} {M : Int → Option Nat} {R : Int → Int → Bool} {L : Int → Bool} (h : AddInv wr w B b pb r n x y M R L) (hu : L u = true) (h1 : u ≠ y) (h2 : R y u = false) : AddInv wr w B b pb r n x y M R (fun v => L v && !(v == u)) :=
  ⟨h.low, h.box, fun v z hz => by
    have hs := h.sets v z hz
    by_cases e : v = u
    · subst e
      rw [hu] at hs
      refine (MapAt.mono hs (by simp; omega)).congr fun a _ => bit_congr ?_
      have h1' : (v == y) = false := by simpa using h1
      simp [stepR, h1', h2]
    · have e' : (v == u) = false := by simpa using e
      refine MapAt.congr (MapAt.mono hs (by simp [e'])) fun a _ => bit_congr (by simp [e']), h.src, h.ends, h.pbr⟩
/-- The value u has come, and its set has been written. -/
theorem AddInv.done {wr w' w : World} {B b pb r n z : Nat} {x y u : Int} {M : Int → Option Nat} {R : Int → Int → Bool} {L : Int → Bool} (h : AddInv wr w B b pb r n x y M R L) (hM : ∀ v v' x, M v = some x → M v' = some x → v = v') (hz : M u = some z) (hux : u ≠ x) (hc : u = y ∨ R y u = true)
    (hg : wr.grownBy w' (some z)) (hr : r < wr.heap.size) (hnew : SetAt w' z (2 * n + 1) (fun a => (if a = x then true else R a u) || R a x)) : AddInv w' w B b pb r n x y M R (fun v => L v && !(v == u)) := by
  have hze := h.ends u z hz
  refine ⟨h.low.grown hg (by have := h.pbr; omega) (fun k hk => by cases hk; exact hze.1), (hg.block pb (by have := h.pbr; omega) (fun e => by have := Option.some.inj e; omega)).trans h.box, fun v z' hz' => ?_, fun z' hz' => ?_, h.ends, h.pbr⟩
  · by_cases e : v = u
    · subst e
      obtain rfl : z = z' := Option.some.inj (hz.symm.trans hz')
      refine (MapAt.mono hnew (by simp)).congr fun a _ => bit_congr ?_
      have hcc : (v == y || R y v) = true := by
        rcases hc with rfl | hc
        · simp
        · simp [hc]
      simp only [BEq.rfl, Bool.not_true, Bool.and_false, Bool.false_eq_true, if_false, stepR, hcc, Bool.and_true]
      by_cases ea : a = x
      · subst ea; simp
      · have ea' : (a == x) = false := by simpa using ea
        simp [ea, ea']
    · have hzz : z' ≠ z := fun e' => e (hM _ _ z' hz' (e' ▸ hz))
      have e' : (v == u) = false := by simpa using e
      refine MapAt.congr (MapAt.mono (MapAt.kept (h.sets v z' hz') hg (fun e => hzz (Option.some.inj e))) (by simp [e'])) fun a _ => bit_congr (by simp [e'])
  · have hzz : z' ≠ z := fun e' => hux (hM _ _ z (hz) (e' ▸ hz'))
    exact MapAt.kept (h.src z' hz') hg (fun e => hzz (Option.some.inj e))
/-- All have come. -/
theorem AddInv.fin {wr w : World} {B b pb r n : Nat} {x y : Int} {M : Int → Option Nat} {R : Int → Int → Bool} {L : Int → Bool} (h : AddInv wr w B b pb r n x y M R L) (hl : ∀ v, L v = false) (hout : OutAt wr b n (fun v => (M v).map some))
    (hhas : ∀ v a, R a v = true → ∃ x, M v = some x) (hy : ∃ z, M y = some z) (hrng : ∀ v x, M v = some x → InR v) (hM : ∀ v v' x, M v = some x → M v' = some x → v = v') (m : Nat) (hm : 2 * n + 1 ≤ m) : SetsR wr B b m M (stepR R (x, y)) :=
  ⟨MapAt.mono hout (by omega), h.pbr.2.2.2.2.1, fun v a ha => by
    unfold stepR at ha
    simp only [Bool.or_eq_true, Bool.and_eq_true, beq_iff_eq] at ha
    rcases ha with ha | ⟨_, ha⟩
    · exact hhas v a ha
    · rcases ha with rfl | ha
      · exact hy
      · exact hhas v y ha, hrng, fun v z hz => by
    obtain ⟨h1, h2, _⟩ := h.ends v z hz
    refine ⟨h1, h2, (MapAt.mono (h.sets v z hz) (by simp [hl]; omega)).congr fun a _ => bit_congr (by simp [hl])⟩, hM⟩

set_option maxHeartbeats 2000000 in
theorem add_of (w : World) (B b n : Nat) (M : Int → Option Nat) (R : Int → Int → Bool) (h : SetsR w B b n M R) (hB : B ≤ w.heap.size) (hn : n ≤ 100000) (x y : Int) (hx : InR x) (hy : InR y) (hne : x ≠ y) (hR : R y x = false) :
    Calls Tryz.prog 131 #[.map (some b), .agg #[.int .i64 x, .int .i64 y]] w fun e w' => e = .returned (.tuple #[]) ∧ (∃ M', SetsR w' B b (2 * n + 3) M' (stepR R (x, y))) ∧ Below B w w' := by
  have HS := Lib.hid h
  have HX := Lib.hid hx
  have HY := Lib.hid hy
  have HNe := Lib.hid hne
  have HRf := Lib.hid hR
  have hb := MapAt.lt h.out
  have HB1 := Lib.hid ((Below.refl w.heap.size w).alloc (Nat.le_refl _) (.cells #[.int .i64 x, .int .i64 y] 78))
  have hS1 := h.below HB1.out
  have HS1 := Lib.hid hS1
  have e1 := hS1.out.look y (inR_wf hy)
  rw [elt_some] at e1
  clear h hx hy hne hR hS1
  rcases hMy : M y with _ | zy
  · rw [hMy] at e1
    have HMy0 := Lib.hid hMy
    clear hMy
    have eN := eq_nil_yes
    have hmm := @run_makeMap Tryz.prog
    go_enter Tryz.func131, Tryz.ntmps131
    go_upto_region 3 with (first
      | (at_mapUpdate; refine wp_put _ rfl _ _ _ 126 rfl keyInt Tryz.underlying3 Tryz.underlying126 rfl (MapAt.alloc HS1.out.out (.map #[] 0)) (by unfold maxLen; omega) y rfl (inR_wf HY.out) _ rfl (refLit (some (w.heap.size + 1))) [] rfl ?_; intro w2 hout2 hg2 hs2)
      | go_in)
    clear hmm eN
    obtain ⟨M1, hM1⟩ : ∃ M1 : Int → Option Nat, M1 = fun v => if v = y then some (w.heap.size + 1) else M v := ⟨_, rfl⟩
    obtain ⟨n1, hn1⟩ : ∃ n1, n1 = n + 1 := ⟨_, rfl⟩
    have hM1y : M1 y = some (w.heap.size + 1) := by rw [hM1]; simp
    have hM1o : ∀ v, v ≠ y → M1 v = M v := fun v hv => by rw [hM1]; simp [hv]
    clear hM1
    have Hout2 : Hid (OutAt w2 b n1 (fun v => (M1 v).map some)) := Lib.hid (by
      rw [hn1]
      refine MapAt.congr hout2 fun v _ => ?_
      by_cases e : v = y
      · subst e; simp [hM1y]
      · simp [e, hM1o v e])
    have hold : ∀ v z, M v = some z → z < w.heap.size := fun v z hz => MapAt.lt (HS.out.sets v z hz).2.2
    have hset : ∀ v z, M1 v = some z → B ≤ z ∧ z ≠ b ∧ z ≠ w.heap.size ∧ z < w2.heap.size ∧ SetAt w2 z n (fun a => R a v) := fun v z hz => by
      simp at hs2
      by_cases e : v = y
      · subst e
        rw [hM1y] at hz
        cases hz
        refine ⟨by omega, by omega, by omega, by omega, ?_⟩
        have h0 : SetAt ((w.alloc (.cells #[.int .i64 x, .int .i64 v] 78)).alloc (.map #[] 0)) (w.heap.size + 1) 0 (fun _ => false) := by
          have := SetAt.made (w.alloc (.cells #[.int .i64 x, .int .i64 v] 78))
          simpa using this
        refine (MapAt.mono (MapAt.kept h0 hg2 (fun e => by have := Option.some.inj e; omega)) (Nat.zero_le _)).congr fun a _ => bit_congr ?_
        exact (HS.out.none HMy0.out a).symm
      · rw [hM1o v e] at hz
        obtain ⟨h1, h2, h3⟩ := HS1.out.sets v z hz
        have h4 := hold v z hz
        exact ⟨h1, h2, by omega, by omega, MapAt.kept (MapAt.alloc h3 _) hg2 (fun e => h2 (Option.some.inj e))⟩
    have HInj : Hid (∀ v v' z, M1 v = some z → M1 v' = some z → v = v') := Lib.hid fun v v' z h1 h2 => by
      by_cases e : v = y
      · by_cases e' : v' = y
        · rw [e, e']
        · subst e
          rw [hM1y] at h1
          rw [hM1o v' e'] at h2
          have := hold v' z h2
          cases h1
          omega
      · rw [hM1o v e] at h1
        by_cases e' : v' = y
        · subst e'
          rw [hM1y] at h2
          have := hold v z h1
          cases h2
          omega
        · rw [hM1o v' e'] at h2
          exact HS.out.inj v v' z h1 h2
    have HHas : Hid (∀ v a, R a v = true → ∃ z, M1 v = some z) := Lib.hid fun v a ha => by
      by_cases e : v = y
      · subst e; exact ⟨_, hM1y⟩
      · rw [hM1o v e]; exact HS.out.has v a ha
    have HRng : Hid (∀ v z, M1 v = some z → InR v) := Lib.hid fun v z hz => by
      by_cases e : v = y
      · subst e; exact HY.out
      · rw [hM1o v e] at hz; exact HS.out.rng v z hz
    have HMy : Hid (∃ z, M1 y = some z) := Lib.hid ⟨_, hM1y⟩
    have hbox2 : w2.heap[w.heap.size]? = some (.cells #[.int .i64 x, .int .i64 y] 78) := by
      refine (hg2.block w.heap.size (by simp; omega) (fun e => by have := Option.some.inj e; omega)).trans ?_
      rw [Below.heap_alloc _ _ _ (by simp)]
      exact heap_alloc_new w _
    have hb2 : Below B w w2 := (((Below.refl B w).alloc hB _).alloc (by simp; omega) _).grown hg2 (by simp; omega) (fun k hk => by cases hk; exact HS.out.low)
    have hn1' : n1 ≤ 100001 := by omega
    have hn2 : 2 * n1 + 1 ≤ 2 * n + 3 := by omega
    have HInv : Hid (∀ w3 L0, w2.grownBy w3 none → w3.heap.size = w2.heap.size + 1 → (∀ v, (Lit.int .i64 v).wf = true → L0 v = ((M1 v).map some |>.map refLit).isSome) → AddInv w3 w B b w.heap.size w2.heap.size n1 x y M1 R L0) := Lib.hid fun w3 L0 hg0 hs0 hL0 => by
      have hsl := hb2.size
      have hbl := MapAt.lt Hout2.out
      refine ⟨hb2.grown hg0 (by omega) (fun k hk => by cases hk), (hg0.block w.heap.size (Array.getElem?_eq_some_iff.1 hbox2).1 (by simp)).trans hbox2, fun v z hz => ?_, fun z hz => ?_, fun v z hz => ?_, (Array.getElem?_eq_some_iff.1 hbox2).1, by omega, hB, hbl, HS.out.low, by omega⟩
      · have hLv : L0 v = true := by
          rw [hL0 v (inR_wf (HRng.out v z hz)), hz]; rfl
        rw [hLv]
        exact MapAt.mono (MapAt.kept (hset v z hz).2.2.2.2 hg0 (by simp)) (by simp; omega)
      · exact MapAt.mono (MapAt.kept (hset x z hz).2.2.2.2 hg0 (by simp)) (by omega)
      · obtain ⟨h1, h2, h3, h4, _⟩ := hset v z hz
        exact ⟨h1, h2, h3, h4⟩
    have HOut := Hout2
    clear hout2 hg2 hs2 hset hold hM1y hM1o hbox2 hb2 e1 HS1 HB1 hn1
    go_wp2_with (first
      | (at_range; refine wp_range _ rfl _ 126 rfl keyInt Tryz.underlying126 rfl HOut.out ?_; intro w3 L0 cnt0 hrg0 hL0 hc0 hg0 hs0)
      | go_in)
    try go_frame
    have HI0 := Lib.hid (HInv.out w3 L0 hg0 hs0 hL0)
    have HR0 := Lib.hid hrg0
    clear hrg0 hL0 hg0 hs0 HOut HInv
    go_loopw [17] (fun _ wr => ∃ (L : Int → Bool) (cnt : Nat), RangeAt Tryz.prog 3 refElem wr b w2.heap.size n1 (fun v => (M1 v).map some |>.map refLit) L cnt ∧ AddInv wr w B b w.heap.size w2.heap.size n1 x y M1 R L)
      (fun _ wr => wr.rangeLeft b w2.heap.size)
    case atStart => exact ⟨_, _, HR0.out, HI0.out⟩
    case round =>
      clear HR0 HI0
      obtain ⟨L, cnt, hrg, hinv⟩ := hrel
      have HV := Lib.hid hinv
      clear hinv
      go_wp2_with (first
        | (at_next; refine wp_next_ref _ rfl _ rfl rfl hrg ?_ ?_)
        | go_in)
      · intro hl0
        have HL := Lib.hid hl0
        clear hl0
        go_wp2
        go_end0
        exact ⟨rfl, ⟨M1, HV.out.fin HL.out hrg.owns HHas.out HMy.out HRng.out HInj.out _ (by omega)⟩, HV.out.low⟩
      · intro u z w4 cnt4 hcame
        have hr4 := hrg.lt
        have hz : M1 u = some z := by
          have := hcame.elem
          cases e : M1 u <;> simp [e] at this
          rw [this]
        have hlu := hcame.left
        have hrg4 := hcame.range
        have hlt4 := hcame.lt
        have hg4 := hcame.grown
        have hs4 := hcame.size
        have hen := hcame.entry
        clear hcame
        have HZ := Lib.hid hz
        have HLu := Lib.hid hlu
        have HV4 := Lib.hid (HV.out.kept hg4 hr4)
        obtain ⟨f0, f1⟩ := HV4.out.cells
        have hsz : SetAt w4 z n1 (fun a => R a u) := by
          have := HV4.out.sets u z hz
          rw [hlu] at this
          simpa using this
        have e1 := hsz.look y (inR_wf HY.out)
        have HSz := Lib.hid hsz
        have HR4 := Lib.hid hrg4
        have Hlt4 := Lib.hid hlt4
        have HR := Lib.hid hrg
        have hr5 : Hid (w2.heap.size < w4.heap.size) := Lib.hid (by rw [hs4]; exact hr4)
        clear hz hlu hrg hlt4 hg4 hs4 hr4 hrg4 hsz HV
        by_cases huy : u = y
        · obtain ⟨cc, hcc⟩ : ∃ cc : Bool, cc = R y u := ⟨_, rfl⟩
          rw [← hcc] at e1
          have HUY := Lib.hid (show u = y ∨ R y u = true from .inl huy)
          have hbe : (u == y) = true := by simpa using huy
          have HHuy := Lib.hid huy
          clear huy hcc
          go_upto_region 8 with (first
            | (at_mapUpdate; refine wp_put _ rfl _ _ _ 179 rfl keyInt Tryz.underlying3 Tryz.underlying179 rfl HSz.out (by unfold maxLen; omega) x rfl (inR_wf HX.out) _ rfl (.lit (.bool true)) [] rfl ?_; intro w5 hset5 hg5 hs5)
            | go_in)
          have hux : u ≠ x := fun e => by
            subst e
            rcases HUY.out with h | h
            · exact HNe.out h
            · rw [HRf.out] at h; cases h
          have HUX := Lib.hid hux
          have hzr := HV4.out.ends u z HZ.out
          have hbr := HV4.out.pbr
          have HR5 := Lib.hid (HR4.out.kept hg5 (fun e => by have := Option.some.inj e; omega) (fun e => by have := Option.some.inj e; omega))
          have e3 := OutAt.look (M := fun v => (M1 v).map some) HR5.out.owns x (inR_wf HX.out)
          rw [elt_some] at e3
          have f2 : w5.cell? ⟨w.heap.size, 0, none⟩ = some (.int .i64 x) := (World.cell?_of_block (hg5.block w.heap.size (by have := hr5.out; omega) (fun e => by have := Option.some.inj e; omega))).trans f0
          have hsrc : OptSet w5 (M1 x) n1 (fun a => R a x) := by
            cases e : M1 x with
            | none =>
              intro a
              cases e' : R a x
              · exact e'
              · obtain ⟨z', hz'⟩ := HHas.out x a e'
                rw [e] at hz'; cases hz'
            | some z' =>
              have hzz : z' ≠ z := fun e' => hux (HInj.out _ _ z HZ.out (e' ▸ e))
              exact MapAt.kept (HV4.out.src z' e) hg5 (fun e => hzz (Option.some.inj e))
          have HSrc := Lib.hid hsrc
          have Hg5 := Lib.hid hg5
          have Hset5 : Hid (SetAt w5 z (n1 + 1) (fun a => if a = x then true else R a u)) := Lib.hid (MapAt.congr hset5 fun a _ => by
            show (if a = x then some (DataW.lit (Lit.bool true)) else bit (fun a => R a u) a) = bit (fun a => if a = x then true else R a u) a
            by_cases e : a = x <;> simp [bit, e])
          have Hs5 := Lib.hid hs5
          clear hset5 hg5 hs5 hsrc hux hzr hbr f0 f1 e1 hen
          go_wp2_with fail
          refine (copy_of_set w5 z (n1 + 1) n1 (M1 x) _ _ Hset5.out HSrc.out (fun e => HUX.out (HInj.out _ _ z HZ.out e)) (by omega)).mono ?_
          rintro e w6 ⟨rfl, hset6, hg6⟩
          have HG6 := Lib.hid (Hg5.out.trans hg6)
          have HR6 := Lib.hid (HR5.out.kept hg6 (fun e => by have := Option.some.inj e; have := (HV4.out.ends u z HZ.out).2.1; omega) (fun e => by have := Option.some.inj e; have := (HV4.out.ends u z HZ.out).2.2.2; omega))
          have HSet6 := Lib.hid hset6
          clear hset6 hg6 e3 f2
          go_wp2
          go_roundw
          case rel => exact ⟨_, cnt4, HR6.out, HV4.out.done HInj.out HZ.out HUX.out HUY.out HG6.out hr5.out (MapAt.mono HSet6.out (by omega))⟩
          case measure => rw [HR6.out.left_eq, HR.out.left_eq]; exact Hlt4.out
        · have hbe : (u == y) = false := by simpa using huy
          have HHuy := Lib.hid huy
          clear huy
          cases hcc : R y u
          · rw [hcc] at e1
            have HCC := Lib.hid hcc
            clear hcc
            go_wp2
            go_roundw
            case rel => exact ⟨_, cnt4, HR4.out, HV4.out.skip HLu.out HHuy.out HCC.out⟩
            case measure => rw [HR4.out.left_eq, HR.out.left_eq]; exact Hlt4.out
          · rw [hcc] at e1
            have HUY := Lib.hid (show u = y ∨ R y u = true from .inr hcc)
            clear hcc
            go_upto_region 8 with (first
              | (at_mapUpdate; refine wp_put _ rfl _ _ _ 179 rfl keyInt Tryz.underlying3 Tryz.underlying179 rfl HSz.out (by unfold maxLen; omega) x rfl (inR_wf HX.out) _ rfl (.lit (.bool true)) [] rfl ?_; intro w5 hset5 hg5 hs5)
              | go_in)
            have hux : u ≠ x := fun e => by
              subst e
              rcases HUY.out with h | h
              · exact HNe.out h
              · rw [HRf.out] at h; cases h
            have HUX := Lib.hid hux
            have hzr := HV4.out.ends u z HZ.out
            have hbr := HV4.out.pbr
            have HR5 := Lib.hid (HR4.out.kept hg5 (fun e => by have := Option.some.inj e; omega) (fun e => by have := Option.some.inj e; omega))
            have e3 := OutAt.look (M := fun v => (M1 v).map some) HR5.out.owns x (inR_wf HX.out)
            rw [elt_some] at e3
            have f2 : w5.cell? ⟨w.heap.size, 0, none⟩ = some (.int .i64 x) := (World.cell?_of_block (hg5.block w.heap.size (by have := hr5.out; omega) (fun e => by have := Option.some.inj e; omega))).trans f0
            have hsrc : OptSet w5 (M1 x) n1 (fun a => R a x) := by
              cases e : M1 x with
              | none =>
                intro a
                cases e' : R a x
                · exact e'
                · obtain ⟨z', hz'⟩ := HHas.out x a e'
                  rw [e] at hz'; cases hz'
              | some z' =>
                have hzz : z' ≠ z := fun e' => hux (HInj.out _ _ z HZ.out (e' ▸ e))
                exact MapAt.kept (HV4.out.src z' e) hg5 (fun e => hzz (Option.some.inj e))
            have HSrc := Lib.hid hsrc
            have Hg5 := Lib.hid hg5
            have Hset5 : Hid (SetAt w5 z (n1 + 1) (fun a => if a = x then true else R a u)) := Lib.hid (MapAt.congr hset5 fun a _ => by
              show (if a = x then some (DataW.lit (Lit.bool true)) else bit (fun a => R a u) a) = bit (fun a => if a = x then true else R a u) a
              by_cases e : a = x <;> simp [bit, e])
            have Hs5 := Lib.hid hs5
            clear hset5 hg5 hs5 hsrc hux hzr hbr f0 f1 e1 hen
            go_wp2_with fail
            refine (copy_of_set w5 z (n1 + 1) n1 (M1 x) _ _ Hset5.out HSrc.out (fun e => HUX.out (HInj.out _ _ z HZ.out e)) (by omega)).mono ?_
            rintro e w6 ⟨rfl, hset6, hg6⟩
            have HG6 := Lib.hid (Hg5.out.trans hg6)
            have HR6 := Lib.hid (HR5.out.kept hg6 (fun e => by have := Option.some.inj e; have := (HV4.out.ends u z HZ.out).2.1; omega) (fun e => by have := Option.some.inj e; have := (HV4.out.ends u z HZ.out).2.2.2; omega))
            have HSet6 := Lib.hid hset6
            clear hset6 hg6 e3 f2
            go_wp2
            go_roundw
            case rel => exact ⟨_, cnt4, HR6.out, HV4.out.done HInj.out HZ.out HUX.out HUY.out HG6.out hr5.out (MapAt.mono HSet6.out (by omega))⟩
            case measure => rw [HR6.out.left_eq, HR.out.left_eq]; exact Hlt4.out
  · rw [hMy] at e1
    have HMy0 := Lib.hid hMy
    clear hMy
    obtain ⟨w2, hw2⟩ : ∃ w2, w2 = w.alloc (.cells #[.int .i64 x, .int .i64 y] 78) := ⟨_, rfl⟩
    have HW2 := Lib.hid hw2
    obtain ⟨M1, hM1⟩ : ∃ M1 : Int → Option Nat, M1 = M := ⟨_, rfl⟩
    obtain ⟨n1, hn1⟩ : ∃ n1, n1 = n := ⟨_, rfl⟩
    have Hout2 : Hid (OutAt w2 b n1 (fun v => (M1 v).map some)) := Lib.hid (by rw [hn1, hM1, hw2]; exact HS1.out.out)
    have hold : ∀ v z, M v = some z → z < w.heap.size := fun v z hz => MapAt.lt (HS.out.sets v z hz).2.2
    have hs2 : w2.heap.size = w.heap.size + 1 := by rw [hw2]; simp
    have hset : ∀ v z, M1 v = some z → B ≤ z ∧ z ≠ b ∧ z ≠ w.heap.size ∧ z < w2.heap.size ∧ SetAt w2 z n (fun a => R a v) := fun v z hz => by
      rw [hM1] at hz
      have h4 := hold v z hz
      obtain ⟨h1, h2, h3⟩ := HS1.out.sets v z hz
      exact ⟨h1, h2, by omega, by omega, by rw [hw2]; exact h3⟩
    have HInj : Hid (∀ v v' z, M1 v = some z → M1 v' = some z → v = v') := Lib.hid (by rw [hM1]; exact HS.out.inj)
    have HHas : Hid (∀ v a, R a v = true → ∃ z, M1 v = some z) := Lib.hid (by rw [hM1]; exact HS.out.has)
    have HRng : Hid (∀ v z, M1 v = some z → InR v) := Lib.hid (by rw [hM1]; exact HS.out.rng)
    have HMy : Hid (∃ z, M1 y = some z) := Lib.hid (by rw [hM1]; exact ⟨_, HMy0.out⟩)
    have hbox2 : w2.heap[w.heap.size]? = some (.cells #[.int .i64 x, .int .i64 y] 78) := by rw [hw2]; exact heap_alloc_new w _
    have hb2 : Below B w w2 := by rw [hw2]; exact (Below.refl B w).alloc hB _
    have hn1' : n1 ≤ 100001 := by omega
    have hn2 : 2 * n1 + 1 ≤ 2 * n + 3 := by omega
    have HInv : Hid (∀ w3 L0, w2.grownBy w3 none → w3.heap.size = w2.heap.size + 1 → (∀ v, (Lit.int .i64 v).wf = true → L0 v = ((M1 v).map some |>.map refLit).isSome) → AddInv w3 w B b w.heap.size w2.heap.size n1 x y M1 R L0) := Lib.hid fun w3 L0 hg0 hs0 hL0 => by
      have hsl := hb2.size
      have hbl := MapAt.lt Hout2.out
      refine ⟨hb2.grown hg0 (by omega) (fun k hk => by cases hk), (hg0.block w.heap.size (Array.getElem?_eq_some_iff.1 hbox2).1 (by simp)).trans hbox2, fun v z hz => ?_, fun z hz => ?_, fun v z hz => ?_, (Array.getElem?_eq_some_iff.1 hbox2).1, by omega, hB, hbl, HS.out.low, by omega⟩
      · have hLv : L0 v = true := by
          rw [hL0 v (inR_wf (HRng.out v z hz)), hz]; rfl
        rw [hLv]
        exact MapAt.mono (MapAt.kept (hset v z hz).2.2.2.2 hg0 (by simp)) (by simp; omega)
      · exact MapAt.mono (MapAt.kept (hset x z hz).2.2.2.2 hg0 (by simp)) (by omega)
      · obtain ⟨h1, h2, h3, h4, _⟩ := hset v z hz
        exact ⟨h1, h2, h3, h4⟩
    have HOut := Hout2
    clear hw2 hold hs2 hset hbox2 hb2 HS1 HB1 hn1 hM1
    have eN := eq_nil_no
    go_enter Tryz.func131, Tryz.ntmps131
    go_upto_region 3 with (fail)
    clear eN e1
    rw [← HW2.out]
    clear HW2
    go_wp2_with (first
      | (at_range; refine wp_range _ rfl _ 126 rfl keyInt Tryz.underlying126 rfl HOut.out ?_; intro w3 L0 cnt0 hrg0 hL0 hc0 hg0 hs0)
      | go_in)
    try go_frame
    have HI0 := Lib.hid (HInv.out w3 L0 hg0 hs0 hL0)
    have HR0 := Lib.hid hrg0
    clear hrg0 hL0 hg0 hs0 HOut HInv
    go_loopw [17] (fun _ wr => ∃ (L : Int → Bool) (cnt : Nat), RangeAt Tryz.prog 3 refElem wr b w2.heap.size n1 (fun v => (M1 v).map some |>.map refLit) L cnt ∧ AddInv wr w B b w.heap.size w2.heap.size n1 x y M1 R L)
      (fun _ wr => wr.rangeLeft b w2.heap.size)
    case atStart => exact ⟨_, _, HR0.out, HI0.out⟩
    case round =>
      clear HR0 HI0
      obtain ⟨L, cnt, hrg, hinv⟩ := hrel
      have HV := Lib.hid hinv
      clear hinv
      go_wp2_with (first
        | (at_next; refine wp_next_ref _ rfl _ rfl rfl hrg ?_ ?_)
        | go_in)
      · intro hl0
        have HL := Lib.hid hl0
        clear hl0
        go_wp2
        go_end0
        exact ⟨rfl, ⟨M1, HV.out.fin HL.out hrg.owns HHas.out HMy.out HRng.out HInj.out _ (by omega)⟩, HV.out.low⟩
      · intro u z w4 cnt4 hcame
        have hr4 := hrg.lt
        have hz : M1 u = some z := by
          have := hcame.elem
          cases e : M1 u <;> simp [e] at this
          rw [this]
        have hlu := hcame.left
        have hrg4 := hcame.range
        have hlt4 := hcame.lt
        have hg4 := hcame.grown
        have hs4 := hcame.size
        have hen := hcame.entry
        clear hcame
        have HZ := Lib.hid hz
        have HLu := Lib.hid hlu
        have HV4 := Lib.hid (HV.out.kept hg4 hr4)
        obtain ⟨f0, f1⟩ := HV4.out.cells
        have hsz : SetAt w4 z n1 (fun a => R a u) := by
          have := HV4.out.sets u z hz
          rw [hlu] at this
          simpa using this
        have e1 := hsz.look y (inR_wf HY.out)
        have HSz := Lib.hid hsz
        have HR4 := Lib.hid hrg4
        have Hlt4 := Lib.hid hlt4
        have HR := Lib.hid hrg
        have hr5 : Hid (w2.heap.size < w4.heap.size) := Lib.hid (by rw [hs4]; exact hr4)
        clear hz hlu hrg hlt4 hg4 hs4 hr4 hrg4 hsz HV
        by_cases huy : u = y
        · obtain ⟨cc, hcc⟩ : ∃ cc : Bool, cc = R y u := ⟨_, rfl⟩
          rw [← hcc] at e1
          have HUY := Lib.hid (show u = y ∨ R y u = true from .inl huy)
          have hbe : (u == y) = true := by simpa using huy
          have HHuy := Lib.hid huy
          clear huy hcc
          go_upto_region 8 with (first
            | (at_mapUpdate; refine wp_put _ rfl _ _ _ 179 rfl keyInt Tryz.underlying3 Tryz.underlying179 rfl HSz.out (by unfold maxLen; omega) x rfl (inR_wf HX.out) _ rfl (.lit (.bool true)) [] rfl ?_; intro w5 hset5 hg5 hs5)
            | go_in)
          have hux : u ≠ x := fun e => by
            subst e
            rcases HUY.out with h | h
            · exact HNe.out h
            · rw [HRf.out] at h; cases h
          have HUX := Lib.hid hux
          have hzr := HV4.out.ends u z HZ.out
          have hbr := HV4.out.pbr
          have HR5 := Lib.hid (HR4.out.kept hg5 (fun e => by have := Option.some.inj e; omega) (fun e => by have := Option.some.inj e; omega))
          have e3 := OutAt.look (M := fun v => (M1 v).map some) HR5.out.owns x (inR_wf HX.out)
          rw [elt_some] at e3
          have f2 : w5.cell? ⟨w.heap.size, 0, none⟩ = some (.int .i64 x) := (World.cell?_of_block (hg5.block w.heap.size (by have := hr5.out; omega) (fun e => by have := Option.some.inj e; omega))).trans f0
          have hsrc : OptSet w5 (M1 x) n1 (fun a => R a x) := by
            cases e : M1 x with
            | none =>
              intro a
              cases e' : R a x
              · exact e'
              · obtain ⟨z', hz'⟩ := HHas.out x a e'
                rw [e] at hz'; cases hz'
            | some z' =>
              have hzz : z' ≠ z := fun e' => hux (HInj.out _ _ z HZ.out (e' ▸ e))
              exact MapAt.kept (HV4.out.src z' e) hg5 (fun e => hzz (Option.some.inj e))
          have HSrc := Lib.hid hsrc
          have Hg5 := Lib.hid hg5
          have Hset5 : Hid (SetAt w5 z (n1 + 1) (fun a => if a = x then true else R a u)) := Lib.hid (MapAt.congr hset5 fun a _ => by
            show (if a = x then some (DataW.lit (Lit.bool true)) else bit (fun a => R a u) a) = bit (fun a => if a = x then true else R a u) a
            by_cases e : a = x <;> simp [bit, e])
          have Hs5 := Lib.hid hs5
          clear hset5 hg5 hs5 hsrc hux hzr hbr f0 f1 e1 hen
          go_wp2_with fail
          refine (copy_of_set w5 z (n1 + 1) n1 (M1 x) _ _ Hset5.out HSrc.out (fun e => HUX.out (HInj.out _ _ z HZ.out e)) (by omega)).mono ?_
          rintro e w6 ⟨rfl, hset6, hg6⟩
          have HG6 := Lib.hid (Hg5.out.trans hg6)
          have HR6 := Lib.hid (HR5.out.kept hg6 (fun e => by have := Option.some.inj e; have := (HV4.out.ends u z HZ.out).2.1; omega) (fun e => by have := Option.some.inj e; have := (HV4.out.ends u z HZ.out).2.2.2; omega))
          have HSet6 := Lib.hid hset6
          clear hset6 hg6 e3 f2
          go_wp2
          go_roundw
          case rel => exact ⟨_, cnt4, HR6.out, HV4.out.done HInj.out HZ.out HUX.out HUY.out HG6.out hr5.out (MapAt.mono HSet6.out (by omega))⟩
          case measure => rw [HR6.out.left_eq, HR.out.left_eq]; exact Hlt4.out
        · have hbe : (u == y) = false := by simpa using huy
          have HHuy := Lib.hid huy
          clear huy
          cases hcc : R y u
          · rw [hcc] at e1
            have HCC := Lib.hid hcc
            clear hcc
            go_wp2
            go_roundw
            case rel => exact ⟨_, cnt4, HR4.out, HV4.out.skip HLu.out HHuy.out HCC.out⟩
            case measure => rw [HR4.out.left_eq, HR.out.left_eq]; exact Hlt4.out
          · rw [hcc] at e1
            have HUY := Lib.hid (show u = y ∨ R y u = true from .inr hcc)
            clear hcc
            go_upto_region 8 with (first
              | (at_mapUpdate; refine wp_put _ rfl _ _ _ 179 rfl keyInt Tryz.underlying3 Tryz.underlying179 rfl HSz.out (by unfold maxLen; omega) x rfl (inR_wf HX.out) _ rfl (.lit (.bool true)) [] rfl ?_; intro w5 hset5 hg5 hs5)
              | go_in)
            have hux : u ≠ x := fun e => by
              subst e
              rcases HUY.out with h | h
              · exact HNe.out h
              · rw [HRf.out] at h; cases h
            have HUX := Lib.hid hux
            have hzr := HV4.out.ends u z HZ.out
            have hbr := HV4.out.pbr
            have HR5 := Lib.hid (HR4.out.kept hg5 (fun e => by have := Option.some.inj e; omega) (fun e => by have := Option.some.inj e; omega))
            have e3 := OutAt.look (M := fun v => (M1 v).map some) HR5.out.owns x (inR_wf HX.out)
            rw [elt_some] at e3
            have f2 : w5.cell? ⟨w.heap.size, 0, none⟩ = some (.int .i64 x) := (World.cell?_of_block (hg5.block w.heap.size (by have := hr5.out; omega) (fun e => by have := Option.some.inj e; omega))).trans f0
            have hsrc : OptSet w5 (M1 x) n1 (fun a => R a x) := by
              cases e : M1 x with
              | none =>
                intro a
                cases e' : R a x
                · exact e'
                · obtain ⟨z', hz'⟩ := HHas.out x a e'
                  rw [e] at hz'; cases hz'
              | some z' =>
                have hzz : z' ≠ z := fun e' => hux (HInj.out _ _ z HZ.out (e' ▸ e))
                exact MapAt.kept (HV4.out.src z' e) hg5 (fun e => hzz (Option.some.inj e))
            have HSrc := Lib.hid hsrc
            have Hg5 := Lib.hid hg5
            have Hset5 : Hid (SetAt w5 z (n1 + 1) (fun a => if a = x then true else R a u)) := Lib.hid (MapAt.congr hset5 fun a _ => by
              show (if a = x then some (DataW.lit (Lit.bool true)) else bit (fun a => R a u) a) = bit (fun a => if a = x then true else R a u) a
              by_cases e : a = x <;> simp [bit, e])
            have Hs5 := Lib.hid hs5
            clear hset5 hg5 hs5 hsrc hux hzr hbr f0 f1 e1 hen
            go_wp2_with fail
            refine (copy_of_set w5 z (n1 + 1) n1 (M1 x) _ _ Hset5.out HSrc.out (fun e => HUX.out (HInj.out _ _ z HZ.out e)) (by omega)).mono ?_
            rintro e w6 ⟨rfl, hset6, hg6⟩
            have HG6 := Lib.hid (Hg5.out.trans hg6)
            have HR6 := Lib.hid (HR5.out.kept hg6 (fun e => by have := Option.some.inj e; have := (HV4.out.ends u z HZ.out).2.1; omega) (fun e => by have := Option.some.inj e; have := (HV4.out.ends u z HZ.out).2.2.2; omega))
            have HSet6 := Lib.hid hset6
            clear hset6 hg6 e3 f2
            go_wp2
            go_roundw
            case rel => exact ⟨_, cnt4, HR6.out, HV4.out.done HInj.out HZ.out HUX.out HUY.out HG6.out hr5.out (MapAt.mono HSet6.out (by omega))⟩
            case measure => rw [HR6.out.left_eq, HR.out.left_eq]; exact Hlt4.out
end Go.Proofs.YtadjoiahllekdaaGreatDoor.num
namespace Go.Proofs.YtadjoiahllekdaaGreatDoor.num
set_option maxRecDepth 20000
open Go.RowKit Go.Maps
set_option linter.unusedVariables false

theorem lt_cell {w : World} {b o : Nat} {v : Value} (h : w.cell? ⟨b, o, none⟩ = some v) : b < w.heap.size := by
  rcases Nat.lt_or_ge b w.heap.size with h' | h'
  · exact h'
  · simp [World.cell?, Array.getElem?_eq_none h'] at h
theorem isValue_of (v : Int) (q : Bool) (hq : q = true ↔ InR v) (w : World) :
    Calls Tryz.prog 129 #[.int .i64 v] w fun e w' => e = .returned (.bool q) ∧ w = w' := by
  obtain rfl : q = (decide (0 ≤ v) && decide (v ≤ 9)) := by rw [Bool.eq_iff_iff, hq]; simp [InR]
  clear hq
  by_cases h1 : 0 ≤ v
  · go_enter Tryz.func129, Tryz.ntmps129
    go_wp2
    go_ret
    exact ⟨by simp [h1], rfl⟩
  · go_enter Tryz.func129, Tryz.ntmps129
    go_wp2
    go_ret
    exact ⟨by simp; omega, rfl⟩

/-- aboveSets under way: behind k pairs. -/
def AboveRel (ps : List (Int × Int)) (B b : Nat) (w : World) (k : Nat) (wr : World) : Prop :=
  Good (ps.take k) ∧ (∃ (n : Nat) (M : Int → Option Nat), n + 3 ≤ 3 * 2 ^ k ∧ SetsR wr B b n M (rb (ps.take k))) ∧ Below B w wr ∧ b < wr.heap.size
/-- What aboveSets answers. -/
def AboveP (ps : List (Int × Int)) (B : Nat) (q : Bool) (o : Option Nat) (w : World) : Prop :=
  (q = false → o = none) ∧ (q = true → ∃ (b n : Nat) (M : Int → Option Nat), o = some b ∧ n ≤ 765 ∧ SetsR w B b n M (rb ps))
theorem AboveP.below {ps : List (Int × Int)} {B : Nat} {q : Bool} {o : Option Nat} {w w' : World} (h : AboveP ps B q o w) (hb : Below w.heap.size w w') : AboveP ps B q o w' :=
  ⟨h.1, fun hq => by obtain ⟨b, n, M, h1, h2, h3⟩ := h.2 hq; exact ⟨b, n, M, h1, h2, h3.below hb⟩⟩
theorem rb_step (ps : List (Int × Int)) (k : Nat) (p : Int × Int) (h : ps[k]? = some p) : rb (ps.take (k + 1)) = stepR (rb (ps.take k)) p := by
  rw [ptake_at h]
  unfold rb
  rw [List.foldl_append]
  rfl
set_option maxHeartbeats 800000 in
theorem above_of (w : World) (B : Nat) (A : Option Addr) (n c : Nat) (ps : List (Int × Int)) (hi : Pairs w B A n ps) (hB : B ≤ w.heap.size) (hn : n ≤ 1048576) (q : Bool) (hq : q = true ↔ OkP ps) :
    Calls Tryz.prog 102 #[.slice A n c] w fun e w' => (∃ o, e = .returned (.tuple #[.map o, .bool q]) ∧ AboveP ps w.heap.size q o w') ∧ Below w.heap.size w w' := by
  have HX := Lib.hid hi
  have HQ := Lib.hid hq
  clear hi hq
  by_cases h8 : (n : Int) ≤ 8
  · have hmm := @run_makeMap Tryz.prog
    go_enter Tryz.func102, Tryz.ntmps102
    go_wp2
    clear hmm
    go_loopw [13] (fun i wr => ∃ k : Nat, k ≤ n ∧ i = .int .i64 k ∧ AboveRel ps w.heap.size w.heap.size w k wr) (fun i _ => n - (intOf i).toNat)
    case atStart =>
      refine ⟨0, Nat.zero_le _, rfl, Good.nil, ⟨0, fun _ => none, by decide, ?_⟩, (Below.refl _ _).alloc (Nat.le_refl _) _, by simp⟩
      exact ⟨OutAt.made w, Nat.le_refl _, (fun v a h => by cases h), (fun v x h => by cases h), (fun v x h => by cases h), (fun v v' x h => by cases h)⟩
    case round =>
      obtain ⟨k, hk, rfl, hgood, ⟨m, M, hm, hsets⟩, hbel, hbs⟩ := hrel
      have HG := Lib.hid hgood
      have HS := Lib.hid hsets
      have HB := Lib.hid hbel
      have HM := Lib.hid hm
      clear hgood hsets hm
      by_cases hlt : k < n
      · obtain ⟨b1, off, x, y, rfl, hb1, hat, hc1, hc2⟩ := HX.out.at k hlt
        have f1 := (hbel.cell (p := ⟨b1, off + k * 2, none⟩) (by exact Nat.lt_of_lt_of_le hb1 hB)).trans hc1
        have f2 := (hbel.cell (p := ⟨b1, off + k * 2 + 1, none⟩) (by exact Nat.lt_of_lt_of_le hb1 hB)).trans hc2
        have HT := Lib.hid hat
        obtain ⟨q1, hq1⟩ := bool_of (InR x)
        obtain ⟨q2, hq2⟩ := bool_of (InR y)
        have HQ1 := Lib.hid hq1
        have HQ2 := Lib.hid hq2
        have hbad : ¬ Good (ps.take (k + 1)) → q = false := fun h => by
          cases q
          · rfl
          · exact absurd (good_take (HQ.out.1 rfl).1 _) h
        have HBad := Lib.hid hbad
        have hgs := good_snoc (ps := ps.take k) (p := (x, y))
        rw [← ptake_at hat] at hgs
        have HGS := Lib.hid hgs
        clear hat hq1 hq2 hbad hgs hc1 hc2 hbel
        go_wp2_with fail
        refine (isValue_of x q1 HQ1.out _).mono ?_
        rintro e w1 ⟨rfl, hw1⟩
        have hb1' : Below wr.heap.size wr w1 := by
          rw [← hw1]
          exact (Below.refl _ wr).alloc (Nat.le_refl _) _
        have hcell : w1.cell? ⟨wr.heap.size, 0, none⟩ = some (.int .i64 x) ∧ w1.cell? ⟨wr.heap.size, 1, none⟩ = some (.int .i64 y) := by
          rw [← hw1]
          constructor <;> (rw [World.cell?_alloc_at _ _ _ _ rfl]; rfl)
        obtain ⟨g1, g2⟩ := hcell
        have HW := Lib.hid hb1'
        have HS1 := Lib.hid (HS.out.below hb1')
        clear f1 f2 hb1' hw1 HS
        cases q1
        · obtain rfl : q = false := HBad.out fun h => by
            have := HQ1.out.2 (HGS.out.1 h).2.1
            cases this
          go_wp2
          go_ret2
          exact ⟨⟨_, rfl, (fun _ => rfl), fun h => by cases h⟩, HB.out.trans (HW.out.mono HB.out.size)⟩
        · go_wp2_with fail
          refine (isValue_of y q2 HQ2.out _).mono ?_
          rintro e w2 ⟨rfl, rfl⟩
          cases q2
          · obtain rfl : q = false := HBad.out fun h => by
              have := HQ2.out.2 (HGS.out.1 h).2.2.1
              cases this
            go_wp2
            go_ret2
            exact ⟨⟨_, rfl, (fun _ => rfl), fun h => by cases h⟩, HB.out.trans (HW.out.mono HB.out.size)⟩
          · have HIX := Lib.hid (HQ1.out.1 (by first | rfl | trivial))
            have HIY := Lib.hid (HQ2.out.1 (by first | rfl | trivial))
            obtain ⟨q3, hq3⟩ := bool_of (x = y ∨ rb (ps.take k) y x = true)
            have HQ3 := Lib.hid hq3
            clear hq3
            go_wp2_with fail
            refine (closes_of w1 w.heap.size w.heap.size m M _ HS1.out x y HIX.out HIY.out q3 HQ3.out).mono ?_
            rintro e w2 ⟨rfl, hb2⟩
            have HW2 := Lib.hid (HW.out.trans (hb2.mono HW.out.size))
            have HS2 := Lib.hid (HS1.out.below hb2)
            have g3 := (hb2.cell (p := ⟨wr.heap.size, 0, none⟩) (by have := g1; exact lt_cell g1)).trans g1
            have g4 := (hb2.cell (p := ⟨wr.heap.size, 1, none⟩) (by exact lt_cell g1)).trans g2
            clear hb2 g1 g2 HS1 HW
            cases q3
            · have hne : x ≠ y := fun e => by have := HQ3.out.2 (.inl e); cases this
              have hrf : rb (ps.take k) y x = false := by
                cases e : rb (ps.take k) y x
                · rfl
                · have := HQ3.out.2 (.inr e); cases this
              have HNE := Lib.hid hne
              have HRF := Lib.hid hrf
              have hm1 : m ≤ 100000 := by
                have h1 := HM.out
                have h2 : 2 ^ k ≤ 2 ^ 8 := Nat.pow_le_pow_right (by decide) (by omega)
                omega
              clear hne hrf
              go_wp2_with fail
              refine (add_of w2 w.heap.size w.heap.size m M _ HS2.out (Nat.le_trans HB.out.size HW2.out.size) hm1 x y HIX.out HIY.out HNE.out HRF.out).mono ?_
              rintro e w3 ⟨rfl, hset, hb3⟩
              have HB3 := Lib.hid ((HB.out.trans (HW2.out.mono HB.out.size)).trans hb3)
              have HSet := Lib.hid hset
              clear hset hb3 g3 g4 HS2
              go_wp2
              go_roundw
              case rel =>
                obtain ⟨M', hM'⟩ := HSet.out
                refine ⟨k + 1, by omega, by go_num, HGS.out.2 ⟨HG.out, HIX.out, HIY.out, HNE.out, HRF.out⟩, ⟨2 * m + 3, M', ?_, ?_⟩, HB3.out, MapAt.lt hM'.out⟩
                · have h1 := HM.out
                  rw [Nat.pow_succ]; omega
                · rw [rb_step ps k (x, y) HT.out]; exact hM'
              case measure => simp [intOf]; omega
            · obtain rfl : q = false := HBad.out fun h => by
                have h1 := (HGS.out.1 h).2.2.2
                rcases HQ3.out.1 (by first | rfl | trivial) with e | e
                · exact h1.1 e
                · rw [h1.2] at e; cases e
              go_wp2
              go_ret2
              exact ⟨⟨_, rfl, (fun _ => rfl), fun h => by cases h⟩, HB.out.trans (HW2.out.mono HB.out.size)⟩
      · obtain rfl : k = n := by omega
        have hg := HG.out
        have hs := HS.out
        rw [ptake_all HX.out.1] at hg hs
        have hok : OkP ps := ⟨hg, by rw [HX.out.1]; omega⟩
        obtain rfl : q = true := HQ.out.2 hok
        have hm1 : m ≤ 765 := by
          have h1 := HM.out
          have h2 : 2 ^ k ≤ 2 ^ 8 := Nat.pow_le_pow_right (by decide) (by omega)
          omega
        have HSF := Lib.hid hs
        clear hg hs hok hbel
        go_wp2
        go_ret2
        exact ⟨⟨_, rfl, (fun h => by cases h), fun _ => ⟨_, m, M, rfl, hm1, HSF.out⟩⟩, HB.out⟩
  · obtain rfl : q = false := by
      cases q
      · rfl
      · have := (HQ.out.1 rfl).2
        rw [HX.out.1] at this
        omega
    go_enter Tryz.func102, Tryz.ntmps102
    go_wp2
    go_ret2
    exact ⟨⟨_, rfl, (fun _ => rfl), fun h => by cases h⟩, Below.refl _ _⟩
end Go.Proofs.YtadjoiahllekdaaGreatDoor.num
namespace Go.Proofs.YtadjoiahllekdaaGreatDoor.num
set_option maxRecDepth 20000
open Go.RowKit Go.Maps
set_option linter.unusedVariables false

/-- Two lookups, one behind the other, in what aboveSets answered. -/
theorem AboveP.look {ps : List (Int × Int)} {B : Nat} {q : Bool} {o : Option Nat} {w : World} (h : AboveP ps B q o w) {v a : Int} (hv : (Lit.int .i64 v).wf = true) (ha : (Lit.int .i64 a).wf = true) :
    ∃ o2, (Instr.lookup 126 (.map o) (.int .i64 v) false).run Tryz.prog w = .ok (.map o2) w ∧ (Instr.lookup 179 (.map o2) (.int .i64 a) false).run Tryz.prog w = .ok (.bool (q && rb ps a v)) w := by
  cases q
  · obtain rfl := h.1 rfl
    exact ⟨none, nil_out w v hv, by simpa using nil_look w a ha⟩
  · obtain ⟨b, n, M, rfl, _, hs⟩ := h.2 rfl
    refine ⟨M v, ?_, ?_⟩
    · have := OutAt.look hs.out v hv
      rw [elt_some] at this
      exact this
    · simpa using (hs.opt v).look a ha
theorem iArePairs (w : World) (B : Nat) (A : Option Addr) (n c : Nat) (ps : List (Int × Int)) (hi : Pairs w B A n ps) (hB : B ≤ w.heap.size) (hn : n ≤ 1048576) (q : Bool) (hq : q = true ↔ OkP ps) :
    Calls Tryz.prog 52 #[.slice A n c] w fun e w' => e = .returned (.bool q) ∧ Below w.heap.size w w' := by
  go_enter Tryz.func52, Tryz.ntmps52
  go_wp2_with fail
  refine (above_of w B A n c ps hi hB hn q hq).mono ?_
  rintro e w1 ⟨⟨o, rfl, _⟩, hb1⟩
  go_wp2
  go_ret
  exact ⟨rfl, hb1⟩
theorem OwnP.low {w : World} {B B' : Nat} {v : Value} {l : List (Int × Int)} (h : OwnP w B v l) (hB : B' ≤ B) : OwnP w B' v l :=
  ⟨h.1, h.2.imp id fun ⟨g, cap, cur, h1, h2, h3⟩ => ⟨g, cap, cur, h1, Nat.le_trans hB h2, h3⟩⟩
end Go.Proofs.YtadjoiahllekdaaGreatDoor.num
namespace Go.Proofs.YtadjoiahllekdaaGreatDoor.num
set_option maxRecDepth 20000
open Go.RowKit Go.Maps
set_option linter.unusedVariables false


set_option maxRecDepth 20000 in
theorem iList (w : World) (B : Nat) (A : Option Addr) (n c : Nat) (xs : List Int) (hi : Ints w B A n xs) (hn : n ≤ 1048576) (b : Bool) (hb : b = true ↔ Asc xs) :
    Calls Tryz.prog 133 #[.slice A n c] w fun e w' => e = .returned (.bool b) ∧ w' = w := by
  have HX := Lib.hid hi
  have HB := Lib.hid hb
  clear hi hb
  have HNo : Hid (¬ AscUp xs → b = false) := Lib.hid fun h => by
    cases b
    · rfl
    · exact absurd (HB.out.1 rfl).2 h
  go_enter Tryz.func133, Tryz.ntmps133
  go_wp2
  go_loopw [7] (fun i wr => ∃ k : Nat, k ≤ n ∧ i = .int .i64 k ∧ AscUp (xs.take k) ∧ wr = w) (fun i _ => n - (intOf i).toNat)
  case atStart => exact ⟨0, Nat.zero_le _, rfl, by rw [List.take_zero]; exact AscUp.nil, rfl⟩
  case round =>
    obtain ⟨k, hk, rfl, hasc, rfl⟩ := hrel
    have HA := Lib.hid hasc
    clear hasc
    by_cases hlt : k < n
    · obtain ⟨b1, off, x, hA1, hb1, hat, hc⟩ := HX.out.at k hlt
      have HT := Lib.hid hat
      have hlt' : (k : Int) < (n : Int) := by omega
      obtain ⟨q, hq⟩ := bool_of (InR x)
      have HQ := Lib.hid hq
      clear hat hq
      cases q
      · obtain rfl : b = false := HNo.out fun h => by have := HQ.out.2 (h.1 x (List.mem_of_getElem? HT.out)); cases this
        subst hA1
        go_wp2_with fail
        refine (isValue_of x false HQ.out _).mono ?_
        rintro e w1 ⟨rfl, rfl⟩
        go_wp2
        go_ret
        exact ⟨rfl, rfl⟩
      · have HD := Lib.hid (HQ.out.1 rfl)
        rcases Nat.eq_zero_or_pos k with h0 | h0
        · have HK := Lib.hid h0
          subst hA1
          clear h0
          have hk0 : decide (0 < k) = false := decide_eq_false (by have := HK.out; omega)
          go_wp2_with fail
          refine (isValue_of x true ⟨fun _ => HD.out, fun _ => rfl⟩ _).mono ?_
          rintro e w1 ⟨rfl, rfl⟩
          go_wp2
          clear hk0
          go_roundw
          case rel => exact ⟨k + 1, by omega, by go_num, ascUp_snoc HA.out HT.out HD.out (fun j u hj _ => by have := HK.out; omega), by first | rfl | trivial⟩
          case measure => simp [intOf]; omega
        · obtain ⟨j, hj⟩ : ∃ j, j + 1 = k := ⟨k - 1, by omega⟩
          obtain ⟨b2, off2, y, hA2, hb2, hat2, hc2⟩ := HX.out.at j (by omega)
          obtain ⟨rfl, rfl⟩ : b1 = b2 ∧ off = off2 := by rw [hA1] at hA2; injection hA2 with h; injection h with h1 h2; exact ⟨h1, h2⟩
          have HT0 := Lib.hid hat2
          have HJ := Lib.hid hj
          have HK0 : Hid ((0 : Int) < (k : Int)) := by show _ < _; omega
          have hkj : (k : Int) - 1 = (j : Int) := by omega
          have hkw : IntKind.i64.wrap ((k : Int) - 1) = (j : Int) := by rw [hkj]; exact IntWalk.i64_in _ ⟨by omega, by omega⟩
          have hjw : IntKind.i64.wrap (j : Int) = (j : Int) := IntWalk.i64_in _ ⟨by omega, by omega⟩
          have hjn : (j : Int) < (n : Int) := by omega
          have hjn' : j < n := by omega
          have hk0 : decide (0 < k) = true := decide_eq_true (by have := HK0.out; omega)
          subst hA1
          clear h0 hj hat2 hA2
          by_cases hle : x ≤ y
          · obtain rfl : b = false := HNo.out (asc_bad (by rw [HJ.out]; exact HT.out) HT0.out hle)
            go_wp2_with fail
            refine (isValue_of x true ⟨fun _ => HD.out, fun _ => rfl⟩ _).mono ?_
            rintro e w1 ⟨rfl, rfl⟩
            go_wp2
            go_ret
            exact ⟨rfl, rfl⟩
          · have HLe : Hid (y < x) := by show _ < _; omega
            go_wp2_with fail
            refine (isValue_of x true ⟨fun _ => HD.out, fun _ => rfl⟩ _).mono ?_
            rintro e w1 ⟨rfl, rfl⟩
            go_wp2
            clear hk0
            go_roundw
            case rel => exact ⟨k + 1, by omega, by go_num, ascUp_snoc HA.out HT.out HD.out (asc_next HJ.out HT0.out HLe.out), by first | rfl | trivial⟩
            case measure => simp [intOf]; omega
    · obtain rfl : k = n := by omega
      have h := HA.out
      rw [ptake_all HX.out.1] at h
      have HH := Lib.hid h
      clear h
      by_cases h0 : (0 : Int) < (k : Int)
      · have hd : decide (0 < k) = true := by simp; omega
        obtain rfl : b = true := HB.out.2 ⟨fun e => by have := HX.out.1; rw [e] at this; simp at this; omega, HH.out⟩
        go_wp2
        go_ret
        exact ⟨by simp, rfl⟩
      · obtain rfl : b = false := by
          cases b
          · rfl
          · exact absurd (List.length_eq_zero_iff.1 (by rw [HX.out.1]; omega)) (HB.out.1 rfl).1
        go_wp2
        go_ret
        exact ⟨by simp; omega, rfl⟩

set_option maxRecDepth 20000 in
theorem iOther (w : World) (t : Wi) (hl : t.Ln ≤ 1048576) (hp : t.Pn ≤ 1048576) (q : Bool) (hq : q = true ↔ (t.kind ≠ 2 ∧ t.value ≠ 0) ∨ (t.kind ≠ 3 ∧ t.Ln ≠ 0) ∨ (t.kind ≠ 4 ∧ t.Pn ≠ 0)) :
    Calls Tryz.prog 132 #[t.val] w fun e w' => e = .returned (.bool q) ∧ Below w.heap.size w w' := by
  obtain ⟨k, f, v, LA, Ln, Lc, ls, PA, Pn, Pc, ps⟩ := t
  unfold Wi.val
  simp only [] at hl hp hq ⊢
  have HW1 : Hid (∀ o : Obj, Below w.heap.size w (w.alloc o)) := Lib.hid fun o => (Below.refl _ w).alloc (Nat.le_refl _) _
  by_cases k2 : k = 2
  · subst k2
    by_cases hL : Ln = 0
    · have hL' : decide (0 < Ln) = false := by simp [hL]
      have hL2 : ¬ ((0 : Int) < (Ln : Int)) := by omega
      by_cases hP : Pn = 0
      · have hP' : decide (0 < Pn) = false := by simp [hP]
        have hP2 : ¬ ((0 : Int) < (Pn : Int)) := by omega
        obtain rfl : q = false := by
          cases q
          · rfl
          · exact absurd (hq.1 rfl) (by omega)
        clear hq hL hP
        go_enter Tryz.func132, Tryz.ntmps132
        go_wp2
        go_ret
        exact ⟨by first | rfl | simp, HW1.out _⟩
      · have hP' : decide (0 < Pn) = true := by simp; omega
        have hP2 : (0 : Int) < (Pn : Int) := by omega
        obtain rfl : q = true := hq.2 (by omega)
        clear hq hL hP
        go_enter Tryz.func132, Tryz.ntmps132
        go_wp2
        go_ret
        exact ⟨by first | rfl | simp, HW1.out _⟩
    · have hL' : decide (0 < Ln) = true := by simp; omega
      have hL2 : (0 : Int) < (Ln : Int) := by omega
      obtain rfl : q = true := hq.2 (by omega)
      clear hq hL
      go_enter Tryz.func132, Tryz.ntmps132
      go_wp2
      go_ret
      exact ⟨by first | rfl | simp, HW1.out _⟩
  · by_cases k3 : k = 3
    · subst k3
      clear k2
      by_cases hv : v = 0
      · have hv' : (v != 0) = false := by simp [hv]
        by_cases hP : Pn = 0
        · have hP' : decide (0 < Pn) = false := by simp [hP]
          have hP2 : ¬ ((0 : Int) < (Pn : Int)) := by omega
          obtain rfl : q = false := by
            cases q
            · rfl
            · exact absurd (hq.1 rfl) (by omega)
          clear hq hv hP
          go_enter Tryz.func132, Tryz.ntmps132
          go_wp2
          go_ret
          exact ⟨by first | rfl | simp, HW1.out _⟩
        · have hP' : decide (0 < Pn) = true := by simp; omega
          have hP2 : (0 : Int) < (Pn : Int) := by omega
          obtain rfl : q = true := hq.2 (by omega)
          clear hq hv hP
          go_enter Tryz.func132, Tryz.ntmps132
          go_wp2
          go_ret
          exact ⟨by first | rfl | simp, HW1.out _⟩
      · have hv' : (v != 0) = true := by simp [hv]
        obtain rfl : q = true := hq.2 (by omega)
        clear hq hv
        go_enter Tryz.func132, Tryz.ntmps132
        go_wp2
        go_ret
        exact ⟨by first | rfl | simp, HW1.out _⟩
    · by_cases k4 : k = 4
      · subst k4
        clear k2 k3
        by_cases hv : v = 0
        · have hv' : (v != 0) = false := by simp [hv]
          by_cases hL : Ln = 0
          · have hL' : decide (0 < Ln) = false := by simp [hL]
            have hL2 : ¬ ((0 : Int) < (Ln : Int)) := by omega
            obtain rfl : q = false := by
              cases q
              · rfl
              · exact absurd (hq.1 rfl) (by omega)
            clear hq hv hL
            go_enter Tryz.func132, Tryz.ntmps132
            go_wp2
            go_ret
            exact ⟨by first | rfl | simp, HW1.out _⟩
          · have hL' : decide (0 < Ln) = true := by simp; omega
            have hL2 : (0 : Int) < (Ln : Int) := by omega
            obtain rfl : q = true := hq.2 (by omega)
            clear hq hv hL
            go_enter Tryz.func132, Tryz.ntmps132
            go_wp2
            go_ret
            exact ⟨by first | rfl | simp, HW1.out _⟩
        · have hv' : (v != 0) = true := by simp [hv]
          obtain rfl : q = true := hq.2 (by omega)
          clear hq hv
          go_enter Tryz.func132, Tryz.ntmps132
          go_wp2
          go_ret
          exact ⟨by first | rfl | simp, HW1.out _⟩
      · have f2 : (k != 2) = true := by simpa using k2
        have f3 : (k != 3) = true := by simpa using k3
        have f4 : (k != 4) = true := by simpa using k4
        by_cases hv : v = 0
        · have hv' : (v != 0) = false := by simp [hv]
          by_cases hL : Ln = 0
          · have hL' : decide (0 < Ln) = false := by simp [hL]
            have hL2 : ¬ ((0 : Int) < (Ln : Int)) := by omega
            by_cases hP : Pn = 0
            · have hP' : decide (0 < Pn) = false := by simp [hP]
              have hP2 : ¬ ((0 : Int) < (Pn : Int)) := by omega
              obtain rfl : q = false := by
                cases q
                · rfl
                · exact absurd (hq.1 rfl) (by omega)
              clear hq k2 k3 k4 hv hL hP
              go_enter Tryz.func132, Tryz.ntmps132
              go_wp2
              go_ret
              exact ⟨by first | rfl | simp, HW1.out _⟩
            · have hP' : decide (0 < Pn) = true := by simp; omega
              have hP2 : (0 : Int) < (Pn : Int) := by omega
              obtain rfl : q = true := hq.2 (by omega)
              clear hq k2 k3 k4 hv hL hP
              go_enter Tryz.func132, Tryz.ntmps132
              go_wp2
              go_ret
              exact ⟨by first | rfl | simp, HW1.out _⟩
          · have hL' : decide (0 < Ln) = true := by simp; omega
            have hL2 : (0 : Int) < (Ln : Int) := by omega
            obtain rfl : q = true := hq.2 (by omega)
            clear hq k2 k3 k4 hv hL
            go_enter Tryz.func132, Tryz.ntmps132
            go_wp2
            go_ret
            exact ⟨by first | rfl | simp, HW1.out _⟩
        · have hv' : (v != 0) = true := by simp [hv]
          obtain rfl : q = true := hq.2 (by omega)
          clear hq k2 k3 k4 hv
          go_enter Tryz.func132, Tryz.ntmps132
          go_wp2
          go_ret
          exact ⟨by first | rfl | simp, HW1.out _⟩
end Go.Proofs.YtadjoiahllekdaaGreatDoor.num
namespace Go.Proofs.YtadjoiahllekdaaGreatDoor.num
set_option maxRecDepth 20000
open Go.RowKit

def nearI (b : Int) : Value := .iface 163 (.agg #[.int .i64 b])
def amongI (A : Option Addr) (n c : Nat) : Value := .iface 165 (.agg #[.slice A n c])
def orderI (o : Option Nat) : Value := .iface 167 (.agg #[.map o])
end Go.Proofs.YtadjoiahllekdaaGreatDoor.num
namespace Go.Proofs.YtadjoiahllekdaaGreatDoor.num
set_option maxRecDepth 20000
open Go.RowKit Go.Maps
set_option linter.unusedVariables false

/-- v is the taste of the valid wish t. -/
def TasteAt (w : World) (t : Wi) (v : Value) : Prop :=
  (t.kind ≠ 4 ∧ ∃ b, InR b ∧ v = nearI b ∧ ∀ x, InR x → rankW t.dat x = if x < b then b - x else x - b) ∨
  (t.kind ≠ 4 ∧ v = amongI t.LA t.Ln t.Lc ∧ ∀ x, rankW t.dat x = if x ∈ t.ls then 0 else 1) ∨
  (t.kind = 4 ∧ ∃ o B, v = orderI o ∧ AboveP t.ps B true o w)
theorem TasteAt.below {w w' : World} {t : Wi} {v : Value} (h : TasteAt w t v) (hb : Below w.heap.size w w') : TasteAt w' t v := by
  rcases h with h | h | ⟨h, o, B, e, a⟩
  · exact .inl h
  · exact .inr (.inl h)
  · exact .inr (.inr ⟨h, o, B, e, a.below hb⟩)
theorem value_same (v : Int) (q : Bool) (hq : q = true ↔ InR v) (w : World) :
    Calls Tryz.prog 129 #[.int .i64 v] w fun e w' => e = .returned (.bool q) ∧ w' = w :=
  (isValue_of v q hq w).mono fun _ _ h => ⟨h.1, h.2.symm⟩

/-- .. and what it holds lies from block lo on. -/
def TasteFrom (w : World) (lo : Nat) (t : Wi) (v : Value) : Prop :=
  (t.kind ≠ 4 ∧ ∃ b, InR b ∧ v = nearI b ∧ ∀ x, InR x → rankW t.dat x = if x < b then b - x else x - b) ∨
  (t.kind ≠ 4 ∧ v = amongI t.LA t.Ln t.Lc ∧ ∀ x, rankW t.dat x = if x ∈ t.ls then 0 else 1) ∨
  (t.kind = 4 ∧ ∃ o B, lo ≤ B ∧ v = orderI o ∧ AboveP t.ps B true o w)
theorem TasteFrom.at' {w : World} {lo : Nat} {t : Wi} {v : Value} (h : TasteFrom w lo t v) : TasteAt w t v := by
  rcases h with h | h | ⟨h, o, B, _, e, a⟩
  · exact .inl h
  · exact .inr (.inl h)
  · exact .inr (.inr ⟨h, o, B, e, a⟩)
theorem TasteFrom.low {w : World} {lo lo' : Nat} {t : Wi} {v : Value} (h : TasteFrom w lo t v) (hl : lo' ≤ lo) : TasteFrom w lo' t v := by
  rcases h with h | h | ⟨h, o, B, hB, e, a⟩
  · exact .inl h
  · exact .inr (.inl h)
  · exact .inr (.inr ⟨h, o, B, Nat.le_trans hl hB, e, a⟩)
theorem AboveP.kept {ps : List (Int × Int)} {B : Nat} {q : Bool} {o : Option Nat} {w w' : World} (h : AboveP ps B q o w) (hb : ∀ k, B ≤ k → k < w.heap.size → w'.heap[k]? = w.heap[k]?) : AboveP ps B q o w' :=
  ⟨h.1, fun hq => by
    obtain ⟨b, n, M, h1, h2, h3⟩ := h.2 hq
    exact ⟨b, n, M, h1, h2, MapAt.block h3.out (hb _ h3.low (MapAt.lt h3.out)), h3.low, h3.has, h3.rng, fun v x hx => by
      obtain ⟨g1, g2, g3⟩ := h3.sets v x hx
      exact ⟨g1, g2, MapAt.block g3 (hb _ g1 (MapAt.lt g3))⟩, h3.inj⟩⟩
theorem TasteFrom.kept {w w' : World} {lo : Nat} {t : Wi} {v : Value} (h : TasteFrom w lo t v) (hb : ∀ k, lo ≤ k → k < w.heap.size → w'.heap[k]? = w.heap[k]?) : TasteFrom w' lo t v := by
  rcases h with h | h | ⟨h, o, B, hB, e, a⟩
  · exact .inl h
  · exact .inr (.inl h)
  · exact .inr (.inr ⟨h, o, B, hB, e, a.kept fun k hk => hb k (Nat.le_trans hB hk)⟩)
/-- An interface's value. -/
def IfV (v : Value) : Prop := v = .nilIface ∨ ∃ T x, v = .iface T x
set_option maxRecDepth 20000 in
set_option maxHeartbeats 1600000 in
theorem taste_ofV (w : World) (B : Nat) (t : Wi) (hi : WiIn w B t) (hB : B ≤ w.heap.size) (hn : t.Short) (q : Bool) (hq : q = true ↔ IsW t.dat) :
    Calls Tryz.prog 105 #[t.val] w fun e w' => (∃ v, e = .returned (.tuple #[v, .bool q]) ∧ (q = true → TasteFrom w' w.heap.size t v) ∧ IfV v) ∧ Below w.heap.size w w' := by
  have HO : Hid (∀ (w1 : World) (p : Bool), (p = true ↔ (t.kind ≠ 2 ∧ t.value ≠ 0) ∨ (t.kind ≠ 3 ∧ t.Ln ≠ 0) ∨ (t.kind ≠ 4 ∧ t.Pn ≠ 0)) → Calls Tryz.prog 132 #[t.val] w1 fun e w' => e = .returned (.bool p) ∧ Below w1.heap.size w1 w') := Lib.hid fun w1 p hp => iOther w1 t hn.1 hn.2 p hp
  obtain ⟨k, f, v, LA, Ln, Lc, ls, PA, Pn, Pc, ps⟩ := t
  obtain ⟨-, -, -, hl, hp⟩ := hi
  unfold Wi.val at HO ⊢
  simp only [Wi.dat, Wi.Short] at hl hp hn hq HO ⊢
  have HL := Lib.hid hl
  have HP := Lib.hid hp
  have HQ := Lib.hid hq
  have HN := Lib.hid hn
  have HB1 : Hid (∀ o : Obj, Below B w (w.alloc o)) := Lib.hid fun o => (Below.refl B w).alloc hB _
  have HW1 : Hid (∀ o : Obj, Below w.heap.size w (w.alloc o)) := Lib.hid fun o => (Below.refl _ w).alloc (Nat.le_refl _) _
  have HLn : Hid (ls = [] ↔ Ln = 0) := by
    show _ ↔ _
    rw [← hl.1, List.length_eq_zero_iff]
  have HPn : Hid (ps = [] ↔ Pn = 0) := by
    show _ ↔ _
    rw [← hp.1, List.length_eq_zero_iff]
  clear hl hp hq hn
  have HNo : Hid (¬ IsW ⟨k, f, v, ls, ps⟩ → q = false) := Lib.hid fun h => by
    cases q
    · rfl
    · exact absurd (HQ.out.1 rfl) h
  by_cases f0 : f < 0
  · obtain rfl := HNo.out fun h => by have := h.f.1; dsimp only at this; omega
    go_enter Tryz.func105, Tryz.ntmps105
    go_wp2
    go_ret2
    first | exact ⟨⟨_, rfl, fun h => (by cases h), .inl rfl⟩, HW1.out _⟩ | exact ⟨⟨_, rfl, .inl rfl⟩, HW1.out _⟩
  by_cases f3 : 3 ≤ f
  · obtain rfl := HNo.out fun h => by have := h.f.2; dsimp only at this; omega
    go_enter Tryz.func105, Tryz.ntmps105
    go_wp2
    go_ret2
    first | exact ⟨⟨_, rfl, fun h => (by cases h), .inl rfl⟩, HW1.out _⟩ | exact ⟨⟨_, rfl, .inl rfl⟩, HW1.out _⟩
  have HF : Hid (0 ≤ f ∧ f ≤ 2) := Lib.hid ⟨by omega, by omega⟩
  obtain ⟨p, hp⟩ := bool_of ((k ≠ 2 ∧ v ≠ 0) ∨ (k ≠ 3 ∧ Ln ≠ 0) ∨ (k ≠ 4 ∧ Pn ≠ 0))
  have HPp := Lib.hid hp
  clear hp
  cases p
  · have HK2 : Hid (k ≠ 2 → v = 0) := Lib.hid fun h => by
      by_cases hv : v = 0
      · exact hv
      · have := HPp.out.2 (.inl ⟨h, hv⟩); cases this
    have HK3 : Hid (k ≠ 3 → ls = []) := Lib.hid fun h => by
      by_cases hv : Ln = 0
      · exact HLn.out.2 hv
      · have := HPp.out.2 (.inr (.inl ⟨h, hv⟩)); cases this
    have HK4 : Hid (k ≠ 4 → ps = []) := Lib.hid fun h => by
      by_cases hv : Pn = 0
      · exact HPn.out.2 hv
      · have := HPp.out.2 (.inr (.inr ⟨h, hv⟩)); cases this
    by_cases k0 : k = 0
    · subst k0
      obtain rfl := HQ.out.2 ((isW01 (.inl rfl) HF.out).2 ⟨HK2.out (by decide), HK3.out (by decide), HK4.out (by decide)⟩)
      have HT : Hid (∀ w', TasteFrom w' w.heap.size ⟨0, f, v, LA, Ln, Lc, ls, PA, Pn, Pc, ps⟩ (nearI 0)) := Lib.hid fun w' => .inl ⟨by show (0 : Int) ≠ 4; decide, 0, ⟨by decide, by decide⟩, rfl, fun x hx => by
        have h0 := hx.1
        have h9 := hx.2
        have e : rankW (Wi.dat ⟨0, f, v, LA, Ln, Lc, ls, PA, Pn, Pc, ps⟩) x = x := rfl
        rw [e]
        split <;> omega⟩
      go_enter Tryz.func105, Tryz.ntmps105
      go_wp2_with fail
      refine (HO.out _ false HPp.out).mono ?_
      rintro e w1 ⟨rfl, hb1⟩
      obtain ⟨c0, c1, c2, c3, c4, hg⟩ := box5 hb1
      have HBB := Lib.hid (And.intro ((HW1.out _).trans (hb1.mono (by simp))) ((HB1.out _).trans (hb1.mono (by simp; omega))))
      clear hb1
      go_wp2
      go_ret2
      exact ⟨⟨_, rfl, fun _ => HT.out _, by first | exact .inl rfl | exact .inr ⟨_, _, rfl⟩⟩, HBB.out.1⟩
    · by_cases k1 : k = 1
      · subst k1
        clear k0
        obtain rfl := HQ.out.2 ((isW01 (.inr rfl) HF.out).2 ⟨HK2.out (by decide), HK3.out (by decide), HK4.out (by decide)⟩)
        have HT : Hid (∀ w', TasteFrom w' w.heap.size ⟨1, f, v, LA, Ln, Lc, ls, PA, Pn, Pc, ps⟩ (nearI 9)) := Lib.hid fun w' => .inl ⟨by show (1 : Int) ≠ 4; decide, 9, ⟨by decide, by decide⟩, rfl, fun x hx => by
          have h0 := hx.1
          have h9 := hx.2
          have e : rankW (Wi.dat ⟨1, f, v, LA, Ln, Lc, ls, PA, Pn, Pc, ps⟩) x = 9 - x := rfl
          rw [e]
          split <;> omega⟩
        go_enter Tryz.func105, Tryz.ntmps105
        go_wp2_with fail
        refine (HO.out _ false HPp.out).mono ?_
        rintro e w1 ⟨rfl, hb1⟩
        obtain ⟨c0, c1, c2, c3, c4, hg⟩ := box5 hb1
        have HBB := Lib.hid (And.intro ((HW1.out _).trans (hb1.mono (by simp))) ((HB1.out _).trans (hb1.mono (by simp; omega))))
        clear hb1
        go_wp2
        go_ret2
        exact ⟨⟨_, rfl, fun _ => HT.out _, by first | exact .inl rfl | exact .inr ⟨_, _, rfl⟩⟩, HBB.out.1⟩
      · by_cases k2 : k = 2
        · subst k2
          clear k0 k1
          obtain ⟨qv, hqv⟩ := bool_of (InR v)
          obtain rfl : qv = q := by
            rw [Bool.eq_iff_iff, HQ.out, hqv, isW2 HF.out]
            exact ⟨fun h => ⟨h, HK3.out (by decide), HK4.out (by decide)⟩, fun h => h.1⟩
          have HV := Lib.hid hqv
          clear hqv
          go_enter Tryz.func105, Tryz.ntmps105
          go_wp2_with fail
          refine (HO.out _ false HPp.out).mono ?_
          rintro e w1 ⟨rfl, hb1⟩
          obtain ⟨c0, c1, c2, c3, c4, hg⟩ := box5 hb1
          have HBB := Lib.hid (And.intro ((HW1.out _).trans (hb1.mono (by simp))) ((HB1.out _).trans (hb1.mono (by simp; omega))))
          clear hb1
          go_wp2
          go_quiet ((go_at_call 129; refine Calls.quiet_of_same (value_same v qv HV.out _)))
          go_wp2
          go_ret2
          refine ⟨⟨_, rfl, fun h => .inl ⟨by show (2 : Int) ≠ 4; decide, v, HV.out.1 (by first | exact h | trivial), rfl, fun x hx => rfl⟩, by first | exact .inl rfl | exact .inr ⟨_, _, rfl⟩⟩, below_drewN HBB.out.1 _⟩
        · by_cases k3 : k = 3
          · subst k3
            clear k0 k1 k2
            obtain ⟨ql, hql⟩ := bool_of (Asc ls)
            obtain rfl : ql = q := by
              rw [Bool.eq_iff_iff, HQ.out, hql, isW3 HF.out]
              exact ⟨fun h => ⟨HK2.out (by decide), h, HK4.out (by decide)⟩, fun h => h.2.1⟩
            have HV := Lib.hid hql
            clear hql
            go_enter Tryz.func105, Tryz.ntmps105
            go_wp2_with fail
            refine (HO.out _ false HPp.out).mono ?_
            rintro e w1 ⟨rfl, hb1⟩
            obtain ⟨c0, c1, c2, c3, c4, hg⟩ := box5 hb1
            have HBB := Lib.hid (And.intro ((HW1.out _).trans (hb1.mono (by simp))) ((HB1.out _).trans (hb1.mono (by simp; omega))))
            clear hb1
            go_wp2
            go_quiet ((go_at_call 133; refine Calls.quiet_of_same (iList _ B LA Ln Lc ls (HL.out.below (below_drewN HBB.out.2 _)) HN.out.1 ql HV.out)))
            go_wp2
            go_ret2
            exact ⟨⟨_, rfl, fun h => .inr (.inl ⟨by show (3 : Int) ≠ 4; decide, rfl, fun x => rfl⟩), by first | exact .inl rfl | exact .inr ⟨_, _, rfl⟩⟩, below_drewN HBB.out.1 _⟩
          · by_cases k4 : k = 4
            · subst k4
              clear k0 k1 k2 k3
              have HV : Hid (q = true ↔ OkP ps) := Lib.hid (by
                rw [HQ.out, isW4 HF.out]
                exact ⟨fun h => h.2.2, fun h => ⟨HK2.out (by decide), HK3.out (by decide), h⟩⟩)
              go_enter Tryz.func105, Tryz.ntmps105
              go_wp2_with fail
              refine (HO.out _ false HPp.out).mono ?_
              rintro e w1 ⟨rfl, hb1⟩
              obtain ⟨c0, c1, c2, c3, c4, hg⟩ := box5 hb1
              have HBB := Lib.hid (And.intro ((HW1.out _).trans (hb1.mono (by simp))) ((HB1.out _).trans (hb1.mono (by simp; omega))))
              clear hb1
              go_wp2_with fail
              refine (above_of _ B PA Pn Pc ps (HP.out.below HBB.out.2) (by omega) HN.out.2 q HV.out).mono ?_
              rintro e w2 ⟨⟨o, rfl, hab⟩, hb2⟩
              have HAB := Lib.hid hab
              have HSz := Lib.hid HBB.out.1.size
              have HBC := Lib.hid (HBB.out.1.trans (hb2.mono HBB.out.1.size))
              clear hb2 hab c0 c1 c2 c3 c4
              go_wp2
              go_ret2
              exact ⟨⟨_, rfl, fun h => .inr (.inr ⟨rfl, o, _, HSz.out, rfl, h ▸ HAB.out⟩), by first | exact .inl rfl | exact .inr ⟨_, _, rfl⟩⟩, HBC.out⟩
            · have f0 : (k == 0) = false := by simpa using k0
              have f1 : (k == 1) = false := by simpa using k1
              have f2 : (k == 2) = false := by simpa using k2
              have f3 : (k == 3) = false := by simpa using k3
              have f4 : (k == 4) = false := by simpa using k4
              obtain rfl := HNo.out fun h => by have := h.k; dsimp only at this; omega
              clear k0 k1 k2 k3 k4
              go_enter Tryz.func105, Tryz.ntmps105
              go_wp2_with fail
              refine (HO.out _ false HPp.out).mono ?_
              rintro e w1 ⟨rfl, hb1⟩
              obtain ⟨c0, c1, c2, c3, c4, hg⟩ := box5 hb1
              have HBB := Lib.hid (And.intro ((HW1.out _).trans (hb1.mono (by simp))) ((HB1.out _).trans (hb1.mono (by simp; omega))))
              clear hb1
              go_wp2
              go_ret2
              first | exact ⟨⟨_, rfl, fun h => (by cases h), .inl rfl⟩, HBB.out.1⟩ | exact ⟨⟨_, rfl, .inl rfl⟩, HBB.out.1⟩
  · obtain rfl := HNo.out fun h => by
      have hv := h.v
      have hl := h.l
      have hp := h.p
      dsimp only at hv hl hp
      rcases HPp.out.1 rfl with ⟨h1, h2⟩ | ⟨h1, h2⟩ | ⟨h1, h2⟩
      · rw [if_neg h1] at hv; exact h2 hv
      · rw [if_neg h1] at hl; exact h2 (HLn.out.1 hl)
      · rw [if_neg h1] at hp; exact h2 (HPn.out.1 hp)
    have HPt := Lib.hid (HPp.out.1 rfl)
    clear HPp
    go_enter Tryz.func105, Tryz.ntmps105
    go_wp2_with fail
    refine (HO.out _ true ⟨fun _ => HPt.out, fun _ => rfl⟩).mono ?_
    rintro e w1 ⟨rfl, hb1⟩
    have HBB := Lib.hid ((HW1.out _).trans (hb1.mono (by simp)))
    clear hb1
    go_wp2
    go_ret2
    first | exact ⟨⟨_, rfl, fun h => (by cases h), .inl rfl⟩, HBB.out⟩ | exact ⟨⟨_, rfl, .inl rfl⟩, HBB.out⟩
theorem taste_of (w : World) (B : Nat) (t : Wi) (hi : WiIn w B t) (hB : B ≤ w.heap.size) (hn : t.Short) (q : Bool) (hq : q = true ↔ IsW t.dat) :
    Calls Tryz.prog 105 #[t.val] w fun e w' => (∃ v, e = .returned (.tuple #[v, .bool q]) ∧ (q = true → TasteAt w' t v)) ∧ Below w.heap.size w w' :=
  (taste_ofV w B t hi hB hn q hq).mono fun _ _ ⟨⟨v, h1, h2, _⟩, h3⟩ => ⟨⟨v, h1, fun h => (h2 h).at'⟩, h3⟩
end Go.Proofs.YtadjoiahllekdaaGreatDoor.num
namespace Go.Proofs.YtadjoiahllekdaaGreatDoor.num
set_option maxRecDepth 20000
open Go.RowKit Go.Maps
set_option linter.unusedVariables false
set_option linter.unusedSimpArgs false

/-- A part's row: its node, its taste, its operands. -/
def partRow (op : Int) (t : Wi) (v6 v7 v8 : Value) : Obj := .cells #[.int .i64 op, .int .i64 t.kind, .int .i64 t.field, .int .i64 t.value, .slice t.LA t.Ln t.Lc, .slice t.PA t.Pn t.Pc, v6, v7, v8] 172 (0, 0)
/-- The tree t lies at block p, all its own memory from block lo on; its wishes' slices below block B. -/
def PartAt (w : World) (B lo : Nat) : Tr → Nat → Prop
  | .base d, p => lo ≤ p ∧ p < w.heap.size ∧ ∃ (t : Wi) (v : Value), w.heap[p]? = some (partRow 0 t v (.pointer none) (.pointer none)) ∧ t.dat = d ∧ t.Short ∧ WiIn w B t ∧ IsW d ∧ TasteFrom w lo t v
  | .dual a, p => lo ≤ p ∧ p < w.heap.size ∧ ∃ (t : Wi) (q : Nat), w.heap[p]? = some (partRow 3 t .nilIface (.pointer (some ⟨q, 0, none⟩)) (.pointer none)) ∧ NoW t.dat ∧ t.Short ∧ WiIn w B t ∧ PartAt w B lo a q
  | .bin op a b, p => lo ≤ p ∧ p < w.heap.size ∧ Bin op ∧ ∃ (t : Wi) (q r : Nat), w.heap[p]? = some (partRow op t .nilIface (.pointer (some ⟨q, 0, none⟩)) (.pointer (some ⟨r, 0, none⟩))) ∧ NoW t.dat ∧ t.Short ∧ WiIn w B t ∧ PartAt w B lo a q ∧ PartAt w B lo b r
theorem WiIn.blocks {w w' : World} {B : Nat} {t : Wi} (h : WiIn w B t) (hb : ∀ k, k < B → w'.heap[k]? = w.heap[k]?) : WiIn w' B t :=
  ⟨h.k, h.f, h.v, ⟨h.l.1, fun k hk => by
    obtain ⟨b, off, ha, hB, hc⟩ := h.l.2 k hk
    exact ⟨b, off, ha, hB, (World.cell?_of_block (a := ⟨b, off + k, none⟩) (hb b hB)).trans hc⟩⟩, ⟨h.p.1, fun k p hk => by
    obtain ⟨b, off, ha, hB, h1, h2⟩ := h.p.2 k p hk
    exact ⟨b, off, ha, hB, (World.cell?_of_block (a := ⟨b, off + k * 2, none⟩) (hb b hB)).trans h1, (World.cell?_of_block (a := ⟨b, off + k * 2 + 1, none⟩) (hb b hB)).trans h2⟩⟩⟩
theorem PartAt.kept {w w' : World} {B lo : Nat} (hsz : w.heap.size ≤ w'.heap.size) (hb : ∀ k, k < B ∨ (lo ≤ k ∧ k < w.heap.size) → w'.heap[k]? = w.heap[k]?) : ∀ {t : Tr} {p : Nat}, PartAt w B lo t p → PartAt w' B lo t p
  | .base d, p, ⟨h0, h1, t, v, h2, h3, h4, h5, h6, h7⟩ => ⟨h0, Nat.lt_of_lt_of_le h1 hsz, t, v, (hb p (.inr ⟨h0, h1⟩)).trans h2, h3, h4, h5.blocks fun k hk => hb k (.inl hk), h6, h7.kept fun k h1 h2 => hb k (.inr ⟨h1, h2⟩)⟩
  | .dual a, p, ⟨h0, h1, t, q, h2, h3, h4, h5, h6⟩ => ⟨h0, Nat.lt_of_lt_of_le h1 hsz, t, q, (hb p (.inr ⟨h0, h1⟩)).trans h2, h3, h4, h5.blocks fun k hk => hb k (.inl hk), PartAt.kept hsz hb h6⟩
  | .bin op a b, p, ⟨h0, h1, h', t, q, r, h2, h3, h4, h5, h6, h7⟩ => ⟨h0, Nat.lt_of_lt_of_le h1 hsz, h', t, q, r, (hb p (.inr ⟨h0, h1⟩)).trans h2, h3, h4, h5.blocks fun k hk => hb k (.inl hk), PartAt.kept hsz hb h6, PartAt.kept hsz hb h7⟩
theorem PartAt.below {w w' : World} {B lo : Nat} (hB : B ≤ w.heap.size) (hb : Below w.heap.size w w') {t : Tr} {p : Nat} (h : PartAt w B lo t p) : PartAt w' B lo t p :=
  h.kept hb.size fun k hk => hb.block k (by rcases hk with hk | hk <;> omega)
theorem PartAt.low {w : World} {B lo lo' : Nat} (hl : lo' ≤ lo) : ∀ {t : Tr} {p : Nat}, PartAt w B lo t p → PartAt w B lo' t p
  | .base d, p, ⟨h0, h1, t, v, h2, h3, h4, h5, h6, h7⟩ => ⟨Nat.le_trans hl h0, h1, t, v, h2, h3, h4, h5, h6, h7.low hl⟩
  | .dual a, p, ⟨h0, h1, t, q, h2, h3, h4, h5, h6⟩ => ⟨Nat.le_trans hl h0, h1, t, q, h2, h3, h4, h5, PartAt.low hl h6⟩
  | .bin op a b, p, ⟨h0, h1, h', t, q, r, h2, h3, h4, h5, h6, h7⟩ => ⟨Nat.le_trans hl h0, h1, h', t, q, r, h2, h3, h4, h5, PartAt.low hl h6, PartAt.low hl h7⟩
theorem PartAt.set {w : World} {B lo : Nat} {t : Tr} {p g j : Nat} {v : Value} (h : PartAt w B lo t p) (h1 : B ≤ g) (h2 : g < lo) : PartAt (w.setCell ⟨g, j, none⟩ v) B lo t p :=
  h.kept (by simp) fun k hk => heap_setCell_other _ _ _ _ (by show k ≠ g; rcases hk with hk | hk <;> omega)
/-- What lastPart hands back of the slice (A, cap c) that holds nds. -/
def LastOut (B lo : Nat) (nds : List ND) (A : Option Addr) (c : Nat) (e : Ending) (w' : World) : Prop :=
  (∃ (t : Tr) (k p : Nat), LastP nds (some (t, k)) ∧ e = .returned (.tuple #[.pointer (some ⟨p, 0, none⟩), .slice A k c]) ∧ PartAt w' B lo t p) ∨ (LastP nds none ∧ e = .returned (.tuple #[.pointer none, .slice none 0 0]))
def zeroW : Wi := ⟨0, 0, 0, none, 0, 0, [], none, 0, 0, []⟩
theorem zeroW_in (w : World) (B : Nat) : WiIn w B zeroW := ⟨rfl, rfl, rfl, ⟨rfl, fun k hk => by cases hk⟩, ⟨rfl, fun k p hk => by simp [zeroW] at hk⟩⟩
theorem now_zero (t : Wi) : NoW t.dat ↔ t.dat = zeroW.dat := by
  constructor
  · intro ⟨h1, h2, h3, h4, h5⟩
    unfold Wi.dat zeroW at *
    simp only at h1 h2 h3 h4 h5
    rw [h1, h2, h3, h4, h5]
  · intro h
    rw [h]
    exact ⟨rfl, rfl, rfl, rfl, rfl⟩
theorem heap_set7 {w : World} {g : Nat} {T : TypeId} {v0 v1 v2 v3 v4 v5 v6 v7 v8 : Value} (h : w.heap[g]? = some (.cells #[v0, v1, v2, v3, v4, v5, v6, v7, v8] T (0, 0))) (u : Value) : (w.setCell ⟨g, 7, none⟩ u).heap[g]? = some (.cells #[v0, v1, v2, v3, v4, v5, v6, u, v8] T (0, 0)) := by
  have := heap_setCell_same w g 7 _ _ u h
  simpa using this
theorem heap_set8 {w : World} {g : Nat} {T : TypeId} {v0 v1 v2 v3 v4 v5 v6 v7 v8 : Value} (h : w.heap[g]? = some (.cells #[v0, v1, v2, v3, v4, v5, v6, v7, v8] T (0, 0))) (u : Value) : (w.setCell ⟨g, 8, none⟩ u).heap[g]? = some (.cells #[v0, v1, v2, v3, v4, v5, v6, v7, u] T (0, 0)) := by
  have := heap_setCell_same w g 8 _ _ u h
  simpa using this
theorem heap_set6 {w : World} {g : Nat} {T : TypeId} {v0 v1 v2 v3 v4 v5 v6 v7 v8 : Value} (h : w.heap[g]? = some (.cells #[v0, v1, v2, v3, v4, v5, v6, v7, v8] T (0, 0))) (u : Value) : (w.setCell ⟨g, 6, none⟩ u).heap[g]? = some (.cells #[v0, v1, v2, v3, v4, v5, u, v7, v8] T (0, 0)) := by
  have := heap_setCell_same w g 6 _ _ u h
  simpa using this

theorem iLast0 (B lo : Nat) (A : Option Addr) (c c' : Nat) (A' : Option Addr) (w : World) :
    Calls Tryz.prog 122 #[.slice A 0 c] w fun e w' => e = .returned (.tuple #[.pointer none, .slice none 0 0]) ∧ w' = w := by
  go_enter Tryz.func122, Tryz.ntmps122
  go_wp2
  go_ret2
  exact ⟨rfl, rfl⟩
set_option maxRecDepth 20000 in
set_option maxHeartbeats 3200000 in
theorem iLast (B : Nat) (A : Option Addr) (c : Nat) (hc : c ≤ 9223372036854775807) : ∀ (n : Nat) (w : World) (ns : List Nd), Nodes w B A n ns → B ≤ w.heap.size → n ≤ c → ShortN ns →
    Calls Tryz.prog 122 #[.slice A n c] w fun e w' => LastOut B w.heap.size (datN ns) A c e w' ∧ Below w.heap.size w w' := by
  intro n
  induction n using Nat.strongRecOn with
  | _ n ih =>
    intro w ns hi hB hnc hN
    rcases Nat.eq_zero_or_pos n with h0 | h0
    · subst h0
      obtain rfl : ns = [] := List.eq_nil_of_length_eq_zero hi.len
      clear ih hi
      go_enter Tryz.func122, Tryz.ntmps122
      go_wp2
      go_ret2
      exact ⟨.inr ⟨lastP_nil, rfl⟩, Below.refl _ _⟩
    · obtain ⟨m, rfl⟩ : ∃ m, n = m + 1 := ⟨n - 1, by omega⟩
      obtain ⟨b, off, ⟨op, t⟩, rfl, hb, hat, hwf, g0, g1, g2, g3, g4, g5⟩ := hi.at m (by omega)
      have HIH : Hid (∀ (k : Nat) (w : World) (ns : List Nd), k ≤ m → Nodes w B (some ⟨b, off, none⟩) k ns → B ≤ w.heap.size → ShortN ns → Calls Tryz.prog 122 #[.slice (some ⟨b, off, none⟩) k c] w fun e w' => LastOut B w.heap.size (datN ns) (some ⟨b, off, none⟩) c e w' ∧ Below w.heap.size w w') := Lib.hid fun k w ns h1 h2 h3 h4 => ih k (by omega) w ns h2 h3 (by omega) h4
      have HM : Hid (Nodes w B (some ⟨b, off, none⟩) m (ns.take m)) := Lib.hid (hi.take (by omega))
      have HN : Hid (ShortN (ns.take m)) := Lib.hid fun x hx => hN x (List.mem_of_mem_take hx)
      have HWi := Lib.hid hwf.2
      have hE : datN ns = datN (ns.take m) ++ [⟨op, t.dat⟩] := by
        have h := datN_at hat
        rwa [ptake_all hi.len] at h
      have hL : (datN (ns.take m)).length = m := by unfold datN; rw [List.length_map, List.length_take, hi.len]; omega
      have HE := Lib.hid hE
      have HL := Lib.hid hL
      have HSh : Hid t.Short := Lib.hid (hN _ (List.mem_of_getElem? hat))
      dsimp only at g0 g1 g2 g3 g4 g5
      have hx1 : (m : Int) + 1 - 1 = (m : Int) := by omega
      have hx3 : ((m : Int) + 1 == 0) = false := by simp; omega
      have hm1 : (m : Int) < (m : Int) + 1 := by omega
      have hm2 : (m : Int) ≤ (c : Int) := by omega
      clear ih hi hN hwf hE hL hat
      have HW1 : Hid (∀ o : Obj, Below w.heap.size w (w.alloc o).drew) := Lib.hid fun o => ((Below.refl _ w).alloc (Nat.le_refl _) _).drew
      have hvw : t.val = .agg #[.int .i64 t.kind, .int .i64 t.field, .int .i64 t.value, .slice t.LA t.Ln t.Lc, .slice t.PA t.Pn t.Pc] := rfl
      by_cases e0 : op = 0
      · subst e0
        obtain ⟨q, hq⟩ := bool_of (IsW t.dat)
        have HC : Hid (∀ w1, Below w.heap.size w w1 → w.heap.size + 1 ≤ w1.heap.size → Calls Tryz.prog 105 #[.agg #[.int .i64 t.kind, .int .i64 t.field, .int .i64 t.value, .slice t.LA t.Ln t.Lc, .slice t.PA t.Pn t.Pc]] w1 fun e w' => (∃ v, e = .returned (.tuple #[v, .bool q]) ∧ (q = true → TasteFrom w' (w.heap.size + 1) t v) ∧ IfV v) ∧ Below w1.heap.size w1 w') := Lib.hid fun w1 h h' => by
          rw [← hvw]
          exact (taste_ofV w1 B t (HWi.out.below (h.mono hB)) (Nat.le_trans hB h.size) HSh.out q hq).mono fun _ _ ⟨⟨v, h1, h2, h3⟩, h4⟩ => ⟨⟨v, h1, fun h => (h2 h).low h', h3⟩, h4⟩
        have HQ := Lib.hid hq
        clear hq hvw
        go_enter Tryz.func122, Tryz.ntmps122
        go_wp2
        go_region
        go_wp2_with fail
        refine (HC.out _ (HW1.out _) (by simp)).mono ?_
        rintro e w1 ⟨⟨v, rfl, hv, hif⟩, hb1⟩
        have hp : w1.heap[w.heap.size]? = some (.cells #[.int .i64 0, .int .i64 t.kind, .int .i64 t.field, .int .i64 t.value, .slice t.LA t.Ln t.Lc, .slice t.PA t.Pn t.Pc, .nilIface, .pointer none, .pointer none] 172 (0, 0)) := (hb1.block _ (by simp)).trans (heap_alloc_new w _)
        have HP := Lib.hid hp
        have HB := Lib.hid (below_on (HW1.out _) hb1)
        have HS := Lib.hid (Nat.lt_of_lt_of_le (by simp) hb1.size : w.heap.size < w1.heap.size)
        have HV := Lib.hid hv
        have c6 : w1.cell? ⟨w.heap.size, 6, none⟩ = some (.nilIface) := cell_of_row w1 _ 6 _ _ (0, 0) hp
        have z6 : w1.frozen? ⟨w.heap.size, 6, none⟩ = false := frozen_of_row w1 _ 6 _ _ hp
        clear hp hb1 hv HC
        cases q
        · have HLp : Hid (LastP (datN ns) none) := Lib.hid (by rw [HE.out]; exact (lastP_base rfl).2 fun h => by have := HQ.out.2 h; cases this)
          have HBB : Hid (∀ u, Below w.heap.size w (w1.setCell ⟨w.heap.size, 6, none⟩ u)) := Lib.hid fun u => HB.out.setCell (Nat.le_refl _) u
          rcases hif with rfl | ⟨T, x, rfl⟩
          · go_wp2
            go_ret2
            exact ⟨.inr ⟨HLp.out, rfl⟩, HBB.out _⟩
          · go_wp2
            go_ret2
            exact ⟨.inr ⟨HLp.out, rfl⟩, HBB.out _⟩
        · have HW := Lib.hid (HQ.out.1 rfl)
          have HLp : Hid (LastP (datN ns) (some (.base t.dat, m))) := Lib.hid (by rw [HE.out]; have h := (lastP_base (l := datN (ns.take m)) (nd := ⟨0, t.dat⟩) rfl).1 HW.out; rwa [HL.out] at h)
          have HBB : Hid (∀ u, Below w.heap.size w (w1.setCell ⟨w.heap.size, 6, none⟩ u)) := Lib.hid fun u => HB.out.setCell (Nat.le_refl _) u
          have HF : Hid (PartAt (w1.setCell ⟨w.heap.size, 6, none⟩ v) B w.heap.size (.base t.dat) w.heap.size) := Lib.hid (by
            have hp := heap_set6 HP.out v
            refine ⟨Nat.le_refl _, by have := HS.out; simpa using this, t, v, hp, rfl, HSh.out, HWi.out.below ((HBB.out v).mono hB), HW.out, ?_⟩
            rcases HV.out rfl with h | h | ⟨h, o, X, hX, e, a⟩
            · exact .inl h
            · exact .inr (.inl h)
            · refine .inr (.inr ⟨h, o, X, by omega, e, a.kept fun k h1 h2 => heap_setCell_other _ _ _ _ ?_⟩)
              show k ≠ w.heap.size
              omega)
          rcases hif with rfl | ⟨T, x, rfl⟩
          · go_wp2
            go_ret2
            exact ⟨.inl ⟨_, _, _, HLp.out, rfl, HF.out⟩, HBB.out _⟩
          · go_wp2
            go_ret2
            exact ⟨.inl ⟨_, _, _, HLp.out, rfl, HF.out⟩, HBB.out _⟩
      · by_cases e3 : op = 3
        · subst e3
          clear e0
          have hzw : zeroW.val = .agg #[.int .i64 0, .int .i64 0, .int .i64 0, .slice none 0 0, .slice none 0 0] := rfl
          obtain ⟨q, hq⟩ := bool_of (NoW t.dat)
          have HC : Hid (∀ w1, Below w.heap.size w w1 → Calls Tryz.prog 112 #[.agg #[.int .i64 t.kind, .int .i64 t.field, .int .i64 t.value, .slice t.LA t.Ln t.Lc, .slice t.PA t.Pn t.Pc], .agg #[.int .i64 0, .int .i64 0, .int .i64 0, .slice none 0 0, .slice none 0 0]] w1 fun e w' => e = .returned (.bool q) ∧ Below w1.heap.size w1 w') := Lib.hid fun w1 h => by
            rw [← hvw, ← hzw]
            exact iSameWish w1 B t zeroW (HWi.out.below (h.mono hB)) (zeroW_in _ _) (Nat.le_trans hB h.size) HSh.out q (by rw [hq, now_zero])
          have HQ := Lib.hid hq
          clear hq hvw hzw
          go_enter Tryz.func122, Tryz.ntmps122
          go_wp2
          go_region
          go_wp2_with fail
          refine (HIH.out m _ (ns.take m) (Nat.le_refl _) (HM.out.below ((HW1.out _).mono hB)) (Nat.le_trans hB (HW1.out _).size) HN.out).mono ?_
          rintro e w1 ⟨hout, hb1⟩
          have HPr : Hid (w1.heap[w.heap.size]? = some (.cells #[.int .i64 3, .int .i64 t.kind, .int .i64 t.field, .int .i64 t.value, .slice t.LA t.Ln t.Lc, .slice t.PA t.Pn t.Pc, .nilIface, .pointer none, .pointer none] 172 (0, 0))) := Lib.hid ((hb1.block _ (by simp)).trans (heap_alloc_new w _))
          have HBr := Lib.hid (below_on (HW1.out _) hb1)
          clear hb1
          rcases hout with ⟨ta, k, s, hl, rfl, hpa⟩ | ⟨hl, rfl⟩
          · have HLa := Lib.hid hl
            have HPa := Lib.hid hpa
            clear hl hpa
            have c0 : w1.cell? ⟨w.heap.size, 0, none⟩ = some (.int .i64 3) := cell_of_row w1 _ 0 _ _ (0, 0) HPr.out
            have c1 : w1.cell? ⟨w.heap.size, 1, none⟩ = some (.int .i64 t.kind) := cell_of_row w1 _ 1 _ _ (0, 0) HPr.out
            have c2 : w1.cell? ⟨w.heap.size, 2, none⟩ = some (.int .i64 t.field) := cell_of_row w1 _ 2 _ _ (0, 0) HPr.out
            have c3 : w1.cell? ⟨w.heap.size, 3, none⟩ = some (.int .i64 t.value) := cell_of_row w1 _ 3 _ _ (0, 0) HPr.out
            have c4 : w1.cell? ⟨w.heap.size, 4, none⟩ = some (.slice t.LA t.Ln t.Lc) := cell_of_row w1 _ 4 _ _ (0, 0) HPr.out
            have c5 : w1.cell? ⟨w.heap.size, 5, none⟩ = some (.slice t.PA t.Pn t.Pc) := cell_of_row w1 _ 5 _ _ (0, 0) HPr.out
            have c7 : w1.cell? ⟨w.heap.size, 7, none⟩ = some (.pointer none) := cell_of_row w1 _ 7 _ _ (0, 0) HPr.out
            have z7 : w1.frozen? ⟨w.heap.size, 7, none⟩ = false := frozen_of_row w1 _ 7 _ _ HPr.out
            have HB7 : Hid (∀ u, Below w.heap.size w (w1.setCell ⟨w.heap.size, 7, none⟩ u)) := Lib.hid fun u => HBr.out.setCell (Nat.le_refl _) u
            go_wp2_with fail
            refine (HC.out _ (HB7.out _)).mono ?_
            rintro e w9 ⟨rfl, hb9⟩
            have HB9 := Lib.hid (below_on (HB7.out _) hb9)
            have HD9 := Lib.hid hb9
            clear c0 c1 c2 c3 c4 c5 c7 z7
            clear hb9 HC
            cases q
            · have HLp : Hid (LastP (datN ns) none) := Lib.hid (by rw [HE.out]; exact lastP_now_no (by show (3 : Int) ≠ 0; decide) fun h => by have := HQ.out.2 h; cases this)
              go_wp2
              go_ret2
              exact ⟨.inr ⟨HLp.out, rfl⟩, HB9.out⟩
            · have HW := Lib.hid (HQ.out.1 rfl)
              have HLp : Hid (LastP (datN ns) (some (.dual ta, k))) := Lib.hid (by rw [HE.out]; exact lastP_dual rfl HW.out HLa.out)
              have HF : Hid (PartAt w9 B w.heap.size (.dual ta) w.heap.size) := Lib.hid (by
                have hp := heap_set7 HPr.out (.pointer (some ⟨s, 0, none⟩))
                have hlt := lt_of_block hp
                refine ⟨Nat.le_refl _, Nat.lt_of_lt_of_le hlt HD9.out.size, t, s, (HD9.out.block _ hlt).trans hp, HW.out, HSh.out, HWi.out.below (HB9.out.mono hB), ?_⟩
                exact ((HPa.out.set hB (by simp)).below (Nat.le_trans hB (HB7.out _).size) HD9.out).low (by simp))
              go_wp2
              go_ret2
              exact ⟨.inl ⟨_, _, _, HLp.out, rfl, HF.out⟩, HB9.out⟩
          · have HLa := Lib.hid hl
            clear hl
            have c7 : w1.cell? ⟨w.heap.size, 7, none⟩ = some (.pointer none) := cell_of_row w1 _ 7 _ _ (0, 0) HPr.out
            have z7 : w1.frozen? ⟨w.heap.size, 7, none⟩ = false := frozen_of_row w1 _ 7 _ _ HPr.out
            have HLp : Hid (LastP (datN ns) none) := Lib.hid (by rw [HE.out]; exact lastP_dual_no rfl HLa.out)
            have HB7 : Hid (∀ u, Below w.heap.size w (w1.setCell ⟨w.heap.size, 7, none⟩ u)) := Lib.hid fun u => HBr.out.setCell (Nat.le_refl _) u
            go_wp2
            go_ret2
            exact ⟨.inr ⟨HLp.out, rfl⟩, HB7.out _⟩
        · by_cases eb : op = 1 ∨ op = 2 ∨ op = 4
          · have HBin : Hid (Bin op) := Lib.hid eb
            rcases eb with rfl | rfl | rfl
            · have hzw : zeroW.val = .agg #[.int .i64 0, .int .i64 0, .int .i64 0, .slice none 0 0, .slice none 0 0] := rfl
              obtain ⟨q, hq⟩ := bool_of (NoW t.dat)
              have HC : Hid (∀ w1, Below w.heap.size w w1 → Calls Tryz.prog 112 #[.agg #[.int .i64 t.kind, .int .i64 t.field, .int .i64 t.value, .slice t.LA t.Ln t.Lc, .slice t.PA t.Pn t.Pc], .agg #[.int .i64 0, .int .i64 0, .int .i64 0, .slice none 0 0, .slice none 0 0]] w1 fun e w' => e = .returned (.bool q) ∧ Below w1.heap.size w1 w') := Lib.hid fun w1 h => by
                rw [← hvw, ← hzw]
                exact iSameWish w1 B t zeroW (HWi.out.below (h.mono hB)) (zeroW_in _ _) (Nat.le_trans hB h.size) HSh.out q (by rw [hq, now_zero])
              have HQ := Lib.hid hq
              clear hq hvw hzw
              go_enter Tryz.func122, Tryz.ntmps122
              go_wp2
              go_region
              go_wp2_with fail
              refine (HIH.out m _ (ns.take m) (Nat.le_refl _) (HM.out.below ((HW1.out _).mono hB)) (Nat.le_trans hB (HW1.out _).size) HN.out).mono ?_
              rintro e w1 ⟨hout, hb1⟩
              have HPr : Hid (w1.heap[w.heap.size]? = some (.cells #[.int .i64 1, .int .i64 t.kind, .int .i64 t.field, .int .i64 t.value, .slice t.LA t.Ln t.Lc, .slice t.PA t.Pn t.Pc, .nilIface, .pointer none, .pointer none] 172 (0, 0))) := Lib.hid ((hb1.block _ (by simp)).trans (heap_alloc_new w _))
              have HBr := Lib.hid (below_on (HW1.out _) hb1)
              clear hb1
              rcases hout with ⟨tb, k2, r, hl, rfl, hpb⟩ | ⟨hl, rfl⟩
              · have HLb := Lib.hid hl
                have HPb := Lib.hid hpb
                have hk2 : k2 ≤ m := by have := hl.lt; rw [HL.out] at this; omega
                clear hl hpb
                have c8 : w1.cell? ⟨w.heap.size, 8, none⟩ = some (.pointer none) := cell_of_row w1 _ 8 _ _ (0, 0) HPr.out
                have z8 : w1.frozen? ⟨w.heap.size, 8, none⟩ = false := frozen_of_row w1 _ 8 _ _ HPr.out
                have HP8 := Lib.hid (heap_set8 HPr.out (.pointer (some ⟨r, 0, none⟩)))
                have HB8 : Hid (∀ u, Below w.heap.size w (w1.setCell ⟨w.heap.size, 8, none⟩ u)) := Lib.hid fun u => HBr.out.setCell (Nat.le_refl _) u
                have HPb8 : Hid (∀ u, PartAt (w1.setCell ⟨w.heap.size, 8, none⟩ u) B (w.heap.size + 1) tb r) := Lib.hid fun u => by have := HPb.out.set (g := w.heap.size) (j := 8) (v := u) hB (by simp); simpa using this
                clear HPr HBr HPb
                go_wp2_with fail
                refine (HIH.out k2 _ ((ns.take m).take k2) hk2 ((HM.out.take hk2).below ((HB8.out _).mono hB)) (Nat.le_trans hB (HB8.out _).size) (fun x hx => HN.out x (List.mem_of_mem_take hx))).mono ?_
                rintro e w2 ⟨hout, hb2⟩
                have HPr : Hid (w2.heap[w.heap.size]? = some (.cells #[.int .i64 1, .int .i64 t.kind, .int .i64 t.field, .int .i64 t.value, .slice t.LA t.Ln t.Lc, .slice t.PA t.Pn t.Pc, .nilIface, .pointer none, .pointer (some ⟨r, 0, none⟩)] 172 (0, 0))) := Lib.hid ((hb2.block _ (lt_of_block HP8.out)).trans HP8.out)
                have HBr := Lib.hid (below_on (HB8.out _) hb2)
                have HPb2 : Hid (PartAt w2 B (w.heap.size + 1) tb r) := Lib.hid ((HPb8.out _).below (Nat.le_trans hB (HB8.out _).size) hb2)
                have hlo : w.heap.size + 1 ≤ (w1.setCell ⟨w.heap.size, 8, none⟩ (.pointer (some ⟨r, 0, none⟩))).heap.size := lt_of_block HP8.out
                have HLo := Lib.hid hlo
                have HTk : Hid (datN ((ns.take m).take k2) = (datN (ns.take m)).take k2) := Lib.hid (by unfold datN; rw [List.map_take])
                clear hb2 hlo HP8 HB8 HPb8
                clear c8 z8
                rcases hout with ⟨ta, k, s, hl, rfl, hpa⟩ | ⟨hl, rfl⟩
                · have HLa := Lib.hid hl
                  have HPa := Lib.hid (hpa.low HLo.out)
                  clear hl hpa
                  have c0 : w2.cell? ⟨w.heap.size, 0, none⟩ = some (.int .i64 1) := cell_of_row w2 _ 0 _ _ (0, 0) HPr.out
                  have c1 : w2.cell? ⟨w.heap.size, 1, none⟩ = some (.int .i64 t.kind) := cell_of_row w2 _ 1 _ _ (0, 0) HPr.out
                  have c2 : w2.cell? ⟨w.heap.size, 2, none⟩ = some (.int .i64 t.field) := cell_of_row w2 _ 2 _ _ (0, 0) HPr.out
                  have c3 : w2.cell? ⟨w.heap.size, 3, none⟩ = some (.int .i64 t.value) := cell_of_row w2 _ 3 _ _ (0, 0) HPr.out
                  have c4 : w2.cell? ⟨w.heap.size, 4, none⟩ = some (.slice t.LA t.Ln t.Lc) := cell_of_row w2 _ 4 _ _ (0, 0) HPr.out
                  have c5 : w2.cell? ⟨w.heap.size, 5, none⟩ = some (.slice t.PA t.Pn t.Pc) := cell_of_row w2 _ 5 _ _ (0, 0) HPr.out
                  have c7 : w2.cell? ⟨w.heap.size, 7, none⟩ = some (.pointer none) := cell_of_row w2 _ 7 _ _ (0, 0) HPr.out
                  have z7 : w2.frozen? ⟨w.heap.size, 7, none⟩ = false := frozen_of_row w2 _ 7 _ _ HPr.out
                  have HB7 : Hid (∀ u, Below w.heap.size w (w2.setCell ⟨w.heap.size, 7, none⟩ u)) := Lib.hid fun u => HBr.out.setCell (Nat.le_refl _) u
                  go_wp2_with fail
                  refine (HC.out _ (HB7.out _)).mono ?_
                  rintro e w9 ⟨rfl, hb9⟩
                  have HB9 := Lib.hid (below_on (HB7.out _) hb9)
                  have HD9 := Lib.hid hb9
                  clear c0 c1 c2 c3 c4 c5 c7 z7
                  clear hb9 HC
                  cases q
                  · have HLp : Hid (LastP (datN ns) none) := Lib.hid (by rw [HE.out]; exact lastP_now_no (by show (1 : Int) ≠ 0; decide) fun h => by have := HQ.out.2 h; cases this)
                    go_wp2
                    go_ret2
                    exact ⟨.inr ⟨HLp.out, rfl⟩, HB9.out⟩
                  · have HW := Lib.hid (HQ.out.1 rfl)
                    have HLp : Hid (LastP (datN ns) (some (.bin 1 ta tb, k))) := Lib.hid (by rw [HE.out]; exact lastP_bin HBin.out HW.out HLb.out (HTk.out ▸ HLa.out))
                    have HF : Hid (PartAt w9 B w.heap.size (.bin 1 ta tb) w.heap.size) := Lib.hid (by
                      have hp := heap_set7 HPr.out (.pointer (some ⟨s, 0, none⟩))
                      have hlt := lt_of_block hp
                      refine ⟨Nat.le_refl _, Nat.lt_of_lt_of_le hlt HD9.out.size, HBin.out, t, s, r, (HD9.out.block _ hlt).trans hp, HW.out, HSh.out, HWi.out.below (HB9.out.mono hB), ?_, ?_⟩
                      · exact ((HPa.out.set hB (by omega)).below (Nat.le_trans hB (HB7.out _).size) HD9.out).low (by omega)
                      · exact ((HPb2.out.set hB (by omega)).below (Nat.le_trans hB (HB7.out _).size) HD9.out).low (by omega))
                    go_wp2
                    go_ret2
                    exact ⟨.inl ⟨_, _, _, HLp.out, rfl, HF.out⟩, HB9.out⟩
                · have HLa := Lib.hid hl
                  clear hl
                  have c7 : w2.cell? ⟨w.heap.size, 7, none⟩ = some (.pointer none) := cell_of_row w2 _ 7 _ _ (0, 0) HPr.out
                  have z7 : w2.frozen? ⟨w.heap.size, 7, none⟩ = false := frozen_of_row w2 _ 7 _ _ HPr.out
                  have HLp : Hid (LastP (datN ns) none) := Lib.hid (by rw [HE.out]; exact lastP_bin_no1 HBin.out HLb.out (HTk.out ▸ HLa.out))
                  have HB7 : Hid (∀ u, Below w.heap.size w (w2.setCell ⟨w.heap.size, 7, none⟩ u)) := Lib.hid fun u => HBr.out.setCell (Nat.le_refl _) u
                  go_wp2
                  go_ret2
                  exact ⟨.inr ⟨HLp.out, rfl⟩, HB7.out _⟩
              · have HLa := Lib.hid hl
                clear hl
                have c8 : w1.cell? ⟨w.heap.size, 8, none⟩ = some (.pointer none) := cell_of_row w1 _ 8 _ _ (0, 0) HPr.out
                have z8 : w1.frozen? ⟨w.heap.size, 8, none⟩ = false := frozen_of_row w1 _ 8 _ _ HPr.out
                have HP8 := Lib.hid (heap_set8 HPr.out (.pointer none))
                have HB8 : Hid (∀ u, Below w.heap.size w (w1.setCell ⟨w.heap.size, 8, none⟩ u)) := Lib.hid fun u => HBr.out.setCell (Nat.le_refl _) u
                clear HPr HBr
                go_wp2_with fail
                refine (iLast0 B 0 none 0 0 none _).mono ?_
                rintro e w2 ⟨rfl, hw2⟩
                have HPr : Hid (w2.heap[w.heap.size]? = some (.cells #[.int .i64 1, .int .i64 t.kind, .int .i64 t.field, .int .i64 t.value, .slice t.LA t.Ln t.Lc, .slice t.PA t.Pn t.Pc, .nilIface, .pointer none, .pointer none] 172 (0, 0))) := Lib.hid (by rw [hw2]; exact HP8.out)
                have HBr : Hid (Below w.heap.size w w2) := Lib.hid (by rw [hw2]; exact HB8.out _)
                clear hw2 HP8 HB8
                clear c8 z8
                have c7 : w2.cell? ⟨w.heap.size, 7, none⟩ = some (.pointer none) := cell_of_row w2 _ 7 _ _ (0, 0) HPr.out
                have z7 : w2.frozen? ⟨w.heap.size, 7, none⟩ = false := frozen_of_row w2 _ 7 _ _ HPr.out
                have HLp : Hid (LastP (datN ns) none) := Lib.hid (by rw [HE.out]; exact lastP_bin_no2 HBin.out HLa.out)
                have HB7 : Hid (∀ u, Below w.heap.size w (w2.setCell ⟨w.heap.size, 7, none⟩ u)) := Lib.hid fun u => HBr.out.setCell (Nat.le_refl _) u
                go_wp2
                go_ret2
                exact ⟨.inr ⟨HLp.out, rfl⟩, HB7.out _⟩
            · have hzw : zeroW.val = .agg #[.int .i64 0, .int .i64 0, .int .i64 0, .slice none 0 0, .slice none 0 0] := rfl
              obtain ⟨q, hq⟩ := bool_of (NoW t.dat)
              have HC : Hid (∀ w1, Below w.heap.size w w1 → Calls Tryz.prog 112 #[.agg #[.int .i64 t.kind, .int .i64 t.field, .int .i64 t.value, .slice t.LA t.Ln t.Lc, .slice t.PA t.Pn t.Pc], .agg #[.int .i64 0, .int .i64 0, .int .i64 0, .slice none 0 0, .slice none 0 0]] w1 fun e w' => e = .returned (.bool q) ∧ Below w1.heap.size w1 w') := Lib.hid fun w1 h => by
                rw [← hvw, ← hzw]
                exact iSameWish w1 B t zeroW (HWi.out.below (h.mono hB)) (zeroW_in _ _) (Nat.le_trans hB h.size) HSh.out q (by rw [hq, now_zero])
              have HQ := Lib.hid hq
              clear hq hvw hzw
              go_enter Tryz.func122, Tryz.ntmps122
              go_wp2
              go_region
              go_wp2_with fail
              refine (HIH.out m _ (ns.take m) (Nat.le_refl _) (HM.out.below ((HW1.out _).mono hB)) (Nat.le_trans hB (HW1.out _).size) HN.out).mono ?_
              rintro e w1 ⟨hout, hb1⟩
              have HPr : Hid (w1.heap[w.heap.size]? = some (.cells #[.int .i64 2, .int .i64 t.kind, .int .i64 t.field, .int .i64 t.value, .slice t.LA t.Ln t.Lc, .slice t.PA t.Pn t.Pc, .nilIface, .pointer none, .pointer none] 172 (0, 0))) := Lib.hid ((hb1.block _ (by simp)).trans (heap_alloc_new w _))
              have HBr := Lib.hid (below_on (HW1.out _) hb1)
              clear hb1
              rcases hout with ⟨tb, k2, r, hl, rfl, hpb⟩ | ⟨hl, rfl⟩
              · have HLb := Lib.hid hl
                have HPb := Lib.hid hpb
                have hk2 : k2 ≤ m := by have := hl.lt; rw [HL.out] at this; omega
                clear hl hpb
                have c8 : w1.cell? ⟨w.heap.size, 8, none⟩ = some (.pointer none) := cell_of_row w1 _ 8 _ _ (0, 0) HPr.out
                have z8 : w1.frozen? ⟨w.heap.size, 8, none⟩ = false := frozen_of_row w1 _ 8 _ _ HPr.out
                have HP8 := Lib.hid (heap_set8 HPr.out (.pointer (some ⟨r, 0, none⟩)))
                have HB8 : Hid (∀ u, Below w.heap.size w (w1.setCell ⟨w.heap.size, 8, none⟩ u)) := Lib.hid fun u => HBr.out.setCell (Nat.le_refl _) u
                have HPb8 : Hid (∀ u, PartAt (w1.setCell ⟨w.heap.size, 8, none⟩ u) B (w.heap.size + 1) tb r) := Lib.hid fun u => by have := HPb.out.set (g := w.heap.size) (j := 8) (v := u) hB (by simp); simpa using this
                clear HPr HBr HPb
                go_wp2_with fail
                refine (HIH.out k2 _ ((ns.take m).take k2) hk2 ((HM.out.take hk2).below ((HB8.out _).mono hB)) (Nat.le_trans hB (HB8.out _).size) (fun x hx => HN.out x (List.mem_of_mem_take hx))).mono ?_
                rintro e w2 ⟨hout, hb2⟩
                have HPr : Hid (w2.heap[w.heap.size]? = some (.cells #[.int .i64 2, .int .i64 t.kind, .int .i64 t.field, .int .i64 t.value, .slice t.LA t.Ln t.Lc, .slice t.PA t.Pn t.Pc, .nilIface, .pointer none, .pointer (some ⟨r, 0, none⟩)] 172 (0, 0))) := Lib.hid ((hb2.block _ (lt_of_block HP8.out)).trans HP8.out)
                have HBr := Lib.hid (below_on (HB8.out _) hb2)
                have HPb2 : Hid (PartAt w2 B (w.heap.size + 1) tb r) := Lib.hid ((HPb8.out _).below (Nat.le_trans hB (HB8.out _).size) hb2)
                have hlo : w.heap.size + 1 ≤ (w1.setCell ⟨w.heap.size, 8, none⟩ (.pointer (some ⟨r, 0, none⟩))).heap.size := lt_of_block HP8.out
                have HLo := Lib.hid hlo
                have HTk : Hid (datN ((ns.take m).take k2) = (datN (ns.take m)).take k2) := Lib.hid (by unfold datN; rw [List.map_take])
                clear hb2 hlo HP8 HB8 HPb8
                clear c8 z8
                rcases hout with ⟨ta, k, s, hl, rfl, hpa⟩ | ⟨hl, rfl⟩
                · have HLa := Lib.hid hl
                  have HPa := Lib.hid (hpa.low HLo.out)
                  clear hl hpa
                  have c0 : w2.cell? ⟨w.heap.size, 0, none⟩ = some (.int .i64 2) := cell_of_row w2 _ 0 _ _ (0, 0) HPr.out
                  have c1 : w2.cell? ⟨w.heap.size, 1, none⟩ = some (.int .i64 t.kind) := cell_of_row w2 _ 1 _ _ (0, 0) HPr.out
                  have c2 : w2.cell? ⟨w.heap.size, 2, none⟩ = some (.int .i64 t.field) := cell_of_row w2 _ 2 _ _ (0, 0) HPr.out
                  have c3 : w2.cell? ⟨w.heap.size, 3, none⟩ = some (.int .i64 t.value) := cell_of_row w2 _ 3 _ _ (0, 0) HPr.out
                  have c4 : w2.cell? ⟨w.heap.size, 4, none⟩ = some (.slice t.LA t.Ln t.Lc) := cell_of_row w2 _ 4 _ _ (0, 0) HPr.out
                  have c5 : w2.cell? ⟨w.heap.size, 5, none⟩ = some (.slice t.PA t.Pn t.Pc) := cell_of_row w2 _ 5 _ _ (0, 0) HPr.out
                  have c7 : w2.cell? ⟨w.heap.size, 7, none⟩ = some (.pointer none) := cell_of_row w2 _ 7 _ _ (0, 0) HPr.out
                  have z7 : w2.frozen? ⟨w.heap.size, 7, none⟩ = false := frozen_of_row w2 _ 7 _ _ HPr.out
                  have HB7 : Hid (∀ u, Below w.heap.size w (w2.setCell ⟨w.heap.size, 7, none⟩ u)) := Lib.hid fun u => HBr.out.setCell (Nat.le_refl _) u
                  go_wp2_with fail
                  refine (HC.out _ (HB7.out _)).mono ?_
                  rintro e w9 ⟨rfl, hb9⟩
                  have HB9 := Lib.hid (below_on (HB7.out _) hb9)
                  have HD9 := Lib.hid hb9
                  clear c0 c1 c2 c3 c4 c5 c7 z7
                  clear hb9 HC
                  cases q
                  · have HLp : Hid (LastP (datN ns) none) := Lib.hid (by rw [HE.out]; exact lastP_now_no (by show (2 : Int) ≠ 0; decide) fun h => by have := HQ.out.2 h; cases this)
                    go_wp2
                    go_ret2
                    exact ⟨.inr ⟨HLp.out, rfl⟩, HB9.out⟩
                  · have HW := Lib.hid (HQ.out.1 rfl)
                    have HLp : Hid (LastP (datN ns) (some (.bin 2 ta tb, k))) := Lib.hid (by rw [HE.out]; exact lastP_bin HBin.out HW.out HLb.out (HTk.out ▸ HLa.out))
                    have HF : Hid (PartAt w9 B w.heap.size (.bin 2 ta tb) w.heap.size) := Lib.hid (by
                      have hp := heap_set7 HPr.out (.pointer (some ⟨s, 0, none⟩))
                      have hlt := lt_of_block hp
                      refine ⟨Nat.le_refl _, Nat.lt_of_lt_of_le hlt HD9.out.size, HBin.out, t, s, r, (HD9.out.block _ hlt).trans hp, HW.out, HSh.out, HWi.out.below (HB9.out.mono hB), ?_, ?_⟩
                      · exact ((HPa.out.set hB (by omega)).below (Nat.le_trans hB (HB7.out _).size) HD9.out).low (by omega)
                      · exact ((HPb2.out.set hB (by omega)).below (Nat.le_trans hB (HB7.out _).size) HD9.out).low (by omega))
                    go_wp2
                    go_ret2
                    exact ⟨.inl ⟨_, _, _, HLp.out, rfl, HF.out⟩, HB9.out⟩
                · have HLa := Lib.hid hl
                  clear hl
                  have c7 : w2.cell? ⟨w.heap.size, 7, none⟩ = some (.pointer none) := cell_of_row w2 _ 7 _ _ (0, 0) HPr.out
                  have z7 : w2.frozen? ⟨w.heap.size, 7, none⟩ = false := frozen_of_row w2 _ 7 _ _ HPr.out
                  have HLp : Hid (LastP (datN ns) none) := Lib.hid (by rw [HE.out]; exact lastP_bin_no1 HBin.out HLb.out (HTk.out ▸ HLa.out))
                  have HB7 : Hid (∀ u, Below w.heap.size w (w2.setCell ⟨w.heap.size, 7, none⟩ u)) := Lib.hid fun u => HBr.out.setCell (Nat.le_refl _) u
                  go_wp2
                  go_ret2
                  exact ⟨.inr ⟨HLp.out, rfl⟩, HB7.out _⟩
              · have HLa := Lib.hid hl
                clear hl
                have c8 : w1.cell? ⟨w.heap.size, 8, none⟩ = some (.pointer none) := cell_of_row w1 _ 8 _ _ (0, 0) HPr.out
                have z8 : w1.frozen? ⟨w.heap.size, 8, none⟩ = false := frozen_of_row w1 _ 8 _ _ HPr.out
                have HP8 := Lib.hid (heap_set8 HPr.out (.pointer none))
                have HB8 : Hid (∀ u, Below w.heap.size w (w1.setCell ⟨w.heap.size, 8, none⟩ u)) := Lib.hid fun u => HBr.out.setCell (Nat.le_refl _) u
                clear HPr HBr
                go_wp2_with fail
                refine (iLast0 B 0 none 0 0 none _).mono ?_
                rintro e w2 ⟨rfl, hw2⟩
                have HPr : Hid (w2.heap[w.heap.size]? = some (.cells #[.int .i64 2, .int .i64 t.kind, .int .i64 t.field, .int .i64 t.value, .slice t.LA t.Ln t.Lc, .slice t.PA t.Pn t.Pc, .nilIface, .pointer none, .pointer none] 172 (0, 0))) := Lib.hid (by rw [hw2]; exact HP8.out)
                have HBr : Hid (Below w.heap.size w w2) := Lib.hid (by rw [hw2]; exact HB8.out _)
                clear hw2 HP8 HB8
                clear c8 z8
                have c7 : w2.cell? ⟨w.heap.size, 7, none⟩ = some (.pointer none) := cell_of_row w2 _ 7 _ _ (0, 0) HPr.out
                have z7 : w2.frozen? ⟨w.heap.size, 7, none⟩ = false := frozen_of_row w2 _ 7 _ _ HPr.out
                have HLp : Hid (LastP (datN ns) none) := Lib.hid (by rw [HE.out]; exact lastP_bin_no2 HBin.out HLa.out)
                have HB7 : Hid (∀ u, Below w.heap.size w (w2.setCell ⟨w.heap.size, 7, none⟩ u)) := Lib.hid fun u => HBr.out.setCell (Nat.le_refl _) u
                go_wp2
                go_ret2
                exact ⟨.inr ⟨HLp.out, rfl⟩, HB7.out _⟩
            · have hzw : zeroW.val = .agg #[.int .i64 0, .int .i64 0, .int .i64 0, .slice none 0 0, .slice none 0 0] := rfl
              obtain ⟨q, hq⟩ := bool_of (NoW t.dat)
              have HC : Hid (∀ w1, Below w.heap.size w w1 → Calls Tryz.prog 112 #[.agg #[.int .i64 t.kind, .int .i64 t.field, .int .i64 t.value, .slice t.LA t.Ln t.Lc, .slice t.PA t.Pn t.Pc], .agg #[.int .i64 0, .int .i64 0, .int .i64 0, .slice none 0 0, .slice none 0 0]] w1 fun e w' => e = .returned (.bool q) ∧ Below w1.heap.size w1 w') := Lib.hid fun w1 h => by
                rw [← hvw, ← hzw]
                exact iSameWish w1 B t zeroW (HWi.out.below (h.mono hB)) (zeroW_in _ _) (Nat.le_trans hB h.size) HSh.out q (by rw [hq, now_zero])
              have HQ := Lib.hid hq
              clear hq hvw hzw
              go_enter Tryz.func122, Tryz.ntmps122
              go_wp2
              go_region
              go_wp2_with fail
              refine (HIH.out m _ (ns.take m) (Nat.le_refl _) (HM.out.below ((HW1.out _).mono hB)) (Nat.le_trans hB (HW1.out _).size) HN.out).mono ?_
              rintro e w1 ⟨hout, hb1⟩
              have HPr : Hid (w1.heap[w.heap.size]? = some (.cells #[.int .i64 4, .int .i64 t.kind, .int .i64 t.field, .int .i64 t.value, .slice t.LA t.Ln t.Lc, .slice t.PA t.Pn t.Pc, .nilIface, .pointer none, .pointer none] 172 (0, 0))) := Lib.hid ((hb1.block _ (by simp)).trans (heap_alloc_new w _))
              have HBr := Lib.hid (below_on (HW1.out _) hb1)
              clear hb1
              rcases hout with ⟨tb, k2, r, hl, rfl, hpb⟩ | ⟨hl, rfl⟩
              · have HLb := Lib.hid hl
                have HPb := Lib.hid hpb
                have hk2 : k2 ≤ m := by have := hl.lt; rw [HL.out] at this; omega
                clear hl hpb
                have c8 : w1.cell? ⟨w.heap.size, 8, none⟩ = some (.pointer none) := cell_of_row w1 _ 8 _ _ (0, 0) HPr.out
                have z8 : w1.frozen? ⟨w.heap.size, 8, none⟩ = false := frozen_of_row w1 _ 8 _ _ HPr.out
                have HP8 := Lib.hid (heap_set8 HPr.out (.pointer (some ⟨r, 0, none⟩)))
                have HB8 : Hid (∀ u, Below w.heap.size w (w1.setCell ⟨w.heap.size, 8, none⟩ u)) := Lib.hid fun u => HBr.out.setCell (Nat.le_refl _) u
                have HPb8 : Hid (∀ u, PartAt (w1.setCell ⟨w.heap.size, 8, none⟩ u) B (w.heap.size + 1) tb r) := Lib.hid fun u => by have := HPb.out.set (g := w.heap.size) (j := 8) (v := u) hB (by simp); simpa using this
                clear HPr HBr HPb
                go_wp2_with fail
                refine (HIH.out k2 _ ((ns.take m).take k2) hk2 ((HM.out.take hk2).below ((HB8.out _).mono hB)) (Nat.le_trans hB (HB8.out _).size) (fun x hx => HN.out x (List.mem_of_mem_take hx))).mono ?_
                rintro e w2 ⟨hout, hb2⟩
                have HPr : Hid (w2.heap[w.heap.size]? = some (.cells #[.int .i64 4, .int .i64 t.kind, .int .i64 t.field, .int .i64 t.value, .slice t.LA t.Ln t.Lc, .slice t.PA t.Pn t.Pc, .nilIface, .pointer none, .pointer (some ⟨r, 0, none⟩)] 172 (0, 0))) := Lib.hid ((hb2.block _ (lt_of_block HP8.out)).trans HP8.out)
                have HBr := Lib.hid (below_on (HB8.out _) hb2)
                have HPb2 : Hid (PartAt w2 B (w.heap.size + 1) tb r) := Lib.hid ((HPb8.out _).below (Nat.le_trans hB (HB8.out _).size) hb2)
                have hlo : w.heap.size + 1 ≤ (w1.setCell ⟨w.heap.size, 8, none⟩ (.pointer (some ⟨r, 0, none⟩))).heap.size := lt_of_block HP8.out
                have HLo := Lib.hid hlo
                have HTk : Hid (datN ((ns.take m).take k2) = (datN (ns.take m)).take k2) := Lib.hid (by unfold datN; rw [List.map_take])
                clear hb2 hlo HP8 HB8 HPb8
                clear c8 z8
                rcases hout with ⟨ta, k, s, hl, rfl, hpa⟩ | ⟨hl, rfl⟩
                · have HLa := Lib.hid hl
                  have HPa := Lib.hid (hpa.low HLo.out)
                  clear hl hpa
                  have c0 : w2.cell? ⟨w.heap.size, 0, none⟩ = some (.int .i64 4) := cell_of_row w2 _ 0 _ _ (0, 0) HPr.out
                  have c1 : w2.cell? ⟨w.heap.size, 1, none⟩ = some (.int .i64 t.kind) := cell_of_row w2 _ 1 _ _ (0, 0) HPr.out
                  have c2 : w2.cell? ⟨w.heap.size, 2, none⟩ = some (.int .i64 t.field) := cell_of_row w2 _ 2 _ _ (0, 0) HPr.out
                  have c3 : w2.cell? ⟨w.heap.size, 3, none⟩ = some (.int .i64 t.value) := cell_of_row w2 _ 3 _ _ (0, 0) HPr.out
                  have c4 : w2.cell? ⟨w.heap.size, 4, none⟩ = some (.slice t.LA t.Ln t.Lc) := cell_of_row w2 _ 4 _ _ (0, 0) HPr.out
                  have c5 : w2.cell? ⟨w.heap.size, 5, none⟩ = some (.slice t.PA t.Pn t.Pc) := cell_of_row w2 _ 5 _ _ (0, 0) HPr.out
                  have c7 : w2.cell? ⟨w.heap.size, 7, none⟩ = some (.pointer none) := cell_of_row w2 _ 7 _ _ (0, 0) HPr.out
                  have z7 : w2.frozen? ⟨w.heap.size, 7, none⟩ = false := frozen_of_row w2 _ 7 _ _ HPr.out
                  have HB7 : Hid (∀ u, Below w.heap.size w (w2.setCell ⟨w.heap.size, 7, none⟩ u)) := Lib.hid fun u => HBr.out.setCell (Nat.le_refl _) u
                  go_wp2_with fail
                  refine (HC.out _ (HB7.out _)).mono ?_
                  rintro e w9 ⟨rfl, hb9⟩
                  have HB9 := Lib.hid (below_on (HB7.out _) hb9)
                  have HD9 := Lib.hid hb9
                  clear c0 c1 c2 c3 c4 c5 c7 z7
                  clear hb9 HC
                  cases q
                  · have HLp : Hid (LastP (datN ns) none) := Lib.hid (by rw [HE.out]; exact lastP_now_no (by show (4 : Int) ≠ 0; decide) fun h => by have := HQ.out.2 h; cases this)
                    go_wp2
                    go_ret2
                    exact ⟨.inr ⟨HLp.out, rfl⟩, HB9.out⟩
                  · have HW := Lib.hid (HQ.out.1 rfl)
                    have HLp : Hid (LastP (datN ns) (some (.bin 4 ta tb, k))) := Lib.hid (by rw [HE.out]; exact lastP_bin HBin.out HW.out HLb.out (HTk.out ▸ HLa.out))
                    have HF : Hid (PartAt w9 B w.heap.size (.bin 4 ta tb) w.heap.size) := Lib.hid (by
                      have hp := heap_set7 HPr.out (.pointer (some ⟨s, 0, none⟩))
                      have hlt := lt_of_block hp
                      refine ⟨Nat.le_refl _, Nat.lt_of_lt_of_le hlt HD9.out.size, HBin.out, t, s, r, (HD9.out.block _ hlt).trans hp, HW.out, HSh.out, HWi.out.below (HB9.out.mono hB), ?_, ?_⟩
                      · exact ((HPa.out.set hB (by omega)).below (Nat.le_trans hB (HB7.out _).size) HD9.out).low (by omega)
                      · exact ((HPb2.out.set hB (by omega)).below (Nat.le_trans hB (HB7.out _).size) HD9.out).low (by omega))
                    go_wp2
                    go_ret2
                    exact ⟨.inl ⟨_, _, _, HLp.out, rfl, HF.out⟩, HB9.out⟩
                · have HLa := Lib.hid hl
                  clear hl
                  have c7 : w2.cell? ⟨w.heap.size, 7, none⟩ = some (.pointer none) := cell_of_row w2 _ 7 _ _ (0, 0) HPr.out
                  have z7 : w2.frozen? ⟨w.heap.size, 7, none⟩ = false := frozen_of_row w2 _ 7 _ _ HPr.out
                  have HLp : Hid (LastP (datN ns) none) := Lib.hid (by rw [HE.out]; exact lastP_bin_no1 HBin.out HLb.out (HTk.out ▸ HLa.out))
                  have HB7 : Hid (∀ u, Below w.heap.size w (w2.setCell ⟨w.heap.size, 7, none⟩ u)) := Lib.hid fun u => HBr.out.setCell (Nat.le_refl _) u
                  go_wp2
                  go_ret2
                  exact ⟨.inr ⟨HLp.out, rfl⟩, HB7.out _⟩
              · have HLa := Lib.hid hl
                clear hl
                have c8 : w1.cell? ⟨w.heap.size, 8, none⟩ = some (.pointer none) := cell_of_row w1 _ 8 _ _ (0, 0) HPr.out
                have z8 : w1.frozen? ⟨w.heap.size, 8, none⟩ = false := frozen_of_row w1 _ 8 _ _ HPr.out
                have HP8 := Lib.hid (heap_set8 HPr.out (.pointer none))
                have HB8 : Hid (∀ u, Below w.heap.size w (w1.setCell ⟨w.heap.size, 8, none⟩ u)) := Lib.hid fun u => HBr.out.setCell (Nat.le_refl _) u
                clear HPr HBr
                go_wp2_with fail
                refine (iLast0 B 0 none 0 0 none _).mono ?_
                rintro e w2 ⟨rfl, hw2⟩
                have HPr : Hid (w2.heap[w.heap.size]? = some (.cells #[.int .i64 4, .int .i64 t.kind, .int .i64 t.field, .int .i64 t.value, .slice t.LA t.Ln t.Lc, .slice t.PA t.Pn t.Pc, .nilIface, .pointer none, .pointer none] 172 (0, 0))) := Lib.hid (by rw [hw2]; exact HP8.out)
                have HBr : Hid (Below w.heap.size w w2) := Lib.hid (by rw [hw2]; exact HB8.out _)
                clear hw2 HP8 HB8
                clear c8 z8
                have c7 : w2.cell? ⟨w.heap.size, 7, none⟩ = some (.pointer none) := cell_of_row w2 _ 7 _ _ (0, 0) HPr.out
                have z7 : w2.frozen? ⟨w.heap.size, 7, none⟩ = false := frozen_of_row w2 _ 7 _ _ HPr.out
                have HLp : Hid (LastP (datN ns) none) := Lib.hid (by rw [HE.out]; exact lastP_bin_no2 HBin.out HLa.out)
                have HB7 : Hid (∀ u, Below w.heap.size w (w2.setCell ⟨w.heap.size, 7, none⟩ u)) := Lib.hid fun u => HBr.out.setCell (Nat.le_refl _) u
                go_wp2
                go_ret2
                exact ⟨.inr ⟨HLp.out, rfl⟩, HB7.out _⟩
          · have hnb : ¬ Bin op := eb
            have f0 : (op == 0) = false := by simpa using e0
            have f3 : (op == 3) = false := by simpa using e3
            have f1 : (op == 1) = false := by
              have : op ≠ 1 := fun h => eb (.inl h)
              simpa using this
            have f2 : (op == 2) = false := by
              have : op ≠ 2 := fun h => eb (.inr (.inl h))
              simpa using this
            have f4 : (op == 4) = false := by
              have : op ≠ 4 := fun h => eb (.inr (.inr h))
              simpa using this
            have HLp : Hid (LastP (datN ns) none) := Lib.hid (by rw [HE.out]; exact lastP_odd e0 e3 hnb)
            clear hnb e0 e3 eb hvw
            go_enter Tryz.func122, Tryz.ntmps122
            go_wp2
            go_region
            go_wp2
            go_ret2
            exact ⟨.inr ⟨HLp.out, rfl⟩, HW1.out _⟩
end Go.Proofs.YtadjoiahllekdaaGreatDoor.num
namespace Go.Proofs.YtadjoiahllekdaaGreatDoor.num
set_option maxRecDepth 20000
open Go.RowKit Go.Maps
set_option linter.unusedVariables false
set_option linter.unusedSimpArgs false

def TreeOut (B lo : Nat) (nds : List ND) (e : Ending) (w' : World) : Prop :=
  (IsE nds ∧ ∃ t p, Post nds t ∧ e = .returned (.pointer (some ⟨p, 0, none⟩)) ∧ PartAt w' B lo t p) ∨ (¬ IsE nds ∧ e = .returned (.pointer none))
set_option maxRecDepth 20000 in
theorem iTreeOfW (w : World) (B : Nat) (A : Option Addr) (n c : Nat) (ns : List Nd) (hi : Nodes w B A n ns) (hB : B ≤ w.heap.size) (hnc : n ≤ c) (hc : c ≤ 9223372036854775807) (hN : ShortN ns) :
    Calls Tryz.prog 83 #[.slice A n c] w fun e w' => TreeOut B w.heap.size (datN ns) e w' ∧ Below w.heap.size w w' := by
  have HL : Hid ((datN ns).length = n) := Lib.hid (by unfold datN; rw [List.length_map, hi.len])
  have HC := Lib.hid (iLast B A c hc n w ns hi hB hnc hN)
  clear hi hN
  by_cases h9 : n ≤ 9
  · go_enter Tryz.func83, Tryz.ntmps83
    go_wp2_with fail
    refine HC.out.mono ?_
    rintro e w1 ⟨hout, hb1⟩
    have HB := Lib.hid hb1
    clear hb1 HC
    rcases hout with ⟨t, k, p, hl, rfl, hpa⟩ | ⟨hl, rfl⟩
    · have HLp := Lib.hid hl
      have HP := Lib.hid hpa
      have hkn : k ≤ 9223372036854775807 := by have := hl.lt; rw [HL.out] at this; omega
      clear hl hpa
      by_cases hk : k = 0
      · subst hk
        go_wp2
        go_ret
        refine ⟨.inl ⟨(isE_last HLp.out).2 ⟨by rw [HL.out]; exact h9, rfl⟩, t, p, ?_, rfl, HP.out⟩, HB.out⟩
        have := HLp.out
        simpa [LastP] using this
      · have hk' : 0 < k := by omega
        have hd : decide ((k : Int) > 0) = true := by simp; omega
        go_wp2
        go_ret
        exact ⟨.inr ⟨fun h => by have := ((isE_last HLp.out).1 h).2; omega, rfl⟩, HB.out⟩
    · have HLp := Lib.hid hl
      clear hl
      go_wp2
      go_ret
      exact ⟨.inr ⟨isE_none HLp.out, rfl⟩, HB.out⟩
  · have hd : decide ((n : Int) > 9) = true := by simp; omega
    have hgt : (9 : Int) < (n : Int) := by omega
    go_enter Tryz.func83, Tryz.ntmps83
    go_wp2
    go_ret
    exact ⟨.inr ⟨fun h => by have := h.1; rw [HL.out] at this; omega, rfl⟩, Below.refl _ _⟩
set_option maxRecDepth 20000 in
theorem iIsEW (w : World) (B : Nat) (A : Option Addr) (n c : Nat) (ns : List Nd) (hi : Nodes w B A n ns) (hB : B ≤ w.heap.size) (hnc : n ≤ c) (hc : c ≤ 9223372036854775807) (hN : ShortN ns) (b : Bool) (hb : b = true ↔ IsE (datN ns)) :
    Calls Tryz.prog 33 #[.slice A n c] w fun e w' => e = .returned (.bool b) ∧ Below w.heap.size w w' := by
  have HC := Lib.hid (iTreeOfW w B A n c ns hi hB hnc hc hN)
  have HBo := Lib.hid hb
  clear hi hN hb
  go_enter Tryz.func33, Tryz.ntmps33
  go_wp2_with fail
  refine HC.out.mono ?_
  rintro e w1 ⟨hout, hb1⟩
  have HB := Lib.hid hb1
  clear hb1 HC
  rcases hout with ⟨hE, t, p, _, rfl, _⟩ | ⟨hE, rfl⟩
  · obtain rfl : b = true := HBo.out.2 hE
    go_wp2
    go_ret
    exact ⟨rfl, HB.out⟩
  · obtain rfl : b = false := by
      cases b
      · rfl
      · exact absurd (HBo.out.1 rfl) hE
    go_wp2
    go_ret
    exact ⟨rfl, HB.out⟩
end Go.Proofs.YtadjoiahllekdaaGreatDoor.num
namespace Go.Proofs.YtadjoiahllekdaaGreatDoor.num
set_option maxRecDepth 20000
set_option linter.unusedVariables false

/-- Two expressions and an operator behind them. -/
theorem joinE {a b : List ND} {nd : ND} (ha : IsE a) (hb : IsE b) (hw : NoW nd.w) : IsE (a ++ b ++ [nd]) ↔ Bin nd.op ∧ a.length + b.length < 9 := by
  obtain ⟨la, ta, pa⟩ := ha
  obtain ⟨lb, tb, pb⟩ := hb
  have hs : Stk (a ++ b) [tb, ta] := pb.stk (post_stk.1 pa)
  constructor
  · rintro ⟨h1, t, ht⟩
    have h2 := post_stk.1 ht
    refine ⟨?_, by simp at h1; omega⟩
    rcases h2.inv with ⟨_, _, s, k, e⟩ | ⟨_, _, x, s, k, e⟩ | ⟨h, _⟩
    · have := hs.one k
      subst this
      simp at e
    · have := hs.one k
      simp only [List.cons.injEq] at this
      obtain ⟨_, rfl⟩ := this
      simp at e
    · exact h
  · rintro ⟨h1, h2⟩
    exact ⟨by simp; omega, _, .bin h1 hw pa pb⟩
theorem joinE' {a b : List ND} {nd : ND} (ha : IsE a) (hb : IsE b) (hw : NoW nd.w) {q : Bool} (hq : q = true ↔ Bin nd.op ∧ a.length + b.length < 9) : q = true ↔ IsE (a ++ b ++ [nd]) := hq.trans (joinE ha hb hw).symm

end Go.Proofs.YtadjoiahllekdaaGreatDoor.num
namespace Go.Proofs.YtadjoiahllekdaaGreatDoor.num
set_option maxRecDepth 20000
open Go.RowKit
set_option linter.unusedVariables false
set_option linter.unusedSimpArgs false

/-- append of one element, its run told. -/
theorem run_oneG {α : Type} {f : α → List Value} {s : Nat} (hf : ∀ x, (f x).length = s) (h1 : ∀ x, ∀ u ∈ f x, u.oneCell' = true) {T tS ty : TypeId} {z : Value} {bytes : Nat} (ht : Tryz.prog.underlying tS = some (.slice T)) (hinf : (Tryz.prog.info? T).map (fun i => (i.zero, i.size, i.bytes)) = some (some z, s, bytes)) (hzs : z.cells.size = s) (hs0 : 0 < s) (hbt : 0 < bytes)
    {w : World} {B N c : Nat} {v : Value} {l : List α} (y : α) {cs : Array Value} (hcs : cs = (f y).toArray) (h : OwnG T f s w B v l) (hN : w.heap.size = N) (hlen : (l.length + 1) * bytes ≤ 140737488355328) (hB : B ≤ w.heap.size) :
    ∃ v' w', (Builtin.append_ #[tS, tS] ty #[v, .slice (some ⟨N, 0, none⟩) 1 c]).run Tryz.prog (w.alloc (.cells cs T)) = .ok v' w' ∧ OwnG T f s w' B v' (l ++ [y]) ∧ w.grownBy w' v.ownBlock ∧ (v'.ownBlock = v.ownBlock ∨ v'.ownBlock = some (N + 1)) := by
  subst hcs hN
  obtain ⟨v', w', hr, ho, hg, hat⟩ := run_app_some (P := Tryz.prog) (ty := ty) ht hinf hzs hs0 hbt (World.ownsRow.alloc h (.cells (f y).toArray T)) ⟨w.heap.size, 0, none⟩ (m := 1) (c := c) (news := f y) (by rw [hf, Nat.one_mul]) (fun j u hj => by
    rw [addr_add, Nat.zero_add, World.cell?_alloc_at _ _ _ _ rfl]
    simpa using hj) (h1 y) hlen (by simp; omega)
  refine ⟨v', w', hr, ?_, ⟨hg.os, hg.tape, hg.output, Nat.le_trans (by simp) hg.size, fun k hk hv => (hg.block k (by simp; omega) hv).trans (Below.heap_alloc _ _ _ hk)⟩, by simpa using hat⟩
  unfold OwnG
  rw [List.length_append, List.length_singleton, List.flatMap_append, List.flatMap_singleton]
  exact ho

/-- Nodes whose lists are the call's own, apart from one another. -/
structure NodesO (w : World) (lo : Nat) (ns : List Nd) : Prop where
  x : ∀ (k : Nat) (x : Nd), ns[k]? = some x → (Lit.int .i64 x.op).wf = true ∧ WiO w lo x.t
  d : ∀ (i j : Nat) (x y : Nd) (b : Nat), i < j → ns[i]? = some x → ns[j]? = some y → x.t.has b → ¬ y.t.has b
theorem OwnN.no {w : World} {lo : Nat} {v : Value} {ns : List Nd} (h : OwnN w lo v ns) : NodesO w lo ns := ⟨h.x, h.d⟩
theorem NodesO.has_in {w : World} {lo : Nat} {ns : List Nd} (h : NodesO w lo ns) {x : Nd} (hx : x ∈ ns) {b : Nat} (hb : x.t.has b) : lo ≤ b ∧ b < w.heap.size := by
  obtain ⟨k, hk, rfl⟩ := List.getElem_of_mem hx
  exact (h.x k _ (List.getElem?_eq_getElem hk)).2.has_in hb
theorem NodesO.blocks {w w' : World} {lo : Nat} {ns : List Nd} (h : NodesO w lo ns) (hb : ∀ x ∈ ns, ∀ b, x.t.has b → w'.heap[b]? = w.heap[b]?) : NodesO w' lo ns :=
  ⟨fun k x hk => ⟨(h.x k x hk).1, (h.x k x hk).2.blocks fun b h' => hb x (List.mem_of_getElem? hk) b h'⟩, h.d⟩
theorem NodesO.low {w : World} {lo lo' : Nat} {ns : List Nd} (h : NodesO w lo ns) (hl : lo' ≤ lo) : NodesO w lo' ns := ⟨fun k x hk => ⟨(h.x k x hk).1, (h.x k x hk).2.low hl⟩, h.d⟩
theorem get_app {α : Type} {l m : List α} {i : Nat} {x : α} (h : (l ++ m)[i]? = some x) : (i < l.length ∧ l[i]? = some x) ∨ (l.length ≤ i ∧ m[i - l.length]? = some x) := by
  rcases Nat.lt_or_ge i l.length with g | g
  · exact .inl ⟨g, by rwa [List.getElem?_append_left g] at h⟩
  · exact .inr ⟨g, by rwa [List.getElem?_append_right g] at h⟩
theorem NodesO.cat {w : World} {lo hi : Nat} {ns1 ns2 : List Nd} (h1 : NodesO w lo ns1) (h2 : NodesO w hi ns2) (hle : lo ≤ hi) (htop : ∀ x ∈ ns1, ∀ b, x.t.has b → b < hi) : NodesO w lo (ns1 ++ ns2) := by
  refine ⟨fun k x hk => ?_, fun i j x y b hij hx hy hb hb' => ?_⟩
  · rcases get_app hk with ⟨_, h⟩ | ⟨_, h⟩
    · exact h1.x k x h
    · exact ⟨(h2.x _ x h).1, (h2.x _ x h).2.low hle⟩
  · rcases get_app hx with ⟨_, hx⟩ | ⟨_, hx⟩ <;> rcases get_app hy with ⟨_, hy⟩ | ⟨_, hy⟩
    · exact h1.d i j x y b hij hx hy hb hb'
    · have q1 := htop x (List.mem_of_getElem? hx) b hb
      have q2 := ((h2.x _ y hy).2.has_in hb').1
      omega
    · omega
    · exact h2.d _ _ x y b (by omega) hx hy hb hb'
/-- An operator's node. -/
def bareN (op : Int) : Nd := ⟨op, 0, 0, 0, none, 0, 0, [], none, 0, 0, []⟩
theorem bare_has (op : Int) (b : Nat) : ¬ (bareN op).t.has b := fun h => by
  rcases h with h | h <;> cases h
theorem NodesO.bare (w : World) (lo : Nat) {op : Int} (ho : (Lit.int .i64 op).wf = true) : NodesO w lo [bareN op] := by
  refine ⟨fun k x hk => ?_, fun i j x y b hij hx hy => ?_⟩
  · rcases k with _ | k
    · simp at hk
      subst hk
      exact ⟨ho, ⟨by show (Lit.int .i64 0).wf = true; decide, by show (Lit.int .i64 0).wf = true; decide, by show (Lit.int .i64 0).wf = true; decide, ownI_nil _ _, OwnP.nil _ _, fun b h => by cases h⟩⟩
    · simp at hk
  · rcases j with _ | j
    · omega
    · simp at hy
theorem OwnN.of {w : World} {lo : Nat} {v : Value} {ns : List Nd} (hr : OwnG 92 nodeCells 6 w lo v ns) (hn : NodesO w lo ns) (ha : ∀ x ∈ ns, ∀ b, x.t.has b → v.ownBlock ≠ some b) : OwnN w lo v ns :=
  ⟨hr, hn.x, fun k x b hk hb => ha x (List.mem_of_getElem? hk) b hb, hn.d⟩
def zeroWD : WD := ⟨0, 0, 0, [], []⟩
theorem noW_zero : NoW zeroWD := ⟨rfl, rfl, rfl, rfl, rfl⟩
/-- What JoinExpressions answers. -/
def joinD (r : Bool) (a b : List ND) (op : Int) : List ND := if r then a ++ b ++ [⟨op, zeroWD⟩] else []
theorem datN_app (l m : List Nd) : datN (l ++ m) = datN l ++ datN m := by unfold datN; rw [List.map_append]
theorem short_app {l m : List Nd} (h1 : ShortN l) (h2 : ShortN m) : ShortN (l ++ m) := fun x hx => by
  rcases List.mem_append.1 hx with h | h
  · exact h1 x h
  · exact h2 x h
theorem short_bare (op : Int) : ShortN [bareN op] := fun x hx => by
  rw [List.mem_singleton.1 hx]; exact ⟨Nat.zero_le _, Nat.zero_le _⟩
theorem datN_len {ns ns' : List Nd} (h : datN ns' = datN ns) : ns'.length = ns.length := by
  have := congrArg List.length h
  unfold datN at this
  rwa [List.length_map, List.length_map] at this
set_option maxRecDepth 20000 in
set_option maxHeartbeats 3200000 in
theorem sCopyN_c (w : World) (B : Nat) (A : Option Addr) (n c : Nat) (ns : List Nd) (hi : Nodes w B A n ns) (hB : B ≤ w.heap.size) (hn : n ≤ 1048576) (hN : ShortN ns) :
    Calls Tryz.prog 77 #[.slice A n c] w fun e w' => ∃ v ns', e = .returned v ∧ datN ns' = datN ns ∧ ShortN ns' ∧ OwnN w' w.heap.size v ns' ∧ Below w.heap.size w w' := by
  have HX := Lib.hid hi
  have HN := Lib.hid hN
  have HE : Hid (OwnN (w.alloc (.cells #[] 92)) w.heap.size (.slice (some ⟨w.heap.size, 0, none⟩) 0 0) []) := Lib.hid ⟨OwnG.empty w w.heap.size (Nat.le_refl _), by simp, by simp, by simp⟩
  have HBe : Hid (Below w.heap.size w (w.alloc (.cells #[] 92))) := Lib.hid ((Below.refl _ w).alloc (Nat.le_refl _) _)
  clear hi hN
  go_enter Tryz.func77, Tryz.ntmps77
  go_wp2
  go_loopw [3, 4] (fun v i wr => ∃ (k : Nat) (cs : List Nd) (V : Value), k ≤ n ∧ i = .int .i64 k ∧ V = v ∧ OwnN wr w.heap.size V cs ∧ datN cs = datN (ns.take k) ∧ ShortN cs ∧ Below w.heap.size w wr) (fun _ i _ => n - (intOf i).toNat)
  case atStart => exact ⟨0, [], _, Nat.zero_le _, rfl, rfl, HE.out, rfl, by simp [ShortN], HBe.out⟩
  case round =>
    obtain ⟨k, cs, v, hk, rfl, rfl, hown, hdat, hsh, hbel⟩ := hrel
    have HO := Lib.hid hown
    have HD := Lib.hid hdat
    have HS := Lib.hid hsh
    have HB := Lib.hid hbel
    clear hown hdat hsh
    by_cases hlt : k < n
    · obtain ⟨b1, off, ⟨op, t⟩, rfl, hb1, hat, hwf, g0, g1, g2, g3, g4, g5⟩ := HX.out.at k hlt
      dsimp only at g0 g1 g2 g3 g4 g5
      have hbw : b1 < w.heap.size := Nat.lt_of_lt_of_le hb1 hB
      have g0 := (hbel.cell (p := ⟨b1, off + k * 6, none⟩) hbw).trans g0
      have g1 := (hbel.cell (p := ⟨b1, off + k * 6 + 1, none⟩) hbw).trans g1
      have g2 := (hbel.cell (p := ⟨b1, off + k * 6 + 2, none⟩) hbw).trans g2
      have g3 := (hbel.cell (p := ⟨b1, off + k * 6 + 3, none⟩) hbw).trans g3
      have g4 := (hbel.cell (p := ⟨b1, off + k * 6 + 4, none⟩) hbw).trans g4
      have g5 := (hbel.cell (p := ⟨b1, off + k * 6 + 5, none⟩) hbw).trans g5
      have HT := Lib.hid hat
      have HWf := Lib.hid hwf.1
      have hsh0 : t.Short := HN.out _ (List.mem_of_getElem? hat)
      have HCp : Hid (∀ W, Below wr.heap.size wr W → Calls Tryz.prog 113 #[.agg #[.int .i64 t.kind, .int .i64 t.field, .int .i64 t.value, .slice t.LA t.Ln t.Lc, .slice t.PA t.Pn t.Pc]] W fun e w' => ∃ t' : Wi, e = .returned t'.val ∧ t'.dat = t.dat ∧ t'.Short ∧ WiO w' W.heap.size t' ∧ Below W.heap.size W w') := Lib.hid fun W h => sWish_c W B t (hwf.2.below ((hbel.mono hB).trans (h.mono (Nat.le_trans hB hbel.size)))) (Nat.le_trans (Nat.le_trans hB hbel.size) h.size) hsh0
      have HLn : Hid ((cs.length + 1) * 80 ≤ 140737488355328) := Lib.hid (by
        have h1 := congrArg List.length HD.out
        unfold datN at h1
        rw [List.length_map, List.length_map, List.length_take] at h1
        omega)
      have hlt' : (k : Int) < (n : Int) := by omega
      clear hat hwf hbel hsh0
      go_wp2
      have hS0 : (fun w' => Below w.heap.size wr w' ∧ w'.cell? ⟨b1, off + k * 6, none⟩ = some (.int .i64 op) ∧ w'.cell? ⟨b1, off + k * 6 + 1, none⟩ = some (.int .i64 t.kind) ∧ w'.cell? ⟨b1, off + k * 6 + 2, none⟩ = some (.int .i64 t.field) ∧ w'.cell? ⟨b1, off + k * 6 + 3, none⟩ = some (.int .i64 t.value) ∧ w'.cell? ⟨b1, off + k * 6 + 4, none⟩ = some (.slice t.LA t.Ln t.Lc) ∧ w'.cell? ⟨b1, off + k * 6 + 5, none⟩ = some (.slice t.PA t.Pn t.Pc)) wr.drew := ⟨(Below.refl _ _).drew, g0, g1, g2, g3, g4, g5⟩
      refine wp_region_held (S := fun w' => Below w.heap.size wr w' ∧ w'.cell? ⟨b1, off + k * 6, none⟩ = some (.int .i64 op) ∧ w'.cell? ⟨b1, off + k * 6 + 1, none⟩ = some (.int .i64 t.kind) ∧ w'.cell? ⟨b1, off + k * 6 + 2, none⟩ = some (.int .i64 t.field) ∧ w'.cell? ⟨b1, off + k * 6 + 3, none⟩ = some (.int .i64 t.value) ∧ w'.cell? ⟨b1, off + k * 6 + 4, none⟩ = some (.slice t.LA t.Ln t.Lc) ∧ w'.cell? ⟨b1, off + k * 6 + 5, none⟩ = some (.slice t.PA t.Pn t.Pc)) (by kernel_rfl) ?_
      change wpAnyH _ _ _ _ _ _ _ _ (World.drew _)
      refine takeY 12 (i := 0) (v := ?v0a) rfl rfl (by kernel_rfl) (by kernel_rfl) (by kernel_rfl) (fun _ _ _ h => h) (by kernel_rfl) ?y0a hS0 ?_
      case y0a =>
        intro w' hw'; (try dsimp only at hw'); obtain ⟨e0, e1, e2, e3, e4, e5, e6⟩ := hw'; go_simp; try with_reducible rfl
      simp only [Act.put, List.setIfInBounds_toArray, List.set_cons_zero, List.set_cons_succ]
      refine takeY 13 (i := 1) (v := ?v1a) rfl rfl (by kernel_rfl) (by kernel_rfl) (by kernel_rfl) (fun _ _ _ h => h) (by kernel_rfl) ?y1a hS0 ?_
      case y1a =>
        intro w' hw'; (try dsimp only at hw'); obtain ⟨e0, e1, e2, e3, e4, e5, e6⟩ := hw'; go_simp; try with_reducible rfl
      simp only [Act.put, List.setIfInBounds_toArray, List.set_cons_zero, List.set_cons_succ]
      refine takeY 14 (i := 2) (v := ?v2a) rfl rfl (by kernel_rfl) (by kernel_rfl) (by kernel_rfl) (fun _ _ _ h => h) (by kernel_rfl) ?y2a hS0 ?_
      case y2a =>
        intro w' hw'; (try dsimp only at hw'); obtain ⟨e0, e1, e2, e3, e4, e5, e6⟩ := hw'; go_simp; try with_reducible rfl
      simp only [Act.put, List.setIfInBounds_toArray, List.set_cons_zero, List.set_cons_succ]
      refine takeY 15 (i := 3) (v := ?v3a) rfl rfl (by kernel_rfl) (by kernel_rfl) (by kernel_rfl) (fun _ _ _ h => h) (by kernel_rfl) ?y3a hS0 ?_
      case y3a =>
        intro w' hw'; (try dsimp only at hw'); obtain ⟨e0, e1, e2, e3, e4, e5, e6⟩ := hw'; go_simp; try with_reducible rfl
      simp only [Act.put, List.setIfInBounds_toArray, List.set_cons_zero, List.set_cons_succ]
      refine takeY 16 (i := 4) (v := ?v4a) rfl rfl (by kernel_rfl) (by kernel_rfl) (by kernel_rfl) (fun _ _ _ h => h) (by kernel_rfl) ?y4a hS0 ?_
      case y4a =>
        intro w' hw'; (try dsimp only at hw'); obtain ⟨e0, e1, e2, e3, e4, e5, e6⟩ := hw'; go_simp; try with_reducible rfl
      simp only [Act.put, List.setIfInBounds_toArray, List.set_cons_zero, List.set_cons_succ]
      refine takeY 17 (i := 5) (v := ?v5a) rfl rfl (by kernel_rfl) (by kernel_rfl) (by kernel_rfl) (fun _ _ _ h => h) (by kernel_rfl) ?y5a hS0 ?_
      case y5a =>
        intro w' hw'; (try dsimp only at hw'); obtain ⟨e0, e1, e2, e3, e4, e5, e6⟩ := hw'; go_simp; try with_reducible rfl
      simp only [Act.put, List.setIfInBounds_toArray, List.set_cons_zero, List.set_cons_succ]
      refine takeY 18 (i := 6) (v := ?v6a) rfl rfl (by kernel_rfl) (by kernel_rfl) (by kernel_rfl) (fun _ _ _ h => h) (by kernel_rfl) ?y6a hS0 ?_
      case y6a =>
        intro w' hw'; (try dsimp only at hw'); obtain ⟨e0, e1, e2, e3, e4, e5, e6⟩ := hw'; go_simp; try with_reducible rfl
      simp only [Act.put, List.setIfInBounds_toArray, List.set_cons_zero, List.set_cons_succ]
      refine takeY 19 (i := 7) (v := ?v7a) rfl rfl (by kernel_rfl) (by kernel_rfl) (by kernel_rfl) (fun _ _ _ h => h) (by kernel_rfl) ?y7a hS0 ?_
      case y7a =>
        intro w' hw'; (try dsimp only at hw'); obtain ⟨e0, e1, e2, e3, e4, e5, e6⟩ := hw'; go_simp; try with_reducible rfl
      simp only [Act.put, List.setIfInBounds_toArray, List.set_cons_zero, List.set_cons_succ]
      refine takeY 20 (i := 8) (v := ?v8a) rfl rfl (by kernel_rfl) (by kernel_rfl) (by kernel_rfl) (fun _ _ _ h => h) (by kernel_rfl) ?y8a hS0 ?_
      case y8a =>
        intro w' hw'; (try dsimp only at hw'); obtain ⟨e0, e1, e2, e3, e4, e5, e6⟩ := hw'; go_simp; try with_reducible rfl
      simp only [Act.put, List.setIfInBounds_toArray, List.set_cons_zero, List.set_cons_succ]
      refine takeY 21 (i := 9) (v := ?v9a) rfl rfl (by kernel_rfl) (by kernel_rfl) (by kernel_rfl) (fun _ _ _ h => h) (by kernel_rfl) ?y9a hS0 ?_
      case y9a =>
        intro w' hw'; (try dsimp only at hw'); obtain ⟨e0, e1, e2, e3, e4, e5, e6⟩ := hw'; go_simp; try with_reducible rfl
      simp only [Act.put, List.setIfInBounds_toArray, List.set_cons_zero, List.set_cons_succ]
      refine takeY 22 (i := 10) (v := ?v10a) rfl rfl (by kernel_rfl) (by kernel_rfl) (by kernel_rfl) (fun _ _ _ h => h) (by kernel_rfl) ?y10a hS0 ?_
      case y10a =>
        intro w' hw'; (try dsimp only at hw'); obtain ⟨e0, e1, e2, e3, e4, e5, e6⟩ := hw'; go_simp; try with_reducible rfl
      simp only [Act.put, List.setIfInBounds_toArray, List.set_cons_zero, List.set_cons_succ]
      refine wpAnyH_ready (rs := [11]) (by kernel_rfl) (by simp) ?_
      refine AllReadyH.cons rfl (fun K hK => ?_) AllReadyH.nil
      go_simp; go_at_call 113; refine (HCp.out _ (Below.refl wr.heap.size wr).drew).mono ?_; rintro e w2 ⟨t', rfl, hd', hs', ho', hb2⟩; unfold Wi.val; have hb2' : Below wr.heap.size wr w2 := (Below.refl wr.heap.size wr).drew.trans (hb2.mono (Nat.le_refl _)); have hb2m : Below w.heap.size wr w2 := hb2'.mono HB.out.size; have HO2 := Lib.hid (HO.out.below hb2'); have HWo : Hid (WiO w2 wr.heap.size t') := Lib.hid ho'; have HD2 := Lib.hid hd'; have HS2 := Lib.hid hs'; have HB2 := Lib.hid hb2'; have hsz2 : w.heap.size ≤ w2.heap.size := Nat.le_trans HB.out.size hb2'.size; clear hd' hs' ho' hb2 hb2'
      refine hK.out _ _ ⟨hb2m, (hb2m.cell (p := ⟨b1, off + k * 6, none⟩) hbw).trans g0, (hb2m.cell (p := ⟨b1, off + k * 6 + 1, none⟩) hbw).trans g1, (hb2m.cell (p := ⟨b1, off + k * 6 + 2, none⟩) hbw).trans g2, (hb2m.cell (p := ⟨b1, off + k * 6 + 3, none⟩) hbw).trans g3, (hb2m.cell (p := ⟨b1, off + k * 6 + 4, none⟩) hbw).trans g4, (hb2m.cell (p := ⟨b1, off + k * 6 + 5, none⟩) hbw).trans g5⟩ (fun hS1 => ?_)
      clear hK K
      try simp only [Act.put, List.setIfInBounds_toArray, List.set_cons_zero, List.set_cons_succ]
      refine takeY 24 (i := 12) (v := ?v12a) rfl rfl (by kernel_rfl) (by kernel_rfl) (by kernel_rfl) (fun _ _ _ h => h) (by kernel_rfl) ?y12a hS1 ?_
      case y12a =>
        intro w' hw'; (try dsimp only at hw'); obtain ⟨e0, e1, e2, e3, e4, e5, e6⟩ := hw'; go_simp; try with_reducible rfl
      simp only [Act.put, List.setIfInBounds_toArray, List.set_cons_zero, List.set_cons_succ]
      refine wpAnyH_ready (rs := [13]) (by kernel_rfl) (by simp) ?_
      refine AllReadyH.cons rfl (fun K hK => ?_) AllReadyH.nil
      go_simp; have hb2a : Below w.heap.size wr (w2.alloc (.cells #[.int .i64 op, .int .i64 t'.kind, .int .i64 t'.field, .int .i64 t'.value, .slice t'.LA t'.Ln t'.Lc, .slice t'.PA t'.Pn t'.Pc] 92)) := hb2m.alloc hsz2 _
      refine hK.out _ _ ⟨hb2a, (hb2a.cell (p := ⟨b1, off + k * 6, none⟩) hbw).trans g0, (hb2a.cell (p := ⟨b1, off + k * 6 + 1, none⟩) hbw).trans g1, (hb2a.cell (p := ⟨b1, off + k * 6 + 2, none⟩) hbw).trans g2, (hb2a.cell (p := ⟨b1, off + k * 6 + 3, none⟩) hbw).trans g3, (hb2a.cell (p := ⟨b1, off + k * 6 + 4, none⟩) hbw).trans g4, (hb2a.cell (p := ⟨b1, off + k * 6 + 5, none⟩) hbw).trans g5⟩ (fun hS2 => ?_)
      clear hK K
      try simp only [Act.put, List.setIfInBounds_toArray, List.set_cons_zero, List.set_cons_succ]
      refine wpAnyH_ready (rs := [14]) (by kernel_rfl) (by simp) ?_
      refine AllReadyH.cons rfl (fun K hK => ?_) AllReadyH.nil
      obtain ⟨v', w3, hr, hown3, hg3, hat3⟩ := run_oneG nodeCells_len nodeCells_one (ty := 44) (c := 1) Tryz.underlying44 info_node rfl (by decide) (by decide) (⟨op, t'⟩ : Nd) rfl HO2.out.r rfl HLn.out hsz2; refine step_run _ (by rfl) (.tmp 12) (.tmp 25) 44 (by rfl) _ _ (by rfl) (by rfl) hr ?_; have hb3m : Below w.heap.size wr w3 := hb2m.grown hg3 hsz2 (fun k hk => HO2.out.r.lows k hk)
      refine hK.out _ _ ⟨hb3m, (hb3m.cell (p := ⟨b1, off + k * 6, none⟩) hbw).trans g0, (hb3m.cell (p := ⟨b1, off + k * 6 + 1, none⟩) hbw).trans g1, (hb3m.cell (p := ⟨b1, off + k * 6 + 2, none⟩) hbw).trans g2, (hb3m.cell (p := ⟨b1, off + k * 6 + 3, none⟩) hbw).trans g3, (hb3m.cell (p := ⟨b1, off + k * 6 + 4, none⟩) hbw).trans g4, (hb3m.cell (p := ⟨b1, off + k * 6 + 5, none⟩) hbw).trans g5⟩ (fun hS3 => ?_)
      clear hK K
      try simp only [Act.put, List.setIfInBounds_toArray, List.set_cons_zero, List.set_cons_succ]
      refine takeY 3 (i := 15) (v := ?v15a) rfl rfl (by kernel_rfl) (by kernel_rfl) (by kernel_rfl) (fun _ _ _ h => h) (by kernel_rfl) ?y15a hS3 ?_
      case y15a =>
        intro w' hw'; (try dsimp only at hw'); obtain ⟨e0, e1, e2, e3, e4, e5, e6⟩ := hw'; go_simp; try with_reducible rfl
      simp only [Act.put, List.setIfInBounds_toArray, List.set_cons_zero, List.set_cons_succ]
      refine wpAnyH_done (by kernel_rfl) ?_ _
      have HO3 := Lib.hid (HO2.out.snoc hg3 hat3 hown3 HWf.out (HWo.out.low HB.out.size) (fun b h1 h2 => by
        have q1 := (HWo.out.has_in h1).1
        have q2 := (HO.out.has_in h2).2
        omega))
      have HB3 := Lib.hid (HB.out.trans hb3m)
      clear hr hown3 hg3 hat3 hb3m hb2m hb2a hS0 hS1 hS2 hS3 g0 g1 g2 g3 g4 g5
      go_wp2
      go_roundw
      case rel =>
        refine ⟨k + 1, cs ++ [⟨op, t'⟩], _, by omega, by go_num, rfl, HO3.out, ?_, short_app HS.out (fun u hu => by rw [List.mem_singleton.1 hu]; exact HS2.out), HB3.out⟩
        rw [datN_at HT.out, datN_app, HD.out]
        unfold datN Nd.dat
        rw [List.map_singleton, HD2.out]
      case measure => simp [intOf]; omega
    · obtain rfl : k = n := by omega
      have ht : ns.take k = ns := List.take_of_length_le (by rw [HX.out.len]; exact Nat.le_refl _)
      clear hbel
      go_wp2
      go_ret
      exact ⟨_, cs, rfl, by rw [HD.out, ht], HS.out, HO.out, HB.out⟩
set_option maxRecDepth 20000 in
/-- slices.Grow of nil. -/
theorem growN (w : World) (n : Nat) (hn : n ≤ 1048576) :
    Calls Tryz.prog 115 #[.slice none 0 0, .int .i64 n] w fun e w' => ∃ v, e = .returned v ∧ OwnG 92 nodeCells 6 w' w.heap.size v [] ∧ Below w.heap.size w w' := by
  obtain ⟨i0, hi, hzz⟩ := Option.map_eq_some_iff.1 info_node
  simp only [Prod.mk.injEq] at hzz
  obtain ⟨hz0, hz1, hz2⟩ := hzz
  rcases Nat.eq_zero_or_pos n with e | e
  · subst e
    clear hi hz0 hz1 hz2
    go_enter Tryz.func115, Tryz.ntmps115
    go_wp2
    go_ret
    exact ⟨_, rfl, .nil _ _, Below.refl _ _⟩
  · have hr := Go.Lib.run_append_nil_zeros (P := Tryz.prog) w 44 3 44 92 i0 (.agg #[.int .i64 0, .int .i64 0, .int .i64 0, .int .i64 0, .slice none 0 0, .slice none 0 0]) .i64 .i64 Tryz.underlying44 Tryz.underlying3 hi hz0 n e (by rw [hz1]; decide) (by omega) (by rw [hz2]; omega)
    have hcap := grownCap_ge w n 0 92
    have hcapm : grownCap w n 0 92 ≤ maxLen := grownCap_le_maxLen w n 0 92 (by unfold maxLen; omega)
    generalize grownCap w n 0 92 = cap at hr hcap hcapm
    have hpos : (0 : Int) < (n : Int) := by omega
    have hcap' : cap ≤ 9223372036854775807 := by unfold maxLen at hcapm; omega
    have HC := Lib.hid (And.intro hcap hcapm)
    clear hi hz0 hz1 hz2 hcapm
    go_enter Tryz.func115, Tryz.ntmps115
    go_wp2_with (at_builtin; refine Go.Lib.wpList_append_run _ (by rfl) (.tmp 20) (.tmp 21) 44 3 (by rfl) _ _ (by rfl) (by rfl) _ _ hr ?_)
    clear hr
    go_wp2
    go_ret
    refine ⟨_, rfl, ?_, (Below.refl _ w).drew.alloc (Nat.le_refl _) _⟩
    refine ⟨rfl, .inr ⟨w.heap.size, cap, _, rfl, Nat.le_refl _, heap_alloc_new w.drew _, Nat.zero_le _, HC.out.2, ?_, ?_⟩⟩
    · have h := HC.out.1
      rw [Array.size_append, size_zeroCells, size_zeroCells]
      show n * 6 + (cap - n) * 6 = cap * 6
      rw [← Nat.add_mul]
      congr 1
      omega
    · simp
set_option maxRecDepth 20000 in
set_option maxHeartbeats 1600000 in
/-- slices.Concat of three slices of nodes. -/
theorem concatN (w : World) (B : Nat) (g c : Nat) (A1 A2 A3 : Option Addr) (n1 n2 n3 c1 c2 c3 : Nat) (l1 l2 l3 : List Nd) (h1 : ReadG nodeCells 6 w B A1 n1 l1) (h2 : ReadG nodeCells 6 w B A2 n2 l2) (h3 : ReadG nodeCells 6 w B A3 n3 l3) (hB : B ≤ w.heap.size) (hg : g < w.heap.size) (hn : n1 + n2 + n3 ≤ 1048576)
    (q0 : w.cell? ⟨g, 0, none⟩ = some (.slice A1 n1 c1)) (q1 : w.cell? ⟨g, 1, none⟩ = some (.slice A2 n2 c2)) (q2 : w.cell? ⟨g, 2, none⟩ = some (.slice A3 n3 c3)) :
    Calls Tryz.prog 79 #[.slice (some ⟨g, 0, none⟩) 3 c] w fun e w' => ∃ v, e = .returned v ∧ OwnG 92 nodeCells 6 w' w.heap.size v (l1 ++ l2 ++ l3) ∧ Below w.heap.size w w' := by
  have HR1 := Lib.hid h1
  have HR2 := Lib.hid h2
  have HR3 := Lib.hid h3
  have HQ := Lib.hid (And.intro q0 (And.intro q1 q2))
  have HGr := Lib.hid (fun w1 : World => growN w1 (n1 + n2 + n3) hn)
  have HLe : Hid (l1.length = n1 ∧ l2.length = n2 ∧ l3.length = n3) := Lib.hid ⟨h1.len, h2.len, h3.len⟩
  clear h1 h2 h3
  go_enter Tryz.func79, Tryz.ntmps79
  go_wp2
  go_loopw [3, 11] (fun s i wr => ∃ k : Nat, k ≤ 3 ∧ i = .int .i64 k ∧ s = .int .i64 ((if k = 0 then 0 else if k = 1 then n1 else if k = 2 then n1 + n2 else n1 + n2 + n3 : Nat) : Int) ∧ w = wr) (fun _ i _ => 3 - (intOf i).toNat)
  case atStart => exact ⟨0, by decide, rfl, rfl, rfl⟩
  case round =>
    obtain ⟨k, hk, rfl, rfl, rfl⟩ := hrel
    have hk' : k = 0 ∨ k = 1 ∨ k = 2 ∨ k = 3 := by omega
    rcases hk' with rfl | rfl | rfl | rfl
    · go_wp2
      go_roundw
      case rel => exact ⟨1, by decide, by go_num, by simp, by first | rfl | trivial⟩
      case measure => simp [intOf]
    · have hd : decide ((n1 : Int) + (n2 : Int) < 0) = false := by simp; omega
      have hw : IntKind.i64.wrap ((n1 : Int) + (n2 : Int)) = (n1 : Int) + (n2 : Int) := IntWalk.i64_in _ ⟨by omega, by omega⟩
      go_wp2
      go_roundw
      case rel => exact ⟨2, by decide, by go_num, by simp, by first | rfl | trivial⟩
      case measure => simp [intOf]
    · have hd : decide ((n1 : Int) + (n2 : Int) + (n3 : Int) < 0) = false := by simp; omega
      have hw : IntKind.i64.wrap ((n1 : Int) + (n2 : Int) + (n3 : Int)) = (n1 : Int) + (n2 : Int) + (n3 : Int) := IntWalk.i64_in _ ⟨by omega, by omega⟩
      go_wp2
      go_roundw
      case rel => exact ⟨3, by decide, by go_num, by simp, by first | rfl | trivial⟩
      case measure => simp [intOf]
    · have hsum : ((if (3 : Nat) = 0 then 0 else if (3 : Nat) = 1 then n1 else if (3 : Nat) = 2 then n1 + n2 else n1 + n2 + n3 : Nat) : Int) = ((n1 + n2 + n3 : Nat) : Int) := by simp
      rw [hsum]
      obtain ⟨m, hm⟩ : ∃ m, n1 + n2 + n3 = m := ⟨_, rfl⟩
      have HM := Lib.hid hm
      rw [hm]
      have HG2 : Hid (∀ w1, Calls Tryz.prog 115 #[.slice none 0 0, .int .i64 (m : Int)] w1 fun e w' => ∃ v, e = .returned v ∧ OwnG 92 nodeCells 6 w' w1.heap.size v [] ∧ Below w1.heap.size w1 w') := Lib.hid fun w1 => by rw [← hm]; exact HGr.out w1
      clear hm hsum
      go_wp2_with fail
      refine (HG2.out _).mono ?_
      rintro e w1 ⟨v, rfl, ho, hb1⟩
      have HO := Lib.hid ho
      have HB1 := Lib.hid hb1
      clear ho hb1 q0 q1 q2
      go_wp2
      go_loopw [6, 27] (fun x i wr => ∃ (k : Nat) (V : Value) (l : List Nd), k ≤ 3 ∧ i = .int .i64 k ∧ V = x ∧ OwnG 92 nodeCells 6 wr w.heap.size V l ∧ l = (if k = 0 then [] else if k = 1 then l1 else if k = 2 then l1 ++ l2 else l1 ++ l2 ++ l3) ∧ Below w.heap.size w wr) (fun _ i _ => 3 - (intOf i).toNat)
      case atStart => exact ⟨0, v, [], by decide, rfl, rfl, HO.out, rfl, HB1.out⟩
      case round =>
        obtain ⟨k, v, l, hk, rfl, rfl, hown, hl, hbel⟩ := hrel
        have HO1 := Lib.hid hown
        have HBe := Lib.hid hbel
        have hsz : w.heap.size ≤ wr.heap.size := hbel.size
        obtain ⟨q0, q1, q2⟩ := HQ.out
        have q0 := (hbel.cell (p := ⟨g, 0, none⟩) hg).trans q0
        have q1 := (hbel.cell (p := ⟨g, 1, none⟩) hg).trans q1
        have q2 := (hbel.cell (p := ⟨g, 2, none⟩) hg).trans q2
        have HL := Lib.hid hl
        clear hown hbel hl
        have hk' : k = 0 ∨ k = 1 ∨ k = 2 ∨ k = 3 := by omega
        rcases hk' with rfl | rfl | rfl | rfl
        · obtain rfl := HL.out
          obtain ⟨v', w3, hr, ho3, hg3, hat3⟩ := run_spreadG nodeCells_len nodeCells_one (ty := 44) (c := c1) Tryz.underlying44 info_node rfl (by decide) (by decide) HO1.out (HR1.out.below (HBe.out.mono hB)) (by simp only [if_true, if_neg (show ¬ (1 : Nat) = 0 by decide), if_neg (show ¬ (2 : Nat) = 0 by decide), if_neg (show ¬ (2 : Nat) = 1 by decide), List.length_nil, List.length_append, HLe.out.1, HLe.out.2.1]; omega) hsz
          have HO3 := Lib.hid ho3
          have HB3 := Lib.hid (HBe.out.grown hg3 hsz (fun k hk => HO1.out.lows k hk))
          clear ho3 hg3 hat3
          go_wp2_with (at_builtin; refine Go.Lib.wpList_append_run_sl _ (by rfl) (.tmp 31) (.tmp 32) 44 (by rfl) _ _ (by rfl) (by rfl) hr ?_)
          clear hr q0 q1 q2
          go_wp2
          go_roundw
          case rel => exact ⟨1, v', _, by decide, by go_num, rfl, HO3.out, by simp, HB3.out⟩
          case measure => simp [intOf]
        · obtain rfl := HL.out
          obtain ⟨v', w3, hr, ho3, hg3, hat3⟩ := run_spreadG nodeCells_len nodeCells_one (ty := 44) (c := c2) Tryz.underlying44 info_node rfl (by decide) (by decide) HO1.out (HR2.out.below (HBe.out.mono hB)) (by simp only [if_true, if_neg (show ¬ (1 : Nat) = 0 by decide), if_neg (show ¬ (2 : Nat) = 0 by decide), if_neg (show ¬ (2 : Nat) = 1 by decide), List.length_nil, List.length_append, HLe.out.1, HLe.out.2.1]; omega) hsz
          have HO3 := Lib.hid ho3
          have HB3 := Lib.hid (HBe.out.grown hg3 hsz (fun k hk => HO1.out.lows k hk))
          clear ho3 hg3 hat3
          go_wp2_with (at_builtin; refine Go.Lib.wpList_append_run_sl _ (by rfl) (.tmp 31) (.tmp 32) 44 (by rfl) _ _ (by rfl) (by rfl) hr ?_)
          clear hr q0 q1 q2
          go_wp2
          go_roundw
          case rel => exact ⟨2, v', _, by decide, by go_num, rfl, HO3.out, by simp, HB3.out⟩
          case measure => simp [intOf]
        · obtain rfl := HL.out
          obtain ⟨v', w3, hr, ho3, hg3, hat3⟩ := run_spreadG nodeCells_len nodeCells_one (ty := 44) (c := c3) Tryz.underlying44 info_node rfl (by decide) (by decide) HO1.out (HR3.out.below (HBe.out.mono hB)) (by simp only [if_true, if_neg (show ¬ (1 : Nat) = 0 by decide), if_neg (show ¬ (2 : Nat) = 0 by decide), if_neg (show ¬ (2 : Nat) = 1 by decide), List.length_nil, List.length_append, HLe.out.1, HLe.out.2.1]; omega) hsz
          have HO3 := Lib.hid ho3
          have HB3 := Lib.hid (HBe.out.grown hg3 hsz (fun k hk => HO1.out.lows k hk))
          clear ho3 hg3 hat3
          go_wp2_with (at_builtin; refine Go.Lib.wpList_append_run_sl _ (by rfl) (.tmp 31) (.tmp 32) 44 (by rfl) _ _ (by rfl) (by rfl) hr ?_)
          clear hr q0 q1 q2
          go_wp2
          go_roundw
          case rel => exact ⟨3, v', _, by decide, by go_num, rfl, HO3.out, by simp, HB3.out⟩
          case measure => simp [intOf]
        · go_wp2
          go_ret
          refine ⟨_, rfl, ?_, HBe.out⟩
          have := HL.out
          simp at this
          rw [← List.append_assoc] at this
          rw [← this]
          exact HO1.out
end Go.Proofs.YtadjoiahllekdaaGreatDoor.num
namespace Go.Proofs.YtadjoiahllekdaaGreatDoor.num
set_option maxRecDepth 20000
open Go.RowKit
set_option linter.unusedVariables false
set_option linter.unusedSimpArgs false

theorem WiOwn.keep {w w' : World} {B : Nat} {t : Wi} (h : WiOwn w B t) (hb : ∀ b, t.has b → w'.heap[b]? = w.heap[b]?) : WiOwn w' B t :=
  ⟨ownI_blocks h.l fun k hk => hb k (.inl hk), h.p.blocks fun k hk => hb k (.inr hk), h.k, h.f, h.v, h.nl, h.np⟩
theorem WiOwn.has_in {w : World} {B : Nat} {t : Wi} (h : WiOwn w B t) {b : Nat} (hb : t.has b) : B ≤ b ∧ b < w.heap.size := by
  rcases hb with hb | hb
  · exact ⟨ownI_lows h.l b hb, ownI_tops h.l b hb⟩
  · exact ⟨h.p.lows b hb, h.p.tops b hb⟩
/-- A slice of nodes that a draw filled: a row of its own, the nodes' lists in other blocks. -/
structure DrN (w : World) (B : Nat) (v : Value) (ns : List Nd) : Prop where
  r : OwnG 92 nodeCells 6 w B v ns
  x : ∀ x ∈ ns, (Lit.int .i64 x.op).wf = true ∧ WiOwn w B x.t
  a : ∀ x ∈ ns, ∀ b, x.t.has b → v.ownBlock ≠ some b
theorem DrN.blocks {w w' : World} {B : Nat} {v : Value} {ns : List Nd} (h : DrN w B v ns) (hb : ∀ b, B ≤ b → b < w.heap.size → w'.heap[b]? = w.heap[b]?) : DrN w' B v ns :=
  ⟨h.r.blocks fun k hk => hb k (h.r.lows k hk) (h.r.tops k hk), fun x hx => ⟨(h.x x hx).1, (h.x x hx).2.blocks hb⟩, h.a⟩
theorem DrN.low {w : World} {B B' : Nat} {v : Value} {ns : List Nd} (h : DrN w B v ns) (hB : B' ≤ B) : DrN w B' v ns := ⟨h.r.low hB, fun x hx => ⟨(h.x x hx).1, (h.x x hx).2.low hB⟩, h.a⟩
theorem DrN.nodes {w : World} {B : Nat} {A : Option Addr} {n c : Nat} {ns : List Nd} (h : DrN w B (.slice A n c) ns) : Nodes w w.heap.size A n ns := ⟨h.r.read nodeCells_len, fun x hx => ⟨(h.x x hx).1, (h.x x hx).2.wi⟩⟩
theorem DrN.short {w : World} {B : Nat} {v : Value} {ns : List Nd} (h : DrN w B v ns) : ShortN ns := fun x hx => (h.x x hx).2.short
/-- More nodes behind those of v, in its own row or in a new one. -/
theorem DrN.more {w w' : World} {B N : Nat} {v v' : Value} {ns m : List Nd} (h : DrN w B v ns) (hg : w.grownBy w' v.ownBlock) (hat : v'.ownBlock = v.ownBlock ∨ v'.ownBlock = some N) (hN : w.heap.size ≤ N) (hr : OwnG 92 nodeCells 6 w' B v' (ns ++ m)) (hx : ∀ x ∈ m, (Lit.int .i64 x.op).wf = true ∧ WiOwn w B x.t) (ha : ∀ x ∈ m, ∀ b, x.t.has b → v.ownBlock ≠ some b) : DrN w' B v' (ns ++ m) := by
  have hall : ∀ x ∈ ns ++ m, ((Lit.int .i64 x.op).wf = true ∧ WiOwn w B x.t) ∧ ∀ b, x.t.has b → v.ownBlock ≠ some b := fun x hx' => by
    rcases List.mem_append.1 hx' with h1 | h1
    · exact ⟨h.x x h1, h.a x h1⟩
    · exact ⟨hx x h1, ha x h1⟩
  refine ⟨hr, fun x hx' => ⟨(hall x hx').1.1, (hall x hx').1.2.keep fun b hb => hg.block b ((hall x hx').1.2.has_in hb).2 fun e => (hall x hx').2 b hb e.symm⟩, fun x hx' b hb e => ?_⟩
  rcases hat with q | q
  · exact (hall x hx').2 b hb (q ▸ e)
  · rw [q] at e
    have h1 := Option.some.inj e
    have h2 := ((hall x hx').1.2.has_in hb).2
    omega
theorem bare_own (w : World) (B : Nat) {op : Int} (ho : (Lit.int .i64 op).wf = true) : ∀ x ∈ [bareN op], (Lit.int .i64 x.op).wf = true ∧ WiOwn w B x.t := fun x hx => by
  rw [List.mem_singleton.1 hx]
  exact ⟨ho, ⟨ownI_nil _ _, OwnP.nil _ _, by show I64 0; unfold I64; omega, by show I64 0; unfold I64; omega, by show I64 0; unfold I64; omega, Nat.zero_le _, Nat.zero_le _⟩⟩
def OutD (N : Nat) (w : World) (g : Nat) (a : Option Addr) (len cap : Nat) (e : Ending) (w' : World) : Prop :=
  ∃ v ns, e = .returned v ∧ DrN w' w.heap.size v ns ∧ 1 ≤ ns.length ∧ ns.length ≤ N ∧ Cur w' g a len cap ∧ w.grownBy w' (some g)
/-- One node with a wish just drawn. -/
theorem one_node {w w1 : World} {g : Nat} {a : Option Addr} {len cap : Nat} {t : Wi} {op : Int} (hop : (Lit.int .i64 op).wf = true) (ho : WiOwn w1 w.heap.size t) (hc : Cur w1 g a len cap) (hg : w.grownBy w1 (some g)) (hw : w.heap.size ≤ w1.heap.size) (N : Nat) (hN : 1 ≤ N) :
    OutD N w g a len cap (.returned (.slice (some ⟨w1.heap.size, 0, none⟩) 1 1)) (w1.alloc (.cells #[.int .i64 op, .int .i64 t.kind, .int .i64 t.field, .int .i64 t.value, .slice t.LA t.Ln t.Lc, .slice t.PA t.Pn t.Pc] 92)) := by
  refine ⟨_, [⟨op, t⟩], rfl, ⟨?_, fun x hx => ?_, fun x hx b hb e => ?_⟩, by simp, hN, hc.kept (Below.heap_alloc _ _ _ hc.lt), grown_alloc hg _⟩
  · exact ⟨rfl, .inr ⟨w1.heap.size, 1, _, rfl, hw, heap_alloc_new w1 _, Nat.le_refl _, by unfold maxLen; omega, rfl, rfl⟩⟩
  · rw [List.mem_singleton.1 hx]
    exact ⟨hop, ho.blocks fun b _ hb => Below.heap_alloc _ _ _ hb⟩
  · rw [List.mem_singleton.1 hx] at hb
    have h1 := (ho.has_in hb).2
    have h2 := Option.some.inj e
    simp at h2
    omega

/-- An operator behind what was drawn. -/
theorem drn_app {w w0 w1 w2 : World} {g : Nat} {a : Option Addr} {len cap N : Nat} {v v' : Value} {ns : List Nd} {op : Int} (h : DrN w1 w0.heap.size v ns) (hop : (Lit.int .i64 op).wf = true) (hga : w1.grownBy w2 v.ownBlock) (hat : v'.ownBlock = v.ownBlock ∨ v'.ownBlock = some (w1.heap.size + 1)) (hr : OwnG 92 nodeCells 6 w2 w0.heap.size v' (ns ++ [bareN op]))
    (h1 : 1 ≤ ns.length) (hc : Cur w1 g a len cap) (hg : w.grownBy w1 (some g)) (h0 : w.heap.size ≤ w0.heap.size) (hN : ns.length + 1 ≤ N) (hgl : g < w0.heap.size := by omega) (hw0 : w0.heap.size ≤ w1.heap.size := by omega) : OutD N w g a len cap (.returned v') w2 := by
  have hb : Below w0.heap.size w1 w2 := (Below.refl _ w1).grown hga hw0 (fun k hk => h.r.lows k hk)
  refine ⟨v', ns ++ [bareN op], rfl, (h.more hga hat (by omega) hr (bare_own w1 _ hop) (fun x hx b hb' => by rw [List.mem_singleton.1 hx] at hb'; exact absurd hb' (bare_has op b))).low h0, by rw [List.length_append]; omega, by rw [List.length_append]; exact hN, hc.kept (hb.block g hgl), grown_tail hg (hb.mono h0)⟩
set_option maxRecDepth 20000 in
set_option maxHeartbeats 3200000 in
theorem draw_exp (g : Nat) (a : Option Addr) (len cap : Nat) (hlen : len ≤ 1048576) (B : Nat) (hB : B ≤ g) : ∀ (d N : Nat), N + 1 = 2 ^ (d + 1) → d ≤ 10 → ∀ (w : World), Cur w g a len cap → Row w B a len →
    Calls Tryz.prog 137 #[.pointer (some ⟨g, 0, none⟩), .int .i64 (d : Int)] w (OutD N w g a len cap) := by
  intro d
  induction d with
  | zero =>
    intro N hN hd w hc hrow
    obtain rfl : N = 1 := by omega
    have HR := Lib.hid hrow
    have HC := Lib.hid hc
    clear hc hrow
    go_enter Tryz.func137, Tryz.ntmps137
    go_wp2_with fail
    refine (wish_any _ g a len cap hlen HC.out B hB HR.out).mono ?_
    rintro e w1 ⟨t, rfl, ho, -, hc, hg⟩
    have HF := Lib.hid (one_node (op := 0) (by decide) ho hc hg hg.size 1 (Nat.le_refl _))
    clear ho hc hg
    unfold Wi.val
    go_wp2
    go_ret
    exact HF.out
  | succ d ih =>
    intro N hN hd w hc hrow
    obtain ⟨M, hM⟩ : ∃ M, M + 1 = 2 ^ (d + 1) := ⟨2 ^ (d + 1) - 1, by have := Nat.one_le_two_pow (n := d + 1); omega⟩
    have hNM : N = 2 * M + 1 := by rw [Nat.pow_succ] at hN; omega
    have hM1 : M + 1 ≤ 2048 := by rw [hM]; exact Nat.le_trans (Nat.pow_le_pow_right (by decide) (show d + 1 ≤ 11 by omega)) (by decide)
    have HI := Lib.hid (ih M hM (by omega))
    have hgl := hc.lt
    have HR := Lib.hid hrow
    have HC := Lib.hid hc
    clear hc hrow ih hN hM
    have hd0 : ((d : Int) + 1 == 0) = false := by simp; omega
    have hd1 : ((d : Int) + 1) - 1 = (d : Int) := by omega
    have hdw : IntKind.i64.wrap (d : Int) = (d : Int) := IntWalk.i64_in _ ⟨by omega, by omega⟩
    have hcast : ((d + 1 : Nat) : Int) = (d : Int) + 1 := by omega
    rw [hcast]
    go_enter Tryz.func137, Tryz.ntmps137
    go_wp2_with fail
    refine (once_any 3 (by omega) _ g a len cap hlen HC.out B hB HR.out).mono ?_
    rintro e w1 ⟨q, rfl, hc1, hg1⟩
    have HC1 := Lib.hid hc1
    have HG1 := Lib.hid hg1
    have HB1 := Lib.hid (grown_below hg1 hB (by omega))
    clear hc1 hg1
    cases q
    · go_wp2_with fail
      refine (below_any 4 (by omega) _ g a len cap hlen HC1.out B hB (HR.out.below HB1.out)).mono ?_
      rintro e w2 ⟨u, rfl, hu, hc2, hg2⟩
      obtain ⟨hu0, hu1⟩ := hu.2 (by omega)
      have HC2 := Lib.hid hc2
      have HG2 := Lib.hid (grown_trans HG1.out hg2)
      have HB2 := Lib.hid (grown_below HG2.out hB (by omega))
      have hgl2 : g < w2.heap.size := hc2.lt
      have hw1 : IntKind.i64.wrap (1 + u) = 1 + u := IntWalk.i64_in _ ⟨by omega, by omega⟩
      obtain ⟨op, hop⟩ : ∃ op, 1 + u = op := ⟨_, rfl⟩
      have hwf : (Lit.int .i64 op).wf = true := by
        obtain ⟨k, hk⟩ : ∃ k : Nat, op = (k : Int) := ⟨op.toNat, by omega⟩
        rw [hk]; exact wf_small (by omega)
      have HWf := Lib.hid hwf
      clear hu hc2 hg2 hwf
      rw [hop] at hw1
      by_cases h3 : op = 3
      · subst h3
        go_wp2_with fail
        refine (HI.out _ HC2.out (HR.out.below HB2.out)).mono ?_
        rintro e w3 ⟨v, ns, rfl, ho, l1, l2, hc3, hg3⟩
        have HO := Lib.hid ho
        have HC3 := Lib.hid hc3
        have HG3 := Lib.hid (grown_trans HG2.out hg3)
        have hsz : w2.heap.size ≤ w3.heap.size := hg3.size
        obtain ⟨v', w4, hr, hown, hga, hat⟩ := run_oneG nodeCells_len nodeCells_one (ty := 44) (c := 1) Tryz.underlying44 info_node rfl (by decide) (by decide) (bareN 3) (cs := #[.int .i64 3, .int .i64 0, .int .i64 0, .int .i64 0, .slice none 0 0, .slice none 0 0]) rfl HO.out.r rfl (by omega) hg3.size
        have HF := Lib.hid (drn_app HO.out HWf.out hga hat hown l1 HC3.out HG3.out HG2.out.size (N := N) (by omega))
        clear ho hc3 hg3 hown hga hat
        go_wp2_with (at_builtin; refine Go.Lib.wpList_append_run_sl _ (by rfl) (.tmp 27) (.tmp 30) 44 (by rfl) _ _ (by rfl) (by rfl) hr ?_)
        clear hr
        go_wp2
        go_ret
        exact HF.out
      · have f3 : (op == 3) = false := by simpa using h3
        clear h3
        go_wp2_with fail
        refine (HI.out _ HC2.out (HR.out.below HB2.out)).mono ?_
        rintro e w3 ⟨v, ns, rfl, ho, l1, l2, hc3, hg3⟩
        have HO := Lib.hid ho
        have HC3 := Lib.hid hc3
        have HG3 := Lib.hid (grown_trans HG2.out hg3)
        have HB3 := Lib.hid (grown_below HG3.out hB (by omega))
        have hgl3 : g < w3.heap.size := hc3.lt
        have hsz3 : w2.heap.size ≤ w3.heap.size := hg3.size
        clear ho hc3 hg3
        go_wp2_with fail
        refine (HI.out _ HC3.out (HR.out.below HB3.out)).mono ?_
        rintro e w4 ⟨v2, ns2, rfl, ho2, k1, k2, hc4, hg4⟩
        obtain ⟨A2, c2, rfl, -, -⟩ := ho2.r.shape
        have HO2 := Lib.hid ho2
        have HO1 : Hid (DrN w4 w2.heap.size v ns) := Lib.hid (HO.out.blocks fun b h1 h2 => hg4.block b h2 (fun e => by have := Option.some.inj e; omega))
        have HC4 := Lib.hid hc4
        have HG4 := Lib.hid (grown_trans HG3.out hg4)
        have hsz4 : w3.heap.size ≤ w4.heap.size := hg4.size
        have HV : Hid (∀ b, v.ownBlock = some b → b < w3.heap.size) := Lib.hid fun b hb => HO.out.r.tops b hb
        clear ho2 hc4 hg4
        obtain ⟨v3, w5, hr, hown, hga, hat⟩ := run_spreadG nodeCells_len nodeCells_one (ty := 44) (c := c2) Tryz.underlying44 info_node rfl (by decide) (by decide) HO1.out.r HO2.out.nodes.r (by omega) (by omega)
        have HO5 : Hid (DrN w5 w2.heap.size v3 (ns ++ ns2)) := Lib.hid (HO1.out.more hga hat (Nat.le_refl _) hown (fun x hx => ⟨(HO2.out.x x hx).1, (HO2.out.x x hx).2.low hsz3⟩) (fun x hx b hb e => by
          have q1 := ((HO2.out.x x hx).2.has_in hb).1
          have q2 := HV.out b e
          omega))
        have hb5 : Below w2.heap.size w4 w5 := (Below.refl _ w4).grown hga (by omega) (fun k hk => HO1.out.r.lows k hk)
        have HC5 : Hid (Cur w5 g a len cap) := Lib.hid (HC4.out.kept (hb5.block g hgl2))
        have HG5 : Hid (w.grownBy w5 (some g)) := Lib.hid (grown_tail HG4.out (hb5.mono HG2.out.size))
        have hsz5 : w2.heap.size ≤ w5.heap.size := by have := hb5.size; omega
        obtain ⟨v6, w6, hr6, hown6, hga6, hat6⟩ := run_oneG nodeCells_len nodeCells_one (ty := 44) (c := 1) Tryz.underlying44 info_node rfl (by decide) (by decide) (bareN op) (cs := #[.int .i64 op, .int .i64 0, .int .i64 0, .int .i64 0, .slice none 0 0, .slice none 0 0]) rfl HO5.out.r rfl (by rw [List.length_append]; omega) hsz5
        have HF := Lib.hid (drn_app HO5.out HWf.out hga6 hat6 hown6 (by rw [List.length_append]; omega) HC5.out HG5.out HG2.out.size (N := N) (by rw [List.length_append]; omega))
        clear hown hga hat hb5 hown6 hga6 hat6
        go_wp2_with (at_builtin; first | (refine Go.Lib.wpList_append_run_sl _ (by rfl) (.tmp 36) (.tmp 40) 44 (by rfl) _ _ (by rfl) (by rfl) hr ?_) | (refine Go.Lib.wpList_append_run_sl _ (by rfl) (.tmp 42) (.tmp 45) 44 (by rfl) _ _ (by rfl) (by rfl) hr6 ?_))
        clear hr hr6
        go_wp2
        go_ret
        exact HF.out
    · go_wp2_with fail
      refine (wish_any _ g a len cap hlen HC1.out B hB (HR.out.below HB1.out)).mono ?_
      rintro e w2 ⟨t, rfl, ho, -, hc, hg⟩
      have HF := Lib.hid (one_node (w := w) (op := 0) (by decide) (ho.low HG1.out.size) hc (grown_trans HG1.out hg) (grown_trans HG1.out hg).size N (by omega))
      clear ho hc hg
      unfold Wi.val
      go_wp2
      go_ret
      exact HF.out

set_option maxRecDepth 20000 in
theorem draw_expression (w : World) (g : Nat) (a : Option Addr) (len cap : Nat) (hlen : len ≤ 1048576) (hc : Cur w g a len cap) (B : Nat) (hB : B ≤ g) (hrow : Row w B a len) :
    Calls Tryz.prog 111 #[.pointer (some ⟨g, 0, none⟩)] w (OutD 9 w g a len cap) := by
  have hgl := hc.lt
  have HR := Lib.hid hrow
  have HI : Hid (Calls Tryz.prog 137 #[.pointer (some ⟨g, 0, none⟩), .int .i64 2] w (OutD 7 w g a len cap)) := Lib.hid (draw_exp g a len cap hlen B hB 2 7 (by decide) (by decide) w hc hrow)
  clear hc hrow
  go_enter Tryz.func111, Tryz.ntmps111
  go_wp2_with fail
  refine HI.out.mono ?_
  rintro e w1 ⟨v, ns, rfl, ho, l1, l2, hc1, hg1⟩
  obtain ⟨A1, c1, rfl, -, -⟩ := ho.r.shape
  have HF : Hid (OutD 9 w g a len cap (.returned (.slice A1 ns.length c1)) w1) := Lib.hid ⟨_, ns, rfl, ho, l1, by omega, hc1, hg1⟩
  have hd : decide ((ns.length : Int) > 9) = false := by simp; omega
  have hd' : ¬ ((9 : Int) < (ns.length : Int)) := by omega
  clear ho hc1 hg1 HI
  go_wp2
  go_ret
  exact HF.out
/-- The slice reads as the nodes ns, and does so in each world in which the blocks from lo on are as they are. -/
def KeepN (lo : Nat) (w : World) (A : Option Addr) (n : Nat) (ns : List Nd) : Prop := ∀ w'' : World, w.heap.size ≤ w''.heap.size → (∀ b, lo ≤ b → b < w.heap.size → w''.heap[b]? = w.heap[b]?) → Nodes w'' w''.heap.size A n ns
theorem KeepN.now {lo : Nat} {w : World} {A : Option Addr} {n : Nat} {ns : List Nd} (h : KeepN lo w A n ns) : Nodes w w.heap.size A n ns := h w (Nat.le_refl _) fun _ _ _ => rfl
theorem KeepN.step {lo : Nat} {w w' : World} {A : Option Addr} {n : Nat} {ns : List Nd} (h : KeepN lo w A n ns) (hs : w.heap.size ≤ w'.heap.size) (hb : ∀ b, lo ≤ b → b < w.heap.size → w'.heap[b]? = w.heap[b]?) : KeepN lo w' A n ns := fun w'' h1 h2 => h w'' (Nat.le_trans hs h1) fun b h3 h4 => (h2 b h3 (Nat.lt_of_lt_of_le h4 hs)).trans (hb b h3 h4)
/-- What l5Any hands back: it reads as nodes. -/
def OutA (w : World) (g : Nat) (a : Option Addr) (len cap : Nat) (e : Ending) (w' : World) : Prop :=
  ∃ A n c ns, e = .returned (.slice A n c) ∧ KeepN w.heap.size w' A n ns ∧ n ≤ c ∧ c ≤ maxLen ∧ ShortN ns ∧ n ≤ 10 ∧ Cur w' g a len cap ∧ w.grownBy w' (some g)
theorem OutD.any {N : Nat} {w : World} {g : Nat} {a : Option Addr} {len cap : Nat} {e : Ending} {w' : World} (h : OutD N w g a len cap e w') (hN : N ≤ 10) : OutA w g a len cap e w' := by
  obtain ⟨v, ns, rfl, ho, l1, l2, hc, hg⟩ := h
  obtain ⟨A, c, rfl, h1, h2⟩ := ho.r.shape
  exact ⟨A, _, c, ns, rfl, fun w'' _ hb => (ho.blocks hb).nodes, h1, h2, ho.short, by omega, hc, hg⟩
theorem nodes_tail {w : World} {B b c off n : Nat} {ns : List Nd} (h : Nodes w B (some ⟨b, off, none⟩) n ns) : Nodes w B (some ⟨b, off + 6, none⟩) (n - 1) (ns.drop 1) := by
  refine ⟨⟨by rw [List.length_drop, h.r.len], fun k x hk => ?_⟩, fun x hx => h.x x (List.mem_of_mem_drop hx)⟩
  rw [List.getElem?_drop] at hk
  obtain ⟨b', off', e, h1, h2⟩ := h.r.at' (1 + k) x hk
  injection e with e
  injection e with e1 e2
  subst e1 e2
  refine ⟨b, off + 6, rfl, h1, fun j v hv => ?_⟩
  have h3 := h2 j v hv
  rwa [show off + (1 + k) * 6 + j = off + 6 + k * 6 + j by omega] at h3
set_option maxRecDepth 20000 in
set_option maxHeartbeats 3200000 in
theorem any_expression (w : World) (g : Nat) (a : Option Addr) (len cap : Nat) (hlen : len ≤ 1048576) (hc : Cur w g a len cap) (B : Nat) (hB : B ≤ g) (hrow : Row w B a len) :
    Calls Tryz.prog 66 #[.pointer (some ⟨g, 0, none⟩)] w (OutA w g a len cap) := by
  have hgl := hc.lt
  have HR := Lib.hid hrow
  have HI := Lib.hid (draw_expression w g a len cap hlen hc B hB hrow)
  clear hc hrow
  go_enter Tryz.func66, Tryz.ntmps66
  go_wp2_with fail
  refine HI.out.mono ?_
  rintro e w1 ⟨v, ns, rfl, ho, l1, l2, hc1, hg1⟩
  have HO := Lib.hid ho
  have HC1 := Lib.hid hc1
  have HG1 := Lib.hid hg1
  have HB1 := Lib.hid (grown_below hg1 hB (by omega))
  have hs1 : w.heap.size ≤ w1.heap.size := hg1.size
  have hgl1 : g < w1.heap.size := hc1.lt
  clear ho hc1 hg1 HI
  go_wp2_with fail
  refine (below_any 12 (by omega) _ g a len cap hlen HC1.out B hB (HR.out.below HB1.out)).mono ?_
  rintro e w2 ⟨u, rfl, hu, hc2, hg2⟩
  obtain ⟨hu0, hu1⟩ := hu.2 (by omega)
  have HC2 := Lib.hid hc2
  have HG2 := Lib.hid (grown_trans HG1.out hg2)
  have HB2 := Lib.hid (grown_below HG2.out hB (by omega))
  have HO2 : Hid (DrN w2 w.heap.size v ns) := Lib.hid (HO.out.blocks fun b h1 h2 => hg2.block b h2 (fun e => by have := Option.some.inj e; omega))
  have hs2 : w.heap.size ≤ w2.heap.size := HG2.out.size
  have hgl2 : g < w2.heap.size := hc2.lt
  clear hu hc2 hg2
  by_cases u0 : u = 0
  · subst u0
    go_wp2_with fail
    refine (below_any 7 (by omega) _ g a len cap hlen HC2.out B hB (HR.out.below HB2.out)).mono ?_
    rintro e w3 ⟨z, rfl, hz, hc3, hg3⟩
    obtain ⟨hz0, hz1⟩ := hz.2 (by omega)
    have HC3 := Lib.hid hc3
    have HG3 := Lib.hid (grown_trans HG2.out hg3)
    have HO3 : Hid (DrN w3 w.heap.size v ns) := Lib.hid (HO2.out.blocks fun b h1 h2 => hg3.block b h2 (fun e => by have := Option.some.inj e; omega))
    have hs3 : w.heap.size ≤ w3.heap.size := HG3.out.size
    have hw1 : IntKind.i64.wrap (z - 1) = z - 1 := IntWalk.i64_in _ ⟨by omega, by omega⟩
    obtain ⟨op, hop⟩ : ∃ op, z - 1 = op := ⟨_, rfl⟩
    have hwf : (Lit.int .i64 op).wf = true := by simp [Lit.wf, IntKind.min, IntKind.max, IntKind.signed, IntKind.bits]; omega
    rw [hop] at hw1
    obtain ⟨v', w4, hr, hown, hga, hat⟩ := run_oneG nodeCells_len nodeCells_one (ty := 44) (c := 1) Tryz.underlying44 info_node rfl (by decide) (by decide) (bareN op) (cs := #[.int .i64 op, .int .i64 0, .int .i64 0, .int .i64 0, .slice none 0 0, .slice none 0 0]) rfl HO3.out.r rfl (by omega) hs3
    have HF := Lib.hid ((drn_app HO3.out hwf hga hat hown l1 HC3.out HG3.out (Nat.le_refl _) (N := 10) (by omega)).any (Nat.le_refl _))
    clear hz hc3 hg3 hown hga hat hwf
    go_wp2_with (at_builtin; refine Go.Lib.wpList_append_run_sl _ (by rfl) (.tmp 10) (.tmp 15) 44 (by rfl) _ _ (by rfl) (by rfl) hr ?_)
    clear hr
    go_wp2
    go_ret
    exact HF.out
  · have f0 : (u == 0) = false := by simpa using u0
    by_cases u1 : u = 1
    · subst u1
      clear f0 u0
      go_wp2_with fail
      refine (any_wish _ g a len cap hlen HC2.out B hB (HR.out.below HB2.out)).mono ?_
      rintro e w3 ⟨t, rfl, hot, -, hc3, hg3⟩
      have HC3 := Lib.hid hc3
      have HG3 := Lib.hid (grown_trans HG2.out hg3)
      have HO3 : Hid (DrN w3 w.heap.size v ns) := Lib.hid (HO2.out.blocks fun b h1 h2 => hg3.block b h2 (fun e => by have := Option.some.inj e; omega))
      have HT := Lib.hid hot
      have hs3 : w.heap.size ≤ w3.heap.size := HG3.out.size
      obtain ⟨v', w4, hr, hown, hga, hat⟩ := run_oneG nodeCells_len nodeCells_one (ty := 44) (c := 1) Tryz.underlying44 info_node rfl (by decide) (by decide) (⟨0, t⟩ : Nd) (cs := #[.int .i64 0, .int .i64 t.kind, .int .i64 t.field, .int .i64 t.value, .slice t.LA t.Ln t.Lc, .slice t.PA t.Pn t.Pc]) rfl HO3.out.r rfl (by omega) hs3
      have HF : Hid (OutA w g a len cap (.returned v') w4) := Lib.hid (by
        have hb : Below w.heap.size w3 w4 := (Below.refl _ w3).grown hga hs3 (fun k hk => HO3.out.r.lows k hk)
        have hd : DrN w4 w.heap.size v' (ns ++ [⟨0, t⟩]) := HO3.out.more hga hat (by omega) hown (fun x hx => by rw [List.mem_singleton.1 hx]; exact ⟨by show (Lit.int .i64 0).wf = true; decide, HT.out.low hs2⟩) (fun x hx b hb' e => by
          rw [List.mem_singleton.1 hx] at hb'
          have q1 := (HT.out.has_in hb').1
          have q2 := HO2.out.r.tops b e
          omega)
        exact OutD.any (N := 10) ⟨v', _, rfl, hd, by rw [List.length_append]; omega, by rw [List.length_append]; simp; omega, HC3.out.kept (hb.block g hgl), grown_tail HG3.out hb⟩ (Nat.le_refl _))
      clear hot hc3 hg3 hown hga hat
      unfold Wi.val
      go_wp2_with (at_builtin; refine Go.Lib.wpList_append_run_sl _ (by rfl) (.tmp 19) (.tmp 23) 44 (by rfl) _ _ (by rfl) (by rfl) hr ?_)
      clear hr
      go_wp2
      go_ret
      exact HF.out
    · have f1 : (u == 1) = false := by simpa using u1
      have HA : Hid (OutA w g a len cap (.returned v) w2) := Lib.hid (OutD.any (N := 9) ⟨v, ns, rfl, HO2.out, l1, l2, HC2.out, HG2.out⟩ (by decide))
      by_cases u2 : u = 2
      · subst u2
        obtain ⟨A1, c1, rfl, hl, hcm⟩ := HO2.out.r.shape
        obtain ⟨m, hm⟩ : ∃ m, ns.length = m + 1 := ⟨ns.length - 1, by omega⟩
        have hNd := HO2.out.nodes
        rw [hm] at hl hNd ⊢
        obtain ⟨b, off, e, _, _⟩ := hNd.r.cells nodeCells_len (by omega)
        subst e
        have HK : Hid (∀ w'' : World, (∀ b, w.heap.size ≤ b → b < w2.heap.size → w''.heap[b]? = w2.heap[b]?) → Nodes w'' w''.heap.size (some ⟨b, off, none⟩) (m + 1) ns) := Lib.hid fun w'' hb => by have h := (HO2.out.blocks hb).nodes; rwa [hm] at h
        obtain ⟨c, hcc⟩ : ∃ c, c1 = c + 1 := ⟨c1 - 1, by omega⟩
        subst hcc
        have hcm' : c + 1 ≤ 9223372036854775807 := by unfold maxLen at hcm; omega
        have h1c : (1 : Int) ≤ (c : Int) + 1 := by omega
        have h1m : (1 : Int) ≤ (m : Int) + 1 := by omega
        rcases Nat.eq_zero_or_pos c with c0 | c0
        · subst c0
          obtain rfl : m = 0 := by omega
          have HF : Hid (∀ o : Nat, OutA w g a len cap (.returned (.slice (some ⟨b, o, none⟩) 0 0)) w2) := Lib.hid fun o => ⟨_, 0, 0, [], rfl, fun _ _ _ => .nil _ _ _, by omega, by omega, by simp [ShortN], by omega, HC2.out, HG2.out⟩
          clear hNd u0 u1 hl hcm
          go_wp2
          go_ret
          exact HF.out _
        · have HF : Hid (OutA w g a len cap (.returned (.slice (some ⟨b, off + 6, none⟩) m c)) w2) := Lib.hid ⟨_, m, c, ns.drop 1, rfl, fun w'' _ hb => by have h := nodes_tail (c := c) (HK.out w'' hb); simpa using h, by omega, by omega, fun x hx => HO2.out.short x (List.mem_of_mem_drop hx), by omega, HC2.out, HG2.out⟩
          have hcne : ¬ (c = 0) := by omega
          have hcne' : ¬ ((c : Int) = 0) := by omega
          have hcp : (0 : Int) < (c : Int) := by omega
          clear hNd u0 u1 hl hcm
          go_wp2
          go_ret
          exact HF.out
      · have f2 : (u == 2) = false := by simpa using u2
        clear u0 u1 u2
        go_wp2
        go_ret
        exact HA.out
end Go.Proofs.YtadjoiahllekdaaGreatDoor.num
