/-
  Wishes and expressions compared, by the model and by the program: contracts.
-/
import Derived.Test.YtceiocdemhkcdaaExpSpec
import Derived.Test.YtceiocdemhkcdaaItemEqs
import Derived.Test.YtceiocdemhkcdaaPairEq
import Derived.Test.YtceiocdemhkcdaaRegion
namespace Go.Proofs.Ytceiocdemhkcdaa.num
set_option maxRecDepth 20000
open Go.RowKit
set_option linter.unusedVariables false
set_option linter.unusedSimpArgs false

set_option maxRecDepth 20000 in
theorem pair_neq (w : World) (x1 y1 x2 y2 : Int) : (binOp .neq 168 (.agg #[.int .i64 x1, .int .i64 y1]) (.agg #[.int .i64 x2, .int .i64 y2])).run Try.prog w = .ok (.bool (!(x1 == x2 && y1 == y2))) w := by
  have hu := Try.underlying168
  by_cases h1 : x1 = x2
  · go_simp
    by_cases h2 : y1 = y2 <;> simp [h1, h2]
  · go_simp

set_option maxRecDepth 20000 in
theorem slEqualP (w : World) (B : Nat) (A A' : Option Addr) (n n' c c' : Nat) (ps qs : List (Int × Int)) (h1 : Pairs w B A n ps) (h2 : Pairs w B A' n' qs) (hn : n ≤ 1048576) (b : Bool) (hb : b = true ↔ ps = qs) :
    Calls Try.prog 140 #[.slice A n c, .slice A' n' c'] w fun e w' => e = .returned (.bool b) ∧ ∃ m, w' = w.drewN m := by
  have HX := Lib.hid h1
  have HY := Lib.hid h2
  by_cases hl : n = n'
  · subst hl
    have HBo := Lib.hid hb
    clear h1 h2 hb
    go_enter Try.func140, Try.ntmps140
    go_wp2
    go_loopw [13] (fun i wr => ∃ k : Nat, k ≤ n ∧ i = .int .i64 k ∧ ps.take k = qs.take k ∧ ∃ m, wr = w.drewN m) (fun i _ => n - (intOf i).toNat)
    case atStart => exact ⟨0, Nat.zero_le _, rfl, rfl, 0, rfl⟩
    case round =>
      obtain ⟨k, hk, rfl, htake, m, rfl⟩ := hrel
      have HT := Lib.hid htake
      clear htake
      by_cases hlt : k < n
      · obtain ⟨b1, off1, x1, y1, rfl, hb1, hat1, hc1, hd1⟩ := HX.out.at k hlt
        obtain ⟨b2, off2, x2, y2, rfl, hb2, hat2, hc2, hd2⟩ := HY.out.at k hlt
        have HA1 := Lib.hid hat1
        have HA2 := Lib.hid hat2
        have hlt' : (k : Int) < (n : Int) := by omega
        obtain ⟨q, hq⟩ : ∃ q : Bool, q = true ↔ (x1, y1) = (x2, y2) := bool_of _
        have HQ := Lib.hid hq
        have hne : ∀ w1, (binOp .neq 168 (.agg #[.int .i64 x1, .int .i64 y1]) (.agg #[.int .i64 x2, .int .i64 y2])).run Try.prog w1 = .ok (.bool (!q)) w1 := fun w1 => by
          rw [pair_neq]
          congr 2
          cases q
          · have : (x1 == x2 && y1 == y2) = false := by
              cases h : (x1 == x2 && y1 == y2)
              · rfl
              · simp at h; exact absurd (HQ.out.2 (by rw [h.1, h.2])) (by simp)
            rw [this]
          · have h := Prod.mk.inj (HQ.out.1 rfl)
            rw [h.1, h.2]; simp
        clear hat1 hat2 hq
        cases q
        · have HF := Lib.hid (ne_atP HA1.out HA2.out (fun e => by have := HQ.out.2 e; cases this))
          obtain rfl : b = false := by
            cases b
            · rfl
            · exact absurd (HBo.out.1 rfl) HF.out
          go_wp2
          go_quiet (fail)
          go_wp2
          go_ret
          exact ⟨rfl, _, World.drewN_drewN _ _ _⟩
        · have HD := Lib.hid (HQ.out.1 rfl)
          go_wp2
          go_quiet (fail)
          go_wp2
          go_roundw
          case rel => exact ⟨k + 1, by omega, by go_num, by rw [ptake_at HA1.out, ptake_at HA2.out, HT.out, HD.out], _, rfl⟩
          case measure => simp [intOf]; omega
      · obtain rfl : k = n := by omega
        obtain rfl : b = true := HBo.out.2 (by have := HT.out; rwa [ptake_all HX.out.1, ptake_all HY.out.1] at this)
        go_wp2
        go_ret
        exact ⟨rfl, _, rfl⟩
  · obtain rfl : b = false := by
      cases b
      · rfl
      · exact absurd (by rw [← h1.1, hb.1 rfl, h2.1]) hl
    clear h1 h2 hb
    go_enter Try.func140, Try.ntmps140
    go_wp2
    go_ret
    exact ⟨rfl, 0, rfl⟩

set_option maxRecDepth 20000 in
theorem iSameWish (w : World) (B : Nat) (t t' : Wi) (h1 : WiIn w B t) (h2 : WiIn w B t') (hB : B ≤ w.heap.size) (hn : t.Short) (b : Bool) (hb : b = true ↔ t.dat = t'.dat) :
    Calls Try.prog 125 #[t.val, t'.val] w fun e w' => e = .returned (.bool b) ∧ Below w.heap.size w w' := by
  obtain ⟨k, f, v, LA, Ln, Lc, ls, PA, Pn, Pc, ps⟩ := t
  obtain ⟨k', f', v', LA', Ln', Lc', ls', PA', Pn', Pc', ps'⟩ := t'
  obtain ⟨-, -, -, hl, hp⟩ := h1
  obtain ⟨-, -, -, hl', hp'⟩ := h2
  unfold Wi.val
  simp only [Wi.dat, WD.mk.injEq, Wi.Short] at hl hp hl' hp' hn hb ⊢
  have HB2 : Hid (∀ o1 o2 : Obj, Below B w ((w.alloc o1).alloc o2)) := Lib.hid fun o1 o2 => ((Below.refl B w).alloc hB _).alloc (by simp; omega) _
  have HW2 : Hid (∀ o1 o2 : Obj, Below w.heap.size w ((w.alloc o1).alloc o2)) := Lib.hid fun o1 o2 => ((Below.refl _ w).alloc (Nat.le_refl _) _).alloc (by simp) _
  obtain ⟨q1, hq1⟩ := bool_of (ls = ls')
  obtain ⟨q2, hq2⟩ := bool_of (ps = ps')
  have HI : Hid (∀ w1, Below B w w1 → Calls Try.prog 139 #[.slice LA Ln Lc, .slice LA' Ln' Lc'] w1 fun e w' => e = .returned (.bool q1) ∧ ∃ m, w' = w1.drewN m) := Lib.hid fun w1 h => slEqual w1 B LA LA' Ln Ln' Lc Lc' ls ls' (hl.below h) (hl'.below h) hn.1 q1 hq1
  have HP : Hid (∀ w1, Below B w w1 → Calls Try.prog 140 #[.slice PA Pn Pc, .slice PA' Pn' Pc'] w1 fun e w' => e = .returned (.bool q2) ∧ ∃ m, w' = w1.drewN m) := Lib.hid fun w1 h => slEqualP w1 B PA PA' Pn Pn' Pc Pc' ps ps' (hp.below h) (hp'.below h) hn.2 q2 hq2
  have HNo : Hid (¬ (k = k' ∧ f = f' ∧ v = v' ∧ q1 = true ∧ q2 = true) → b = false) := Lib.hid fun h => by
    cases b
    · rfl
    · obtain ⟨e1, e2, e3, e4, e5⟩ := hb.1 rfl
      exact absurd ⟨e1, e2, e3, hq1.2 e4, hq2.2 e5⟩ h
  have HYes : Hid (k = k' → f = f' → v = v' → q1 = true → q2 = true → b = true) := Lib.hid fun e1 e2 e3 e4 e5 => hb.2 ⟨e1, e2, e3, hq1.1 e4, hq2.1 e5⟩
  clear hl hp hl' hp' hb hq1 hq2 hn
  by_cases e1 : k = k'
  · by_cases e2 : f = f'
    · by_cases e3 : v = v'
      · cases q1
        · obtain rfl := HNo.out fun h => by have := h.2.2.2.1; cases this
          subst e1 e2 e3
          go_enter Try.func125, Try.ntmps125
          go_wp2_with fail
          refine (HI.out _ (HB2.out _ _)).mono ?_
          rintro e w1 ⟨rfl, m1, rfl⟩
          go_wp2
          go_ret
          exact ⟨rfl, below_drewN (HW2.out _ _) _⟩
        · have HR : Hid (b = q2) := Lib.hid (by
            cases q2
            · exact HNo.out fun h => by have := h.2.2.2.2; cases this
            · exact HYes.out e1 e2 e3 rfl rfl)
          obtain rfl := HR.out
          subst e1 e2 e3
          go_enter Try.func125, Try.ntmps125
          go_wp2_with fail
          refine (HI.out _ (HB2.out _ _)).mono ?_
          rintro e w1 ⟨rfl, m1, rfl⟩
          go_wp2_with fail
          refine (HP.out _ (below_drewN (HB2.out _ _) _)).mono ?_
          rintro e w1 ⟨rfl, m2, rfl⟩
          go_wp2
          go_ret
          exact ⟨rfl, below_drewN (HW2.out _ _) _⟩
      · obtain rfl := HNo.out fun h => e3 h.2.2.1
        subst e1 e2
        have hne : (v == v') = false := by simpa using e3
        go_enter Try.func125, Try.ntmps125
        go_wp2
        go_ret
        exact ⟨rfl, HW2.out _ _⟩
    · obtain rfl := HNo.out fun h => e2 h.2.1
      subst e1
      have hne : (f == f') = false := by simpa using e2
      go_enter Try.func125, Try.ntmps125
      go_wp2
      go_ret
      exact ⟨rfl, HW2.out _ _⟩
  · obtain rfl := HNo.out fun h => e1 h.1
    have hne : (k == k') = false := by simpa using e1
    go_enter Try.func125, Try.ntmps125
    go_wp2
    go_ret
    exact ⟨rfl, HW2.out _ _⟩

end Go.Proofs.Ytceiocdemhkcdaa.num
