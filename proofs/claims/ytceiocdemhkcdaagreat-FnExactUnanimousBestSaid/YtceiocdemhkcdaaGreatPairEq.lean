/-
  The laws' own comparison of slices of pairs: eqPair, eqPairS.
-/
import Derived.Test.YtceiocdemhkcdaaGreatPairSpecD
namespace Go.Proofs.YtceiocdemhkcdaaGreat.num
set_option maxRecDepth 20000
open Go.RowKit
set_option linter.unusedVariables false

set_option maxRecDepth 20000 in
theorem eqPair_c (w : World) (x y x' y' : Int) (b : Bool) (hb : b = true ↔ (x, y) = (x', y')) :
    Calls Tryz.prog 201 #[.agg #[.int .i64 x, .int .i64 y], .agg #[.int .i64 x', .int .i64 y']] w fun e w' => e = .returned (.bool b) ∧ Below w.heap.size w w' := by
  have HB := Lib.hid hb
  clear hb
  by_cases h1 : x = x'
  · subst h1
    by_cases h2 : y = y'
    · subst h2
      obtain rfl : b = true := HB.out.2 rfl
      go_enter Tryz.func201, Tryz.ntmps201
      go_wp2
      go_ret
      exact ⟨rfl, ((Below.refl _ w).alloc (Nat.le_refl _) _).alloc (by simp) _⟩
    · obtain rfl : b = false := by
        cases b
        · rfl
        · exact absurd (Prod.mk.inj (HB.out.1 rfl)).2 h2
      have hne : (y != y') = true := by simpa using h2
      clear h2
      go_enter Tryz.func201, Tryz.ntmps201
      go_wp2
      go_ret
      exact ⟨rfl, ((Below.refl _ w).alloc (Nat.le_refl _) _).alloc (by simp) _⟩
  · obtain rfl : b = false := by
      cases b
      · rfl
      · exact absurd (Prod.mk.inj (HB.out.1 rfl)).1 h1
    have hne : (x != x') = true := by simpa using h1
    clear h1
    go_enter Tryz.func201, Tryz.ntmps201
    go_wp2
    go_ret
    exact ⟨rfl, ((Below.refl _ w).alloc (Nat.le_refl _) _).alloc (by simp) _⟩

theorem ne_atP {ps qs : List (Int × Int)} {k : Nat} {p q : Int × Int} (h1 : ps[k]? = some p) (h2 : qs[k]? = some q) (h : p ≠ q) : ps ≠ qs := fun e => by
  rw [e, h2] at h1
  exact h (Option.some.inj h1).symm

set_option maxRecDepth 20000 in
theorem eqPairs (w : World) (B : Nat) (A A' : Option Addr) (n n' c c' : Nat) (ps qs : List (Int × Int)) (h1 : Pairs w B A n ps) (h2 : Pairs w B A' n' qs) (hB : B ≤ w.heap.size) (hn : n ≤ 1048576) (b : Bool) (hb : b = true ↔ ps = qs) :
    Calls Tryz.prog 176 #[.slice A n c, .slice A' n' c'] w fun e w' => e = .returned (.bool b) ∧ Below w.heap.size w w' := by
  have HX := Lib.hid h1
  have HY := Lib.hid h2
  by_cases hl : n = n'
  · subst hl
    have HBo := Lib.hid hb
    clear h1 h2 hb
    go_enter Tryz.func176, Tryz.ntmps176
    go_wp2
    go_loopw [5] (fun i wr => ∃ k : Nat, k ≤ n ∧ i = .int .i64 k ∧ ps.take k = qs.take k ∧ Below w.heap.size w wr) (fun i _ => n - (intOf i).toNat)
    case atStart => exact ⟨0, Nat.zero_le _, rfl, rfl, Below.refl _ _⟩
    case round =>
      obtain ⟨k, hk, rfl, htake, hbel⟩ := hrel
      have HT := Lib.hid htake
      have HB := Lib.hid hbel
      clear htake
      by_cases hlt : k < n
      · obtain ⟨b1, off1, x1, y1, rfl, hb1, hat1, hc1, hd1⟩ := HX.out.at k hlt
        obtain ⟨b2, off2, x2, y2, rfl, hb2, hat2, hc2, hd2⟩ := HY.out.at k hlt
        have f1 := (hbel.cell (p := ⟨b1, off1 + k * 2, none⟩) (by exact Nat.lt_of_lt_of_le hb1 hB)).trans hc1
        have f2 := (hbel.cell (p := ⟨b1, off1 + k * 2 + 1, none⟩) (by exact Nat.lt_of_lt_of_le hb1 hB)).trans hd1
        have f3 := (hbel.cell (p := ⟨b2, off2 + k * 2, none⟩) (by exact Nat.lt_of_lt_of_le hb2 hB)).trans hc2
        have f4 := (hbel.cell (p := ⟨b2, off2 + k * 2 + 1, none⟩) (by exact Nat.lt_of_lt_of_le hb2 hB)).trans hd2
        have HA1 := Lib.hid hat1
        have HA2 := Lib.hid hat2
        have hsz := Lib.hid hbel.size
        have hlt' : (k : Int) < (n : Int) := by omega
        obtain ⟨q, hq⟩ : ∃ q : Bool, q = true ↔ (x1, y1) = (x2, y2) := bool_of _
        have HQ := Lib.hid hq
        clear hc1 hd1 hc2 hd2 hat1 hat2 hbel hq
        have HB' : Hid (Below w.heap.size w wr.drew) := Lib.hid HB.out.drew
        have hsz' : Hid (w.heap.size ≤ wr.drew.heap.size) := hsz
        clear HB hsz
        go_wp2
        go_still_tail 8, (by kernel_rfl)
        change wpList _ _ _ _ _ wr.drew
        generalize wr.drew = w2 at *
        clear f1 f2 f3 f4
        go_wp2_with fail
        refine (eqPair_c w2 x1 y1 x2 y2 q HQ.out).mono ?_
        rintro e w3 ⟨rfl, hb3⟩
        have HB3 := Lib.hid (HB'.out.trans (hb3.mono hsz'.out))
        clear hb3
        cases q
        · have HF := Lib.hid (ne_atP HA1.out HA2.out (fun e => by have := HQ.out.2 e; cases this))
          obtain rfl : b = false := by
            cases b
            · rfl
            · exact absurd (HBo.out.1 rfl) HF.out
          go_wp2
          go_ret
          exact ⟨rfl, HB3.out⟩
        · have HD := Lib.hid (HQ.out.1 (by first | rfl | trivial))
          go_wp2
          go_roundw
          case rel => exact ⟨k + 1, by omega, by go_num, by rw [ptake_at HA1.out, ptake_at HA2.out, HT.out, HD.out], HB3.out⟩
          case measure => simp [intOf]; omega
      · obtain rfl : k = n := by omega
        obtain rfl : b = true := HBo.out.2 (by have := HT.out; rwa [ptake_all HX.out.1, ptake_all HY.out.1] at this)
        clear hbel
        go_wp2
        go_ret
        exact ⟨rfl, HB.out⟩
  · obtain rfl : b = false := by
      cases b
      · rfl
      · exact absurd (by rw [← h1.1, hb.1 rfl, h2.1]) hl
    clear h1 h2 hb
    go_enter Tryz.func176, Tryz.ntmps176
    go_wp2
    go_ret
    exact ⟨rfl, Below.refl _ _⟩
end Go.Proofs.YtceiocdemhkcdaaGreat.num
