/-
  The program's tastes, continued: what makes a wish valid.
-/
import Derived.Test.YtclpnhdpojkjpaaGreatWishSpec
import Derived.Test.YtclpnhdpojkjpaaGreatPairProg
namespace Go.Proofs.YtclpnhdpojkjpaaGreat.num
set_option maxRecDepth 20000
open Go.RowKit Go.Maps
set_option linter.unusedVariables false


set_option maxRecDepth 20000 in
theorem iList (w : World) (B : Nat) (A : Option Addr) (n c : Nat) (xs : List Int) (hi : Ints w B A n xs) (hn : n ≤ 1048576) (b : Bool) (hb : b = true ↔ Asc xs) :
    Calls Tryz.prog 163 #[.slice A n c] w fun e w' => e = .returned (.bool b) ∧ w' = w := by
  have HX := Lib.hid hi
  have HB := Lib.hid hb
  clear hi hb
  have HNo : Hid (¬ AscUp xs → b = false) := Lib.hid fun h => by
    cases b
    · rfl
    · exact absurd (HB.out.1 rfl).2 h
  go_enter Tryz.func163, Tryz.ntmps163
  go_wp2
  go_loopw [7] (fun i wr => ∃ k : Nat, k ≤ n ∧ i = .int .i64 k ∧ AscUp (xs.take k) ∧ wr = w) (fun i _ => n - (intOf i).toNat)
  case atStart => exact ⟨0, Nat.zero_le _, rfl, by rw [List.take_zero]; exact AscUp.nil, rfl⟩
  case round =>
    obtain ⟨k, hk, rfl, hasc, rfl⟩ := hrel
    have HA := Lib.hid hasc
    clear hasc
    by_cases hlt : k < n
    · obtain ⟨b1, off, x, hA1, hb1, hat, hc⟩ := HX.out.at k hlt
      have HT := Lib.hid hat
      have hlt' : (k : Int) < (n : Int) := by omega
      obtain ⟨q, hq⟩ := bool_of (InR x)
      have HQ := Lib.hid hq
      clear hat hq
      cases q
      · obtain rfl : b = false := HNo.out fun h => by have := HQ.out.2 (h.1 x (List.mem_of_getElem? HT.out)); cases this
        subst hA1
        go_wp2_with fail
        refine (isValue_of x false HQ.out _).mono ?_
        rintro e w1 ⟨rfl, rfl⟩
        go_wp2
        go_ret
        exact ⟨rfl, rfl⟩
      · have HD := Lib.hid (HQ.out.1 rfl)
        rcases Nat.eq_zero_or_pos k with h0 | h0
        · have HK := Lib.hid h0
          subst hA1
          clear h0
          have hk0 : decide (0 < k) = false := decide_eq_false (by have := HK.out; omega)
          go_wp2_with fail
          refine (isValue_of x true ⟨fun _ => HD.out, fun _ => rfl⟩ _).mono ?_
          rintro e w1 ⟨rfl, rfl⟩
          go_wp2
          clear hk0
          go_roundw
          case rel => exact ⟨k + 1, by omega, by go_num, ascUp_snoc HA.out HT.out HD.out (fun j u hj _ => by have := HK.out; omega), by first | rfl | trivial⟩
          case measure => simp [intOf]; omega
        · obtain ⟨j, hj⟩ : ∃ j, j + 1 = k := ⟨k - 1, by omega⟩
          obtain ⟨b2, off2, y, hA2, hb2, hat2, hc2⟩ := HX.out.at j (by omega)
          obtain ⟨rfl, rfl⟩ : b1 = b2 ∧ off = off2 := by rw [hA1] at hA2; injection hA2 with h; injection h with h1 h2; exact ⟨h1, h2⟩
          have HT0 := Lib.hid hat2
          have HJ := Lib.hid hj
          have HK0 : Hid ((0 : Int) < (k : Int)) := by show _ < _; omega
          have hkj : (k : Int) - 1 = (j : Int) := by omega
          have hkw : IntKind.i64.wrap ((k : Int) - 1) = (j : Int) := by rw [hkj]; exact IntWalk.i64_in _ ⟨by omega, by omega⟩
          have hjw : IntKind.i64.wrap (j : Int) = (j : Int) := IntWalk.i64_in _ ⟨by omega, by omega⟩
          have hjn : (j : Int) < (n : Int) := by omega
          have hjn' : j < n := by omega
          have hk0 : decide (0 < k) = true := decide_eq_true (by have := HK0.out; omega)
          subst hA1
          clear h0 hj hat2 hA2
          by_cases hle : x ≤ y
          · obtain rfl : b = false := HNo.out (asc_bad (by rw [HJ.out]; exact HT.out) HT0.out hle)
            go_wp2_with fail
            refine (isValue_of x true ⟨fun _ => HD.out, fun _ => rfl⟩ _).mono ?_
            rintro e w1 ⟨rfl, rfl⟩
            go_wp2
            go_ret
            exact ⟨rfl, rfl⟩
          · have HLe : Hid (y < x) := by show _ < _; omega
            go_wp2_with fail
            refine (isValue_of x true ⟨fun _ => HD.out, fun _ => rfl⟩ _).mono ?_
            rintro e w1 ⟨rfl, rfl⟩
            go_wp2
            clear hk0
            go_roundw
            case rel => exact ⟨k + 1, by omega, by go_num, ascUp_snoc HA.out HT.out HD.out (asc_next HJ.out HT0.out HLe.out), by first | rfl | trivial⟩
            case measure => simp [intOf]; omega
    · obtain rfl : k = n := by omega
      have h := HA.out
      rw [ptake_all HX.out.1] at h
      have HH := Lib.hid h
      clear h
      by_cases h0 : (0 : Int) < (k : Int)
      · have hd : decide (0 < k) = true := by simp; omega
        obtain rfl : b = true := HB.out.2 ⟨fun e => by have := HX.out.1; rw [e] at this; simp at this; omega, HH.out⟩
        go_wp2
        go_ret
        exact ⟨by simp, rfl⟩
      · obtain rfl : b = false := by
          cases b
          · rfl
          · exact absurd (List.length_eq_zero_iff.1 (by rw [HX.out.1]; omega)) (HB.out.1 rfl).1
        go_wp2
        go_ret
        exact ⟨by simp; omega, rfl⟩

set_option maxRecDepth 20000 in
theorem iOther (w : World) (t : Wi) (hl : t.Ln ≤ 1048576) (hp : t.Pn ≤ 1048576) (q : Bool) (hq : q = true ↔ (t.kind ≠ 2 ∧ t.value ≠ 0) ∨ (t.kind ≠ 3 ∧ t.Ln ≠ 0) ∨ (t.kind ≠ 4 ∧ t.Pn ≠ 0)) :
    Calls Tryz.prog 161 #[t.val] w fun e w' => e = .returned (.bool q) ∧ Below w.heap.size w w' := by
  obtain ⟨k, f, v, LA, Ln, Lc, ls, PA, Pn, Pc, ps⟩ := t
  unfold Wi.val
  simp only [] at hl hp hq ⊢
  have HW1 : Hid (∀ o : Obj, Below w.heap.size w (w.alloc o)) := Lib.hid fun o => (Below.refl _ w).alloc (Nat.le_refl _) _
  by_cases k2 : k = 2
  · subst k2
    by_cases hL : Ln = 0
    · have hL' : decide (0 < Ln) = false := by simp [hL]
      have hL2 : ¬ ((0 : Int) < (Ln : Int)) := by omega
      by_cases hP : Pn = 0
      · have hP' : decide (0 < Pn) = false := by simp [hP]
        have hP2 : ¬ ((0 : Int) < (Pn : Int)) := by omega
        obtain rfl : q = false := by
          cases q
          · rfl
          · exact absurd (hq.1 rfl) (by omega)
        clear hq hL hP
        go_enter Tryz.func161, Tryz.ntmps161
        go_wp2
        go_ret
        exact ⟨by first | rfl | simp, HW1.out _⟩
      · have hP' : decide (0 < Pn) = true := by simp; omega
        have hP2 : (0 : Int) < (Pn : Int) := by omega
        obtain rfl : q = true := hq.2 (by omega)
        clear hq hL hP
        go_enter Tryz.func161, Tryz.ntmps161
        go_wp2
        go_ret
        exact ⟨by first | rfl | simp, HW1.out _⟩
    · have hL' : decide (0 < Ln) = true := by simp; omega
      have hL2 : (0 : Int) < (Ln : Int) := by omega
      obtain rfl : q = true := hq.2 (by omega)
      clear hq hL
      go_enter Tryz.func161, Tryz.ntmps161
      go_wp2
      go_ret
      exact ⟨by first | rfl | simp, HW1.out _⟩
  · by_cases k3 : k = 3
    · subst k3
      clear k2
      by_cases hv : v = 0
      · have hv' : (v != 0) = false := by simp [hv]
        by_cases hP : Pn = 0
        · have hP' : decide (0 < Pn) = false := by simp [hP]
          have hP2 : ¬ ((0 : Int) < (Pn : Int)) := by omega
          obtain rfl : q = false := by
            cases q
            · rfl
            · exact absurd (hq.1 rfl) (by omega)
          clear hq hv hP
          go_enter Tryz.func161, Tryz.ntmps161
          go_wp2
          go_ret
          exact ⟨by first | rfl | simp, HW1.out _⟩
        · have hP' : decide (0 < Pn) = true := by simp; omega
          have hP2 : (0 : Int) < (Pn : Int) := by omega
          obtain rfl : q = true := hq.2 (by omega)
          clear hq hv hP
          go_enter Tryz.func161, Tryz.ntmps161
          go_wp2
          go_ret
          exact ⟨by first | rfl | simp, HW1.out _⟩
      · have hv' : (v != 0) = true := by simp [hv]
        obtain rfl : q = true := hq.2 (by omega)
        clear hq hv
        go_enter Tryz.func161, Tryz.ntmps161
        go_wp2
        go_ret
        exact ⟨by first | rfl | simp, HW1.out _⟩
    · by_cases k4 : k = 4
      · subst k4
        clear k2 k3
        by_cases hv : v = 0
        · have hv' : (v != 0) = false := by simp [hv]
          by_cases hL : Ln = 0
          · have hL' : decide (0 < Ln) = false := by simp [hL]
            have hL2 : ¬ ((0 : Int) < (Ln : Int)) := by omega
            obtain rfl : q = false := by
              cases q
              · rfl
              · exact absurd (hq.1 rfl) (by omega)
            clear hq hv hL
            go_enter Tryz.func161, Tryz.ntmps161
            go_wp2
            go_ret
            exact ⟨by first | rfl | simp, HW1.out _⟩
          · have hL' : decide (0 < Ln) = true := by simp; omega
            have hL2 : (0 : Int) < (Ln : Int) := by omega
            obtain rfl : q = true := hq.2 (by omega)
            clear hq hv hL
            go_enter Tryz.func161, Tryz.ntmps161
            go_wp2
            go_ret
            exact ⟨by first | rfl | simp, HW1.out _⟩
        · have hv' : (v != 0) = true := by simp [hv]
          obtain rfl : q = true := hq.2 (by omega)
          clear hq hv
          go_enter Tryz.func161, Tryz.ntmps161
          go_wp2
          go_ret
          exact ⟨by first | rfl | simp, HW1.out _⟩
      · have f2 : (k != 2) = true := by simpa using k2
        have f3 : (k != 3) = true := by simpa using k3
        have f4 : (k != 4) = true := by simpa using k4
        by_cases hv : v = 0
        · have hv' : (v != 0) = false := by simp [hv]
          by_cases hL : Ln = 0
          · have hL' : decide (0 < Ln) = false := by simp [hL]
            have hL2 : ¬ ((0 : Int) < (Ln : Int)) := by omega
            by_cases hP : Pn = 0
            · have hP' : decide (0 < Pn) = false := by simp [hP]
              have hP2 : ¬ ((0 : Int) < (Pn : Int)) := by omega
              obtain rfl : q = false := by
                cases q
                · rfl
                · exact absurd (hq.1 rfl) (by omega)
              clear hq k2 k3 k4 hv hL hP
              go_enter Tryz.func161, Tryz.ntmps161
              go_wp2
              go_ret
              exact ⟨by first | rfl | simp, HW1.out _⟩
            · have hP' : decide (0 < Pn) = true := by simp; omega
              have hP2 : (0 : Int) < (Pn : Int) := by omega
              obtain rfl : q = true := hq.2 (by omega)
              clear hq k2 k3 k4 hv hL hP
              go_enter Tryz.func161, Tryz.ntmps161
              go_wp2
              go_ret
              exact ⟨by first | rfl | simp, HW1.out _⟩
          · have hL' : decide (0 < Ln) = true := by simp; omega
            have hL2 : (0 : Int) < (Ln : Int) := by omega
            obtain rfl : q = true := hq.2 (by omega)
            clear hq k2 k3 k4 hv hL
            go_enter Tryz.func161, Tryz.ntmps161
            go_wp2
            go_ret
            exact ⟨by first | rfl | simp, HW1.out _⟩
        · have hv' : (v != 0) = true := by simp [hv]
          obtain rfl : q = true := hq.2 (by omega)
          clear hq k2 k3 k4 hv
          go_enter Tryz.func161, Tryz.ntmps161
          go_wp2
          go_ret
          exact ⟨by first | rfl | simp, HW1.out _⟩
end Go.Proofs.YtclpnhdpojkjpaaGreat.num
