/-
  The program's tastes, continued: what makes a wish valid.
-/
import Derived.Test.YtnjnlcmddcjcfaaGreatWishSpec
import Derived.Test.YtnjnlcmddcjcfaaGreatPairProg
import Derived.Test.YtnjnlcmddcjcfaaGreatAscUp
namespace Go.Proofs.YtnjnlcmddcjcfaaGreat.num
set_option maxRecDepth 20000
open Go.RowKit Go.Maps
set_option linter.unusedVariables false


theorem iList (w : World) (B : Nat) (A : Option Addr) (n c : Nat) (xs : List Int) (hi : Ints w B A n xs) (hn : n ≤ 1048576) (b : Bool) (hb : b = true ↔ Asc xs) :
    Calls Tryz.prog 142 #[.slice A n c, .func (.func 141) #[] #[]] w fun e w' => e = .returned (.bool b) ∧ w' = w :=
  iAscV w B A n c xs hi hn b hb

set_option maxRecDepth 20000 in
theorem iOther (w : World) (t : Wi) (hl : t.Ln ≤ 1048576) (hp : t.Pn ≤ 1048576) (q : Bool) (hq : q = true ↔ (t.kind ≠ 2 ∧ t.value ≠ 0) ∨ (t.kind ≠ 3 ∧ t.Ln ≠ 0) ∨ (t.kind ≠ 4 ∧ t.Pn ≠ 0)) :
    Calls Tryz.prog 140 #[t.val] w fun e w' => e = .returned (.bool q) ∧ Below w.heap.size w w' := by
  obtain ⟨k, f, v, LA, Ln, Lc, ls, PA, Pn, Pc, ps⟩ := t
  unfold Wi.val
  simp only [] at hl hp hq ⊢
  have HW1 : Hid (∀ o : Obj, Below w.heap.size w (w.alloc o)) := Lib.hid fun o => (Below.refl _ w).alloc (Nat.le_refl _) _
  by_cases k2 : k = 2
  · subst k2
    by_cases hL : Ln = 0
    · have hL' : decide (0 < Ln) = false := by simp [hL]
      have hL2 : ¬ ((0 : Int) < (Ln : Int)) := by omega
      by_cases hP : Pn = 0
      · have hP' : decide (0 < Pn) = false := by simp [hP]
        have hP2 : ¬ ((0 : Int) < (Pn : Int)) := by omega
        obtain rfl : q = false := by
          cases q
          · rfl
          · exact absurd (hq.1 rfl) (by omega)
        clear hq hL hP
        go_enter Tryz.func140, Tryz.ntmps140
        go_wp2
        go_ret
        exact ⟨by first | rfl | simp, HW1.out _⟩
      · have hP' : decide (0 < Pn) = true := by simp; omega
        have hP2 : (0 : Int) < (Pn : Int) := by omega
        obtain rfl : q = true := hq.2 (by omega)
        clear hq hL hP
        go_enter Tryz.func140, Tryz.ntmps140
        go_wp2
        go_ret
        exact ⟨by first | rfl | simp, HW1.out _⟩
    · have hL' : decide (0 < Ln) = true := by simp; omega
      have hL2 : (0 : Int) < (Ln : Int) := by omega
      obtain rfl : q = true := hq.2 (by omega)
      clear hq hL
      go_enter Tryz.func140, Tryz.ntmps140
      go_wp2
      go_ret
      exact ⟨by first | rfl | simp, HW1.out _⟩
  · by_cases k3 : k = 3
    · subst k3
      clear k2
      by_cases hv : v = 0
      · have hv' : (v != 0) = false := by simp [hv]
        by_cases hP : Pn = 0
        · have hP' : decide (0 < Pn) = false := by simp [hP]
          have hP2 : ¬ ((0 : Int) < (Pn : Int)) := by omega
          obtain rfl : q = false := by
            cases q
            · rfl
            · exact absurd (hq.1 rfl) (by omega)
          clear hq hv hP
          go_enter Tryz.func140, Tryz.ntmps140
          go_wp2
          go_ret
          exact ⟨by first | rfl | simp, HW1.out _⟩
        · have hP' : decide (0 < Pn) = true := by simp; omega
          have hP2 : (0 : Int) < (Pn : Int) := by omega
          obtain rfl : q = true := hq.2 (by omega)
          clear hq hv hP
          go_enter Tryz.func140, Tryz.ntmps140
          go_wp2
          go_ret
          exact ⟨by first | rfl | simp, HW1.out _⟩
      · have hv' : (v != 0) = true := by simp [hv]
        obtain rfl : q = true := hq.2 (by omega)
        clear hq hv
        go_enter Tryz.func140, Tryz.ntmps140
        go_wp2
        go_ret
        exact ⟨by first | rfl | simp, HW1.out _⟩
    · by_cases k4 : k = 4
      · subst k4
        clear k2 k3
        by_cases hv : v = 0
        · have hv' : (v != 0) = false := by simp [hv]
          by_cases hL : Ln = 0
          · have hL' : decide (0 < Ln) = false := by simp [hL]
            have hL2 : ¬ ((0 : Int) < (Ln : Int)) := by omega
            obtain rfl : q = false := by
              cases q
              · rfl
              · exact absurd (hq.1 rfl) (by omega)
            clear hq hv hL
            go_enter Tryz.func140, Tryz.ntmps140
            go_wp2
            go_ret
            exact ⟨by first | rfl | simp, HW1.out _⟩
          · have hL' : decide (0 < Ln) = true := by simp; omega
            have hL2 : (0 : Int) < (Ln : Int) := by omega
            obtain rfl : q = true := hq.2 (by omega)
            clear hq hv hL
            go_enter Tryz.func140, Tryz.ntmps140
            go_wp2
            go_ret
            exact ⟨by first | rfl | simp, HW1.out _⟩
        · have hv' : (v != 0) = true := by simp [hv]
          obtain rfl : q = true := hq.2 (by omega)
          clear hq hv
          go_enter Tryz.func140, Tryz.ntmps140
          go_wp2
          go_ret
          exact ⟨by first | rfl | simp, HW1.out _⟩
      · have f2 : (k != 2) = true := by simpa using k2
        have f3 : (k != 3) = true := by simpa using k3
        have f4 : (k != 4) = true := by simpa using k4
        by_cases hv : v = 0
        · have hv' : (v != 0) = false := by simp [hv]
          by_cases hL : Ln = 0
          · have hL' : decide (0 < Ln) = false := by simp [hL]
            have hL2 : ¬ ((0 : Int) < (Ln : Int)) := by omega
            by_cases hP : Pn = 0
            · have hP' : decide (0 < Pn) = false := by simp [hP]
              have hP2 : ¬ ((0 : Int) < (Pn : Int)) := by omega
              obtain rfl : q = false := by
                cases q
                · rfl
                · exact absurd (hq.1 rfl) (by omega)
              clear hq k2 k3 k4 hv hL hP
              go_enter Tryz.func140, Tryz.ntmps140
              go_wp2
              go_ret
              exact ⟨by first | rfl | simp, HW1.out _⟩
            · have hP' : decide (0 < Pn) = true := by simp; omega
              have hP2 : (0 : Int) < (Pn : Int) := by omega
              obtain rfl : q = true := hq.2 (by omega)
              clear hq k2 k3 k4 hv hL hP
              go_enter Tryz.func140, Tryz.ntmps140
              go_wp2
              go_ret
              exact ⟨by first | rfl | simp, HW1.out _⟩
          · have hL' : decide (0 < Ln) = true := by simp; omega
            have hL2 : (0 : Int) < (Ln : Int) := by omega
            obtain rfl : q = true := hq.2 (by omega)
            clear hq k2 k3 k4 hv hL
            go_enter Tryz.func140, Tryz.ntmps140
            go_wp2
            go_ret
            exact ⟨by first | rfl | simp, HW1.out _⟩
        · have hv' : (v != 0) = true := by simp [hv]
          obtain rfl : q = true := hq.2 (by omega)
          clear hq k2 k3 k4 hv
          go_enter Tryz.func140, Tryz.ntmps140
          go_wp2
          go_ret
          exact ⟨by first | rfl | simp, HW1.out _⟩
end Go.Proofs.YtnjnlcmddcjcfaaGreat.num
