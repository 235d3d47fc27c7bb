/-
  cmp.Compare of two numbers; items by a number of theirs.
-/
import Derived.Test.YtjjlhiaghjipcaaItemMem
namespace Go.Proofs.Ytjjlhiaghjipcaa.num
set_option maxRecDepth 20000
open Go.RowKit
set_option linter.unusedVariables false
set_option linter.unusedSimpArgs false

def cmpI (x y : Int) : Int := if x < y then -1 else if y < x then 1 else 0
theorem cmpI_lt (x y : Int) : decide (cmpI x y < 0) = decide (x < y) := by
  unfold cmpI
  rw [Bool.eq_iff_iff, decide_eq_true_iff, decide_eq_true_iff]
  repeat' split
  all_goals omega
def ltK (key : It → Int) (x y : It) : Bool := decide (key x < key y)
theorem nan_int (x : Int) (w : World) : Calls Try.prog 105 #[.int .i64 x] w fun e w' => e = .returned (.bool false) ∧ w' = w := by
  go_enter Try.func105, Try.ntmps105
  go_wp2
  go_ret
  exact ⟨by simp, rfl⟩
theorem cmp_int (x y : Int) (w : World) : Calls Try.prog 93 #[.int .i64 x, .int .i64 y] w fun e w' => e = .returned (.int .i64 (cmpI x y)) ∧ w' = w := by
  have HZ : Hid (∀ z, cmpI x y = z → z = if x < y then -1 else if y < x then 1 else 0) := Lib.hid fun z h => h.symm
  generalize hz : cmpI x y = z at *
  have h := HZ.out z rfl
  clear HZ hz
  by_cases h1 : x < y
  · rw [if_pos h1] at h
    subst h
    go_enter Try.func93, Try.ntmps93
    go_wp2_with (go_at_call 105; refine (nan_int _ _).mono ?_; rintro e w1 ⟨rfl, rfl⟩)
    go_ret
    exact ⟨rfl, rfl⟩
  · rw [if_neg h1] at h
    by_cases h2 : y < x
    · rw [if_pos h2] at h
      subst h
      go_enter Try.func93, Try.ntmps93
      go_wp2_with (go_at_call 105; refine (nan_int _ _).mono ?_; rintro e w1 ⟨rfl, rfl⟩)
      go_ret
      exact ⟨rfl, rfl⟩
    · rw [if_neg h2] at h
      subst h
      go_enter Try.func93, Try.ntmps93
      go_wp2_with (go_at_call 105; refine (nan_int _ _).mono ?_; rintro e w1 ⟨rfl, rfl⟩)
      go_ret
      exact ⟨rfl, rfl⟩
end Go.Proofs.Ytjjlhiaghjipcaa.num
