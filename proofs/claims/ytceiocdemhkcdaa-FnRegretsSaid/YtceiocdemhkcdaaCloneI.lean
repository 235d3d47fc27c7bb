/-
  slices.Clone over ints.
-/
import Derived.Test.YtceiocdemhkcdaaSpread
import Derived.Lib.SliceRun
import Derived.Deep.RegionLaw
import Derived.Test.YtceiocdemhkcdaaPairMarkI
namespace Go.Proofs.Ytceiocdemhkcdaa.num
set_option maxRecDepth 20000
open Go.RowKit
set_option linter.unusedVariables false
set_option linter.unusedSimpArgs false

theorem cloneI (w : World) (B : Nat) (A : Option Addr) (n c : Nat) (xs : List Int) (hi : Ints w B A n xs) (hB : B ≤ w.heap.size) (hn : n ≤ 1048576) :
    Calls Try.prog 41 #[.slice A n c] w fun e w' => ∃ v, e = .returned v ∧ OwnI w' w.heap.size v xs ∧ Below w.heap.size w w' := by
  have hq : ∀ (w : World) (a : Option Addr) (n c n' c' : Nat), (binOp .eql 25 (.slice a n c) (.slice none n' c')).run Try.prog w = .ok (.bool a.isNone) w := fun w a n c n' c' => Lib.run_eql_slice_nil w _ _ a n c n' c' Try.underlying25
  have HB1 : Hid (Below B w (w.alloc (.cells #[] 3))) := Lib.hid ((Below.refl B w).alloc hB _)
  have HX := Lib.hid hi
  cases A with
  | none =>
    obtain rfl : xs = [] := by
      obtain ⟨h1, h2⟩ := hi
      rcases Nat.eq_zero_or_pos n with e | e
      · exact List.eq_nil_of_length_eq_zero (by omega)
      · obtain ⟨_, _, h, _⟩ := h2 0 e; cases h
    clear hi HB1
    go_enter Try.func41, Try.ntmps41
    go_wp2
    go_ret
    exact ⟨_, rfl, ownI_nil _ _, Below.refl _ _⟩
  | some a =>
    clear hi
    obtain ⟨v', w', hr, ho, hg, ha⟩ := run_spreadI (ty := 25) (c := c) (OwnI.empty w w.heap.size (Nat.le_refl _)) (HX.out.below HB1.out) (by simp; omega) (by simp)
    have HO := Lib.hid ho
    have HG := Lib.hid hg
    clear ho hg ha
    go_enter Try.func41, Try.ntmps41
    go_wp2_with (at_builtin; refine Go.Lib.wpList_append_run_sl _ (by rfl) (.tmp 5) (.tmp 6) 25 (by rfl) _ _ (by rfl) (by rfl) hr ?_)
    clear hr
    go_wp2
    go_ret
    exact ⟨_, rfl, by simpa using HO.out, ((Below.refl _ w).alloc (Nat.le_refl _) _).grown HG.out (by simp) (by intro k hk; simp [Value.ownBlock] at hk; omega)⟩
theorem OwnI.slen {w : World} {B : Nat} {A : Option Addr} {n c : Nat} {l : List Int} (h : OwnI w B (.slice A n c) l) : n = l.length := by
  rcases h.2 with ⟨e, hl⟩ | ⟨g, cap, cur, e, _⟩ <;> (injection e with e1 e2 e3 <;> omega)
end Go.Proofs.Ytceiocdemhkcdaa.num
