/-
  The program's tastes, continued: the methods compare; which wishes are valid, and what taste a valid one has.
-/
import Derived.Test.YtceiocdemhkcdaaGreatWishImpl
import Derived.Test.YtceiocdemhkcdaaGreatPairProg
namespace Go.Proofs.YtceiocdemhkcdaaGreat.num
set_option maxRecDepth 20000
open Go.RowKit Go.Maps
set_option linter.unusedVariables false

set_option maxRecDepth 20000 in
theorem nearCmp (w : World) (b : Int) (x y : Int) (hb : InR b) (hx : InR x) (hy : InR y) :
    Calls Tryz.prog 222 #[.agg #[.int .i64 b], .int .i64 x, .int .i64 y] w fun e w' => e = .returned (.int .i64 (if (if x < b then b - x else x - b) < (if y < b then b - y else y - b) then 1 else if (if y < b then b - y else y - b) < (if x < b then b - x else x - b) then -1 else 0)) ∧ Below w.heap.size w w' := by
  have HW1 : Hid (∀ o : Obj, Below w.heap.size w (w.alloc o)) := Lib.hid fun o => (Below.refl _ w).alloc (Nat.le_refl _) _
  have HC : Hid (∀ o : Obj, Calls Tryz.prog 224 #[.iface 214 (.agg #[.int .i64 b]), .int .i64 x, .int .i64 y] (w.alloc o) fun e w' => e = .returned (.int .i64 (if (if x < b then b - x else x - b) < (if y < b then b - y else y - b) then 1 else if (if y < b then b - y else y - b) < (if x < b then b - x else x - b) then -1 else 0)) ∧ Below (w.alloc o).heap.size (w.alloc o) w') := Lib.hid fun o => cmpNear (w.alloc o) b x y hb hx hy
  generalize (if (if x < b then b - x else x - b) < (if y < b then b - y else y - b) then (1 : Int) else if (if y < b then b - y else y - b) < (if x < b then b - x else x - b) then -1 else 0) = z at *
  go_enter Tryz.func222, Tryz.ntmps222
  go_wp2_with fail
  refine (HC.out _).mono ?_
  rintro e w1 ⟨rfl, hb1⟩
  have HB := Lib.hid ((HW1.out _).trans (hb1.mono (by simp)))
  clear hb1
  go_wp2
  go_ret
  exact ⟨rfl, HB.out⟩
set_option maxRecDepth 20000 in
theorem amongCmp (w : World) (B : Nat) (A : Option Addr) (n c : Nat) (xs : List Int) (x y : Int) (hi : Ints w B A n xs) (hB : B ≤ w.heap.size) (hn : n ≤ 1048576) :
    Calls Tryz.prog 227 #[.agg #[.slice A n c], .int .i64 x, .int .i64 y] w fun e w' => e = .returned (.int .i64 (if (if x ∈ xs then (0 : Int) else 1) < (if y ∈ xs then (0 : Int) else 1) then 1 else if (if y ∈ xs then (0 : Int) else 1) < (if x ∈ xs then (0 : Int) else 1) then -1 else 0)) ∧ Below w.heap.size w w' := by
  have HW1 : Hid (∀ o : Obj, Below w.heap.size w (w.alloc o)) := Lib.hid fun o => (Below.refl _ w).alloc (Nat.le_refl _) _
  have HC : Hid (∀ o : Obj, Calls Tryz.prog 224 #[.iface 216 (.agg #[.slice A n c]), .int .i64 x, .int .i64 y] (w.alloc o) fun e w' => e = .returned (.int .i64 (if (if x ∈ xs then (0 : Int) else 1) < (if y ∈ xs then (0 : Int) else 1) then 1 else if (if y ∈ xs then (0 : Int) else 1) < (if x ∈ xs then (0 : Int) else 1) then -1 else 0)) ∧ Below (w.alloc o).heap.size (w.alloc o) w') := Lib.hid fun o => cmpAmong (w.alloc o) B A n c xs x y (hi.below ((Below.refl B w).alloc hB _)) (by simp; omega) hn
  generalize (if (if x ∈ xs then (0 : Int) else 1) < (if y ∈ xs then (0 : Int) else 1) then (1 : Int) else if (if y ∈ xs then (0 : Int) else 1) < (if x ∈ xs then (0 : Int) else 1) then -1 else 0) = z at *
  go_enter Tryz.func227, Tryz.ntmps227
  go_wp2_with fail
  refine (HC.out _).mono ?_
  rintro e w1 ⟨rfl, hb1⟩
  have HB := Lib.hid ((HW1.out _).trans (hb1.mono (by simp)))
  clear hb1
  go_wp2
  go_ret
  exact ⟨rfl, HB.out⟩
theorem orderRank (w : World) (o : Option Nat) (x : Int) :
    Calls Tryz.prog 231 #[.agg #[.map o], .int .i64 x] w fun e w' => e = .returned (.tuple #[.int .i64 0, .bool false]) ∧ Below w.heap.size w w' := by
  go_enter Tryz.func231, Tryz.ntmps231
  go_wp2
  go_ret2
  exact ⟨rfl, (Below.refl _ w).alloc (Nat.le_refl _) _⟩
set_option maxRecDepth 20000 in
theorem orderCmp (w : World) (B : Nat) (o : Option Nat) (ps : List (Int × Int)) (h : AboveP ps B true o w) (x y : Int) (hx : InR x) (hy : InR y) :
    Calls Tryz.prog 230 #[.agg #[.map o], .int .i64 x, .int .i64 y] w fun e w' => e = .returned (.int .i64 (if x = y then 0 else if rb ps x y = true then 1 else if rb ps y x = true then -1 else 2)) ∧ Below w.heap.size w w' := by
  have HW1 : Hid (∀ o : Obj, Below w.heap.size w (w.alloc o)) := Lib.hid fun o => (Below.refl _ w).alloc (Nat.le_refl _) _
  by_cases he : x = y
  · subst he
    rw [if_pos rfl]
    clear h
    go_enter Tryz.func230, Tryz.ntmps230
    go_wp2
    go_ret
    exact ⟨rfl, HW1.out _⟩
  · rw [if_neg he]
    have he' : (x == y) = false := by simpa using he
    have wx : (Lit.int .i64 x).wf = true := WalkArith.wf_i64 (by have := hx.1; have := hx.2; omega)
    have wy : (Lit.int .i64 y).wf = true := WalkArith.wf_i64 (by have := hy.1; have := hy.2; omega)
    have hl1 : ∀ w1, Below w.heap.size w w1 → ∃ o2, (Instr.lookup 218 (.map o) (.int .i64 y) false).run Tryz.prog w1 = .ok (.map o2) w1 ∧ (Instr.lookup 241 (.map o2) (.int .i64 x) false).run Tryz.prog w1 = .ok (.bool (rb ps x y)) w1 := fun w1 hb => by
      obtain ⟨o2, e1, e2⟩ := (h.below hb).look wy wx
      exact ⟨o2, e1, by simpa using e2⟩
    have hl2 : ∀ w1, Below w.heap.size w w1 → ∃ o2, (Instr.lookup 218 (.map o) (.int .i64 x) false).run Tryz.prog w1 = .ok (.map o2) w1 ∧ (Instr.lookup 241 (.map o2) (.int .i64 y) false).run Tryz.prog w1 = .ok (.bool (rb ps y x)) w1 := fun w1 hb => by
      obtain ⟨o2, e1, e2⟩ := (h.below hb).look wx wy
      exact ⟨o2, e1, by simpa using e2⟩
    obtain ⟨o1, e1, e2⟩ := hl1 (w.alloc (.cells #[.map o] 222)) (HW1.out _)
    obtain ⟨o3, e3, e4⟩ := hl2 (w.alloc (.cells #[.map o] 222)) (HW1.out _)
    clear he h hl1 hl2 hx hy
    generalize rb ps x y = q1 at *
    generalize rb ps y x = q2 at *
    cases q1
    · cases q2
      · go_enter Tryz.func230, Tryz.ntmps230
        go_wp2
        go_ret
        exact ⟨rfl, HW1.out _⟩
      · go_enter Tryz.func230, Tryz.ntmps230
        go_wp2
        go_ret
        exact ⟨rfl, HW1.out _⟩
    · go_enter Tryz.func230, Tryz.ntmps230
      go_wp2
      go_ret
      exact ⟨rfl, HW1.out _⟩
end Go.Proofs.YtceiocdemhkcdaaGreat.num
