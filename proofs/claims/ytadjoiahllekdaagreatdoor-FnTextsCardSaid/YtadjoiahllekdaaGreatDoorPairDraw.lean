/-
  The model's draws of pairs: contracts.
-/
import Derived.Test.YtadjoiahllekdaaGreatDoorDraw3
import Derived.Test.YtadjoiahllekdaaGreatDoorPairMark
namespace Go.Proofs.YtadjoiahllekdaaGreatDoor.num
set_option maxRecDepth 20000
open Go.RowKit
set_option linter.unusedVariables false

def OutBool (w : World) (g : Nat) (a : Option Addr) (len cap : Nat) (e : Ending) (w' : World) : Prop :=
  ∃ b : Bool, e = .returned (.bool b) ∧ Cur w' g a len cap ∧ w.grownBy w' (some g)
theorem once_any (n : Int) (hn : n ≤ 2147483648) (w : World) (g : Nat) (a : Option Addr) (len cap : Nat) (hlen : len ≤ 1048576) (hc : Cur w g a len cap) (B : Nat) (hB : B ≤ g) (hrow : Row w B a len) :
    Calls Tryz.prog 76 #[.pointer (some ⟨g, 0, none⟩), .int .i64 n] w (OutBool w g a len cap) := by
  go_enter Tryz.func76, Tryz.ntmps76
  go_wp2_with fail
  refine (below_any n hn _ g a len cap hlen hc B hB hrow).mono ?_
  rintro e w1 ⟨x, rfl, _, hc1, hg1⟩
  clear hc hrow
  by_cases h0 : x = 0
  · go_wp2
    go_ret
    exact ⟨_, rfl, hc1, hg1⟩
  · go_wp2
    go_ret
    exact ⟨_, rfl, hc1, hg1⟩

theorem OwnP.keptg {w w' : World} {B g : Nat} {v : Value} {l : List (Int × Int)} (h : OwnP w B v l) (hg : w.grownBy w' (some g)) (hB : g < B) : OwnP w' B v l :=
  h.blocks fun k hk => hg.block k (h.tops k hk) fun e => by have := h.lows k hk; have := Option.some.inj e; omega
theorem grown_tail {a b c : World} {r : Option Nat} (h : a.grownBy b r) (k : Below a.heap.size b c) : a.grownBy c r :=
  ⟨k.os.trans h.os, k.tape.trans h.tape, k.output.trans h.output, Nat.le_trans h.size k.size, fun i hi hne => (k.block i hi).trans (h.block i hi hne)⟩
/-- Pairs of the call's own, n of them at most; the cursor has moved on. -/
def OutPairs (n : Nat) (w : World) (g : Nat) (a : Option Addr) (len cap : Nat) (e : Ending) (w' : World) : Prop :=
  ∃ v ps, e = .returned v ∧ OwnP w' w.heap.size v ps ∧ ps.length ≤ n ∧ Cur w' g a len cap ∧ w.grownBy w' (some g)
set_option maxHeartbeats 1000000 in
theorem pairs_any (w : World) (g : Nat) (a : Option Addr) (len cap : Nat) (hlen : len ≤ 1048576) (hc : Cur w g a len cap) (B : Nat) (hB : B ≤ g) (hrow : Row w B a len) :
    Calls Tryz.prog 101 #[.pointer (some ⟨g, 0, none⟩)] w (OutPairs 4 w g a len cap) := by
  have HC := Lib.hid hc
  have HR := Lib.hid hrow
  have hgl := hc.lt
  have HC1 := Lib.hid (hc.kept (w' := w.alloc (.cells #[] 78)) (Below.heap_alloc _ _ _ hc.lt))
  have HG1 : Hid (w.grownBy (w.alloc (.cells #[] 78)) (some g)) := Lib.hid (World.grownBy_alloc w _ _)
  have HO1 := Lib.hid (OwnP.empty w w.heap.size (Nat.le_refl _))
  clear hc hrow
  go_enter Tryz.func101, Tryz.ntmps101
  go_wp2_with fail
  refine (below_any 5 (by omega) _ g a len cap hlen HC1.out B hB (HR.out.below (grown_below HG1.out hB (by omega)))).mono ?_
  rintro e w2 ⟨x, rfl, hx, hc2, hg2⟩
  obtain ⟨hx0, hx5⟩ := hx.2 (by omega)
  obtain ⟨k0, rfl⟩ := Int.eq_ofNat_of_zero_le hx0
  have HC2 := Lib.hid hc2
  have HG2 := Lib.hid (HG1.out.trans hg2)
  have HO2 := Lib.hid (HO1.out.keptg hg2 hgl)
  have hk5 : k0 < 5 := by omega
  clear hx hc2 hg2 hx0 hx5 HO1 HG1 HC1
  go_wp2
  go_loopw [3, 4] (fun v n wr => ∃ (k : Nat) (ps : List (Int × Int)), ps.length + k ≤ 4 ∧ n = .int .i64 k ∧ OwnP wr w.heap.size v ps ∧ Cur wr g a len cap ∧ w.grownBy wr (some g)) (fun _ n _ => (intOf n).toNat)
  case atStart => exact ⟨k0, [], by simp; omega, rfl, HO2.out, HC2.out, HG2.out⟩
  case round =>
    clear HO2 HC2 HG2 hk5
    obtain ⟨k, ps, hk, rfl, hown, hcur, hgw⟩ := hrel
    have HO := Lib.hid hown
    have HCu := Lib.hid hcur
    have HG := Lib.hid hgw
    clear hown hcur hgw
    by_cases hk0 : k = 0
    · subst hk0
      have hd : decide (((0 : Nat) : Int) > 0) = false := by simp
      go_wp2
      go_ret
      exact ⟨_, ps, rfl, HO.out, by omega, HCu.out, HG.out⟩
    · have hkp : (0 : Int) < k := by omega
      go_wp2_with fail
      refine (below_any 4 (by omega) _ g a len cap hlen HCu.out B hB (HR.out.below (grown_below HG.out hB (by omega)))).mono ?_
      rintro e w3 ⟨x, rfl, hx, hc3, hg3⟩
      obtain ⟨hx0, hx4⟩ := hx.2 (by omega)
      have HC3 := Lib.hid hc3
      have HG3 := Lib.hid (HG.out.trans hg3)
      have HO3 := Lib.hid (HO.out.keptg hg3 hgl)
      clear hx hc3 hg3 HO HCu HG
      go_wp2_with fail
      refine (below_any 3 (by omega) _ g a len cap hlen HC3.out B hB (HR.out.below (grown_below HG3.out hB (by omega)))).mono ?_
      rintro e w4 ⟨y, rfl, hy, hc4, hg4⟩
      obtain ⟨hy0, hy3⟩ := hy.2 (by omega)
      have HC4 := Lib.hid hc4
      have HG4 := Lib.hid (HG3.out.trans hg4)
      have HO4 := Lib.hid (HO3.out.keptg hg4 hgl)
      clear hy hc4 hg4 HO3 HC3 HG3
      go_wp2_with fail
      refine (once_any 3 (by omega) _ g a len cap hlen HC4.out B hB (HR.out.below (grown_below HG4.out hB (by omega)))).mono ?_
      rintro e w5 ⟨t, rfl, hc5, hg5⟩
      have HC5 := Lib.hid hc5
      have HG5 := Lib.hid (HG4.out.trans hg5)
      have HO5 := Lib.hid (HO4.out.keptg hg5 hgl)
      have hwl : Hid (w.heap.size ≤ w5.heap.size) := Lib.hid HG5.out.size
      have H4 : ∀ p : Int × Int, (ps.length + [p].length) * 16 ≤ 140737488355328 := fun p => by
        simp only [List.length_cons, List.length_nil]; omega
      have H4' := Lib.hid H4
      clear hc5 hg5 HO4 HC4 HG4 H4
      cases t
      · go_wp2_with (at_builtin; refine wp_appP _ (by rfl) (.tmp 30) (.tmp 34) (by rfl) w.heap.size _ _ (by rfl) HO5.out _ [(x, x + 1 + y)] (by rfl) 1 1 rfl (by rfl) (H4'.out _) hwl.out ?_)
        intro v1 w6 hown6 hb6
        have HO6 := Lib.hid hown6
        have HG6 := Lib.hid (grown_tail HG5.out hb6)
        have HC6 := Lib.hid (HC5.out.kept (hb6.block g hgl))
        clear hown6 hb6
        go_wp2
        go_roundw
        case rel => exact ⟨k - 1, ps ++ [(x, x + 1 + y)], by simp; omega, by first | rfl | (congr 1; omega), HO6.out, HC6.out, HG6.out⟩
        case measure => simp [intOf]; omega
      · go_wp2_with (at_builtin; refine wp_appP _ (by rfl) (.tmp 23) (.tmp 28) (by rfl) w.heap.size _ _ (by rfl) HO5.out _ [(x + 1 + y, x + 1 + y + 1)] (by rfl) 1 1 rfl (by rfl) (H4'.out _) hwl.out ?_)
        intro v1 w6 hown6 hb6
        have HO6 := Lib.hid hown6
        have HG6 := Lib.hid (grown_tail HG5.out hb6)
        have HC6 := Lib.hid (HC5.out.kept (hb6.block g hgl))
        clear hown6 hb6
        go_wp2
        go_roundw
        case rel => exact ⟨k - 1, ps ++ [(x + 1 + y, x + 1 + y + 1)], by simp; omega, by first | rfl | (congr 1; omega), HO6.out, HC6.out, HG6.out⟩
        case measure => simp [intOf]; omega

set_option maxHeartbeats 1000000 in
theorem any_any (w : World) (g : Nat) (a : Option Addr) (len cap : Nat) (hlen : len ≤ 1048576) (hc : Cur w g a len cap) (B : Nat) (hB : B ≤ g) (hrow : Row w B a len) :
    Calls Tryz.prog 51 #[.pointer (some ⟨g, 0, none⟩)] w (OutPairs 5 w g a len cap) := by
  have HR := Lib.hid hrow
  have hgl := hc.lt
  have HC := Lib.hid hc
  clear hrow hc
  go_enter Tryz.func51, Tryz.ntmps51
  go_wp2_with fail
  refine (pairs_any _ g a len cap hlen HC.out B hB HR.out).mono ?_
  rintro e w1 ⟨v, ps, rfl, ho1, hl, hc1, hg1⟩
  have HO1 := Lib.hid ho1
  have HC1 := Lib.hid hc1
  have HG1 := Lib.hid hg1
  clear ho1 hc1 hg1
  go_wp2_with fail
  refine (once_any 5 (by omega) _ g a len cap hlen HC1.out B hB (HR.out.below (grown_below HG1.out hB (by omega)))).mono ?_
  rintro e w2 ⟨t, rfl, hc2, hg2⟩
  have HC2 := Lib.hid hc2
  have HG2 := Lib.hid (HG1.out.trans hg2)
  have HO2 := Lib.hid (HO1.out.keptg hg2 hgl)
  clear hc2 hg2 HO1 HC1 HG1
  cases t
  · go_wp2
    go_ret
    exact ⟨_, ps, rfl, HO2.out, by omega, HC2.out, HG2.out⟩
  · go_wp2_with fail
    refine (below_any 8 (by omega) _ g a len cap hlen HC2.out B hB (HR.out.below (grown_below HG2.out hB (by omega)))).mono ?_
    rintro e w3 ⟨x, rfl, hx, hc3, hg3⟩
    obtain ⟨hx0, hx8⟩ := hx.2 (by omega)
    have HC3 := Lib.hid hc3
    have HG3 := Lib.hid (HG2.out.trans hg3)
    have HO3 := Lib.hid (HO2.out.keptg hg3 hgl)
    clear hx hc3 hg3 HO2 HC2 HG2
    obtain ⟨ob, hob⟩ : ∃ ob : Obj, ob = .cells #[.int .i64 0, .int .i64 1, .int .i64 9, .int .i64 10, .int .i64 (-1), .int .i64 x] 3 := ⟨_, rfl⟩
    have HC4 := Lib.hid (HC3.out.kept (w' := w3.alloc ob) (Below.heap_alloc _ _ _ HC3.out.lt))
    have HG4 := Lib.hid (grown_alloc HG3.out ob)
    have HO4 : Hid (OwnP (w3.alloc ob) w.heap.size v ps) := Lib.hid (World.ownsRow.alloc HO3.out _)
    have hne : Hid (w3.heap.size ≠ g) := Lib.hid (by have := HC3.out.lt; omega)
    have HNums : Hid (Nums (w3.alloc ob) w3.heap.size 6) := Lib.hid fun k hk => by
      subst hob
      rcases (show k = 0 ∨ k = 1 ∨ k = 2 ∨ k = 3 ∨ k = 4 ∨ k = 5 by omega) with rfl | rfl | rfl | rfl | rfl | rfl
      · exact ⟨0, World.cell?_alloc_at _ _ _ _ rfl, by unfold I64; omega⟩
      · exact ⟨1, World.cell?_alloc_at _ _ _ _ rfl, by unfold I64; omega⟩
      · exact ⟨9, World.cell?_alloc_at _ _ _ _ rfl, by unfold I64; omega⟩
      · exact ⟨10, World.cell?_alloc_at _ _ _ _ rfl, by unfold I64; omega⟩
      · exact ⟨-1, World.cell?_alloc_at _ _ _ _ rfl, by unfold I64; omega⟩
      · exact ⟨x, World.cell?_alloc_at _ _ _ _ rfl, by unfold I64; omega⟩
    have HOb := Lib.hid hob
    clear hob
    go_wp2_with fail
    rw [← HOb.out]
    refine (pick_any w3.heap.size 6 (by decide) (by decide) _ g a len cap hlen HC4.out B hB (HR.out.below (grown_below HG4.out hB (by omega))) HNums.out hne.out).mono ?_
    rintro e w5 ⟨z, rfl, _, hc5, hg5⟩
    have HC5 := Lib.hid hc5
    have HG5 := Lib.hid (HG4.out.trans hg5)
    have HO5 := Lib.hid (HO4.out.keptg hg5 hgl)
    have hwl : Hid (w.heap.size ≤ w5.heap.size) := Lib.hid HG5.out.size
    have H4' : Hid ((ps.length + [(x, z)].length) * 16 ≤ 140737488355328) := Lib.hid (by
      simp only [List.length_cons, List.length_nil]; omega)
    clear hc5 hg5 HO3 HO4 HC3 HC4 HG3 HG4 HNums
    go_wp2_with (at_builtin; refine wp_appP _ (by rfl) (.tmp 11) (.tmp 18) (by rfl) w.heap.size _ _ (by rfl) HO5.out _ [(x, z)] (by rfl) 1 1 rfl (by rfl) H4'.out hwl.out ?_)
    intro v1 w6 hown6 hb6
    have HO6 := Lib.hid hown6
    have HG6 := Lib.hid (grown_tail HG5.out hb6)
    have HC6 := Lib.hid (HC5.out.kept (hb6.block g hgl))
    clear hown6 hb6
    go_wp2
    go_ret
    exact ⟨_, ps ++ [(x, z)], rfl, HO6.out, by simp; omega, HC6.out, HG6.out⟩

theorem OwnP.lowD {w : World} {B B' : Nat} {v : Value} {l : List (Int × Int)} (h : OwnP w B v l) (hB : B' ≤ B) : OwnP w B' v l :=
  ⟨h.1, h.2.imp id fun ⟨g, cap, cur, h1, h2, h3⟩ => ⟨g, cap, cur, h1, Nat.le_trans hB h2, h3⟩⟩
/-- Pairs that came of a draw. -/
def Drawn (w w' : World) (v : Value) (ps : List (Int × Int)) : Prop := OwnP w' w.heap.size v ps ∧ ps.length ≤ 5 ∧ Below w.heap.size w w'
end Go.Proofs.YtadjoiahllekdaaGreatDoor.num
