/-
  The model's draws, as far as the law asks: what they return, and that they write into their own cursor alone.
-/
import Derived.Test.YtceiocdemhkcdaaBytes
import Derived.Deep.QuietTactic
import Derived.BigQuiet
import Derived.Deep.RegionWith
import Derived.Laws.BitsAllLaws
import Derived.WalkSpells
namespace Go.Proofs.Ytceiocdemhkcdaa.num
set_option maxRecDepth 20000
open Go.RowKit

/-- The bytes of a slice that came in, below block B. -/
def Row (w : World) (B : Nat) (a : Option Addr) (len : Nat) : Prop :=
  ∀ k, k < len → ∃ (b off : Nat) (z : Int), a = some ⟨b, off, none⟩ ∧ b < B ∧ w.cell? ⟨b, off + k, none⟩ = some (.int .u8 z) ∧ 0 ≤ z ∧ z ≤ 255
theorem Row.below {w w' : World} {B : Nat} {a : Option Addr} {len : Nat} (h : Row w B a len) (hb : Below B w w') : Row w' B a len := fun k hk => by
  obtain ⟨b, off, z, ha, hB, hc, h0, h1⟩ := h k hk
  exact ⟨b, off, z, ha, hB, (hb.cell (p := ⟨b, off + k, none⟩) hB).trans hc, h0, h1⟩
/-- The cursor's block. -/
def Cur (w : World) (g : Nat) (a : Option Addr) (len cap : Nat) : Prop :=
  ∃ (i : Nat) (h : Int), i ≤ len ∧ w.heap[g]? = some (.cells #[.slice a len cap, .int .i64 i, .int .i64 h] 93 (0, 0))
theorem Cur.lt {w : World} {g : Nat} {a : Option Addr} {len cap : Nat} (h : Cur w g a len cap) : g < w.heap.size := by
  obtain ⟨i, x, _, h⟩ := h
  rcases Nat.lt_or_ge g w.heap.size with h' | h'
  · exact h'
  · rw [Array.getElem?_eq_none h'] at h; cases h
theorem Cur.kept {w w' : World} {g : Nat} {a : Option Addr} {len cap : Nat} (h : Cur w g a len cap) (hk : w'.heap[g]? = w.heap[g]?) : Cur w' g a len cap := by
  obtain ⟨i, x, hi, h⟩ := h
  exact ⟨i, x, hi, hk.trans h⟩
def Out (P : Int → Prop) (w : World) (g : Nat) (a : Option Addr) (len cap : Nat) (e : Ending) (w' : World) : Prop :=
  ∃ n : Int, e = .returned (.int .i64 n) ∧ P n ∧ Cur w' g a len cap ∧ w.grownBy w' (some g)

theorem and_range (y : Int) (m : Nat) (hm : m < 9223372036854775808) : 0 ≤ bits .and .i64 y (m : Int) ∧ bits .and .i64 y (m : Int) ≤ m := by
  have e : bits .and .i64 y (m : Int) = IntKind.i64.wrap ((BitVec.ofInt 64 y &&& BitVec.ofInt 64 (m : Int)).toNat : Int) := rfl
  have h : (BitVec.ofInt 64 y &&& BitVec.ofInt 64 (m : Int)).toNat ≤ m := by
    rw [BitVec.toNat_and, ofInt_u64 m (by omega)]
    exact Nat.and_le_right
  rw [e, IntWalk.i64_in _ ⟨by omega, by omega⟩]
  omega
theorem and255 (y : Int) : 0 ≤ bits .and .i64 y 255 ∧ bits .and .i64 y 255 ≤ 255 := and_range y 255 (by decide)
theorem and30 (y : Int) : 0 ≤ bits .and .i64 y 1073741823 ∧ bits .and .i64 y 1073741823 ≤ 1073741823 := and_range y 1073741823 (by decide)

theorem grown_refl (w : World) (r : Option Nat) : w.grownBy w r := ⟨rfl, rfl, rfl, Nat.le_refl _, fun _ _ _ => rfl⟩
theorem grown_trans {a b c : World} {r : Option Nat} (h : a.grownBy b r) (k : b.grownBy c r) : a.grownBy c r :=
  ⟨k.os.trans h.os, k.tape.trans h.tape, k.output.trans h.output, Nat.le_trans h.size k.size, fun i hi hne => (k.block i (Nat.lt_of_lt_of_le hi h.size) hne).trans (h.block i hi hne)⟩
theorem grown_set {a b : World} {g : Nat} (h : a.grownBy b (some g)) (j : Nat) (v : Value) : a.grownBy (b.setCell ⟨g, j, none⟩ v) (some g) :=
  ⟨h.os, h.tape, h.output, Nat.le_trans h.size (by simp [World.setCell]), fun i hi hne => (Below.heap_setCell b ⟨g, j, none⟩ v i (fun e => hne (by rw [e]))).trans (h.block i hi hne)⟩
theorem grown_drew {a b : World} {r : Option Nat} (h : a.grownBy b r) : a.grownBy b.drew r := ⟨h.os, h.tape, h.output, h.size, h.block⟩
theorem grown_alloc {a b : World} {r : Option Nat} (h : a.grownBy b r) (o : Obj) : a.grownBy (b.alloc o) r := grown_trans h (World.grownBy_alloc b o r)
theorem grown_below {a b : World} {g B : Nat} (h : a.grownBy b (some g)) (hB : B ≤ g) (hs : B ≤ a.heap.size) : Below B a b :=
  (Below.refl B a).grown h hs (fun k hk => by injection hk with hk; omega)

set_option maxRecDepth 20000 in
theorem byte_any (w : World) (g : Nat) (a : Option Addr) (len cap : Nat) (hlen : len ≤ 1048576) (hc : Cur w g a len cap) (B : Nat) (hB : B ≤ g) (hrow : Row w B a len) :
    Calls Try.prog 85 #[.pointer (some ⟨g, 0, none⟩)] w (Out (fun n => 0 ≤ n ∧ n ≤ 255) w g a len cap) := by
  obtain ⟨i, h, hi, hblk⟩ := hc
  have c0 : w.cell? ⟨g, 0, none⟩ = some (.slice a len cap) := cell_of_row w g 0 _ _ (0, 0) hblk
  have c1 : w.cell? ⟨g, 1, none⟩ = some (.int .i64 i) := cell_of_row w g 1 _ _ (0, 0) hblk
  have c2 : w.cell? ⟨g, 2, none⟩ = some (.int .i64 h) := cell_of_row w g 2 _ _ (0, 0) hblk
  have f1 : w.frozen? ⟨g, 1, none⟩ = false := by simp [World.frozen?, hblk]
  have f2 : w.frozen? ⟨g, 2, none⟩ = false := by simp [World.frozen?, hblk]
  have HB := Lib.hid hblk
  clear hblk
  by_cases hlt : i < len
  · obtain ⟨b, off, z, rfl, hbB, hz, hz0, hz1⟩ := hrow i hlt
    have hz' : ∀ v, (w.setCell ⟨g, 2, none⟩ v).cell? ⟨b, off + i, none⟩ = some (.int .u8 z) := fun v => by
      rw [World.cell?_setCell_other w _ _ v (fun e => by injection e; omega)]; exact hz
    go_enter Try.func85, Try.ntmps85
    go_wp2
    generalize wrap64 (wrap64 (h * 6364136223846793005) + 1442695040888963407) = h1 at *
    go_region
    go_wp2
    go_region
    all_goals go_wp2
    all_goals go_region
    all_goals go_wp2
    all_goals
      go_ret
      have hb2 := heap_setCell_same w g 2 _ _ (.int .i64 h1) HB.out
      have hb3 := heap_setCell_same _ g 1 _ _ (.int .i64 ((i : Int) + 1)) hb2
      exact ⟨_, rfl, and255 _, ⟨i + 1, h1, by omega, hb3⟩, by repeat (first | exact grown_refl _ _ | apply grown_drew | apply grown_set)⟩
  · obtain rfl : i = len := by omega
    go_enter Try.func85, Try.ntmps85
    go_wp2
    generalize wrap64 (wrap64 (h * 6364136223846793005) + 1442695040888963407) = h1 at *
    go_region
    go_wp2
    go_region
    all_goals go_wp2
    all_goals
      go_ret
      have hb2 := heap_setCell_same w g 2 _ _ (.int .i64 h1) HB.out
      exact ⟨_, rfl, and255 _, ⟨i, h1, Nat.le_refl _, hb2⟩, by repeat (first | exact grown_refl _ _ | apply grown_drew | apply grown_set)⟩

def InRange (n r : Int) : Prop := (n ≤ 0 → r = 0) ∧ (0 < n → 0 ≤ r ∧ r < n)
theorem mod_range (x n : Int) (_hx : 0 ≤ x) (hn : 0 < n) : InRange n (x % n) := ⟨fun h => by omega, fun _ => ⟨Int.emod_nonneg _ (by omega), Int.emod_lt_of_pos _ hn⟩⟩
theorem tmod_range (x n : Int) (hx : 0 ≤ x) (hn : 0 < n) : InRange n (x.tmod n) := by rw [Int.tmod_eq_emod_of_nonneg hx]; exact mod_range x n hx hn

set_option maxRecDepth 20000 in
theorem below_any (n : Int) (hn : n ≤ 2147483648) (w : World) (g : Nat) (a : Option Addr) (len cap : Nat) (hlen : len ≤ 1048576) (hc : Cur w g a len cap) (B : Nat) (hB : B ≤ g) (hrow : Row w B a len) :
    Calls Try.prog 54 #[.pointer (some ⟨g, 0, none⟩), .int .i64 n] w (Out (InRange n) w g a len cap) := by
  have HC0 := Lib.hid hc
  have HR0 := Lib.hid hrow
  clear hc hrow
  by_cases h0 : n ≤ 0
  · go_enter Try.func54, Try.ntmps54
    go_wp2
    go_ret
    exact ⟨0, rfl, ⟨fun _ => rfl, fun h => by omega⟩, HC0.out, grown_refl _ _⟩
  by_cases h1 : n ≤ 256
  · go_enter Try.func54, Try.ntmps54
    go_wp2_with fail
    refine (byte_any _ g a len cap hlen HC0.out B hB HR0.out).mono ?_
    rintro e w1 ⟨x1, rfl, ⟨hx10, hx11⟩, hc1, hg1⟩
    have HC1 := Lib.hid hc1
    have HR1 := Lib.hid (HR0.out.below (grown_below hg1 hB (by have := HC0.out.lt; omega)))
    have HG1 := Lib.hid hg1
    clear hc1 hg1
    go_wp2
    go_ret
    exact ⟨_, rfl, by first | exact mod_range _ _ (by omega) (by omega) | exact tmod_range _ _ (by omega) (by omega), HC1.out, HG1.out⟩
  go_enter Try.func54, Try.ntmps54
  go_wp2_with fail
  refine (byte_any _ g a len cap hlen HC0.out B hB HR0.out).mono ?_
  rintro e w1 ⟨x1, rfl, ⟨hx10, hx11⟩, hc1, hg1⟩
  have HC1 := Lib.hid hc1
  have HR1 := Lib.hid (HR0.out.below (grown_below hg1 hB (by have := HC0.out.lt; omega)))
  have HG1 := Lib.hid hg1
  clear hc1 hg1
  go_wp2_with fail
  refine (byte_any _ g a len cap hlen HC1.out B hB HR1.out).mono ?_
  rintro e w2 ⟨x2, rfl, ⟨hx20, hx21⟩, hc2, hg2⟩
  have HC2 := Lib.hid hc2
  have HR2 := Lib.hid (HR1.out.below (grown_below hg2 hB (by have := HC1.out.lt; omega)))
  have HG2 := Lib.hid hg2
  clear hc2 hg2
  go_wp2_with fail
  refine (byte_any _ g a len cap hlen HC2.out B hB HR2.out).mono ?_
  rintro e w3 ⟨x3, rfl, ⟨hx30, hx31⟩, hc3, hg3⟩
  have HC3 := Lib.hid hc3
  have HR3 := Lib.hid (HR2.out.below (grown_below hg3 hB (by have := HC2.out.lt; omega)))
  have HG3 := Lib.hid hg3
  clear hc3 hg3
  go_wp2_with fail
  refine (byte_any _ g a len cap hlen HC3.out B hB HR3.out).mono ?_
  rintro e w4 ⟨x4, rfl, ⟨hx40, hx41⟩, hc4, hg4⟩
  have HC4 := Lib.hid hc4
  have HR4 := Lib.hid (HR3.out.below (grown_below hg4 hB (by have := HC3.out.lt; omega)))
  have HG4 := Lib.hid hg4
  clear hc4 hg4
  go_wp2
  go_ret
  exact ⟨_, rfl, by first | exact mod_range _ _ (by omega) (by omega) | exact tmod_range _ _ (by omega) (by omega), HC4.out, grown_trans HG1.out (grown_trans HG2.out (grown_trans HG3.out HG4.out))⟩
end Go.Proofs.Ytceiocdemhkcdaa.num
