/- Contracts of functions that the laws of this chapter call, packed. -/
import Derived.Test.YtaijajajpnekbaaProg
import Derived.WalkKit
import Derived.ProofKit
import Derived.Laws.IdiomStrings
import Derived.Laws.Concat
import Derived.Lib.Hide
import Derived.Outline
import Derived.Deep.QuietTactic
import Derived.BigQuiet
import Derived.Deep.RegionWith
import Derived.Laws.BitsAllLaws
import Derived.WalkSpells
import Derived.Test.YtaijajajpnekbaaPairMark
import Derived.Test.YtaijajajpnekbaaWishLaw
import Derived.Deep.RegionLaw
import Derived.Maps.AppendAt
namespace Go.Proofs.Ytaijajajpnekbaa.num
set_option maxRecDepth 20000
open Go.RowKit

def bv (b : UInt8) : Value := .int .u8 (b.toNat : Int)
/-- The slice value v is the call's own (blocks from B on) and holds the bytes l. -/
def Own (w : World) (B : Nat) (v : Value) (l : List UInt8) : Prop := w.ownsRow B 5 1 v l.length (l.map bv)

theorem info_u8 : (Try.prog.info? 5).map (fun i => (i.zero, i.size, i.bytes)) = some (some (.int .u8 0), 1, 1) := by kernel_rfl

theorem Own.nil (w : World) (B : Nat) : Own w B (.slice none 0 0) [] := World.ownsRow_nil _ _ _ _
theorem Own.empty (w : World) (B : Nat) (hB : B ≤ w.heap.size) : Own (w.alloc (.cells #[] 5)) B (.slice (some ⟨w.heap.size, 0, none⟩) 0 0) [] :=
  World.ownsRow_made w #[] 0 hB (Nat.zero_le _) (by simp)
theorem Own.alloc {w : World} {B : Nat} {v : Value} {l : List UInt8} (h : Own w B v l) (o : Obj) : Own (w.alloc o) B v l := World.ownsRow.alloc h o
theorem Own.drew {w : World} {B : Nat} {v : Value} {l : List UInt8} (h : Own w B v l) : Own w.drew B v l := h
theorem add_zero (g j : Nat) : (⟨g, 0, none⟩ : Addr).add j = ⟨g, j, none⟩ := by unfold Addr.add; split <;> simp_all

/-- The string of an owned slice. -/
theorem own_string {w : World} {B : Nat} {v : Value} {l : List UInt8} (h : Own w B v l) : (convert 46 9 v).run Try.prog w = .ok (.string ⟨l.toArray⟩) w := by
  have h0 := h
  rcases h.2 with ⟨rfl, hl⟩ | ⟨g, cap, cur, rfl, _, _, _, _, _, _⟩
  · have hn : l = [] := List.eq_nil_of_length_eq_zero hl
    subst hn
    exact run_convert_bytes_nil w _ _ Try.underlying46 Try.underlying5 0 0 _ Try.underlying9
  · refine run_convert_bytes_back w 46 9 5 ⟨g, 0, none⟩ cap l Try.underlying46 Try.underlying5 Try.underlying9 (fun j hj => ?_)
    rw [add_zero, World.ownsRow.cellAt h0 j (by omega)]
    simp [hj, bv]

/-- append of bytes that the statement itself lists. -/
theorem wp_app {ops : Array Oper} {rest : List Oper} {o : Oper} {a : Act} {Q : Exit → Act → World → Prop} (w : World) (hgd : o.guard = none) (s x : Operand)
    (ho : o.op = .call { callee := .builtin .append, args := #[s, x], argTypes := #[46, 46] })
    (B : Nat) (v : Value) (l : List UInt8) (hs : a.eval s = v) (hown : Own w B v l) (cs : Array Value) (new : List UInt8) (hcs : cs = (new.map bv).toArray) (n c : Nat) (hn : n = new.length)
    (hx : a.eval x = .slice (some ⟨w.heap.size, 0, none⟩) n c) (hlen : l.length + new.length ≤ 140737488355328) (hB : B ≤ w.heap.size)
    (h : ∀ v' w', Own w' B v' (l ++ new) → Below B w w' → wpList Try.prog ops Q rest (a.put o.dst v') w') :
    wpList Try.prog ops Q (o :: rest) a (w.alloc (.cells cs 5)) := by
  obtain ⟨i0, hi, hz0, hz1, hz2⟩ := info_parts info_u8
  subst hcs hn
  refine wpList_append_own _ hgd s x 46 ho B 5 i0 (.int .u8 0) 1 1 Try.underlying46 hi hz0 hz1 hz2 rfl (by decide) v l.length (l.map bv) hs (World.ownsRow.alloc hown _) ⟨w.heap.size, 0, none⟩ new.length c (new.map bv) hx (by simp) ?_ ?_ (by unfold maxLen; omega) (by omega) (by simp; omega) ?_
  · intro j u hj
    rw [add_zero, World.cell?_alloc_mark]
    simpa using hj
  · intro u hu
    obtain ⟨b, _, rfl⟩ := List.mem_map.1 hu
    rfl
  · intro v' w' hown' hg _
    refine h v' w' ?_ (((Below.refl B w).alloc hB _).grown hg (by simp; omega) (fun k hk => ?_))
    · have e : (l ++ new).length = l.length + new.length := by simp
      unfold Own
      rw [e, List.map_append]
      exact hown'
    · exact (World.ownsRow.lt hown k hk).1
end Go.Proofs.Ytaijajajpnekbaa.num
namespace Go.Proofs.Ytaijajajpnekbaa.num
set_option maxRecDepth 20000
open Go.RowKit

/-- The bytes of a slice that came in, below block B. -/
def Row (w : World) (B : Nat) (a : Option Addr) (len : Nat) : Prop :=
  ∀ k, k < len → ∃ (b off : Nat) (z : Int), a = some ⟨b, off, none⟩ ∧ b < B ∧ w.cell? ⟨b, off + k, none⟩ = some (.int .u8 z) ∧ 0 ≤ z ∧ z ≤ 255
theorem Row.below {w w' : World} {B : Nat} {a : Option Addr} {len : Nat} (h : Row w B a len) (hb : Below B w w') : Row w' B a len := fun k hk => by
  obtain ⟨b, off, z, ha, hB, hc, h0, h1⟩ := h k hk
  exact ⟨b, off, z, ha, hB, (hb.cell (p := ⟨b, off + k, none⟩) hB).trans hc, h0, h1⟩
/-- The cursor's block. -/
def Cur (w : World) (g : Nat) (a : Option Addr) (len cap : Nat) : Prop :=
  ∃ (i : Nat) (h : Int), i ≤ len ∧ w.heap[g]? = some (.cells #[.slice a len cap, .int .i64 i, .int .i64 h] 121 (0, 0))
theorem Cur.lt {w : World} {g : Nat} {a : Option Addr} {len cap : Nat} (h : Cur w g a len cap) : g < w.heap.size := by
  obtain ⟨i, x, _, h⟩ := h
  rcases Nat.lt_or_ge g w.heap.size with h' | h'
  · exact h'
  · rw [Array.getElem?_eq_none h'] at h; cases h
theorem Cur.kept {w w' : World} {g : Nat} {a : Option Addr} {len cap : Nat} (h : Cur w g a len cap) (hk : w'.heap[g]? = w.heap[g]?) : Cur w' g a len cap := by
  obtain ⟨i, x, hi, h⟩ := h
  exact ⟨i, x, hi, hk.trans h⟩
def Out (P : Int → Prop) (w : World) (g : Nat) (a : Option Addr) (len cap : Nat) (e : Ending) (w' : World) : Prop :=
  ∃ n : Int, e = .returned (.int .i64 n) ∧ P n ∧ Cur w' g a len cap ∧ w.grownBy w' (some g)

theorem and_range (y : Int) (m : Nat) (hm : m < 9223372036854775808) : 0 ≤ bits .and .i64 y (m : Int) ∧ bits .and .i64 y (m : Int) ≤ m := by
  have e : bits .and .i64 y (m : Int) = IntKind.i64.wrap ((BitVec.ofInt 64 y &&& BitVec.ofInt 64 (m : Int)).toNat : Int) := rfl
  have h : (BitVec.ofInt 64 y &&& BitVec.ofInt 64 (m : Int)).toNat ≤ m := by
    rw [BitVec.toNat_and, ofInt_u64 m (by omega)]
    exact Nat.and_le_right
  rw [e, IntWalk.i64_in _ ⟨by omega, by omega⟩]
  omega
theorem and255 (y : Int) : 0 ≤ bits .and .i64 y 255 ∧ bits .and .i64 y 255 ≤ 255 := and_range y 255 (by decide)
theorem and30 (y : Int) : 0 ≤ bits .and .i64 y 1073741823 ∧ bits .and .i64 y 1073741823 ≤ 1073741823 := and_range y 1073741823 (by decide)

theorem grown_refl (w : World) (r : Option Nat) : w.grownBy w r := ⟨rfl, rfl, rfl, Nat.le_refl _, fun _ _ _ => rfl⟩
theorem grown_trans {a b c : World} {r : Option Nat} (h : a.grownBy b r) (k : b.grownBy c r) : a.grownBy c r :=
  ⟨k.os.trans h.os, k.tape.trans h.tape, k.output.trans h.output, Nat.le_trans h.size k.size, fun i hi hne => (k.block i (Nat.lt_of_lt_of_le hi h.size) hne).trans (h.block i hi hne)⟩
theorem grown_set {a b : World} {g : Nat} (h : a.grownBy b (some g)) (j : Nat) (v : Value) : a.grownBy (b.setCell ⟨g, j, none⟩ v) (some g) :=
  ⟨h.os, h.tape, h.output, Nat.le_trans h.size (by simp [World.setCell]), fun i hi hne => (Below.heap_setCell b ⟨g, j, none⟩ v i (fun e => hne (by rw [e]))).trans (h.block i hi hne)⟩
theorem grown_drew {a b : World} {r : Option Nat} (h : a.grownBy b r) : a.grownBy b.drew r := ⟨h.os, h.tape, h.output, h.size, h.block⟩
theorem grown_alloc {a b : World} {r : Option Nat} (h : a.grownBy b r) (o : Obj) : a.grownBy (b.alloc o) r := grown_trans h (World.grownBy_alloc b o r)
theorem grown_below {a b : World} {g B : Nat} (h : a.grownBy b (some g)) (hB : B ≤ g) (hs : B ≤ a.heap.size) : Below B a b :=
  (Below.refl B a).grown h hs (fun k hk => by injection hk with hk; omega)

set_option maxRecDepth 20000 in
theorem byte_any (w : World) (g : Nat) (a : Option Addr) (len cap : Nat) (hlen : len ≤ 1048576) (hc : Cur w g a len cap) (B : Nat) (hB : B ≤ g) (hrow : Row w B a len) :
    Calls Try.prog 116 #[.pointer (some ⟨g, 0, none⟩)] w (Out (fun n => 0 ≤ n ∧ n ≤ 255) w g a len cap) := by
  obtain ⟨i, h, hi, hblk⟩ := hc
  have c0 : w.cell? ⟨g, 0, none⟩ = some (.slice a len cap) := cell_of_row w g 0 _ _ (0, 0) hblk
  have c1 : w.cell? ⟨g, 1, none⟩ = some (.int .i64 i) := cell_of_row w g 1 _ _ (0, 0) hblk
  have c2 : w.cell? ⟨g, 2, none⟩ = some (.int .i64 h) := cell_of_row w g 2 _ _ (0, 0) hblk
  have f1 : w.frozen? ⟨g, 1, none⟩ = false := by simp [World.frozen?, hblk]
  have f2 : w.frozen? ⟨g, 2, none⟩ = false := by simp [World.frozen?, hblk]
  have HB := Lib.hid hblk
  clear hblk
  by_cases hlt : i < len
  · obtain ⟨b, off, z, rfl, hbB, hz, hz0, hz1⟩ := hrow i hlt
    have hz' : ∀ v, (w.setCell ⟨g, 2, none⟩ v).cell? ⟨b, off + i, none⟩ = some (.int .u8 z) := fun v => by
      rw [World.cell?_setCell_other w _ _ v (fun e => by injection e; omega)]; exact hz
    go_enter Try.func116, Try.ntmps116
    go_wp2
    generalize wrap64 (wrap64 (h * 6364136223846793005) + 1442695040888963407) = h1 at *
    go_region
    go_wp2
    go_region
    all_goals go_wp2
    all_goals go_region
    all_goals go_wp2
    all_goals
      go_ret
      have hb2 := heap_setCell_same w g 2 _ _ (.int .i64 h1) HB.out
      have hb3 := heap_setCell_same _ g 1 _ _ (.int .i64 ((i : Int) + 1)) hb2
      exact ⟨_, rfl, and255 _, ⟨i + 1, h1, by omega, hb3⟩, by repeat (first | exact grown_refl _ _ | apply grown_drew | apply grown_set)⟩
  · obtain rfl : i = len := by omega
    go_enter Try.func116, Try.ntmps116
    go_wp2
    generalize wrap64 (wrap64 (h * 6364136223846793005) + 1442695040888963407) = h1 at *
    go_region
    go_wp2
    go_region
    all_goals go_wp2
    all_goals
      go_ret
      have hb2 := heap_setCell_same w g 2 _ _ (.int .i64 h1) HB.out
      exact ⟨_, rfl, and255 _, ⟨i, h1, Nat.le_refl _, hb2⟩, by repeat (first | exact grown_refl _ _ | apply grown_drew | apply grown_set)⟩

def InRange (n r : Int) : Prop := (n ≤ 0 → r = 0) ∧ (0 < n → 0 ≤ r ∧ r < n)
theorem mod_range (x n : Int) (_hx : 0 ≤ x) (hn : 0 < n) : InRange n (x % n) := ⟨fun h => by omega, fun _ => ⟨Int.emod_nonneg _ (by omega), Int.emod_lt_of_pos _ hn⟩⟩
theorem tmod_range (x n : Int) (hx : 0 ≤ x) (hn : 0 < n) : InRange n (x.tmod n) := by rw [Int.tmod_eq_emod_of_nonneg hx]; exact mod_range x n hx hn

set_option maxRecDepth 20000 in
theorem below_any (n : Int) (hn : n ≤ 2147483648) (w : World) (g : Nat) (a : Option Addr) (len cap : Nat) (hlen : len ≤ 1048576) (hc : Cur w g a len cap) (B : Nat) (hB : B ≤ g) (hrow : Row w B a len) :
    Calls Try.prog 91 #[.pointer (some ⟨g, 0, none⟩), .int .i64 n] w (Out (InRange n) w g a len cap) := by
  have HC0 := Lib.hid hc
  have HR0 := Lib.hid hrow
  clear hc hrow
  by_cases h0 : n ≤ 0
  · go_enter Try.func91, Try.ntmps91
    go_wp2
    go_ret
    exact ⟨0, rfl, ⟨fun _ => rfl, fun h => by omega⟩, HC0.out, grown_refl _ _⟩
  by_cases h1 : n ≤ 256
  · go_enter Try.func91, Try.ntmps91
    go_wp2_with fail
    refine (byte_any _ g a len cap hlen HC0.out B hB HR0.out).mono ?_
    rintro e w1 ⟨x1, rfl, ⟨hx10, hx11⟩, hc1, hg1⟩
    have HC1 := Lib.hid hc1
    have HR1 := Lib.hid (HR0.out.below (grown_below hg1 hB (by have := HC0.out.lt; omega)))
    have HG1 := Lib.hid hg1
    clear hc1 hg1
    go_wp2
    go_ret
    exact ⟨_, rfl, by first | exact mod_range _ _ (by omega) (by omega) | exact tmod_range _ _ (by omega) (by omega), HC1.out, HG1.out⟩
  go_enter Try.func91, Try.ntmps91
  go_wp2_with fail
  refine (byte_any _ g a len cap hlen HC0.out B hB HR0.out).mono ?_
  rintro e w1 ⟨x1, rfl, ⟨hx10, hx11⟩, hc1, hg1⟩
  have HC1 := Lib.hid hc1
  have HR1 := Lib.hid (HR0.out.below (grown_below hg1 hB (by have := HC0.out.lt; omega)))
  have HG1 := Lib.hid hg1
  clear hc1 hg1
  go_wp2_with fail
  refine (byte_any _ g a len cap hlen HC1.out B hB HR1.out).mono ?_
  rintro e w2 ⟨x2, rfl, ⟨hx20, hx21⟩, hc2, hg2⟩
  have HC2 := Lib.hid hc2
  have HR2 := Lib.hid (HR1.out.below (grown_below hg2 hB (by have := HC1.out.lt; omega)))
  have HG2 := Lib.hid hg2
  clear hc2 hg2
  go_wp2_with fail
  refine (byte_any _ g a len cap hlen HC2.out B hB HR2.out).mono ?_
  rintro e w3 ⟨x3, rfl, ⟨hx30, hx31⟩, hc3, hg3⟩
  have HC3 := Lib.hid hc3
  have HR3 := Lib.hid (HR2.out.below (grown_below hg3 hB (by have := HC2.out.lt; omega)))
  have HG3 := Lib.hid hg3
  clear hc3 hg3
  go_wp2_with fail
  refine (byte_any _ g a len cap hlen HC3.out B hB HR3.out).mono ?_
  rintro e w4 ⟨x4, rfl, ⟨hx40, hx41⟩, hc4, hg4⟩
  have HC4 := Lib.hid hc4
  have HR4 := Lib.hid (HR3.out.below (grown_below hg4 hB (by have := HC3.out.lt; omega)))
  have HG4 := Lib.hid hg4
  clear hc4 hg4
  go_wp2
  go_ret
  exact ⟨_, rfl, by first | exact mod_range _ _ (by omega) (by omega) | exact tmod_range _ _ (by omega) (by omega), HC4.out, grown_trans HG1.out (grown_trans HG2.out (grown_trans HG3.out HG4.out))⟩
end Go.Proofs.Ytaijajajpnekbaa.num
namespace Go.Proofs.Ytaijajajpnekbaa.num
set_option maxRecDepth 20000
open Go.RowKit

def I64 (n : Int) : Prop := -9223372036854775808 ≤ n ∧ n ≤ 9223372036854775807
theorem I64.wrap (x : Int) : I64 (wrap64 x) := by unfold I64 wrap64; omega
/-- A row of seventeen or so numbers, each an int. -/
def Nums (w : World) (gl N : Nat) : Prop := ∀ k, k < N → ∃ z : Int, w.cell? ⟨gl, k, none⟩ = some (.int .i64 z) ∧ I64 z

set_option maxRecDepth 20000 in
theorem pick_any (gl N : Nat) (hN : 0 < N) (hN2 : N ≤ 100) (w : World) (g : Nat) (a : Option Addr) (len cap : Nat) (hlen : len ≤ 1048576) (hc : Cur w g a len cap) (B : Nat) (hB : B ≤ g) (hrow : Row w B a len) (hl : Nums w gl N) (hne : gl ≠ g) :
    Calls Try.prog 93 #[.pointer (some ⟨g, 0, none⟩), .slice (some ⟨gl, 0, none⟩) N N] w (Out I64 w g a len cap) := by
  have HC := Lib.hid hc
  have HR := Lib.hid hrow
  have HL := Lib.hid hl
  clear hc hrow hl
  go_enter Try.func93, Try.ntmps93
  go_wp2_with fail
  refine (below_any _ (by omega) _ g a len cap hlen HC.out B hB HR.out).mono ?_
  rintro e w1 ⟨x1, rfl, hx, hc1, hg1⟩
  have hx2 := hx.2 (by omega)
  obtain ⟨r, rfl⟩ := Int.eq_ofNat_of_zero_le hx2.1
  have hrN : r < N := by omega
  obtain ⟨z, hz, hzI⟩ := HL.out r hrN
  have hz1 : w1.cell? ⟨gl, r, none⟩ = some (.int .i64 z) := by
    have hlt := World.block_lt_of_cell? w _ hz
    exact (World.cell?_of_block (hg1.block gl hlt (fun e => by injection e; omega))).trans hz
  have HC1 := Lib.hid hc1
  have HG1 := Lib.hid hg1
  have HZ := Lib.hid hzI
  clear hc1 hg1 hzI hz hx hx2
  go_wp2
  go_ret
  exact ⟨z, rfl, HZ.out, HC1.out, HG1.out⟩

/-- What a text's draw leaves. -/
def OutText (w : World) (g : Nat) (a : Option Addr) (len cap : Nat) (e : Ending) (w' : World) : Prop :=
  ∃ l : List UInt8, e = .returned (.string ⟨l.toArray⟩) ∧ l.length ≤ 40 ∧ Cur w' g a len cap ∧ Below g w w'
theorem Own.keptg {w w' : World} {B g : Nat} {v : Value} {l : List UInt8} (h : Own w B v l) (hg : w.grownBy w' (some g)) (hB : g < B) : Own w' B v l :=
  World.ownsRow.kept h hg (by
    by_cases hv : v.ownBlock = none
    · exact .inl hv
    · right
      intro e
      have := (World.ownsRow.lt h g e).1
      omega)
theorem byte_list (x : Int) (h0 : 0 ≤ x) (h1 : x ≤ 255) : #[Value.int .u8 x] = (List.map bv [UInt8.ofNat x.toNat]).toArray := by
  have h : (UInt8.ofNat x.toNat).toNat = x.toNat := by simp; omega
  simp only [List.map_cons, List.map_nil, bv, h]
  congr 3
  omega

end Go.Proofs.Ytaijajajpnekbaa.num
namespace Go.Proofs.Ytaijajajpnekbaa.num
set_option maxRecDepth 20000
open Go.RowKit

theorem Row.wide {w : World} {B : Nat} {a : Option Addr} {len : Nat} (h : Row w B a len) : Row w w.heap.size a len := fun k hk => by
  obtain ⟨b, off, z, ha, _, hc, h0, h1⟩ := h k hk
  exact ⟨b, off, z, ha, World.block_lt_of_cell? w _ hc, hc, h0, h1⟩
theorem big_any (a : Option Addr) (len cap : Nat) (b : Bool) (hb : b = true ↔ 1048576 < len) (hl : len ≤ 9223372036854775807) (w : World) :
    Calls Try.prog 31 #[.slice a len cap] w fun e w' => e = .returned (.bool b) ∧ w = w' := by
  obtain rfl : b = decide (1048576 < len) := by rw [Bool.eq_iff_iff]; simpa using hb
  clear hb
  by_cases h : 1048576 < len
  · go_enter Try.func31, Try.ntmps31
    go_wp2
    go_ret
    exact ⟨by simp; omega, rfl⟩
  · go_enter Try.func31, Try.ntmps31
    go_wp2
    go_ret
    exact ⟨by simp; omega, rfl⟩

def OutNew (w : World) (a : Option Addr) (len cap : Nat) (e : Ending) (w' : World) : Prop :=
  ∃ g : Nat, e = .returned (.pointer (some ⟨g, 0, none⟩)) ∧ w.heap.size ≤ g ∧ Cur w' g a len cap ∧ Below w.heap.size w w'

set_option maxRecDepth 20000 in
theorem new_any (w : World) (a : Option Addr) (len cap : Nat) (hlen : len ≤ 1048576) (B : Nat) (hrow : Row w B a len) :
    Calls Try.prog 63 #[.slice a len cap] w (OutNew w a len cap) := by
  have HR := Lib.hid hrow
  clear hrow
  go_enter Try.func63, Try.ntmps63
  go_wp2
  go_loop [3, 4] (fun h i => ∃ (k : Nat) (x : Int), k ≤ len ∧ k ≤ 4000 ∧ i = .int .i64 k ∧ h = .int .i64 x ∧ 0 ≤ x ∧ x ≤ 1073741823) (fun _ i => len - (intOf i).toNat)
  case atStart => exact ⟨0, _, Nat.zero_le _, by omega, rfl, rfl, by omega, by omega⟩
  case round =>
    obtain ⟨k, x, hk, hk4, rfl, rfl, hx0, hx1⟩ := hrel
    by_cases hlt : k < len ∧ k < 4000
    · obtain ⟨h1, h2⟩ := hlt
      obtain ⟨b, off, z, rfl, hbB, hz, hz0, hz1⟩ := HR.out k h1
      have hd : decide ((k : Int) < 4000) = true := by simp; omega
      go_wp2
      go_round
      case rel => exact ⟨k + 1, _, by omega, by omega, by go_num, rfl, (and30 _).1, (and30 _).2⟩
      case measure => simp [intOf]; omega
    · go_wp2
      all_goals
        go_ret
        exact ⟨w.heap.size, rfl, Nat.le_refl _, ⟨0, x, Nat.zero_le _, heap_alloc_new w _⟩, (Below.refl _ _).alloc (Nat.le_refl _) _⟩

def OutNum (P : Int → Prop) (w : World) (e : Ending) (w' : World) : Prop := ∃ n : Int, e = .returned (.int .i64 n) ∧ P n ∧ Below w.heap.size w w'
def OutStr (w : World) (e : Ending) (w' : World) : Prop := ∃ l : List UInt8, e = .returned (.string ⟨l.toArray⟩) ∧ l.length ≤ 40 ∧ Below w.heap.size w w'
def OutTwo (w : World) (e : Ending) (w' : World) : Prop := ∃ n x : Int, e = .returned (.tuple #[.int .i64 n, .int .i64 x]) ∧ I64 n ∧ -1 ≤ x ∧ x ≤ 8 ∧ Below w.heap.size w w'

end Go.Proofs.Ytaijajajpnekbaa.num
namespace Go.Proofs.Ytaijajajpnekbaa.num
set_option maxRecDepth 20000
open Go.RowKit
set_option linter.unusedVariables false

def OutBool (w : World) (g : Nat) (a : Option Addr) (len cap : Nat) (e : Ending) (w' : World) : Prop :=
  ∃ b : Bool, e = .returned (.bool b) ∧ Cur w' g a len cap ∧ w.grownBy w' (some g)
theorem once_any (n : Int) (hn : n ≤ 2147483648) (w : World) (g : Nat) (a : Option Addr) (len cap : Nat) (hlen : len ≤ 1048576) (hc : Cur w g a len cap) (B : Nat) (hB : B ≤ g) (hrow : Row w B a len) :
    Calls Try.prog 66 #[.pointer (some ⟨g, 0, none⟩), .int .i64 n] w (OutBool w g a len cap) := by
  go_enter Try.func66, Try.ntmps66
  go_wp2_with fail
  refine (below_any n hn _ g a len cap hlen hc B hB hrow).mono ?_
  rintro e w1 ⟨x, rfl, _, hc1, hg1⟩
  clear hc hrow
  by_cases h0 : x = 0
  · go_wp2
    go_ret
    exact ⟨_, rfl, hc1, hg1⟩
  · go_wp2
    go_ret
    exact ⟨_, rfl, hc1, hg1⟩

theorem OwnP.keptg {w w' : World} {B g : Nat} {v : Value} {l : List (Int × Int)} (h : OwnP w B v l) (hg : w.grownBy w' (some g)) (hB : g < B) : OwnP w' B v l :=
  h.blocks fun k hk => hg.block k (h.tops k hk) fun e => by have := h.lows k hk; have := Option.some.inj e; omega
theorem grown_tail {a b c : World} {r : Option Nat} (h : a.grownBy b r) (k : Below a.heap.size b c) : a.grownBy c r :=
  ⟨k.os.trans h.os, k.tape.trans h.tape, k.output.trans h.output, Nat.le_trans h.size k.size, fun i hi hne => (k.block i hi).trans (h.block i hi hne)⟩
/-- Pairs of the call's own, n of them at most; the cursor has moved on. -/
def OutPairs (n : Nat) (w : World) (g : Nat) (a : Option Addr) (len cap : Nat) (e : Ending) (w' : World) : Prop :=
  ∃ v ps, e = .returned v ∧ OwnP w' w.heap.size v ps ∧ ps.length ≤ n ∧ Cur w' g a len cap ∧ w.grownBy w' (some g)
set_option maxHeartbeats 1000000 in
theorem pairs_any (w : World) (g : Nat) (a : Option Addr) (len cap : Nat) (hlen : len ≤ 1048576) (hc : Cur w g a len cap) (B : Nat) (hB : B ≤ g) (hrow : Row w B a len) :
    Calls Try.prog 134 #[.pointer (some ⟨g, 0, none⟩)] w (OutPairs 4 w g a len cap) := by
  have HC := Lib.hid hc
  have HR := Lib.hid hrow
  have hgl := hc.lt
  have HC1 := Lib.hid (hc.kept (w' := w.alloc (.cells #[] 108)) (Below.heap_alloc _ _ _ hc.lt))
  have HG1 : Hid (w.grownBy (w.alloc (.cells #[] 108)) (some g)) := Lib.hid (World.grownBy_alloc w _ _)
  have HO1 := Lib.hid (OwnP.empty w w.heap.size (Nat.le_refl _))
  clear hc hrow
  go_enter Try.func134, Try.ntmps134
  go_wp2_with fail
  refine (below_any 5 (by omega) _ g a len cap hlen HC1.out B hB (HR.out.below (grown_below HG1.out hB (by omega)))).mono ?_
  rintro e w2 ⟨x, rfl, hx, hc2, hg2⟩
  obtain ⟨hx0, hx5⟩ := hx.2 (by omega)
  obtain ⟨k0, rfl⟩ := Int.eq_ofNat_of_zero_le hx0
  have HC2 := Lib.hid hc2
  have HG2 := Lib.hid (HG1.out.trans hg2)
  have HO2 := Lib.hid (HO1.out.keptg hg2 hgl)
  have hk5 : k0 < 5 := by omega
  clear hx hc2 hg2 hx0 hx5 HO1 HG1 HC1
  go_wp2
  go_loopw [3, 4] (fun v n wr => ∃ (k : Nat) (ps : List (Int × Int)), ps.length + k ≤ 4 ∧ n = .int .i64 k ∧ OwnP wr w.heap.size v ps ∧ Cur wr g a len cap ∧ w.grownBy wr (some g)) (fun _ n _ => (intOf n).toNat)
  case atStart => exact ⟨k0, [], by simp; omega, rfl, HO2.out, HC2.out, HG2.out⟩
  case round =>
    clear HO2 HC2 HG2 hk5
    obtain ⟨k, ps, hk, rfl, hown, hcur, hgw⟩ := hrel
    have HO := Lib.hid hown
    have HCu := Lib.hid hcur
    have HG := Lib.hid hgw
    clear hown hcur hgw
    by_cases hk0 : k = 0
    · subst hk0
      have hd : decide (((0 : Nat) : Int) > 0) = false := by simp
      go_wp2
      go_ret
      exact ⟨_, ps, rfl, HO.out, by omega, HCu.out, HG.out⟩
    · have hkp : (0 : Int) < k := by omega
      go_wp2_with fail
      refine (below_any 4 (by omega) _ g a len cap hlen HCu.out B hB (HR.out.below (grown_below HG.out hB (by omega)))).mono ?_
      rintro e w3 ⟨x, rfl, hx, hc3, hg3⟩
      obtain ⟨hx0, hx4⟩ := hx.2 (by omega)
      have HC3 := Lib.hid hc3
      have HG3 := Lib.hid (HG.out.trans hg3)
      have HO3 := Lib.hid (HO.out.keptg hg3 hgl)
      clear hx hc3 hg3 HO HCu HG
      go_wp2_with fail
      refine (below_any 3 (by omega) _ g a len cap hlen HC3.out B hB (HR.out.below (grown_below HG3.out hB (by omega)))).mono ?_
      rintro e w4 ⟨y, rfl, hy, hc4, hg4⟩
      obtain ⟨hy0, hy3⟩ := hy.2 (by omega)
      have HC4 := Lib.hid hc4
      have HG4 := Lib.hid (HG3.out.trans hg4)
      have HO4 := Lib.hid (HO3.out.keptg hg4 hgl)
      clear hy hc4 hg4 HO3 HC3 HG3
      go_wp2_with fail
      refine (once_any 3 (by omega) _ g a len cap hlen HC4.out B hB (HR.out.below (grown_below HG4.out hB (by omega)))).mono ?_
      rintro e w5 ⟨t, rfl, hc5, hg5⟩
      have HC5 := Lib.hid hc5
      have HG5 := Lib.hid (HG4.out.trans hg5)
      have HO5 := Lib.hid (HO4.out.keptg hg5 hgl)
      have hwl : Hid (w.heap.size ≤ w5.heap.size) := Lib.hid HG5.out.size
      have H4 : ∀ p : Int × Int, (ps.length + [p].length) * 16 ≤ 140737488355328 := fun p => by
        simp only [List.length_cons, List.length_nil]; omega
      have H4' := Lib.hid H4
      clear hc5 hg5 HO4 HC4 HG4 H4
      cases t
      · go_wp2_with (at_builtin; refine wp_appP _ (by rfl) (.tmp 30) (.tmp 34) (by rfl) w.heap.size _ _ (by rfl) HO5.out _ [(x, x + 1 + y)] (by rfl) 1 1 rfl (by rfl) (H4'.out _) hwl.out ?_)
        intro v1 w6 hown6 hb6
        have HO6 := Lib.hid hown6
        have HG6 := Lib.hid (grown_tail HG5.out hb6)
        have HC6 := Lib.hid (HC5.out.kept (hb6.block g hgl))
        clear hown6 hb6
        go_wp2
        go_roundw
        case rel => exact ⟨k - 1, ps ++ [(x, x + 1 + y)], by simp; omega, by first | rfl | (congr 1; omega), HO6.out, HC6.out, HG6.out⟩
        case measure => simp [intOf]; omega
      · go_wp2_with (at_builtin; refine wp_appP _ (by rfl) (.tmp 23) (.tmp 28) (by rfl) w.heap.size _ _ (by rfl) HO5.out _ [(x + 1 + y, x + 1 + y + 1)] (by rfl) 1 1 rfl (by rfl) (H4'.out _) hwl.out ?_)
        intro v1 w6 hown6 hb6
        have HO6 := Lib.hid hown6
        have HG6 := Lib.hid (grown_tail HG5.out hb6)
        have HC6 := Lib.hid (HC5.out.kept (hb6.block g hgl))
        clear hown6 hb6
        go_wp2
        go_roundw
        case rel => exact ⟨k - 1, ps ++ [(x + 1 + y, x + 1 + y + 1)], by simp; omega, by first | rfl | (congr 1; omega), HO6.out, HC6.out, HG6.out⟩
        case measure => simp [intOf]; omega

theorem OwnP.lowD {w : World} {B B' : Nat} {v : Value} {l : List (Int × Int)} (h : OwnP w B v l) (hB : B' ≤ B) : OwnP w B' v l :=
  ⟨h.1, h.2.imp id fun ⟨g, cap, cur, h1, h2, h3⟩ => ⟨g, cap, cur, h1, Nat.le_trans hB h2, h3⟩⟩
/-- Pairs that came of a draw. -/
def Drawn (w w' : World) (v : Value) (ps : List (Int × Int)) : Prop := OwnP w' w.heap.size v ps ∧ ps.length ≤ 5 ∧ Below w.heap.size w w'
end Go.Proofs.Ytaijajajpnekbaa.num
namespace Go.Proofs.Ytaijajajpnekbaa.num
set_option maxRecDepth 20000
open Go.RowKit
set_option linter.unusedVariables false
set_option linter.unusedSimpArgs false

theorem i64_small {n : Int} (h0 : 0 ≤ n) (h1 : n ≤ 100) : I64 n := ⟨by omega, by omega⟩
/-- A wish whose slices are the call's own, and short. -/
structure WiOwn (w : World) (B : Nat) (t : Wi) : Prop where
  l : OwnI w B (.slice t.LA t.Ln t.Lc) t.ls
  p : OwnP w B (.slice t.PA t.Pn t.Pc) t.ps
  k : I64 t.kind
  f : I64 t.field
  v : I64 t.value
  nl : t.ls.length ≤ 5
  np : t.ps.length ≤ 4
theorem wf_I64 {n : Int} (h : I64 n) : (Lit.int .i64 n).wf = true := WalkArith.wf_i64 h
theorem WiOwn.wi {w : World} {B : Nat} {t : Wi} (h : WiOwn w B t) : WiIn w w.heap.size t := ⟨wf_I64 h.k, wf_I64 h.f, wf_I64 h.v, ownI_at h.l, h.p.at⟩
theorem WiOwn.short {w : World} {B : Nat} {t : Wi} (h : WiOwn w B t) : t.Short := ⟨by have := (ownI_at h.l).1; have := h.nl; omega, by have := h.p.at.1; have := h.np; omega⟩
theorem WiOwn.blocks {w w' : World} {B : Nat} {t : Wi} (h : WiOwn w B t) (hb : ∀ b, B ≤ b → b < w.heap.size → w'.heap[b]? = w.heap[b]?) : WiOwn w' B t :=
  ⟨ownI_blocks h.l fun k hk => hb k (ownI_lows h.l k hk) (ownI_tops h.l k hk), h.p.blocks fun k hk => hb k (h.p.lows k hk) (h.p.tops k hk), h.k, h.f, h.v, h.nl, h.np⟩
theorem ownI_lowD {w : World} {B B' : Nat} {v : Value} {l : List Int} (h : OwnI w B v l) (hB : B' ≤ B) : OwnI w B' v l :=
  ⟨h.1, h.2.imp id fun ⟨g, cap, cur, h1, h2, h3⟩ => ⟨g, cap, cur, h1, Nat.le_trans hB h2, h3⟩⟩
theorem WiOwn.low {w : World} {B B' : Nat} {t : Wi} (h : WiOwn w B t) (hB : B' ≤ B) : WiOwn w B' t := ⟨ownI_lowD h.l hB, h.p.lowD hB, h.k, h.f, h.v, h.nl, h.np⟩
theorem row_kept {a b : World} {g X : Nat} {o : Obj} (hg : a.grownBy b (some g)) (h : a.heap[X]? = some o) (hX : X ≠ g) : b.heap[X]? = some o :=
  (hg.block X (Array.getElem?_eq_some_iff.1 h).1 (fun e => hX (Option.some.inj e))).trans h
theorem row_below {a b : World} {B X : Nat} {o : Obj} (hb : Below B a b) (h : a.heap[X]? = some o) (hX : X < B) : b.heap[X]? = some o := (hb.block X hX).trans h
theorem ownI_keptg {w w' : World} {B g : Nat} {v : Value} {l : List Int} (h : OwnI w B v l) (hg : w.grownBy w' (some g)) (hB : g < B) : OwnI w' B v l :=
  ownI_blocks h fun k hk => hg.block k (ownI_tops h k hk) fun e => by have := ownI_lows h k hk; have := Option.some.inj e; omega
/-- Five cells stored at block X. -/
def set5 (w : World) (X : Nat) (v0 v1 v2 v3 v4 : Value) : World := ((((w.setCell ⟨X, 0, none⟩ v0).setCell ⟨X, 1, none⟩ v1).setCell ⟨X, 2, none⟩ v2).setCell ⟨X, 3, none⟩ v3).setCell ⟨X, 4, none⟩ v4
theorem set5_other (w : World) (X b : Nat) (v0 v1 v2 v3 v4 : Value) (h : b ≠ X) : (set5 w X v0 v1 v2 v3 v4).heap[b]? = w.heap[b]? := by
  unfold set5
  rw [heap_setCell_other _ _ _ _ h, heap_setCell_other _ _ _ _ h, heap_setCell_other _ _ _ _ h, heap_setCell_other _ _ _ _ h, heap_setCell_other _ _ _ _ h]
theorem set5_below (w : World) (X B : Nat) (v0 v1 v2 v3 v4 : Value) (h : B ≤ X) : Below B w (set5 w X v0 v1 v2 v3 v4) := by
  unfold set5
  exact (((((Below.refl B w).setCell h _).setCell h _).setCell h _).setCell h _).setCell h _
def OutWish (N : Nat) (w : World) (g : Nat) (a : Option Addr) (len cap : Nat) (e : Ending) (w' : World) : Prop :=
  ∃ t : Wi, e = .returned t.val ∧ WiOwn w' w.heap.size t ∧ t.ls.length ≤ N ∧ Cur w' g a len cap ∧ w.grownBy w' (some g)
/-- What is handed out at the end, the result's block written. -/
theorem out_wish {w wr : World} {g : Nat} {a : Option Addr} {len cap : Nat} {t : Wi} {Y : Nat} (hgl : g < w.heap.size) (hY : w.heap.size < Y) (ho : WiOwn wr Y t) (hc : Cur wr g a len cap) (hg : w.grownBy wr (some g)) (v0 v1 v2 v3 v4 : Value) :
    WiOwn (set5 wr w.heap.size v0 v1 v2 v3 v4) w.heap.size t ∧ Cur (set5 wr w.heap.size v0 v1 v2 v3 v4) g a len cap ∧ w.grownBy (set5 wr w.heap.size v0 v1 v2 v3 v4) (some g) :=
  ⟨(ho.blocks fun b hb _ => set5_other _ _ _ _ _ _ _ _ (by omega)).low (by omega), hc.kept (set5_other _ _ _ _ _ _ _ _ (by omega)), grown_tail hg (set5_below _ _ _ _ _ _ _ _ (Nat.le_refl _))⟩

set_option maxRecDepth 20000 in
set_option maxHeartbeats 3200000 in
theorem wish_any (w : World) (g : Nat) (a : Option Addr) (len cap : Nat) (hlen : len ≤ 1048576) (hc : Cur w g a len cap) (B : Nat) (hB : B ≤ g) (hrow : Row w B a len) :
    Calls Try.prog 115 #[.pointer (some ⟨g, 0, none⟩)] w (OutWish 4 w g a len cap) := by
  have HR := Lib.hid hrow
  have hgl := hc.lt
  have HC1 := Lib.hid (hc.kept (w' := w.alloc (.cells #[.int .i64 0, .int .i64 0, .int .i64 0, .slice none 0 0, .slice none 0 0] 75)) (Below.heap_alloc _ _ _ hc.lt))
  have HG1 : Hid (w.grownBy (w.alloc (.cells #[.int .i64 0, .int .i64 0, .int .i64 0, .slice none 0 0, .slice none 0 0] 75)) (some g)) := Lib.hid (World.grownBy_alloc w _ _)
  have HX1 := Lib.hid (heap_alloc_new w (.cells #[.int .i64 0, .int .i64 0, .int .i64 0, .slice none 0 0, .slice none 0 0] 75))
  clear hc hrow
  go_enter Try.func115, Try.ntmps115
  go_wp2_with fail
  refine (below_any 5 (by omega) _ g a len cap hlen HC1.out B hB (HR.out.below (grown_below HG1.out hB (by omega)))).mono ?_
  rintro e w2 ⟨k, rfl, hk, hc2, hg2⟩
  obtain ⟨hk0, hk5⟩ := hk.2 (by omega)
  have HC2 := Lib.hid hc2
  have HG2 := Lib.hid (HG1.out.trans hg2)
  have HX2 := Lib.hid (row_kept hg2 HX1.out (by omega))
  clear hk hc2 hg2 HC1 HG1 HX1
  go_wp2_with fail
  refine (below_any 3 (by omega) _ g a len cap hlen HC2.out B hB (HR.out.below (grown_below HG2.out hB (by omega)))).mono ?_
  rintro e w3 ⟨f, rfl, hf, hc3, hg3⟩
  obtain ⟨hf0, hf3⟩ := hf.2 (by omega)
  have HC3 := Lib.hid hc3
  have HG3 := Lib.hid (HG2.out.trans hg3)
  have HX3 := Lib.hid (row_kept hg3 HX2.out (by omega))
  clear hf hc3 hg3 HC2 HG2 HX2
  have hX3 : w.heap.size < w3.heap.size := lt_of_block HX3.out
  rcases (show k = 0 ∨ k = 1 ∨ k = 2 ∨ k = 3 ∨ k = 4 by omega) with rfl | rfl | rfl | rfl | rfl
  · have x0 : w3.cell? ⟨w.heap.size, 0, none⟩ = some (.int .i64 0) := cell_of_row w3 _ 0 _ _ (0, 0) HX3.out
    have z0 : w3.frozen? ⟨w.heap.size, 0, none⟩ = false := frozen_of_row w3 _ 0 _ _ HX3.out
    have x1 : w3.cell? ⟨w.heap.size, 1, none⟩ = some (.int .i64 0) := cell_of_row w3 _ 1 _ _ (0, 0) HX3.out
    have z1 : w3.frozen? ⟨w.heap.size, 1, none⟩ = false := frozen_of_row w3 _ 1 _ _ HX3.out
    have x2 : w3.cell? ⟨w.heap.size, 2, none⟩ = some (.int .i64 0) := cell_of_row w3 _ 2 _ _ (0, 0) HX3.out
    have z2 : w3.frozen? ⟨w.heap.size, 2, none⟩ = false := frozen_of_row w3 _ 2 _ _ HX3.out
    have x3 : w3.cell? ⟨w.heap.size, 3, none⟩ = some (.slice none 0 0) := cell_of_row w3 _ 3 _ _ (0, 0) HX3.out
    have z3 : w3.frozen? ⟨w.heap.size, 3, none⟩ = false := frozen_of_row w3 _ 3 _ _ HX3.out
    have x4 : w3.cell? ⟨w.heap.size, 4, none⟩ = some (.slice none 0 0) := cell_of_row w3 _ 4 _ _ (0, 0) HX3.out
    have z4 : w3.frozen? ⟨w.heap.size, 4, none⟩ = false := frozen_of_row w3 _ 4 _ _ HX3.out
    go_wp2
    refine bodyPost_ret_by (results_cell_row rfl _ _ w.heap.size 75 _ (0, 0) _ rfl ((Below.heap_alloc _ _ _ (by simp; omega)).trans (five_set HX3.out)) Try.underlying75 rfl (by kernel_rfl)) rfl ?_
    refine ⟨⟨0, f, 0, none, 0, 0, [], none, 0, 0, []⟩, rfl, ⟨ownI_nil _ _, OwnP.nil _ _, i64_small (n := 0) (by decide) (by decide), i64_small (n := f) (by omega) (by omega), i64_small (n := 0) (by decide) (by decide), by simp, by simp⟩, by simp, (HC3.out.kept ?_).kept (Below.heap_alloc _ _ _ (by simp; omega)), grown_alloc (grown_tail HG3.out ?_) _⟩
    · exact set5_other w3 w.heap.size g _ _ _ _ _ (by omega)
    · exact set5_below w3 w.heap.size w.heap.size _ _ _ _ _ (Nat.le_refl _)
  · have x0 : w3.cell? ⟨w.heap.size, 0, none⟩ = some (.int .i64 0) := cell_of_row w3 _ 0 _ _ (0, 0) HX3.out
    have z0 : w3.frozen? ⟨w.heap.size, 0, none⟩ = false := frozen_of_row w3 _ 0 _ _ HX3.out
    have x1 : w3.cell? ⟨w.heap.size, 1, none⟩ = some (.int .i64 0) := cell_of_row w3 _ 1 _ _ (0, 0) HX3.out
    have z1 : w3.frozen? ⟨w.heap.size, 1, none⟩ = false := frozen_of_row w3 _ 1 _ _ HX3.out
    have x2 : w3.cell? ⟨w.heap.size, 2, none⟩ = some (.int .i64 0) := cell_of_row w3 _ 2 _ _ (0, 0) HX3.out
    have z2 : w3.frozen? ⟨w.heap.size, 2, none⟩ = false := frozen_of_row w3 _ 2 _ _ HX3.out
    have x3 : w3.cell? ⟨w.heap.size, 3, none⟩ = some (.slice none 0 0) := cell_of_row w3 _ 3 _ _ (0, 0) HX3.out
    have z3 : w3.frozen? ⟨w.heap.size, 3, none⟩ = false := frozen_of_row w3 _ 3 _ _ HX3.out
    have x4 : w3.cell? ⟨w.heap.size, 4, none⟩ = some (.slice none 0 0) := cell_of_row w3 _ 4 _ _ (0, 0) HX3.out
    have z4 : w3.frozen? ⟨w.heap.size, 4, none⟩ = false := frozen_of_row w3 _ 4 _ _ HX3.out
    go_wp2
    refine bodyPost_ret_by (results_cell_row rfl _ _ w.heap.size 75 _ (0, 0) _ rfl ((Below.heap_alloc _ _ _ (by simp; omega)).trans (five_set HX3.out)) Try.underlying75 rfl (by kernel_rfl)) rfl ?_
    refine ⟨⟨1, f, 0, none, 0, 0, [], none, 0, 0, []⟩, rfl, ⟨ownI_nil _ _, OwnP.nil _ _, i64_small (n := 1) (by decide) (by decide), i64_small (n := f) (by omega) (by omega), i64_small (n := 0) (by decide) (by decide), by simp, by simp⟩, by simp, (HC3.out.kept ?_).kept (Below.heap_alloc _ _ _ (by simp; omega)), grown_alloc (grown_tail HG3.out ?_) _⟩
    · exact set5_other w3 w.heap.size g _ _ _ _ _ (by omega)
    · exact set5_below w3 w.heap.size w.heap.size _ _ _ _ _ (Nat.le_refl _)
  · have HC4 := Lib.hid (HC3.out.kept (Below.heap_alloc w3 (.cells #[.int .i64 2, .int .i64 f, .int .i64 0, .slice none 0 0, .slice none 0 0] 75) _ (Nat.lt_trans hgl hX3)))
    have HG4 := Lib.hid (grown_alloc HG3.out (.cells #[.int .i64 2, .int .i64 f, .int .i64 0, .slice none 0 0, .slice none 0 0] 75))
    have HX4 := Lib.hid ((Below.heap_alloc w3 (.cells #[.int .i64 2, .int .i64 f, .int .i64 0, .slice none 0 0, .slice none 0 0] 75) _ hX3).trans HX3.out)
    have HY4 := Lib.hid (heap_alloc_new w3 (.cells #[.int .i64 2, .int .i64 f, .int .i64 0, .slice none 0 0, .slice none 0 0] 75))
    clear HC3 HG3 HX3
    go_wp2_with fail
    refine (below_any 5 (by omega) _ g a len cap hlen HC4.out B hB (HR.out.below (grown_below HG4.out hB (by omega)))).mono ?_
    rintro e w4 ⟨z, rfl, hz, hc4, hg4⟩
    obtain ⟨hz0, hz5⟩ := hz.2 (by omega)
    have HC5 := Lib.hid hc4
    have HG5 := Lib.hid (HG4.out.trans hg4)
    have HXX := Lib.hid (row_kept hg4 HX4.out (by omega))
    have HYY := Lib.hid (row_kept hg4 HY4.out (by omega))
    clear hz hc4 hg4 HC4 HG4 HX4 HY4
    have x0 : w4.cell? ⟨w.heap.size, 0, none⟩ = some (.int .i64 0) := cell_of_row w4 _ 0 _ _ (0, 0) HXX.out
    have z0 : w4.frozen? ⟨w.heap.size, 0, none⟩ = false := frozen_of_row w4 _ 0 _ _ HXX.out
    have x1 : w4.cell? ⟨w.heap.size, 1, none⟩ = some (.int .i64 0) := cell_of_row w4 _ 1 _ _ (0, 0) HXX.out
    have z1 : w4.frozen? ⟨w.heap.size, 1, none⟩ = false := frozen_of_row w4 _ 1 _ _ HXX.out
    have x2 : w4.cell? ⟨w.heap.size, 2, none⟩ = some (.int .i64 0) := cell_of_row w4 _ 2 _ _ (0, 0) HXX.out
    have z2 : w4.frozen? ⟨w.heap.size, 2, none⟩ = false := frozen_of_row w4 _ 2 _ _ HXX.out
    have x3 : w4.cell? ⟨w.heap.size, 3, none⟩ = some (.slice none 0 0) := cell_of_row w4 _ 3 _ _ (0, 0) HXX.out
    have z3 : w4.frozen? ⟨w.heap.size, 3, none⟩ = false := frozen_of_row w4 _ 3 _ _ HXX.out
    have x4 : w4.cell? ⟨w.heap.size, 4, none⟩ = some (.slice none 0 0) := cell_of_row w4 _ 4 _ _ (0, 0) HXX.out
    have z4 : w4.frozen? ⟨w.heap.size, 4, none⟩ = false := frozen_of_row w4 _ 4 _ _ HXX.out
    have y0 : w4.cell? ⟨w3.heap.size, 0, none⟩ = some (.int .i64 2) := cell_of_row w4 _ 0 _ _ (0, 0) HYY.out
    have y1 : w4.cell? ⟨w3.heap.size, 1, none⟩ = some (.int .i64 f) := cell_of_row w4 _ 1 _ _ (0, 0) HYY.out
    have y2 : w4.cell? ⟨w3.heap.size, 2, none⟩ = some (.int .i64 0) := cell_of_row w4 _ 2 _ _ (0, 0) HYY.out
    have y3 : w4.cell? ⟨w3.heap.size, 3, none⟩ = some (.slice none 0 0) := cell_of_row w4 _ 3 _ _ (0, 0) HYY.out
    have y4 : w4.cell? ⟨w3.heap.size, 4, none⟩ = some (.slice none 0 0) := cell_of_row w4 _ 4 _ _ (0, 0) HYY.out
    have u2 : w4.frozen? ⟨w3.heap.size, 2, none⟩ = false := frozen_of_row w4 _ 2 _ _ HYY.out
    go_wp2
    refine bodyPost_ret_by (results_cell_row rfl _ _ w.heap.size 75 _ (0, 0) _ rfl (five_set ((heap_setCell_other _ _ _ _ (by simp; omega)).trans HXX.out)) Try.underlying75 rfl (by kernel_rfl)) rfl ?_
    obtain ⟨h1, h2, h3⟩ := out_wish (t := ⟨2, f, z, none, 0, 0, [], none, 0, 0, []⟩) (Y := w3.heap.size) hgl hX3 (wr := w4.setCell ⟨w3.heap.size, 2, none⟩ (.int .i64 z)) ⟨ownI_nil _ _, OwnP.nil _ _, i64_small (n := 2) (by decide) (by decide), i64_small (n := f) (by omega) (by omega), i64_small (n := z) (by omega) (by omega), by simp, by simp⟩ (HC5.out.kept (heap_setCell_other _ _ _ _ (by simp; omega))) (grown_tail HG5.out ((Below.refl _ _).setCell (by show w.heap.size ≤ w3.heap.size; omega) _)) (.int .i64 2) (.int .i64 f) (.int .i64 z) (.slice none 0 0) (.slice none 0 0)
    exact ⟨_, rfl, h1, by simp, h2, h3⟩
  · have HC4 := Lib.hid (HC3.out.kept (Below.heap_alloc w3 (.cells #[.int .i64 3, .int .i64 f, .int .i64 0, .slice none 0 0, .slice none 0 0] 75) _ (Nat.lt_trans hgl hX3)))
    have HG4 := Lib.hid (grown_alloc HG3.out (.cells #[.int .i64 3, .int .i64 f, .int .i64 0, .slice none 0 0, .slice none 0 0] 75))
    have HX4 := Lib.hid ((Below.heap_alloc w3 (.cells #[.int .i64 3, .int .i64 f, .int .i64 0, .slice none 0 0, .slice none 0 0] 75) _ hX3).trans HX3.out)
    have HY4 := Lib.hid (heap_alloc_new w3 (.cells #[.int .i64 3, .int .i64 f, .int .i64 0, .slice none 0 0, .slice none 0 0] 75))
    clear HC3 HG3 HX3
    go_wp2_with fail
    refine (below_any 2 (by omega) _ g a len cap hlen HC4.out B hB (HR.out.below (grown_below HG4.out hB (by omega)))).mono ?_
    rintro e w4 ⟨x, rfl, hx, hc4, hg4⟩
    obtain ⟨hx0, hx2⟩ := hx.2 (by omega)
    have HC5 := Lib.hid hc4
    have HG5 := Lib.hid (HG4.out.trans hg4)
    have HX5 := Lib.hid (row_kept hg4 HX4.out (by omega))
    have HY5 := Lib.hid (row_kept hg4 HY4.out (by omega))
    clear hx hc4 hg4 HC4 HG4 HX4 HY4
    go_wp2_with fail
    refine (below_any 3 (by omega) _ g a len cap hlen HC5.out B hB (HR.out.below (grown_below HG5.out hB (by omega)))).mono ?_
    rintro e w5 ⟨m, rfl, hm, hc5, hg5⟩
    obtain ⟨hm0, hm3⟩ := hm.2 (by omega)
    obtain ⟨m, rfl⟩ := Int.eq_ofNat_of_zero_le hm0
    have HC6 := Lib.hid hc5
    have HG6 := Lib.hid (HG5.out.trans hg5)
    have HX6 := Lib.hid (row_kept hg5 HX5.out (by omega))
    have HY6 := Lib.hid (row_kept hg5 HY5.out (by omega))
    clear hm hc5 hg5 HC5 HG5 HX5 HY5
    go_wp2
    go_loopw [4, 5] (fun xv nv wr => ∃ (j : Nat) (x : Int) (LA : Option Addr) (Ln Lc : Nat) (ls : List Int), j ≤ 3 ∧ nv = .int .i64 j ∧ xv = .int .i64 x ∧ 0 ≤ x ∧ x + 2 * j ≤ 7 ∧ ls.length + j ≤ 3 ∧ wr.heap[w3.heap.size]? = some (.cells #[.int .i64 3, .int .i64 f, .int .i64 0, .slice LA Ln Lc, .slice none 0 0] 75 (0, 0)) ∧ OwnI wr (w3.heap.size + 1) (.slice LA Ln Lc) ls ∧ wr.heap[w.heap.size]? = some (.cells #[.int .i64 0, .int .i64 0, .int .i64 0, .slice none 0 0, .slice none 0 0] 75 (0, 0)) ∧ Cur wr g a len cap ∧ w.grownBy wr (some g) ∧ w3.heap.size + 1 ≤ wr.heap.size) (fun _ nv _ => (intOf nv).toNat)
    case atStart => exact ⟨m + 1, x, none, 0, 0, [], by omega, by first | rfl | (congr 1; omega), rfl, hx0, by omega, by simp; omega, HY6.out, ownI_nil _ _, HX6.out, HC6.out, HG6.out, lt_of_block HY6.out⟩
    case round =>
      clear HX6 HY6 HC6 HG6 hx0 hx2 hm0 hm3
      obtain ⟨j, x, LA, Ln, Lc, ls, hj, rfl, rfl, hx0, hx7, hls, hy, hown, hxx, hcur, hgw, hsz⟩ := hrel
      have HYY := Lib.hid hy
      have HXX := Lib.hid hxx
      have HO := Lib.hid hown
      have HCu := Lib.hid hcur
      have HG := Lib.hid hgw
      clear hy hown hxx hcur hgw
      by_cases hj0 : j = 0
      · subst hj0
        have hd : decide (((0 : Nat) : Int) > 0) = false := by simp
        have x0 : wr.cell? ⟨w.heap.size, 0, none⟩ = some (.int .i64 0) := cell_of_row wr _ 0 _ _ (0, 0) HXX.out
        have z0 : wr.frozen? ⟨w.heap.size, 0, none⟩ = false := frozen_of_row wr _ 0 _ _ HXX.out
        have x1 : wr.cell? ⟨w.heap.size, 1, none⟩ = some (.int .i64 0) := cell_of_row wr _ 1 _ _ (0, 0) HXX.out
        have z1 : wr.frozen? ⟨w.heap.size, 1, none⟩ = false := frozen_of_row wr _ 1 _ _ HXX.out
        have x2 : wr.cell? ⟨w.heap.size, 2, none⟩ = some (.int .i64 0) := cell_of_row wr _ 2 _ _ (0, 0) HXX.out
        have z2 : wr.frozen? ⟨w.heap.size, 2, none⟩ = false := frozen_of_row wr _ 2 _ _ HXX.out
        have x3 : wr.cell? ⟨w.heap.size, 3, none⟩ = some (.slice none 0 0) := cell_of_row wr _ 3 _ _ (0, 0) HXX.out
        have z3 : wr.frozen? ⟨w.heap.size, 3, none⟩ = false := frozen_of_row wr _ 3 _ _ HXX.out
        have x4 : wr.cell? ⟨w.heap.size, 4, none⟩ = some (.slice none 0 0) := cell_of_row wr _ 4 _ _ (0, 0) HXX.out
        have z4 : wr.frozen? ⟨w.heap.size, 4, none⟩ = false := frozen_of_row wr _ 4 _ _ HXX.out
        have y0 : wr.cell? ⟨w3.heap.size, 0, none⟩ = some (.int .i64 3) := cell_of_row wr _ 0 _ _ (0, 0) HYY.out
        have y1 : wr.cell? ⟨w3.heap.size, 1, none⟩ = some (.int .i64 f) := cell_of_row wr _ 1 _ _ (0, 0) HYY.out
        have y2 : wr.cell? ⟨w3.heap.size, 2, none⟩ = some (.int .i64 0) := cell_of_row wr _ 2 _ _ (0, 0) HYY.out
        have y3 : wr.cell? ⟨w3.heap.size, 3, none⟩ = some (.slice LA Ln Lc) := cell_of_row wr _ 3 _ _ (0, 0) HYY.out
        have y4 : wr.cell? ⟨w3.heap.size, 4, none⟩ = some (.slice none 0 0) := cell_of_row wr _ 4 _ _ (0, 0) HYY.out
        go_wp2
        refine bodyPost_ret_by (results_cell_row rfl _ _ w.heap.size 75 _ (0, 0) _ rfl (five_set HXX.out) Try.underlying75 rfl (by kernel_rfl)) rfl ?_
        obtain ⟨h1, h2, h3⟩ := out_wish (t := ⟨3, f, 0, LA, Ln, Lc, ls, none, 0, 0, []⟩) (Y := w3.heap.size + 1) hgl (by omega) (wr := wr) ⟨HO.out, OwnP.nil _ _, i64_small (n := 3) (by decide) (by decide), i64_small (n := f) (by omega) (by omega), i64_small (n := 0) (by decide) (by decide), by show ls.length ≤ 5; omega, by simp⟩ HCu.out HG.out (.int .i64 3) (.int .i64 f) (.int .i64 0) (.slice LA Ln Lc) (.slice none 0 0)
        exact ⟨_, rfl, h1, by show ls.length ≤ 4; omega, h2, h3⟩
      · have hjp : (0 : Int) < j := by omega
        have H4 : Hid ((ls.length + [x].length) * 8 ≤ 140737488355328) := Lib.hid (by simp only [List.length_cons, List.length_nil]; omega)
        have y3 : wr.cell? ⟨w3.heap.size, 3, none⟩ = some (.slice LA Ln Lc) := cell_of_row wr _ 3 _ _ (0, 0) HYY.out
        go_wp2_with (at_builtin; refine wp_appI _ (by rfl) (.tmp 30) (.tmp 32) (by rfl) (w3.heap.size + 1) _ _ (by rfl) HO.out _ [x] (by rfl) 1 1 rfl (by rfl) H4.out hsz ?_)
        intro v1 w6 hown6 hb6
        obtain ⟨LA', Ln', Lc', rfl, _⟩ := hown6.ints
        have HO6 := Lib.hid hown6
        have HY6 := Lib.hid (row_below hb6 HYY.out (by omega))
        have HX6 := Lib.hid (row_below hb6 HXX.out (by omega))
        have HC6 := Lib.hid (HCu.out.kept (hb6.block g (by omega)))
        have HG6 := Lib.hid (grown_tail HG.out (hb6.mono (by omega)))
        have hs6 := Lib.hid (Nat.le_trans hsz hb6.size)
        have y3 : w6.cell? ⟨w3.heap.size, 3, none⟩ = some (.slice LA Ln Lc) := cell_of_row w6 _ 3 _ _ (0, 0) HY6.out
        have u3 : w6.frozen? ⟨w3.heap.size, 3, none⟩ = false := frozen_of_row w6 _ 3 _ _ HY6.out
        clear hown6 hb6 HO HYY HXX HCu HG H4
        have HY7 : Hid ((w6.setCell ⟨w3.heap.size, 3, none⟩ (.slice LA' Ln' Lc')).heap[w3.heap.size]? = some (.cells #[.int .i64 3, .int .i64 f, .int .i64 0, .slice LA' Ln' Lc', .slice none 0 0] 75 (0, 0))) := Lib.hid (by have h := heap_setCell_same w6 w3.heap.size 3 _ _ (.slice LA' Ln' Lc') HY6.out; simpa using h)
        have HX7 := Lib.hid ((heap_setCell_other w6 ⟨w3.heap.size, 3, none⟩ w.heap.size (.slice LA' Ln' Lc') (by simp; omega)).trans HX6.out)
        have HC7 := Lib.hid (HC6.out.kept (heap_setCell_other w6 ⟨w3.heap.size, 3, none⟩ g (.slice LA' Ln' Lc') (by simp; omega)))
        have HG7 : Hid (w.grownBy (w6.setCell ⟨w3.heap.size, 3, none⟩ (.slice LA' Ln' Lc')) (some g)) := Lib.hid (grown_tail HG6.out ((Below.refl _ _).setCell (by show w.heap.size ≤ w3.heap.size; omega) _))
        have HO7 : Hid (OwnI (w6.setCell ⟨w3.heap.size, 3, none⟩ (.slice LA' Ln' Lc')) (w3.heap.size + 1) (.slice LA' Ln' Lc') (ls ++ [x])) := Lib.hid (ownI_blocks HO6.out fun k hk => heap_setCell_other _ _ _ _ (by have := ownI_lows HO6.out k hk; simp; omega))
        have hs7 : Hid (w3.heap.size + 1 ≤ (w6.setCell ⟨w3.heap.size, 3, none⟩ (.slice LA' Ln' Lc')).heap.size) := Lib.hid (by have := hs6.out; simp; omega)
        clear HY6 HX6 HC6 HG6 HO6 hs6
        go_wp2_with fail
        refine (below_any 2 (by omega) _ g a len cap hlen HC7.out B hB (HR.out.below (grown_below HG7.out hB (by omega)))).mono ?_
        rintro e w8 ⟨y, rfl, hyr, hc8, hg8⟩
        obtain ⟨hy0, hy2⟩ := hyr.2 (by omega)
        have HC8 := Lib.hid hc8
        have HG8 := Lib.hid (HG7.out.trans hg8)
        have HX8 := Lib.hid (row_kept hg8 HX7.out (by omega))
        have HY8 := Lib.hid (row_kept hg8 HY7.out (by omega))
        have HO8 := Lib.hid (ownI_keptg HO7.out hg8 (by omega))
        have hs8 := Lib.hid (Nat.le_trans hs7.out hg8.size)
        clear hyr hc8 hg8 y3 u3 HY7 HX7 HC7 HG7 HO7 hs7
        go_wp2
        go_roundw
        case rel => exact ⟨j - 1, x + 1 + y, LA', Ln', Lc', ls ++ [x], by omega, by first | rfl | (congr 1; omega), by first | rfl | (congr 1; omega), by omega, by omega, by simp; omega, HY8.out, HO8.out, HX8.out, HC8.out, HG8.out, hs8.out⟩
        case measure => simp [intOf]; omega
  · have HC4 := Lib.hid (HC3.out.kept (Below.heap_alloc w3 (.cells #[.int .i64 4, .int .i64 f, .int .i64 0, .slice none 0 0, .slice none 0 0] 75) _ (Nat.lt_trans hgl hX3)))
    have HG4 := Lib.hid (grown_alloc HG3.out (.cells #[.int .i64 4, .int .i64 f, .int .i64 0, .slice none 0 0, .slice none 0 0] 75))
    have HX4 := Lib.hid ((Below.heap_alloc w3 (.cells #[.int .i64 4, .int .i64 f, .int .i64 0, .slice none 0 0, .slice none 0 0] 75) _ hX3).trans HX3.out)
    have HY4 := Lib.hid (heap_alloc_new w3 (.cells #[.int .i64 4, .int .i64 f, .int .i64 0, .slice none 0 0, .slice none 0 0] 75))
    clear HC3 HG3 HX3
    go_wp2_with fail
    refine (pairs_any _ g a len cap hlen HC4.out B hB (HR.out.below (grown_below HG4.out hB (by omega)))).mono ?_
    rintro e w4 ⟨v, ps, rfl, hown, hps, hc4, hg4⟩
    obtain ⟨PA, Pn, Pc, rfl, _⟩ := hown.pairs
    have HO := Lib.hid hown
    have HC5 := Lib.hid hc4
    have HG5 := Lib.hid (HG4.out.trans hg4)
    have HXX := Lib.hid (row_kept hg4 HX4.out (by omega))
    have HYY := Lib.hid (row_kept hg4 HY4.out (by omega))
    clear hown hc4 hg4 HC4 HG4 HX4 HY4
    have x0 : w4.cell? ⟨w.heap.size, 0, none⟩ = some (.int .i64 0) := cell_of_row w4 _ 0 _ _ (0, 0) HXX.out
    have z0 : w4.frozen? ⟨w.heap.size, 0, none⟩ = false := frozen_of_row w4 _ 0 _ _ HXX.out
    have x1 : w4.cell? ⟨w.heap.size, 1, none⟩ = some (.int .i64 0) := cell_of_row w4 _ 1 _ _ (0, 0) HXX.out
    have z1 : w4.frozen? ⟨w.heap.size, 1, none⟩ = false := frozen_of_row w4 _ 1 _ _ HXX.out
    have x2 : w4.cell? ⟨w.heap.size, 2, none⟩ = some (.int .i64 0) := cell_of_row w4 _ 2 _ _ (0, 0) HXX.out
    have z2 : w4.frozen? ⟨w.heap.size, 2, none⟩ = false := frozen_of_row w4 _ 2 _ _ HXX.out
    have x3 : w4.cell? ⟨w.heap.size, 3, none⟩ = some (.slice none 0 0) := cell_of_row w4 _ 3 _ _ (0, 0) HXX.out
    have z3 : w4.frozen? ⟨w.heap.size, 3, none⟩ = false := frozen_of_row w4 _ 3 _ _ HXX.out
    have x4 : w4.cell? ⟨w.heap.size, 4, none⟩ = some (.slice none 0 0) := cell_of_row w4 _ 4 _ _ (0, 0) HXX.out
    have z4 : w4.frozen? ⟨w.heap.size, 4, none⟩ = false := frozen_of_row w4 _ 4 _ _ HXX.out
    have y0 : w4.cell? ⟨w3.heap.size, 0, none⟩ = some (.int .i64 4) := cell_of_row w4 _ 0 _ _ (0, 0) HYY.out
    have y1 : w4.cell? ⟨w3.heap.size, 1, none⟩ = some (.int .i64 f) := cell_of_row w4 _ 1 _ _ (0, 0) HYY.out
    have y2 : w4.cell? ⟨w3.heap.size, 2, none⟩ = some (.int .i64 0) := cell_of_row w4 _ 2 _ _ (0, 0) HYY.out
    have y3 : w4.cell? ⟨w3.heap.size, 3, none⟩ = some (.slice none 0 0) := cell_of_row w4 _ 3 _ _ (0, 0) HYY.out
    have y4 : w4.cell? ⟨w3.heap.size, 4, none⟩ = some (.slice none 0 0) := cell_of_row w4 _ 4 _ _ (0, 0) HYY.out
    have u4 : w4.frozen? ⟨w3.heap.size, 4, none⟩ = false := frozen_of_row w4 _ 4 _ _ HYY.out
    go_wp2
    refine bodyPost_ret_by (results_cell_row rfl _ _ w.heap.size 75 _ (0, 0) _ rfl (five_set ((heap_setCell_other _ _ _ _ (by simp; omega)).trans HXX.out)) Try.underlying75 rfl (by kernel_rfl)) rfl ?_
    have hO2 : OwnP (w4.setCell ⟨w3.heap.size, 4, none⟩ (.slice PA Pn Pc)) (w3.heap.size + 1) (.slice PA Pn Pc) ps := OwnP.blocks (by have := HO.out; simp at this; exact this) fun k hk => heap_setCell_other _ _ _ _ (by have := HO.out.lows k hk; simp at this; simp; omega)
    obtain ⟨h1, h2, h3⟩ := out_wish (t := ⟨4, f, 0, none, 0, 0, [], PA, Pn, Pc, ps⟩) (Y := w3.heap.size + 1) hgl (by omega) (wr := w4.setCell ⟨w3.heap.size, 4, none⟩ (.slice PA Pn Pc)) ⟨ownI_nil _ _, hO2, i64_small (n := 4) (by decide) (by decide), i64_small (n := f) (by omega) (by omega), i64_small (n := 0) (by decide) (by decide), by simp, hps⟩ (HC5.out.kept (heap_setCell_other _ _ _ _ (by simp; omega))) (grown_tail HG5.out ((Below.refl _ _).setCell (by show w.heap.size ≤ w3.heap.size; omega) _)) (.int .i64 4) (.int .i64 f) (.int .i64 0) (.slice none 0 0) (.slice PA Pn Pc)
    exact ⟨_, rfl, h1, by simp, h2, h3⟩
end Go.Proofs.Ytaijajajpnekbaa.num
namespace Go.Proofs.Ytaijajajpnekbaa.num
set_option maxRecDepth 20000
open Go.RowKit Go.Maps
set_option linter.unusedVariables false
set_option linter.unusedSimpArgs false

theorem step_appD {ops : Array Oper} {o : Oper} {a : Act} {K : Act → World → Prop} {Q : Exit → Act → World → Prop} {E : Prop} (w : World) (hgd : o.guard = none) (s x : Operand)
    (ho : o.op = .call { callee := .builtin .append, args := #[s, x], argTypes := #[48, 48] })
    (B : Nat) (v : Value) (l : List Int) (hs : a.eval s = v) (hown : OwnI w B v l) (cs : Array Value) (new : List Int) (hcs : cs = (new.map (Value.int .i64)).toArray) (n c : Nat) (hn : n = new.length)
    (hx : a.eval x = .slice (some ⟨w.heap.size, 0, none⟩) n c) (hlen : (l.length + new.length) * 8 ≤ 140737488355328) (hB : B ≤ w.heap.size)
    (h : ∀ v' w', OwnI w' B v' (l ++ new) → (w.alloc (.cells cs 3)).grownBy w' v.ownBlock → (v'.ownBlock = v.ownBlock ∨ v'.ownBlock = some (w.alloc (.cells cs 3)).heap.size) → K (a.put o.dst v') w') :
    if Region.wanted o (yielded ops a.tmps) = true then Oper.wp Try.prog o a (w.alloc (.cells cs 3)) K Q else E := by
  have hw : Region.wanted o (yielded ops a.tmps) = true := by simp [Region.wanted, hgd]
  rw [if_pos hw]
  obtain ⟨i0, hi, hz0, hz1, hz2⟩ := info_parts info_int
  subst hcs hn
  obtain ⟨v', w', hr, h2, h3, h4, h5⟩ := run_append_own_at (P := Try.prog) (w.alloc (.cells (new.map (Value.int .i64)).toArray 3)) B 48 o.type 3 i0 (.int .i64 0) 1 8 Try.underlying48 hi hz0 hz1 hz2 rfl (by decide) v l.length (l.map (Value.int .i64)) (World.ownsRow.alloc hown _) ⟨w.heap.size, 0, none⟩ new.length c (new.map (Value.int .i64)) (by simp) (fun j u hj => by
    have e : (⟨w.heap.size, 0, none⟩ : Addr).add j = ⟨w.heap.size, j, none⟩ := by unfold Addr.add; split <;> simp_all
    rw [e, World.cell?_alloc_at _ _ _ _ rfl]
    simpa using hj) (fun u hu => by obtain ⟨b, _, rfl⟩ := List.mem_map.1 hu; rfl) (by unfold maxLen; omega) (by omega) (by simp; omega)
  unfold Oper.wp execOp
  simp only [ho, resolve, invoke, builtin, Sem.run_bind, Sem.run_pure, Result.andThen_ok, List.map_toArray, List.map_cons, List.map_nil, hs, hx, hr]
  refine h v' w' ?_ h3 h5
  have e : (l ++ new).length = l.length + new.length := by simp
  unfold OwnI
  rw [e, List.map_append]
  exact h2

theorem nums2 (w : World) (x y : Int) (hx : I64 x) (hy : I64 y) : Nums (w.alloc (.cells #[.int .i64 x, .int .i64 y] 3)) w.heap.size 2 := fun k hk => by
  rcases (show k = 0 ∨ k = 1 by omega) with rfl | rfl
  · exact ⟨x, World.cell?_alloc_at _ _ _ _ rfl, hx⟩
  · exact ⟨y, World.cell?_alloc_at _ _ _ _ rfl, hy⟩
theorem nums3 (w : World) (x y z : Int) (hx : I64 x) (hy : I64 y) (hz : I64 z) : Nums (w.alloc (.cells #[.int .i64 x, .int .i64 y, .int .i64 z] 3)) w.heap.size 3 := fun k hk => by
  rcases (show k = 0 ∨ k = 1 ∨ k = 2 by omega) with rfl | rfl | rfl
  · exact ⟨x, World.cell?_alloc_at _ _ _ _ rfl, hx⟩
  · exact ⟨y, World.cell?_alloc_at _ _ _ _ rfl, hy⟩
  · exact ⟨z, World.cell?_alloc_at _ _ _ _ rfl, hz⟩
/-- Where any wish's draw stands: the result's block still zero, the wish in block Y. -/
structure AnySt (w : World) (g : Nat) (a : Option Addr) (len cap : Nat) (Y : Nat) (t : Wi) (wr : World) : Prop where
  x : wr.heap[w.heap.size]? = some (.cells #[.int .i64 0, .int .i64 0, .int .i64 0, .slice none 0 0, .slice none 0 0] 75 (0, 0))
  y : wr.heap[Y]? = some (.cells #[.int .i64 t.kind, .int .i64 t.field, .int .i64 t.value, .slice t.LA t.Ln t.Lc, .slice t.PA t.Pn t.Pc] 75 (0, 0))
  o : WiOwn wr (w.heap.size + 1) t
  far : (∀ k, (Value.slice t.LA t.Ln t.Lc).ownBlock = some k → k < Y) ∧ (∀ k, (Value.slice t.PA t.Pn t.Pc).ownBlock = some k → k < Y)
  c : Cur wr g a len cap
  g : w.grownBy wr (some g)
theorem AnySt.kept {w wr w' : World} {g : Nat} {a : Option Addr} {len cap Y : Nat} {t : Wi} (h : AnySt w g a len cap Y t wr) (hgl : g < w.heap.size) (hY : w.heap.size < Y) (hg : wr.grownBy w' (some g)) (hc : Cur w' g a len cap) : AnySt w g a len cap Y t w' :=
  ⟨row_kept hg h.x (by omega), row_kept hg h.y (by omega), h.o.blocks fun b hb hlt => hg.block b hlt (fun e => by injection e; omega), h.far, hc, h.g.trans hg⟩
theorem AnySt.alloc {w wr : World} {g : Nat} {a : Option Addr} {len cap Y : Nat} {t : Wi} (h : AnySt w g a len cap Y t wr) (ob : Obj) : AnySt w g a len cap Y t (wr.alloc ob) :=
  ⟨(Below.heap_alloc _ _ _ (lt_of_block h.x)).trans h.x, (Below.heap_alloc _ _ _ (lt_of_block h.y)).trans h.y, h.o.blocks fun b _ hb => Below.heap_alloc _ _ _ hb, h.far, h.c.kept (Below.heap_alloc _ _ _ h.c.lt), grown_alloc h.g ob⟩
/-- What is handed out at the end, from block Y, which may have been written. -/
theorem AnySt.out {w wr w' : World} {g : Nat} {a : Option Addr} {len cap Y : Nat} {t : Wi} (h : AnySt w g a len cap Y t wr) (hgl : g < w.heap.size) (hY : w.heap.size < Y) (hb : ∀ b, b ≠ Y → b ≠ w.heap.size → w'.heap[b]? = wr.heap[b]?) (hg : Below w.heap.size wr w') {k f v : Int} (hk : I64 k) (hf : I64 f) (hv : I64 v) :
    WiOwn w' w.heap.size ⟨k, f, v, t.LA, t.Ln, t.Lc, t.ls, t.PA, t.Pn, t.Pc, t.ps⟩ ∧ Cur w' g a len cap ∧ w.grownBy w' (some g) :=
  ⟨⟨ownI_lowD (ownI_blocks h.o.l fun b e => hb b (by have := h.far.1 b e; omega) (by have := ownI_lows h.o.l b e; omega)) (by omega), (h.o.p.blocks fun b e => hb b (by have := h.far.2 b e; omega) (by have := h.o.p.lows b e; omega)).lowD (by omega), hk, hf, hv, h.o.nl, h.o.np⟩, h.c.kept (hb g (by omega) (by omega)), grown_tail h.g hg⟩

theorem apart_of {w : World} {B B' : Nat} {v v' : Value} {l : List Int} {m : List (Int × Int)} (h : OwnI w B v l) (h' : OwnP w B' v' m) : ∀ k, v.ownBlock = some k → v'.ownBlock ≠ some k := fun k hk hk' => by
  rcases h.2 with ⟨rfl, _⟩ | ⟨g, _, _, rfl, _, hg, _⟩
  · cases hk
  · rcases h'.2 with ⟨rfl, _⟩ | ⟨g', _, _, rfl, _, hg', _⟩
    · cases hk'
    · obtain rfl : g = k := Option.some.inj hk
      obtain rfl : g' = g := Option.some.inj hk'
      rw [hg] at hg'
      injection hg' with e
      injection e with e1 e2 e3
      exact absurd e2 (by decide)
set_option maxRecDepth 20000 in
set_option maxHeartbeats 6400000 in
theorem any_wish (w : World) (g : Nat) (a : Option Addr) (len cap : Nat) (hlen : len ≤ 1048576) (hc : Cur w g a len cap) (B : Nat) (hB : B ≤ g) (hrow : Row w B a len) :
    Calls Try.prog 92 #[.pointer (some ⟨g, 0, none⟩)] w (OutWish 5 w g a len cap) := by
  have HR := Lib.hid hrow
  have hgl := hc.lt
  have HC1 := Lib.hid (hc.kept (w' := w.alloc (.cells #[.int .i64 0, .int .i64 0, .int .i64 0, .slice none 0 0, .slice none 0 0] 75)) (Below.heap_alloc _ _ _ hc.lt))
  have HG1 : Hid (w.grownBy (w.alloc (.cells #[.int .i64 0, .int .i64 0, .int .i64 0, .slice none 0 0, .slice none 0 0] 75)) (some g)) := Lib.hid (World.grownBy_alloc w _ _)
  have HX1 := Lib.hid (heap_alloc_new w (.cells #[.int .i64 0, .int .i64 0, .int .i64 0, .slice none 0 0, .slice none 0 0] 75))
  clear hc hrow
  go_enter Try.func92, Try.ntmps92
  go_wp2_with fail
  refine (wish_any _ g a len cap hlen HC1.out B hB (HR.out.below (grown_below HG1.out hB (by omega)))).mono ?_
  rintro e w2 ⟨t, rfl, ho, hn4, hc2, hg2⟩
  have hsz2 : w.heap.size + 1 ≤ w2.heap.size := by have := hg2.size; simp at this; omega
  have HS2 : Hid (AnySt w g a len cap w2.heap.size t (w2.alloc (.cells #[.int .i64 t.kind, .int .i64 t.field, .int .i64 t.value, .slice t.LA t.Ln t.Lc, .slice t.PA t.Pn t.Pc] 75))) := Lib.hid (by
    have ho' : WiOwn w2 (w.heap.size + 1) t := ho.low (by simp)
    exact ⟨(Below.heap_alloc _ _ _ (by omega)).trans (row_kept hg2 HX1.out (by omega)), heap_alloc_new w2 _, ho'.blocks fun b _ hb => Below.heap_alloc _ _ _ hb, ⟨fun k e => ownI_tops ho'.l k e, fun k e => ho'.p.tops k e⟩, hc2.kept (Below.heap_alloc _ _ _ hc2.lt), grown_alloc (HG1.out.trans hg2) _⟩)
  have hY : w.heap.size < w2.heap.size := by omega
  have HNl := Lib.hid ho.nl
  have HKf := Lib.hid (And.intro ho.k (And.intro ho.f ho.v))
  clear ho hc2 hg2 HC1 HG1 HX1
  unfold Wi.val
  go_wp2_with fail
  refine (below_any 10 (by omega) _ g a len cap hlen HS2.out.c B hB (HR.out.below (grown_below HS2.out.g hB (by omega)))).mono ?_
  rintro e w3 ⟨z, rfl, hz, hc3, hg3⟩
  obtain ⟨hz0, hz10⟩ := hz.2 (by omega)
  have HS := Lib.hid (HS2.out.kept hgl hY hg3 hc3)
  clear hz hc3 hg3 HS2
  have hY3 : w2.heap.size < w3.heap.size := lt_of_block HS.out.y
  by_cases z0 : z = 0
  · subst z0
    go_wp2_with fail
    refine (below_any 7 (by omega) _ g a len cap hlen HS.out.c B hB (HR.out.below (grown_below HS.out.g hB (by omega)))).mono ?_
    rintro e w4 ⟨u, rfl, hu, hc4, hg4⟩
    obtain ⟨hu0, hu7⟩ := hu.2 (by omega)
    have HS4 := Lib.hid (HS.out.kept hgl hY hg4 hc4)
    clear hu hc4 hg4 HS
    have x0 : w4.cell? ⟨w.heap.size, 0, none⟩ = some (.int .i64 0) := cell_of_row w4 _ 0 _ _ (0, 0) HS4.out.x
    have z0 : w4.frozen? ⟨w.heap.size, 0, none⟩ = false := frozen_of_row w4 _ 0 _ _ HS4.out.x
    have x1 : w4.cell? ⟨w.heap.size, 1, none⟩ = some (.int .i64 0) := cell_of_row w4 _ 1 _ _ (0, 0) HS4.out.x
    have z1 : w4.frozen? ⟨w.heap.size, 1, none⟩ = false := frozen_of_row w4 _ 1 _ _ HS4.out.x
    have x2 : w4.cell? ⟨w.heap.size, 2, none⟩ = some (.int .i64 0) := cell_of_row w4 _ 2 _ _ (0, 0) HS4.out.x
    have z2 : w4.frozen? ⟨w.heap.size, 2, none⟩ = false := frozen_of_row w4 _ 2 _ _ HS4.out.x
    have x3 : w4.cell? ⟨w.heap.size, 3, none⟩ = some (.slice none 0 0) := cell_of_row w4 _ 3 _ _ (0, 0) HS4.out.x
    have z3 : w4.frozen? ⟨w.heap.size, 3, none⟩ = false := frozen_of_row w4 _ 3 _ _ HS4.out.x
    have x4 : w4.cell? ⟨w.heap.size, 4, none⟩ = some (.slice none 0 0) := cell_of_row w4 _ 4 _ _ (0, 0) HS4.out.x
    have z4 : w4.frozen? ⟨w.heap.size, 4, none⟩ = false := frozen_of_row w4 _ 4 _ _ HS4.out.x
    have y0 : w4.cell? ⟨w2.heap.size, 0, none⟩ = some (.int .i64 t.kind) := cell_of_row w4 _ 0 _ _ (0, 0) HS4.out.y
    have y1 : w4.cell? ⟨w2.heap.size, 1, none⟩ = some (.int .i64 t.field) := cell_of_row w4 _ 1 _ _ (0, 0) HS4.out.y
    have y2 : w4.cell? ⟨w2.heap.size, 2, none⟩ = some (.int .i64 t.value) := cell_of_row w4 _ 2 _ _ (0, 0) HS4.out.y
    have y3 : w4.cell? ⟨w2.heap.size, 3, none⟩ = some (.slice t.LA t.Ln t.Lc) := cell_of_row w4 _ 3 _ _ (0, 0) HS4.out.y
    have y4 : w4.cell? ⟨w2.heap.size, 4, none⟩ = some (.slice t.PA t.Pn t.Pc) := cell_of_row w4 _ 4 _ _ (0, 0) HS4.out.y
    have u0 : w4.frozen? ⟨w2.heap.size, 0, none⟩ = false := frozen_of_row w4 _ 0 _ _ HS4.out.y
    go_wp2
    refine bodyPost_ret_by (results_cell_row rfl _ _ w.heap.size 75 _ (0, 0) _ rfl (five_set ((heap_setCell_other _ _ _ _ (by simp; omega)).trans HS4.out.x)) Try.underlying75 rfl (by kernel_rfl)) rfl ?_
    obtain ⟨h1, h2, h3⟩ := HS4.out.out hgl hY (w' := set5 (w4.setCell ⟨w2.heap.size, 0, none⟩ (.int .i64 (u - 1))) w.heap.size (.int .i64 (u - 1)) (.int .i64 t.field) (.int .i64 t.value) (.slice t.LA t.Ln t.Lc) (.slice t.PA t.Pn t.Pc)) (fun b h1 h2 => (set5_other _ _ _ _ _ _ _ _ h2).trans (heap_setCell_other _ _ _ _ (by simp; omega))) (((Below.refl _ _).setCell (by show w.heap.size ≤ w2.heap.size; omega) _).trans (set5_below _ _ _ _ _ _ _ _ (Nat.le_refl _))) (k := u - 1) (f := t.field) (v := t.value) ⟨by omega, by omega⟩ HKf.out.2.1 HKf.out.2.2
    exact ⟨_, rfl, h1, by show t.ls.length ≤ 5; omega, h2, h3⟩
  by_cases z1 : z = 1
  · subst z1
    clear z0
    have HA := Lib.hid (HS.out.alloc (.cells #[.int .i64 (-1), .int .i64 3] 3))
    go_wp2_with fail
    refine (pick_any w3.heap.size 2 (by decide) (by decide) _ g a len cap hlen HA.out.c B hB (HR.out.below (grown_below HA.out.g hB (by omega))) (nums2 w3 (-1) (3) ⟨by decide, by decide⟩ ⟨by decide, by decide⟩) (by omega)).mono ?_
    rintro e w4 ⟨u, rfl, hu, hc4, hg4⟩
    have HU := Lib.hid hu
    have HS4 := Lib.hid (HA.out.kept hgl hY hg4 hc4)
    clear hu hc4 hg4 HS HA
    have x0 : w4.cell? ⟨w.heap.size, 0, none⟩ = some (.int .i64 0) := cell_of_row w4 _ 0 _ _ (0, 0) HS4.out.x
    have z0 : w4.frozen? ⟨w.heap.size, 0, none⟩ = false := frozen_of_row w4 _ 0 _ _ HS4.out.x
    have x1 : w4.cell? ⟨w.heap.size, 1, none⟩ = some (.int .i64 0) := cell_of_row w4 _ 1 _ _ (0, 0) HS4.out.x
    have z1 : w4.frozen? ⟨w.heap.size, 1, none⟩ = false := frozen_of_row w4 _ 1 _ _ HS4.out.x
    have x2 : w4.cell? ⟨w.heap.size, 2, none⟩ = some (.int .i64 0) := cell_of_row w4 _ 2 _ _ (0, 0) HS4.out.x
    have z2 : w4.frozen? ⟨w.heap.size, 2, none⟩ = false := frozen_of_row w4 _ 2 _ _ HS4.out.x
    have x3 : w4.cell? ⟨w.heap.size, 3, none⟩ = some (.slice none 0 0) := cell_of_row w4 _ 3 _ _ (0, 0) HS4.out.x
    have z3 : w4.frozen? ⟨w.heap.size, 3, none⟩ = false := frozen_of_row w4 _ 3 _ _ HS4.out.x
    have x4 : w4.cell? ⟨w.heap.size, 4, none⟩ = some (.slice none 0 0) := cell_of_row w4 _ 4 _ _ (0, 0) HS4.out.x
    have z4 : w4.frozen? ⟨w.heap.size, 4, none⟩ = false := frozen_of_row w4 _ 4 _ _ HS4.out.x
    have y0 : w4.cell? ⟨w2.heap.size, 0, none⟩ = some (.int .i64 t.kind) := cell_of_row w4 _ 0 _ _ (0, 0) HS4.out.y
    have y1 : w4.cell? ⟨w2.heap.size, 1, none⟩ = some (.int .i64 t.field) := cell_of_row w4 _ 1 _ _ (0, 0) HS4.out.y
    have y2 : w4.cell? ⟨w2.heap.size, 2, none⟩ = some (.int .i64 t.value) := cell_of_row w4 _ 2 _ _ (0, 0) HS4.out.y
    have y3 : w4.cell? ⟨w2.heap.size, 3, none⟩ = some (.slice t.LA t.Ln t.Lc) := cell_of_row w4 _ 3 _ _ (0, 0) HS4.out.y
    have y4 : w4.cell? ⟨w2.heap.size, 4, none⟩ = some (.slice t.PA t.Pn t.Pc) := cell_of_row w4 _ 4 _ _ (0, 0) HS4.out.y
    have u1 : w4.frozen? ⟨w2.heap.size, 1, none⟩ = false := frozen_of_row w4 _ 1 _ _ HS4.out.y
    go_wp2
    refine bodyPost_ret_by (results_cell_row rfl _ _ w.heap.size 75 _ (0, 0) _ rfl (five_set ((heap_setCell_other _ _ _ _ (by simp; omega)).trans HS4.out.x)) Try.underlying75 rfl (by kernel_rfl)) rfl ?_
    obtain ⟨h1, h2, h3⟩ := HS4.out.out hgl hY (w' := set5 (w4.setCell ⟨w2.heap.size, 1, none⟩ (.int .i64 u)) w.heap.size (.int .i64 t.kind) (.int .i64 u) (.int .i64 t.value) (.slice t.LA t.Ln t.Lc) (.slice t.PA t.Pn t.Pc)) (fun b h1 h2 => (set5_other _ _ _ _ _ _ _ _ h2).trans (heap_setCell_other _ _ _ _ (by simp; omega))) (((Below.refl _ _).setCell (by show w.heap.size ≤ w2.heap.size; omega) _).trans (set5_below _ _ _ _ _ _ _ _ (Nat.le_refl _))) (k := t.kind) (f := u) (v := t.value) HKf.out.1 HU.out HKf.out.2.2
    exact ⟨_, rfl, h1, by show t.ls.length ≤ 5; omega, h2, h3⟩
  by_cases z2 : z = 2
  · subst z2
    clear z0 z1
    have HA := Lib.hid (HS.out.alloc (.cells #[.int .i64 (-1), .int .i64 9, .int .i64 10] 3))
    go_wp2_with fail
    refine (pick_any w3.heap.size 3 (by decide) (by decide) _ g a len cap hlen HA.out.c B hB (HR.out.below (grown_below HA.out.g hB (by omega))) (nums3 w3 (-1) (9) (10) ⟨by decide, by decide⟩ ⟨by decide, by decide⟩ ⟨by decide, by decide⟩) (by omega)).mono ?_
    rintro e w4 ⟨u, rfl, hu, hc4, hg4⟩
    have HU := Lib.hid hu
    have HS4 := Lib.hid (HA.out.kept hgl hY hg4 hc4)
    clear hu hc4 hg4 HS HA
    have x0 : w4.cell? ⟨w.heap.size, 0, none⟩ = some (.int .i64 0) := cell_of_row w4 _ 0 _ _ (0, 0) HS4.out.x
    have z0 : w4.frozen? ⟨w.heap.size, 0, none⟩ = false := frozen_of_row w4 _ 0 _ _ HS4.out.x
    have x1 : w4.cell? ⟨w.heap.size, 1, none⟩ = some (.int .i64 0) := cell_of_row w4 _ 1 _ _ (0, 0) HS4.out.x
    have z1 : w4.frozen? ⟨w.heap.size, 1, none⟩ = false := frozen_of_row w4 _ 1 _ _ HS4.out.x
    have x2 : w4.cell? ⟨w.heap.size, 2, none⟩ = some (.int .i64 0) := cell_of_row w4 _ 2 _ _ (0, 0) HS4.out.x
    have z2 : w4.frozen? ⟨w.heap.size, 2, none⟩ = false := frozen_of_row w4 _ 2 _ _ HS4.out.x
    have x3 : w4.cell? ⟨w.heap.size, 3, none⟩ = some (.slice none 0 0) := cell_of_row w4 _ 3 _ _ (0, 0) HS4.out.x
    have z3 : w4.frozen? ⟨w.heap.size, 3, none⟩ = false := frozen_of_row w4 _ 3 _ _ HS4.out.x
    have x4 : w4.cell? ⟨w.heap.size, 4, none⟩ = some (.slice none 0 0) := cell_of_row w4 _ 4 _ _ (0, 0) HS4.out.x
    have z4 : w4.frozen? ⟨w.heap.size, 4, none⟩ = false := frozen_of_row w4 _ 4 _ _ HS4.out.x
    have y0 : w4.cell? ⟨w2.heap.size, 0, none⟩ = some (.int .i64 t.kind) := cell_of_row w4 _ 0 _ _ (0, 0) HS4.out.y
    have y1 : w4.cell? ⟨w2.heap.size, 1, none⟩ = some (.int .i64 t.field) := cell_of_row w4 _ 1 _ _ (0, 0) HS4.out.y
    have y2 : w4.cell? ⟨w2.heap.size, 2, none⟩ = some (.int .i64 t.value) := cell_of_row w4 _ 2 _ _ (0, 0) HS4.out.y
    have y3 : w4.cell? ⟨w2.heap.size, 3, none⟩ = some (.slice t.LA t.Ln t.Lc) := cell_of_row w4 _ 3 _ _ (0, 0) HS4.out.y
    have y4 : w4.cell? ⟨w2.heap.size, 4, none⟩ = some (.slice t.PA t.Pn t.Pc) := cell_of_row w4 _ 4 _ _ (0, 0) HS4.out.y
    have u2 : w4.frozen? ⟨w2.heap.size, 2, none⟩ = false := frozen_of_row w4 _ 2 _ _ HS4.out.y
    go_wp2
    refine bodyPost_ret_by (results_cell_row rfl _ _ w.heap.size 75 _ (0, 0) _ rfl (five_set ((heap_setCell_other _ _ _ _ (by simp; omega)).trans HS4.out.x)) Try.underlying75 rfl (by kernel_rfl)) rfl ?_
    obtain ⟨h1, h2, h3⟩ := HS4.out.out hgl hY (w' := set5 (w4.setCell ⟨w2.heap.size, 2, none⟩ (.int .i64 u)) w.heap.size (.int .i64 t.kind) (.int .i64 t.field) (.int .i64 u) (.slice t.LA t.Ln t.Lc) (.slice t.PA t.Pn t.Pc)) (fun b h1 h2 => (set5_other _ _ _ _ _ _ _ _ h2).trans (heap_setCell_other _ _ _ _ (by simp; omega))) (((Below.refl _ _).setCell (by show w.heap.size ≤ w2.heap.size; omega) _).trans (set5_below _ _ _ _ _ _ _ _ (Nat.le_refl _))) (k := t.kind) (f := t.field) (v := u) HKf.out.1 HKf.out.2.1 HU.out
    exact ⟨_, rfl, h1, by show t.ls.length ≤ 5; omega, h2, h3⟩
  by_cases z3 : z = 3
  · subst z3
    clear z0 z1 z2
    have hln := HS.out.o.nl
    have HAd : Hid (AnySt w g a len cap w2.heap.size t (w3.alloc (.cells #[.int .i64 0, .int .i64 9, .int .i64 10] 3)).drew) := Lib.hid (by
      have h := HS.out.alloc (.cells #[.int .i64 0, .int .i64 9, .int .i64 10] 3)
      exact ⟨h.x, h.y, h.o.blocks fun b _ _ => rfl, h.far, h.c, grown_drew h.g⟩)
    have H4 : ∀ u : Int, (t.ls.length + [u].length) * 8 ≤ 140737488355328 := fun u => by simp only [List.length_cons, List.length_nil]; omega
    have H4' := Lib.hid H4
    clear H4
    have y0 : w3.cell? ⟨w2.heap.size, 0, none⟩ = some (.int .i64 t.kind) := cell_of_row w3 _ 0 _ _ (0, 0) HS.out.y
    have y1 : w3.cell? ⟨w2.heap.size, 1, none⟩ = some (.int .i64 t.field) := cell_of_row w3 _ 1 _ _ (0, 0) HS.out.y
    have y2 : w3.cell? ⟨w2.heap.size, 2, none⟩ = some (.int .i64 t.value) := cell_of_row w3 _ 2 _ _ (0, 0) HS.out.y
    have y3 : w3.cell? ⟨w2.heap.size, 3, none⟩ = some (.slice t.LA t.Ln t.Lc) := cell_of_row w3 _ 3 _ _ (0, 0) HS.out.y
    have y4 : w3.cell? ⟨w2.heap.size, 4, none⟩ = some (.slice t.PA t.Pn t.Pc) := cell_of_row w3 _ 4 _ _ (0, 0) HS.out.y
    go_wp2
    go_region_law (first
      | (refine step_appD wn (by rfl) (.tmp 29) (.tmp 33) (by rfl) (w.heap.size + 1) _ t.ls (by rfl) HSn.out.o.l _ [u] (by rfl) 1 1 rfl (by rfl) (H4'.out u) hBn ?_; intro v' w5 hown5 hg5 hv5; obtain ⟨LA', Ln', Lc', rfl, _⟩ := hown5.ints; have HO5 := Lib.hid hown5; have HV5 := Lib.hid hv5; have HB5 : Hid (Below (w.heap.size + 1) wn w5) := Lib.hid (((Below.refl (w.heap.size + 1) wn).alloc hBn _).grown hg5 (by simp; omega) (fun k hk => ownI_lows HSn.out.o.l k hk)); have HXX : Hid (w5.heap[w.heap.size]? = some (.cells #[.int .i64 0, .int .i64 0, .int .i64 0, .slice none 0 0, .slice none 0 0] 75 (0, 0))) := Lib.hid (row_below HB5.out HSn.out.x (by omega)); have HYY : Hid (w5.heap[w2.heap.size]? = some (.cells #[.int .i64 t.kind, .int .i64 t.field, .int .i64 t.value, .slice t.LA t.Ln t.Lc, .slice t.PA t.Pn t.Pc] 75 (0, 0))) := Lib.hid ((hg5.block _ (by have := lt_of_block HSn.out.y; simp; omega) (fun e => by have := HSn.out.far.1 _ e.symm; omega)).trans ((Below.heap_alloc _ _ _ (lt_of_block HSn.out.y)).trans HSn.out.y)); have HPP : Hid (OwnP w5 (w.heap.size + 1) (.slice t.PA t.Pn t.Pc) t.ps) := Lib.hid (HSn.out.o.p.blocks fun k hk => (hg5.block k (by have := HSn.out.o.p.tops k hk; simp; omega) (fun e => apart_of HSn.out.o.l HSn.out.o.p k e.symm hk)).trans (Below.heap_alloc _ _ _ (HSn.out.o.p.tops k hk))); have y3 : w5.cell? ⟨w2.heap.size, 3, none⟩ = some (.slice t.LA t.Ln t.Lc) := cell_of_row w5 _ 3 _ _ (0, 0) HYY.out; have u3 : w5.frozen? ⟨w2.heap.size, 3, none⟩ = false := frozen_of_row w5 _ 3 _ _ HYY.out; clear hown5 hg5 hv5)
      | (go_simp; go_at_call 93; refine (pick_any w3.heap.size 3 (by decide) (by decide) _ g a len cap hlen HAd.out.c B hB (HR.out.below (grown_below HAd.out.g hB (by omega))) (nums3 w3 0 9 10 ⟨by decide, by decide⟩ ⟨by decide, by decide⟩ ⟨by decide, by decide⟩) (by omega)).mono ?_; rintro e wn ⟨u, rfl, hu, hcn, hgn⟩; have HSn := Lib.hid (HAd.out.kept hgl hY hgn hcn); have hBn : w.heap.size + 1 ≤ wn.heap.size := (by have := lt_of_block HSn.out.y; omega); have y3 : wn.cell? ⟨w2.heap.size, 3, none⟩ = some (.slice t.LA t.Ln t.Lc) := cell_of_row wn _ 3 _ _ (0, 0) HSn.out.y; have hYn : w2.heap.size < wn.heap.size := lt_of_block HSn.out.y; clear hu hcn hgn))
    all_goals
      have x0 : w5.cell? ⟨w.heap.size, 0, none⟩ = some (.int .i64 0) := cell_of_row w5 _ 0 _ _ (0, 0) HXX.out
      have z0 : w5.frozen? ⟨w.heap.size, 0, none⟩ = false := frozen_of_row w5 _ 0 _ _ HXX.out
      have x1 : w5.cell? ⟨w.heap.size, 1, none⟩ = some (.int .i64 0) := cell_of_row w5 _ 1 _ _ (0, 0) HXX.out
      have z1 : w5.frozen? ⟨w.heap.size, 1, none⟩ = false := frozen_of_row w5 _ 1 _ _ HXX.out
      have x2 : w5.cell? ⟨w.heap.size, 2, none⟩ = some (.int .i64 0) := cell_of_row w5 _ 2 _ _ (0, 0) HXX.out
      have z2 : w5.frozen? ⟨w.heap.size, 2, none⟩ = false := frozen_of_row w5 _ 2 _ _ HXX.out
      have x3 : w5.cell? ⟨w.heap.size, 3, none⟩ = some (.slice none 0 0) := cell_of_row w5 _ 3 _ _ (0, 0) HXX.out
      have z3 : w5.frozen? ⟨w.heap.size, 3, none⟩ = false := frozen_of_row w5 _ 3 _ _ HXX.out
      have x4 : w5.cell? ⟨w.heap.size, 4, none⟩ = some (.slice none 0 0) := cell_of_row w5 _ 4 _ _ (0, 0) HXX.out
      have z4 : w5.frozen? ⟨w.heap.size, 4, none⟩ = false := frozen_of_row w5 _ 4 _ _ HXX.out
      have y0 : w5.cell? ⟨w2.heap.size, 0, none⟩ = some (.int .i64 t.kind) := cell_of_row w5 _ 0 _ _ (0, 0) HYY.out
      have y1 : w5.cell? ⟨w2.heap.size, 1, none⟩ = some (.int .i64 t.field) := cell_of_row w5 _ 1 _ _ (0, 0) HYY.out
      have y2 : w5.cell? ⟨w2.heap.size, 2, none⟩ = some (.int .i64 t.value) := cell_of_row w5 _ 2 _ _ (0, 0) HYY.out
      have y3 : w5.cell? ⟨w2.heap.size, 3, none⟩ = some (.slice t.LA t.Ln t.Lc) := cell_of_row w5 _ 3 _ _ (0, 0) HYY.out
      have y4 : w5.cell? ⟨w2.heap.size, 4, none⟩ = some (.slice t.PA t.Pn t.Pc) := cell_of_row w5 _ 4 _ _ (0, 0) HYY.out
      go_wp2
      refine bodyPost_ret_by (results_cell_row rfl _ _ w.heap.size 75 _ (0, 0) _ rfl (five_set ((heap_setCell_other _ _ _ _ (by simp; omega)).trans HXX.out)) Try.underlying75 rfl (by kernel_rfl)) rfl ?_
      have hfar : ∀ k, (Value.slice LA' Ln' Lc').ownBlock = some k → k ≠ w2.heap.size ∧ k ≠ w.heap.size := fun k hk => by
        have h1 := ownI_lows HO5.out k hk
        refine ⟨fun e => ?_, by omega⟩
        rcases HV5.out with h | h
        · rw [h] at hk
          have := HSn.out.far.1 k hk
          omega
        · rw [h] at hk
          have h2 := Option.some.inj hk
          have h3 := lt_of_block HSn.out.y
          simp only [World.size_alloc] at h2
          omega
      refine ⟨⟨t.kind, t.field, t.value, LA', Ln', Lc', t.ls ++ [u], t.PA, t.Pn, t.Pc, t.ps⟩, rfl, ⟨ownI_lowD (ownI_blocks HO5.out fun k hk => ?_) (by omega), (HPP.out.blocks fun k hk => ?_).lowD (by omega), HKf.out.1, HKf.out.2.1, HKf.out.2.2, by simp; omega, HSn.out.o.np⟩, by simp; omega, (HSn.out.c.kept ?_), grown_tail HSn.out.g ?_⟩
      · exact (set5_other _ _ _ _ _ _ _ _ (hfar k hk).2).trans (heap_setCell_other _ _ _ _ (hfar k hk).1)
      · exact (set5_other _ _ _ _ _ _ _ _ (by have := HPP.out.lows k hk; omega)).trans (heap_setCell_other _ _ _ _ (by have := HSn.out.far.2 k hk; simp; omega))
      · exact (set5_other _ _ _ _ _ _ _ _ (by omega)).trans ((heap_setCell_other _ _ _ _ (by simp; omega)).trans (HB5.out.block g (by omega)))
      · exact ((HB5.out.mono (by omega)).setCell (by show w.heap.size ≤ w2.heap.size; omega) _).trans (set5_below _ _ _ _ _ _ _ _ (Nat.le_refl _))
  have f0 : (z == 0) = false := by simpa using z0
  have f1 : (z == 1) = false := by simpa using z1
  have f2 : (z == 2) = false := by simpa using z2
  have f3 : (z == 3) = false := by simpa using z3
  clear z0 z1 z2 z3
  have x0 : w3.cell? ⟨w.heap.size, 0, none⟩ = some (.int .i64 0) := cell_of_row w3 _ 0 _ _ (0, 0) HS.out.x
  have z0 : w3.frozen? ⟨w.heap.size, 0, none⟩ = false := frozen_of_row w3 _ 0 _ _ HS.out.x
  have x1 : w3.cell? ⟨w.heap.size, 1, none⟩ = some (.int .i64 0) := cell_of_row w3 _ 1 _ _ (0, 0) HS.out.x
  have z1 : w3.frozen? ⟨w.heap.size, 1, none⟩ = false := frozen_of_row w3 _ 1 _ _ HS.out.x
  have x2 : w3.cell? ⟨w.heap.size, 2, none⟩ = some (.int .i64 0) := cell_of_row w3 _ 2 _ _ (0, 0) HS.out.x
  have z2 : w3.frozen? ⟨w.heap.size, 2, none⟩ = false := frozen_of_row w3 _ 2 _ _ HS.out.x
  have x3 : w3.cell? ⟨w.heap.size, 3, none⟩ = some (.slice none 0 0) := cell_of_row w3 _ 3 _ _ (0, 0) HS.out.x
  have z3 : w3.frozen? ⟨w.heap.size, 3, none⟩ = false := frozen_of_row w3 _ 3 _ _ HS.out.x
  have x4 : w3.cell? ⟨w.heap.size, 4, none⟩ = some (.slice none 0 0) := cell_of_row w3 _ 4 _ _ (0, 0) HS.out.x
  have z4 : w3.frozen? ⟨w.heap.size, 4, none⟩ = false := frozen_of_row w3 _ 4 _ _ HS.out.x
  have y0 : w3.cell? ⟨w2.heap.size, 0, none⟩ = some (.int .i64 t.kind) := cell_of_row w3 _ 0 _ _ (0, 0) HS.out.y
  have y1 : w3.cell? ⟨w2.heap.size, 1, none⟩ = some (.int .i64 t.field) := cell_of_row w3 _ 1 _ _ (0, 0) HS.out.y
  have y2 : w3.cell? ⟨w2.heap.size, 2, none⟩ = some (.int .i64 t.value) := cell_of_row w3 _ 2 _ _ (0, 0) HS.out.y
  have y3 : w3.cell? ⟨w2.heap.size, 3, none⟩ = some (.slice t.LA t.Ln t.Lc) := cell_of_row w3 _ 3 _ _ (0, 0) HS.out.y
  have y4 : w3.cell? ⟨w2.heap.size, 4, none⟩ = some (.slice t.PA t.Pn t.Pc) := cell_of_row w3 _ 4 _ _ (0, 0) HS.out.y
  go_wp2
  refine bodyPost_ret_by (results_cell_row rfl _ _ w.heap.size 75 _ (0, 0) _ rfl (five_set HS.out.x) Try.underlying75 rfl (by kernel_rfl)) rfl ?_
  obtain ⟨h1, h2, h3⟩ := HS.out.out hgl hY (w' := set5 w3 w.heap.size (.int .i64 t.kind) (.int .i64 t.field) (.int .i64 t.value) (.slice t.LA t.Ln t.Lc) (.slice t.PA t.Pn t.Pc)) (fun b _ h2 => set5_other _ _ _ _ _ _ _ _ h2) (set5_below _ _ _ _ _ _ _ _ (Nat.le_refl _)) (k := t.kind) (f := t.field) (v := t.value) HKf.out.1 HKf.out.2.1 HKf.out.2.2
  exact ⟨_, rfl, h1, by show t.ls.length ≤ 5; omega, h2, h3⟩
end Go.Proofs.Ytaijajajpnekbaa.num
namespace Go.Proofs.Ytaijajajpnekbaa.num
set_option maxRecDepth 20000
open Go.RowKit Go.Maps
set_option linter.unusedVariables false
set_option linter.unusedSimpArgs false

/-- Two cells stored at block X. -/
def set2 (w : World) (X : Nat) (v0 v1 : Value) : World := (w.setCell ⟨X, 0, none⟩ v0).setCell ⟨X, 1, none⟩ v1
theorem set2_other (w : World) (X b : Nat) (v0 v1 : Value) (h : b ≠ X) : (set2 w X v0 v1).heap[b]? = w.heap[b]? := by
  unfold set2
  rw [heap_setCell_other _ _ _ _ h, heap_setCell_other _ _ _ _ h]
theorem set2_below (w : World) (X B : Nat) (v0 v1 : Value) (h : B ≤ X) : Below B w (set2 w X v0 v1) := by
  unfold set2
  exact ((Below.refl B w).setCell h _).setCell h _
theorem two_setD {w : World} {g : Nat} {t : TypeId} {u0 u1 v0 v1 : Value} (h : w.heap[g]? = some (.cells #[u0, u1] t (0, 0))) : ((w.setCell ⟨g, 0, none⟩ v0).setCell ⟨g, 1, none⟩ v1).heap[g]? = some (.cells #[v0, v1] t (0, 0)) := by
  have h := heap_setCell_same _ g 1 _ _ v1 (heap_setCell_same w g 0 _ _ v0 h)
  simpa using h
def OutItem (N : Nat) (w : World) (g : Nat) (a : Option Addr) (len cap : Nat) (e : Ending) (w' : World) : Prop :=
  ∃ t : It, e = .returned t.val ∧ OwnI w' w.heap.size (.slice t.A t.n t.c) t.xs ∧ 3 ≤ t.xs.length ∧ t.xs.length ≤ N ∧ Cur w' g a len cap ∧ w.grownBy w' (some g)

set_option maxRecDepth 20000 in
set_option maxHeartbeats 3200000 in
theorem item_any (id : Int) (wide : Int) (hw0 : 0 < wide) (hw1 : wide ≤ 1000) (w : World) (g : Nat) (a : Option Addr) (len cap : Nat) (hlen : len ≤ 1048576) (hc : Cur w g a len cap) (B : Nat) (hB : B ≤ g) (hrow : Row w B a len) :
    Calls Try.prog 67 #[.pointer (some ⟨g, 0, none⟩), .int .i64 id, .int .i64 wide] w (OutItem 3 w g a len cap) := by
  have HR := Lib.hid hrow
  have hgl := hc.lt
  have HC1 := Lib.hid ((hc.kept (w' := w.alloc (.cells #[.int .i64 0, .slice none 0 0] 50)) (Below.heap_alloc _ _ _ hc.lt)).kept (w' := (w.alloc (.cells #[.int .i64 0, .slice none 0 0] 50)).alloc (.cells #[.int .i64 id, .slice none 0 0] 50)) (Below.heap_alloc _ _ _ (by simp; have := hc.lt; omega)))
  have HG1 : Hid (w.grownBy ((w.alloc (.cells #[.int .i64 0, .slice none 0 0] 50)).alloc (.cells #[.int .i64 id, .slice none 0 0] 50)) (some g)) := Lib.hid (grown_alloc (World.grownBy_alloc w _ _) _)
  have HY1 := Lib.hid (heap_alloc2_new w (.cells #[.int .i64 0, .slice none 0 0] 50) (.cells #[.int .i64 id, .slice none 0 0] 50))
  have HX0 : Hid (((w.alloc (.cells #[.int .i64 0, .slice none 0 0] 50)).alloc (.cells #[.int .i64 id, .slice none 0 0] 50)).heap[w.heap.size]? = some (.cells #[.int .i64 0, .slice none 0 0] 50 (0, 0))) := Lib.hid ((Below.heap_alloc _ _ _ (by simp)).trans (heap_alloc_new w _))
  clear hc hrow
  go_enter Try.func67, Try.ntmps67
  go_wp2
  go_loopw [8, 9] (fun iv _ wr => ∃ (j : Nat) (A : Option Addr) (n c : Nat) (xs : List Int), j ≤ 3 ∧ iv = .int .i64 j ∧ xs.length = j ∧ wr.heap[w.heap.size + 1]? = some (.cells #[.int .i64 id, .slice A n c] 50 (0, 0)) ∧ OwnI wr (w.heap.size + 2) (.slice A n c) xs ∧ wr.heap[w.heap.size]? = some (.cells #[.int .i64 0, .slice none 0 0] 50 (0, 0)) ∧ Cur wr g a len cap ∧ w.grownBy wr (some g) ∧ w.heap.size + 2 ≤ wr.heap.size) (fun iv _ _ => 3 - (intOf iv).toNat)
  case atStart => exact ⟨0, none, 0, 0, [], by decide, rfl, rfl, HY1.out, ownI_nil _ _, HX0.out, HC1.out, HG1.out, by simp⟩
  case round =>
    clear HX0 HY1 HC1 HG1
    obtain ⟨j, A, n, c, xs, hj, rfl, hxs, hy, hown, hxx, hcur, hgw, hsz⟩ := hrel
    have HYY := Lib.hid hy
    have HXX := Lib.hid hxx
    have HO := Lib.hid hown
    have HCu := Lib.hid hcur
    have HG := Lib.hid hgw
    clear hy hown hxx hcur hgw
    by_cases hj3 : j = 3
    · have hd : decide ((j : Int) < 3) = false := by simp; omega
      have x0 : wr.cell? ⟨w.heap.size, 0, none⟩ = some (.int .i64 0) := cell_of_row wr _ 0 _ _ (0, 0) HXX.out
      have z0 : wr.frozen? ⟨w.heap.size, 0, none⟩ = false := frozen_of_row wr _ 0 _ _ HXX.out
      have x1 : wr.cell? ⟨w.heap.size, 1, none⟩ = some (.slice none 0 0) := cell_of_row wr _ 1 _ _ (0, 0) HXX.out
      have z1 : wr.frozen? ⟨w.heap.size, 1, none⟩ = false := frozen_of_row wr _ 1 _ _ HXX.out
      have y0 : wr.cell? ⟨w.heap.size + 1, 0, none⟩ = some (.int .i64 id) := cell_of_row wr _ 0 _ _ (0, 0) HYY.out
      have y1 : wr.cell? ⟨w.heap.size + 1, 1, none⟩ = some (.slice A n c) := cell_of_row wr _ 1 _ _ (0, 0) HYY.out
      go_wp2
      refine bodyPost_ret_by (results_cell_row rfl _ _ w.heap.size 50 _ (0, 0) _ rfl (two_setD HXX.out) Try.underlying50 rfl (by kernel_rfl)) rfl ?_
      refine ⟨⟨id, A, n, c, xs⟩, rfl, ownI_lowD (ownI_blocks HO.out fun k hk => ?_) (by omega), by show 3 ≤ xs.length; omega, by show xs.length ≤ 3; omega, HCu.out.kept ?_, grown_tail HG.out (set2_below wr w.heap.size w.heap.size (.int .i64 id) (.slice A n c) (Nat.le_refl _))⟩
      · exact set2_other wr w.heap.size k _ _ (by have := ownI_lows HO.out k hk; omega)
      · exact set2_other wr w.heap.size g _ _ (by omega)
    · have hd : decide ((j : Int) < 3) = true := by simp; omega
      go_wp2_with fail
      refine (below_any wide (by omega) _ g a len cap hlen HCu.out B hB (HR.out.below (grown_below HG.out hB (by omega)))).mono ?_
      rintro e w4 ⟨x, rfl, hx, hc4, hg4⟩
      have HC4 := Lib.hid hc4
      have HG4 := Lib.hid (HG.out.trans hg4)
      have HX4 := Lib.hid (row_kept hg4 HXX.out (by omega))
      have HY4 := Lib.hid (row_kept hg4 HYY.out (by omega))
      have HO4 := Lib.hid (ownI_keptg HO.out hg4 (by omega))
      have hs4 : w.heap.size + 2 ≤ w4.heap.size := Nat.le_trans hsz hg4.size
      have H4 : Hid ((xs.length + [x].length) * 8 ≤ 140737488355328) := Lib.hid (by simp only [List.length_cons, List.length_nil]; omega)
      have y1 : w4.cell? ⟨w.heap.size + 1, 1, none⟩ = some (.slice A n c) := cell_of_row w4 _ 1 _ _ (0, 0) HY4.out
      clear hx hc4 hg4 HCu HG HXX HYY HO
      go_wp2_with (at_builtin; refine wp_appI _ (by rfl) (.tmp 20) (.tmp 22) (by rfl) (w.heap.size + 2) _ _ (by rfl) HO4.out _ [x] (by rfl) 1 1 rfl (by rfl) H4.out hs4 ?_)
      intro v1 w6 hown6 hb6
      obtain ⟨A', n', c', rfl, _⟩ := hown6.ints
      have HO6 := Lib.hid hown6
      have HY6 := Lib.hid (row_below hb6 HY4.out (by omega))
      have HX6 := Lib.hid (row_below hb6 HX4.out (by omega))
      have HC6 := Lib.hid (HC4.out.kept (hb6.block g (by omega)))
      have HG6 := Lib.hid (grown_tail HG4.out (hb6.mono (by omega)))
      have hs6 := Lib.hid (Nat.le_trans hs4 hb6.size)
      have y1 : w6.cell? ⟨w.heap.size + 1, 1, none⟩ = some (.slice A n c) := cell_of_row w6 _ 1 _ _ (0, 0) HY6.out
      have u1 : w6.frozen? ⟨w.heap.size + 1, 1, none⟩ = false := frozen_of_row w6 _ 1 _ _ HY6.out
      clear hown6 hb6 HO4 HY4 HX4 HC4 HG4 H4
      go_wp2
      go_roundw
      case rel =>
        refine ⟨j + 1, A', n', c', xs ++ [x], by omega, by first | rfl | (congr 1; omega), by simp; omega, ?_, ownI_blocks HO6.out fun k hk => heap_setCell_other _ _ _ _ (by have := ownI_lows HO6.out k hk; simp; omega), (heap_setCell_other _ _ _ _ (by simp)).trans HX6.out, HC6.out.kept (heap_setCell_other _ _ _ _ (by simp; omega)), grown_tail HG6.out ((Below.refl _ _).setCell (by show w.heap.size ≤ w.heap.size + 1; omega) _), by have := hs6.out; simp; omega⟩
        have h := heap_setCell_same w6 (w.heap.size + 1) 1 _ _ (.slice A' n' c') HY6.out
        simpa using h
      case measure => simp [intOf]; omega

/-- Where any item's draw stands: the result's block still zero, the item in block Y. -/
structure ItSt (w : World) (g : Nat) (a : Option Addr) (len cap : Nat) (Y : Nat) (t : It) (wr : World) : Prop where
  x : wr.heap[w.heap.size]? = some (.cells #[.int .i64 0, .slice none 0 0] 50 (0, 0))
  y : wr.heap[Y]? = some (.cells #[.int .i64 t.id, .slice t.A t.n t.c] 50 (0, 0))
  o : OwnI wr (w.heap.size + 1) (.slice t.A t.n t.c) t.xs
  far : ∀ k, (Value.slice t.A t.n t.c).ownBlock = some k → k < Y
  c : Cur wr g a len cap
  g : w.grownBy wr (some g)
theorem ItSt.kept {w wr w' : World} {g : Nat} {a : Option Addr} {len cap Y : Nat} {t : It} (h : ItSt w g a len cap Y t wr) (hgl : g < w.heap.size) (hY : w.heap.size < Y) (hg : wr.grownBy w' (some g)) (hc : Cur w' g a len cap) : ItSt w g a len cap Y t w' :=
  ⟨row_kept hg h.x (by omega), row_kept hg h.y (by omega), ownI_keptg h.o hg (by omega), h.far, hc, h.g.trans hg⟩
theorem ItSt.alloc {w wr : World} {g : Nat} {a : Option Addr} {len cap Y : Nat} {t : It} (h : ItSt w g a len cap Y t wr) (ob : Obj) : ItSt w g a len cap Y t (wr.alloc ob) :=
  ⟨(Below.heap_alloc _ _ _ (lt_of_block h.x)).trans h.x, (Below.heap_alloc _ _ _ (lt_of_block h.y)).trans h.y, ownI_blocks h.o fun k hk => Below.heap_alloc _ _ _ (ownI_tops h.o k hk), h.far, h.c.kept (Below.heap_alloc _ _ _ h.c.lt), grown_alloc h.g ob⟩
theorem ItSt.drew {w wr : World} {g : Nat} {a : Option Addr} {len cap Y : Nat} {t : It} (h : ItSt w g a len cap Y t wr) : ItSt w g a len cap Y t wr.drew :=
  ⟨h.x, h.y, ownI_blocks h.o fun _ _ => rfl, h.far, h.c, grown_drew h.g⟩
theorem own_set0 {w : World} {B : Nat} {b n c : Nat} {xs : List Int} (h : OwnI w B (.slice (some ⟨b, 0, none⟩) n c) xs) (z : Int) : OwnI (w.setCell ⟨b, 0, none⟩ (.int .i64 z)) B (.slice (some ⟨b, 0, none⟩) n c) (xs.set 0 z) := by
  rcases h.2 with ⟨hv, _⟩ | ⟨g, cp, cur, hv, hgB, hg, h1, h2, h3, h4⟩
  · cases hv
  · injection hv with e1 e2 e3
    injection e1 with e1
    injection e1 with e1
    subst e1
    refine ⟨by simp, .inr ⟨b, c, cur.setIfInBounds 0 (.int .i64 z), by rw [List.length_set, e2], hgB, heap_setCell_same w b 0 _ _ _ hg, by rw [List.length_set]; omega, by omega, by simpa [e3] using h3, ?_⟩⟩
    rw [List.length_set, Array.toList_setIfInBounds, List.take_set, h4, List.map_set]
theorem own_row0 {w : World} {B : Nat} {b n c : Nat} {xs : List Int} (h : OwnI w B (.slice (some ⟨b, 0, none⟩) n c) xs) : ∃ cur, w.heap[b]? = some (.cells cur 3 (0, 0)) ∧ (0 < n → w.cell? ⟨b, 0, none⟩ = some (.int .i64 (xs.getD 0 0))) := by
  have hi := ownI_at h
  rcases h.2 with ⟨hv, _⟩ | ⟨g, cp, cur, hv, hgB, hg, _⟩
  · cases hv
  · injection hv with e1
    injection e1 with e1
    injection e1 with e1
    subst e1
    refine ⟨cur, hg, fun h0 => ?_⟩
    obtain ⟨b', off, e, _, h1⟩ := hi.2 0 h0
    injection e with e
    injection e with e2 e3
    subst e2 e3
    exact h1
theorem wp_appD {ops : Array Oper} {rest : List Oper} {o : Oper} {a : Act} {Q : Exit → Act → World → Prop} (w : World) (hgd : o.guard = none) (s x : Operand)
    (ho : o.op = .call { callee := .builtin .append, args := #[s, x], argTypes := #[48, 48] })
    (B : Nat) (v : Value) (l : List Int) (hs : a.eval s = v) (hown : OwnI w B v l) (cs : Array Value) (new : List Int) (hcs : cs = (new.map (Value.int .i64)).toArray) (n c : Nat) (hn : n = new.length)
    (hx : a.eval x = .slice (some ⟨w.heap.size, 0, none⟩) n c) (hlen : (l.length + new.length) * 8 ≤ 140737488355328) (hB : B ≤ w.heap.size)
    (h : ∀ v' w', OwnI w' B v' (l ++ new) → (w.alloc (.cells cs 3)).grownBy w' v.ownBlock → (v'.ownBlock = v.ownBlock ∨ v'.ownBlock = some (w.alloc (.cells cs 3)).heap.size) → wpList Try.prog ops Q rest (a.put o.dst v') w') :
    wpList Try.prog ops Q (o :: rest) a (w.alloc (.cells cs 3)) := by
  obtain ⟨i0, hi, hz0, hz1, hz2⟩ := info_parts info_int
  subst hcs hn
  refine wpList_append_own_at _ hgd s x 48 ho B 3 i0 (.int .i64 0) 1 8 Try.underlying48 hi hz0 hz1 hz2 rfl (by decide) v l.length (l.map (Value.int .i64)) hs (World.ownsRow.alloc hown _) ⟨w.heap.size, 0, none⟩ new.length c (new.map (Value.int .i64)) hx (by simp) (fun j u hj => ?_) (fun u hu => ?_) (by unfold maxLen; omega) (by omega) (by simp; omega) (fun v' w' h2 h3 _ h5 => h v' w' ?_ h3 h5)
  · have e : (⟨w.heap.size, 0, none⟩ : Addr).add j = ⟨w.heap.size, j, none⟩ := by unfold Addr.add; split <;> simp_all
    rw [e, World.cell?_alloc_at _ _ _ _ rfl]
    simpa using hj
  · obtain ⟨b, _, rfl⟩ := List.mem_map.1 hu
    rfl
  · have e : (l ++ new).length = l.length + new.length := by simp
    unfold OwnI
    rw [e, List.map_append]
    exact h2
set_option maxRecDepth 20000 in
set_option maxHeartbeats 6400000 in
theorem any_item (w : World) (g : Nat) (a : Option Addr) (len cap : Nat) (hlen : len ≤ 1048576) (hc : Cur w g a len cap) (B : Nat) (hB : B ≤ g) (hrow : Row w B a len) :
    Calls Try.prog 65 #[.pointer (some ⟨g, 0, none⟩)] w (OutItem 4 w g a len cap) := by
  have HR := Lib.hid hrow
  have hgl := hc.lt
  have HC1 := Lib.hid (hc.kept (w' := w.alloc (.cells #[.int .i64 0, .slice none 0 0] 50)) (Below.heap_alloc _ _ _ hc.lt))
  have HG1 : Hid (w.grownBy (w.alloc (.cells #[.int .i64 0, .slice none 0 0] 50)) (some g)) := Lib.hid (World.grownBy_alloc w _ _)
  have HX1 := Lib.hid (heap_alloc_new w (.cells #[.int .i64 0, .slice none 0 0] 50))
  clear hc hrow
  go_enter Try.func65, Try.ntmps65
  go_wp2_with fail
  refine (below_any 6 (by omega) _ g a len cap hlen HC1.out B hB (HR.out.below (grown_below HG1.out hB (by omega)))).mono ?_
  rintro e w1 ⟨id, rfl, hid, hc1, hg1⟩
  have HC2 := Lib.hid hc1
  have HG2 := Lib.hid (HG1.out.trans hg1)
  have HX2 := Lib.hid (row_kept hg1 HX1.out (by omega))
  have hs1 : w.heap.size + 1 ≤ w1.heap.size := lt_of_block HX2.out
  clear hid hc1 hg1 HC1 HG1 HX1
  go_wp2_with fail
  refine (item_any id 10 (by decide) (by decide) _ g a len cap hlen HC2.out B hB (HR.out.below (grown_below HG2.out hB (by omega)))).mono ?_
  rintro e w2 ⟨t, rfl, ho, hl3, hl3', hc2, hg2⟩
  have hY : w.heap.size < w2.heap.size := by have := hg2.size; omega
  have HS2 : Hid (ItSt w g a len cap w2.heap.size t (w2.alloc (.cells #[.int .i64 t.id, .slice t.A t.n t.c] 50))) := Lib.hid (by
    have ho' : OwnI w2 (w.heap.size + 1) (.slice t.A t.n t.c) t.xs := ownI_lowD ho hs1
    exact ⟨(Below.heap_alloc _ _ _ (by omega)).trans (row_kept hg2 HX2.out (by omega)), heap_alloc_new w2 _, ownI_blocks ho' fun k hk => Below.heap_alloc _ _ _ (ownI_tops ho' k hk), fun k e => ownI_tops ho' k e, hc2.kept (Below.heap_alloc _ _ _ hc2.lt), grown_alloc (HG2.out.trans hg2) _⟩)
  have HN3 : Hid (t.n = t.xs.length) := Lib.hid (ownI_at ho).1.symm
  clear ho hc2 hg2 HC2 HG2 HX2
  unfold It.val
  go_wp2_with fail
  refine (below_any 8 (by omega) _ g a len cap hlen HS2.out.c B hB (HR.out.below (grown_below HS2.out.g hB (by omega)))).mono ?_
  rintro e w3 ⟨z, rfl, hz, hc3, hg3⟩
  obtain ⟨hz0, hz8⟩ := hz.2 (by omega)
  have HS := Lib.hid (HS2.out.kept hgl hY hg3 hc3)
  clear hz hc3 hg3 HS2
  have hY3 : w2.heap.size < w3.heap.size := lt_of_block HS.out.y
  by_cases z0 : z = 0
  · subst z0
    have HA := Lib.hid (HS.out.alloc (.cells #[.int .i64 (-1), .int .i64 99, .int .i64 100] 3))
    go_wp2_with fail
    refine (pick_any w3.heap.size 3 (by decide) (by decide) _ g a len cap hlen HA.out.c B hB (HR.out.below (grown_below HA.out.g hB (by omega))) (nums3 w3 (-1) (99) (100) ⟨by decide, by decide⟩ ⟨by decide, by decide⟩ ⟨by decide, by decide⟩) (by omega)).mono ?_
    rintro e w4 ⟨u, rfl, hu, hc4, hg4⟩
    have HS4 := Lib.hid (HA.out.kept hgl hY hg4 hc4)
    clear hu hc4 hg4 HS HA
    have x0 : w4.cell? ⟨w.heap.size, 0, none⟩ = some (.int .i64 0) := cell_of_row w4 _ 0 _ _ (0, 0) HS4.out.x
    have z0 : w4.frozen? ⟨w.heap.size, 0, none⟩ = false := frozen_of_row w4 _ 0 _ _ HS4.out.x
    have x1 : w4.cell? ⟨w.heap.size, 1, none⟩ = some (.slice none 0 0) := cell_of_row w4 _ 1 _ _ (0, 0) HS4.out.x
    have z1 : w4.frozen? ⟨w.heap.size, 1, none⟩ = false := frozen_of_row w4 _ 1 _ _ HS4.out.x
    have y0 : w4.cell? ⟨w2.heap.size, 0, none⟩ = some (.int .i64 t.id) := cell_of_row w4 _ 0 _ _ (0, 0) HS4.out.y
    have y1 : w4.cell? ⟨w2.heap.size, 1, none⟩ = some (.slice t.A t.n t.c) := cell_of_row w4 _ 1 _ _ (0, 0) HS4.out.y
    have u0 : w4.frozen? ⟨w2.heap.size, 0, none⟩ = false := frozen_of_row w4 _ 0 _ _ HS4.out.y
    go_wp2
    refine bodyPost_ret_by (results_cell_row rfl _ _ w.heap.size 50 _ (0, 0) _ rfl (two_setD ((heap_setCell_other _ _ _ _ (by simp; omega)).trans HS4.out.x)) Try.underlying50 rfl (by kernel_rfl)) rfl ?_
    refine ⟨⟨u, t.A, t.n, t.c, t.xs⟩, rfl, ownI_lowD (ownI_blocks HS4.out.o fun k hk => ?_) (by omega), by show 3 ≤ t.xs.length; omega, by show t.xs.length ≤ 4; omega, HS4.out.c.kept ?_, grown_tail HS4.out.g ?_⟩
    · exact (set2_other _ w.heap.size k _ _ (by have := ownI_lows HS4.out.o k hk; omega)).trans (heap_setCell_other _ _ _ _ (by have := HS4.out.far k hk; simp; omega))
    · exact (set2_other _ w.heap.size g _ _ (by omega)).trans (heap_setCell_other _ _ _ _ (by simp; omega))
    · exact ((Below.refl _ _).setCell (by show w.heap.size ≤ w2.heap.size; omega) _).trans (set2_below _ w.heap.size w.heap.size _ _ (Nat.le_refl _))
  by_cases z1 : z = 1
  · subst z1
    clear z0
    have hA0 : ∃ b, t.A = some ⟨b, 0, none⟩ ∧ w.heap.size + 1 ≤ b ∧ b < w2.heap.size := by
      rcases HS.out.o.2 with ⟨hv, h0⟩ | ⟨b, cp, cur, hv, hb, _⟩
      · omega
      · injection hv with e1
        exact ⟨b, e1, hb, HS.out.far b (by rw [e1]; rfl)⟩
    obtain ⟨b, hAb, hb0, hb1⟩ := hA0
    have hn0 : 0 < t.n := by have := HN3.out; omega
    have hn1 : (0 : Int) < (t.n : Int) := by omega
    have HAd := Lib.hid (HS.out.alloc (.cells #[.int .i64 (-1), .int .i64 9, .int .i64 10] 3)).drew
    have y0 : w3.cell? ⟨w2.heap.size, 0, none⟩ = some (.int .i64 t.id) := cell_of_row w3 _ 0 _ _ (0, 0) HS.out.y
    have y1 : w3.cell? ⟨w2.heap.size, 1, none⟩ = some (.slice t.A t.n t.c) := cell_of_row w3 _ 1 _ _ (0, 0) HS.out.y
    rw [hAb] at y1
    go_wp2
    go_region_law (go_simp; go_at_call 93; refine (pick_any w3.heap.size 3 (by decide) (by decide) _ g a len cap hlen HAd.out.c B hB (HR.out.below (grown_below HAd.out.g hB (by omega))) (nums3 w3 (-1) 9 10 ⟨by decide, by decide⟩ ⟨by decide, by decide⟩ ⟨by decide, by decide⟩) (by omega)).mono ?_; rintro e wn ⟨u, rfl, hu, hcn, hgn⟩; have HSn := Lib.hid (HAd.out.kept hgl hY hgn hcn); have y1 : wn.cell? ⟨w2.heap.size, 1, none⟩ = some (.slice (some ⟨b, 0, none⟩) t.n t.c) := (cell_of_row wn _ 1 _ _ (0, 0) HSn.out.y).trans (by rw [hAb]; rfl); have hYn : w2.heap.size < wn.heap.size := lt_of_block HSn.out.y; have hOn : OwnI wn (w.heap.size + 1) (.slice (some ⟨b, 0, none⟩) t.n t.c) t.xs := (by have h := HSn.out.o; rw [hAb] at h; exact h); obtain ⟨cur, hcur, hcs⟩ := own_row0 hOn; have f1 : wn.cell? ⟨b, 0, none⟩ = some (.int .i64 (t.xs.getD 0 0)) := hcs (by have := HN3.out; omega); have f2 : wn.frozen? ⟨b, 0, none⟩ = false := frozen_of_row wn _ 0 _ _ hcur; have HOn := Lib.hid hOn; have HCr := Lib.hid hcur; clear hu hcn hgn hOn hcur hcs)
    all_goals
      have x0 : wn.cell? ⟨w.heap.size, 0, none⟩ = some (.int .i64 0) := cell_of_row wn _ 0 _ _ (0, 0) HSn.out.x
      have z0 : wn.frozen? ⟨w.heap.size, 0, none⟩ = false := frozen_of_row wn _ 0 _ _ HSn.out.x
      have x1 : wn.cell? ⟨w.heap.size, 1, none⟩ = some (.slice none 0 0) := cell_of_row wn _ 1 _ _ (0, 0) HSn.out.x
      have z1 : wn.frozen? ⟨w.heap.size, 1, none⟩ = false := frozen_of_row wn _ 1 _ _ HSn.out.x
      have y0 : wn.cell? ⟨w2.heap.size, 0, none⟩ = some (.int .i64 t.id) := cell_of_row wn _ 0 _ _ (0, 0) HSn.out.y
      go_wp2
      refine bodyPost_ret_by (results_cell_row rfl _ _ w.heap.size 50 _ (0, 0) _ rfl (two_setD ((heap_setCell_other _ _ _ _ (by simp; omega)).trans HSn.out.x)) Try.underlying50 rfl (by kernel_rfl)) rfl ?_
      refine ⟨⟨t.id, some ⟨b, 0, none⟩, t.n, t.c, t.xs.set 0 u⟩, rfl, ownI_lowD (ownI_blocks (own_set0 HOn.out u) fun k hk => ?_) (by omega), by simp; omega, by simp; omega, HSn.out.c.kept ?_, grown_tail HSn.out.g ?_⟩
      · exact set2_other _ w.heap.size k _ _ (by have := ownI_lows HOn.out k hk; omega)
      · exact (set2_other _ w.heap.size g _ _ (by omega)).trans (heap_setCell_other _ _ _ _ (by simp; omega))
      · exact ((Below.refl _ _).setCell (by show w.heap.size ≤ b; omega) _).trans (set2_below _ w.heap.size w.heap.size _ _ (Nat.le_refl _))
  by_cases z2 : z = 2
  · subst z2
    clear z0 z1
    have H4 : Hid ((t.xs.length + [(1 : Int)].length) * 8 ≤ 140737488355328) := Lib.hid (by simp only [List.length_cons, List.length_nil]; omega)
    have hB3 : w2.heap.size + 1 ≤ w3.heap.size := hY3
    have y0 : w3.cell? ⟨w2.heap.size, 0, none⟩ = some (.int .i64 t.id) := cell_of_row w3 _ 0 _ _ (0, 0) HS.out.y
    have y1 : w3.cell? ⟨w2.heap.size, 1, none⟩ = some (.slice t.A t.n t.c) := cell_of_row w3 _ 1 _ _ (0, 0) HS.out.y
    have HOy : Hid (w3.ownsRow (w.heap.size + 1) 3 1 (.slice t.A t.n t.c) t.xs.length (t.xs.map (Value.int .i64))) := Lib.hid HS.out.o
    go_wp2_with (at_builtin; refine wp_appD w3 (by rfl) (.tmp 27) (.tmp 28) (by rfl) (w.heap.size + 1) _ t.xs (by rfl) HS.out.o _ [1] (by rfl) 1 1 rfl (by rfl) H4.out (by omega) ?_)
    intro v' w5 hown5 hg5 hv5
    obtain ⟨A', n', c', rfl, _⟩ := hown5.ints
    have HO5 := Lib.hid hown5
    have HV5 := Lib.hid hv5
    have HB5 : Hid (Below (w.heap.size + 1) w3 w5) := Lib.hid (((Below.refl (w.heap.size + 1) w3).alloc (by omega) _).grown hg5 (by simp; omega) (fun k hk => ownI_lows HS.out.o k hk))
    have HXX : Hid (w5.heap[w.heap.size]? = some (.cells #[.int .i64 0, .slice none 0 0] 50 (0, 0))) := Lib.hid (row_below HB5.out HS.out.x (by omega))
    have HYY : Hid (w5.heap[w2.heap.size]? = some (.cells #[.int .i64 t.id, .slice t.A t.n t.c] 50 (0, 0))) := Lib.hid ((hg5.block _ (by simp; omega) (fun e => by have := HS.out.far _ e.symm; omega)).trans ((Below.heap_alloc _ _ _ hY3).trans HS.out.y))
    clear hown5 hg5 hv5
    have x0 : w5.cell? ⟨w.heap.size, 0, none⟩ = some (.int .i64 0) := cell_of_row w5 _ 0 _ _ (0, 0) HXX.out
    have z0 : w5.frozen? ⟨w.heap.size, 0, none⟩ = false := frozen_of_row w5 _ 0 _ _ HXX.out
    have x1 : w5.cell? ⟨w.heap.size, 1, none⟩ = some (.slice none 0 0) := cell_of_row w5 _ 1 _ _ (0, 0) HXX.out
    have z1 : w5.frozen? ⟨w.heap.size, 1, none⟩ = false := frozen_of_row w5 _ 1 _ _ HXX.out
    have y0 : w5.cell? ⟨w2.heap.size, 0, none⟩ = some (.int .i64 t.id) := cell_of_row w5 _ 0 _ _ (0, 0) HYY.out
    have y1 : w5.cell? ⟨w2.heap.size, 1, none⟩ = some (.slice t.A t.n t.c) := cell_of_row w5 _ 1 _ _ (0, 0) HYY.out
    have u1 : w5.frozen? ⟨w2.heap.size, 1, none⟩ = false := frozen_of_row w5 _ 1 _ _ HYY.out
    go_wp2
    refine bodyPost_ret_by (results_cell_row rfl _ _ w.heap.size 50 _ (0, 0) _ rfl (two_setD ((heap_setCell_other _ _ _ _ (by simp; omega)).trans HXX.out)) Try.underlying50 rfl (by kernel_rfl)) rfl ?_
    have hfar : ∀ k, (Value.slice A' n' c').ownBlock = some k → k ≠ w2.heap.size ∧ k ≠ w.heap.size := fun k hk => by
      have h1 := ownI_lows HO5.out k hk
      refine ⟨fun e => ?_, by omega⟩
      rcases HV5.out with h | h
      · rw [h] at hk
        have := HS.out.far k hk
        omega
      · rw [h] at hk
        have h2 := Option.some.inj hk
        try simp only [World.size_alloc] at h2
        omega
    refine ⟨⟨t.id, A', n', c', t.xs ++ [1]⟩, rfl, ownI_lowD (ownI_blocks HO5.out fun k hk => ?_) (by omega), by simp; omega, by simp; omega, HS.out.c.kept ?_, grown_tail HS.out.g ?_⟩
    · exact (set2_other _ w.heap.size k _ _ (hfar k hk).2).trans (heap_setCell_other _ _ _ _ (hfar k hk).1)
    · exact (set2_other _ w.heap.size g _ _ (by omega)).trans ((heap_setCell_other _ _ _ _ (by simp; omega)).trans (HB5.out.block g (by omega)))
    · exact ((HB5.out.mono (by omega)).setCell (by show w.heap.size ≤ w2.heap.size; omega) _).trans (set2_below _ w.heap.size w.heap.size _ _ (Nat.le_refl _))
  have f0 : (z == 0) = false := by simpa using z0
  have f1 : (z == 1) = false := by simpa using z1
  have f2 : (z == 2) = false := by simpa using z2
  clear z0 z1 z2
  have x0 : w3.cell? ⟨w.heap.size, 0, none⟩ = some (.int .i64 0) := cell_of_row w3 _ 0 _ _ (0, 0) HS.out.x
  have z0 : w3.frozen? ⟨w.heap.size, 0, none⟩ = false := frozen_of_row w3 _ 0 _ _ HS.out.x
  have x1 : w3.cell? ⟨w.heap.size, 1, none⟩ = some (.slice none 0 0) := cell_of_row w3 _ 1 _ _ (0, 0) HS.out.x
  have z1 : w3.frozen? ⟨w.heap.size, 1, none⟩ = false := frozen_of_row w3 _ 1 _ _ HS.out.x
  have y0 : w3.cell? ⟨w2.heap.size, 0, none⟩ = some (.int .i64 t.id) := cell_of_row w3 _ 0 _ _ (0, 0) HS.out.y
  have y1 : w3.cell? ⟨w2.heap.size, 1, none⟩ = some (.slice t.A t.n t.c) := cell_of_row w3 _ 1 _ _ (0, 0) HS.out.y
  go_wp2
  refine bodyPost_ret_by (results_cell_row rfl _ _ w.heap.size 50 _ (0, 0) _ rfl (two_setD HS.out.x) Try.underlying50 rfl (by kernel_rfl)) rfl ?_
  refine ⟨⟨t.id, t.A, t.n, t.c, t.xs⟩, rfl, ownI_lowD (ownI_blocks HS.out.o fun k hk => ?_) (by omega), by show 3 ≤ t.xs.length; omega, by show t.xs.length ≤ 4; omega, HS.out.c.kept ?_, grown_tail HS.out.g ?_⟩
  · exact (set2_other _ w.heap.size k _ _ (by have := ownI_lows HS.out.o k hk; omega))
  · exact (set2_other _ w.heap.size g _ _ (by omega))
  · exact set2_below _ w.heap.size w.heap.size _ _ (Nat.le_refl _)
end Go.Proofs.Ytaijajajpnekbaa.num
