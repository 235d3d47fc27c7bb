/- What the law FnExactFormatWish leans on, part 1: contracts of the functions that it calls. -/
import Derived.Test.YtghekfigfjhkeabDoorProg
import Derived.WalkKit
import Derived.ProofKit
import Derived.Lib.Hide
import Derived.Outline
import Derived.WalkSpells
import Derived.Deep.OwnRows
import Derived.Deep.QuietTactic
import Derived.BigQuiet
import Derived.Deep.RegionWith
import Derived.StillTailTactics
import Derived.Deep.SlicePairs
import Derived.Lib.SmallJoins
import Derived.ChangeSlices
import Derived.Carry
import Derived.Deep.RegionHeld3
import Derived.Lib.ItoaNum
import Derived.Lib.Strings
import Derived.Shelf.Strings.Builder1
import Derived.Shelf.Strings.Builder2
import Derived.Shelf.Strings.OnBuilder
import Derived.Shelf.Small.Wraps
import Derived.Shelf.Strings.BuilderF
import Derived.Shelf.Strings.BuilderK
import Derived.Shelf.Utf8.RuneCount
import Derived.Shelf.Strings.Builder2Cap
import Derived.Shelf.Strconv.Itoa0
import Derived.Shelf.Strconv.Itoa1
import Derived.Shelf.LaysM
import Derived.Shelf.Strconv.Itoa2
import Derived.Shelf.Strconv.Itoa3
import Derived.Shelf.Strings.Search1
import Derived.Shelf.Strings.Search2
import Derived.Shelf.Strings.Search3
import Derived.Shelf.Strings.Cut
import Derived.Shelf.Strings.Count
import Derived.Shelf.Strings.Shaped
import Derived.Shelf.Strings.Prefix
import Derived.Shelf.Strings.Split
import Derived.Shelf.Strings.SplitShaped
import Derived.Shelf.Unicode.Decode
import Derived.Shelf.Strings.RuneCount
import Derived.Shelf.Strings.Explode
import Derived.Shelf.Unicode.DecodeSlow
import Derived.Shelf.Unicode.DecodeAny
import Derived.Shelf.Strings.BuilderCap
import Derived.Laws.IdiomStrings
import Derived.Laws.Concat
namespace Go.Proofs.YtghekfigfjhkeabDoor.num
open Go.RowKit

/-- A slice of ints (address A, n elements) that reads as xs and lies below block B. -/
def Ints (w : World) (B : Nat) (A : Option Addr) (n : Nat) (xs : List Int) : Prop :=
  xs.length = n ∧ ∀ k, k < n → ∃ b off : Nat, A = some ⟨b, off, none⟩ ∧ b < B ∧ w.cell? ⟨b, off + k, none⟩ = some (.int .i64 (xs.getD k 0))
theorem Ints.below {w w' : World} {B : Nat} {A : Option Addr} {n : Nat} {xs : List Int} (h : Ints w B A n xs) (hb : Below B w w') : Ints w' B A n xs :=
  ⟨h.1, fun k hk => by
    obtain ⟨b, off, ha, hB, hc⟩ := h.2 k hk
    exact ⟨b, off, ha, hB, (hb.cell (p := ⟨b, off + k, none⟩) hB).trans hc⟩⟩
theorem Ints.more {w : World} {B B' : Nat} {A : Option Addr} {n : Nat} {xs : List Int} (h : Ints w B A n xs) (hB : B ≤ B') : Ints w B' A n xs :=
  ⟨h.1, fun k hk => by
    obtain ⟨b, off, ha, hb, hc⟩ := h.2 k hk
    exact ⟨b, off, ha, by omega, hc⟩⟩
/-- An item's value in a cell row: its number, and its slice with what that reads as. -/
structure It where
  id : Int
  A : Option Addr
  n : Nat
  c : Nat
  xs : List Int
def It.val (t : It) : Value := .agg #[.int .i64 t.id, .slice t.A t.n t.c]
/-- A slice of items that reads as its, below block B. -/
def Items (w : World) (B : Nat) (A : Option Addr) (n : Nat) (its : List It) : Prop :=
  its.length = n ∧ ∀ k (hk : k < its.length), ∃ b off : Nat, A = some ⟨b, off, none⟩ ∧ b < B ∧ w.cell? ⟨b, off + k * 2, none⟩ = some (.int .i64 its[k].id) ∧ w.cell? ⟨b, off + k * 2 + 1, none⟩ = some (.slice its[k].A its[k].n its[k].c) ∧ Ints w B its[k].A its[k].n its[k].xs
theorem Items.below {w w' : World} {B : Nat} {A : Option Addr} {n : Nat} {its : List It} (h : Items w B A n its) (hb : Below B w w') : Items w' B A n its :=
  ⟨h.1, fun k hk => by
    obtain ⟨b, off, ha, hB, h1, h2, h3⟩ := h.2 k hk
    exact ⟨b, off, ha, hB, (hb.cell (p := ⟨b, off + k * 2, none⟩) hB).trans h1, (hb.cell (p := ⟨b, off + k * 2 + 1, none⟩) hB).trans h2, h3.below hb⟩⟩

theorem szInts_yes (A : Option Addr) (n c : Nat) (left : Int) (hn : n ≤ 9223372036854775807) (h0 : n ≤ left) (h1 : left ≤ 1048576) (w : World) :
    Calls Tryd.prog 22 #[.slice A n c, .int .i64 left] w fun e w' => e = .returned (.int .i64 (left - n)) ∧ w = w' := by
  go_enter Tryd.func22, Tryd.ntmps22
  go_wp2
  go_ret
  exact ⟨rfl, rfl⟩
theorem szInts_no (A : Option Addr) (n c : Nat) (left : Int) (hn : n ≤ 9223372036854775807) (h0 : left < n) (h1 : 0 ≤ left) (w : World) :
    Calls Tryd.prog 22 #[.slice A n c, .int .i64 left] w fun e w' => e = .returned (.int .i64 (-1)) ∧ w = w' := by
  go_enter Tryd.func22, Tryd.ntmps22
  go_wp2
  go_ret
  exact ⟨rfl, rfl⟩
end Go.Proofs.YtghekfigfjhkeabDoor.num
namespace Go.Proofs.YtghekfigfjhkeabDoor.num
open Go.RowKit

/-- Block b is a row of intCells xs of the call's own. -/
def IntRow (w : World) (b : Nat) (xs : List Int) : Prop := w.rowIs b 3 xs.length (fun i => .int .i64 (xs.getD i 0))
theorem rowIs_below {w w' : World} {b B : Nat} {t : TypeId} {n : Nat} {f : Nat → Value} (h : w.rowIs b t n f) (hb : Below B w w') (hB : b < B) : w'.rowIs b t n f := h.of_block (hb.block b hB)
theorem IntRow.below {w w' : World} {b B : Nat} {xs : List Int} (h : IntRow w b xs) (hb : Below B w w') (hB : b < B) : IntRow w' b xs := rowIs_below h hb hB
theorem IntRow.lt {w : World} {b : Nat} {xs : List Int} (h : IntRow w b xs) : b < w.heap.size := World.rowIs.lt h
theorem IntRow.ints {w : World} {b B : Nat} {xs : List Int} (h : IntRow w b xs) (hB : b < B) : Ints w B (some ⟨b, 0, none⟩) xs.length xs :=
  ⟨rfl, fun k hk => ⟨b, 0, rfl, hB, by rw [Nat.zero_add]; exact World.rowIs.cell h hk⟩⟩

theorem info_int : (Tryd.prog.info? 3).map (fun i => (i.zero, i.size, i.bytes)) = some (some (.int .i64 0), 1, 8) := by kernel_rfl

def intCells (xs : List Int) : Array Value := (xs.map (Value.int .i64)).toArray
theorem cells_get {xs : List Int} {k : Nat} (h : k < xs.length) : (intCells xs)[k]? = some (.int .i64 (xs.getD k 0)) := by
  unfold intCells
  rw [List.getElem?_toArray, List.getElem?_map, List.getD_eq_getElem?_getD, List.getElem?_eq_getElem h]; rfl
theorem cells_of {xs : List Int} {n : Nat} {cs : Array Value} (hl : xs.length = n) (hs : cs.size = n) (h : ∀ j, j < n → cs[j]? = some (.int .i64 (xs.getD j 0))) : cs = intCells xs := by
  apply Array.ext_getElem?
  intro j
  by_cases hj : j < n
  · rw [h j hj, cells_get (by omega)]
  · rw [Array.getElem?_eq_none (by omega), Array.getElem?_eq_none (by unfold intCells; simp; omega)]
theorem prefix_step {xs : List Int} {n k : Nat} {cs : Array Value} (hs : cs.size = n) (hk : k < n) (h : ∀ j, j < n → cs[j]? = some (if j < k then .int .i64 (xs.getD j 0) else .int .i64 0)) (v : Int) (hv : xs.getD k 0 = v) :
    (cs.setIfInBounds k (.int .i64 v)).size = n ∧ ∀ j, j < n → (cs.setIfInBounds k (.int .i64 v))[j]? = some (if j < k + 1 then .int .i64 (xs.getD j 0) else .int .i64 0) := by
  refine ⟨by simpa using hs, fun j hj => ?_⟩
  rw [Array.getElem?_setIfInBounds]
  by_cases e : k = j
  · subst e
    rw [if_pos rfl, if_pos (by omega), if_pos (by omega), hv]
  · rw [if_neg e, h j hj]
    by_cases h2 : j < k
    · rw [if_pos h2, if_pos (by omega)]
    · rw [if_neg h2, if_neg (by omega)]
theorem IntRow.made (w : World) (xs : List Int) (b : Nat) (hb : b = w.heap.size) : IntRow (w.alloc (.cells (intCells xs) 3)) b xs :=
  hb ▸ ⟨intCells xs, heap_alloc_new w _, by simp [intCells], fun _ hi => cells_get hi⟩

/-- toIntS: one new block, the ints. -/
theorem toInts (w : World) (B : Nat) (A : Option Addr) (n c : Nat) (xs : List Int) (hi : Ints w B A n xs) (hB : B ≤ w.heap.size) (hn : n ≤ 1048576) :
    Calls Tryd.prog 27 #[.slice A n c] w fun e w' => e = .returned (.slice (some ⟨w.heap.size, 0, none⟩) n n) ∧ w.alloc (.cells (intCells xs) 3) = w' := by
  have hmk := run_make_row' (P := Tryd.prog) 28 3 (.int .i64 0) 8 Tryd.underlying28 info_int rfl .i64 .i64 n (by omega) (by omega)
  have HX := Lib.hid hi
  clear hi
  go_enter Tryd.func27, Tryd.ntmps27
  go_wp2
  clear hmk
  go_loopw [4] (fun i wr => ∃ (k : Nat) (cs : Array Value), k ≤ n ∧ i = .int .i64 k ∧ wr = w.alloc (.cells cs 3) ∧ cs.size = n ∧ ∀ j, j < n → cs[j]? = some (if j < k then .int .i64 (xs.getD j 0) else .int .i64 0)) (fun i _ => n - (intOf i).toNat)
  case atStart =>
    refine ⟨0, _, Nat.zero_le _, rfl, rfl, by rw [size_madeCells], fun j hj => ?_⟩
    simp [madeCells, hj, Nat.mod_one]
  case round =>
    obtain ⟨k, cs, hk, rfl, rfl, hs, hcs⟩ := hrel
    by_cases hlt : k < n
    · obtain ⟨b, off, rfl, hb, hc⟩ := HX.out.2 k hlt
      have hc' : (w.alloc (.cells cs 3)).cell? ⟨b, off + k, none⟩ = some (.int .i64 (xs.getD k 0)) := (World.cell?_alloc_past _ _ _ (by omega)).trans hc
      generalize hv : xs.getD k 0 = v at *
      have HP := Lib.hid (prefix_step hs hlt hcs v hv)
      have g1 := hcs k hlt
      rw [if_neg (by omega)] at g1
      clear hcs hc hv
      go_wp2
      go_roundw
      case rel => exact ⟨k + 1, _, by omega, by go_num, rfl, HP.out.1, HP.out.2⟩
      case measure => simp [intOf]; omega
    · obtain rfl : k = n := by omega
      have HE := Lib.hid (cells_of HX.out.1 hs (fun j hj => by rw [hcs j hj, if_pos hj]))
      clear hcs hs
      go_wp2
      go_ret
      exact ⟨rfl, by rw [HE.out]⟩
theorem getD_prefix (xs : List Int) (k j : Nat) : (if j = k then (Value.int .i64 (xs.getD k 0)) else if j < k then .int .i64 (xs.getD j 0) else .int .i64 0) = (if j < k + 1 then Value.int .i64 (xs.getD j 0) else .int .i64 0) := by
  by_cases h1 : j = k
  · subst h1; simp
  · by_cases h2 : j < k
    · rw [if_neg h1, if_pos h2, if_pos (by omega)]
    · rw [if_neg h1, if_neg h2, if_neg (by omega)]
theorem ints_row {w w' : World} {B : Nat} {A : Option Addr} {n b : Nat} {xs : List Int} (hi : Ints w B A n xs) (h : IntRow w' b xs) : Ints w' w'.heap.size (some ⟨b, 0, none⟩) n xs := hi.1 ▸ h.ints h.lt
theorem below3 {w : World} {B : Nat} (hB : B ≤ w.heap.size) (o1 o2 o3 : Obj) : Below B w (((w.alloc o1).alloc o2).alloc o3) :=
  (((Below.refl B w).alloc hB _).alloc (by simp; omega) _).alloc (by simp; omega) _
theorem heap_mid (w : World) (o1 o2 o3 o4 : Obj) : ((((w.alloc o1).alloc o2).alloc o3).alloc o4).heap[w.heap.size + 1]? = some o2 := by
  rw [Below.heap_alloc _ _ _ (by simp), Below.heap_alloc _ _ _ (by simp)]
  exact heap_alloc2_new w o1 o2
theorem take_snoc_getD {xs : List Int} {k n : Nat} (hl : xs.length = n) (h : k < n) : xs.take (k + 1) = xs.take k ++ [xs.getD k 0] := by
  rw [List.take_add_one, List.getD_eq_getElem?_getD, List.getElem?_eq_getElem (by omega)]; rfl
theorem ne_at {xs ys : List Int} {k : Nat} (h : xs.getD k 0 ≠ ys.getD k 0) : xs ≠ ys := fun e => h (by rw [e])

theorem eqInts (w : World) (B : Nat) (A A' : Option Addr) (n n' c c' : Nat) (xs ys : List Int) (hx : Ints w B A n xs) (hy : Ints w B A' n' ys) (hn : n ≤ 1048576) (b : Bool) (hb : b = true ↔ xs = ys) :
    Calls Tryd.prog 34 #[.slice A n c, .slice A' n' c'] w fun e w' => e = .returned (.bool b) ∧ ∃ m, w' = w.drewN m := by
  have HX := Lib.hid hx
  have HY := Lib.hid hy
  by_cases hl : n = n'
  · subst hl
    have HB := Lib.hid hb
    clear hx hy hb
    go_enter Tryd.func34, Tryd.ntmps34
    go_wp2
    go_loopw [5] (fun i wr => ∃ k : Nat, k ≤ n ∧ i = .int .i64 k ∧ xs.take k = ys.take k ∧ ∃ m, wr = w.drewN m) (fun i _ => n - (intOf i).toNat)
    case atStart => exact ⟨0, Nat.zero_le _, rfl, rfl, 0, rfl⟩
    case round =>
      obtain ⟨k, hk, rfl, htake, m, rfl⟩ := hrel
      have HT := Lib.hid htake
      clear htake
      by_cases hlt : k < n
      · obtain ⟨b1, off1, rfl, hb1, hc1⟩ := HX.out.2 k hlt
        obtain ⟨b2, off2, rfl, hb2, hc2⟩ := HY.out.2 k hlt
        generalize hv1 : xs.getD k 0 = v1 at *
        generalize hv2 : ys.getD k 0 = v2 at *
        have HV1 := Lib.hid hv1
        have HV2 := Lib.hid hv2
        clear hv1 hv2
        have hlt' : (k : Int) < (n : Int) := by omega
        by_cases he : v1 = v2
        · subst he
          go_wp2
          go_quiet (fail)
          go_wp2
          go_roundw
          case rel => exact ⟨k + 1, by omega, by go_num, by rw [take_snoc_getD HX.out.1 hlt, take_snoc_getD HY.out.1 hlt, HT.out, HV1.out, HV2.out], _, rfl⟩
          case measure => simp [intOf]; omega
        · have hne : (v1 != v2) = true := by simpa using he
          have hxy : xs ≠ ys := ne_at (k := k) (by rw [HV1.out, HV2.out]; exact he)
          obtain rfl : b = false := by
            cases b
            · rfl
            · exact absurd (HB.out.1 rfl) hxy
          have HE := Lib.hid he
          clear he hxy
          go_wp2
          go_quiet (fail)
          go_wp2
          go_ret
          exact ⟨rfl, _, World.drewN_drewN _ _ _⟩
      · obtain rfl : k = n := by omega
        obtain rfl : b = true := HB.out.2 (by
          have h1 := HT.out
          rwa [List.take_of_length_le (by rw [HX.out.1]; exact Nat.le_refl _), List.take_of_length_le (by rw [HY.out.1]; exact Nat.le_refl _)] at h1)
        go_wp2
        go_ret
        exact ⟨rfl, _, rfl⟩
  · obtain rfl : b = false := by
      cases b
      · rfl
      · exact absurd (by rw [← hx.1, hb.1 rfl, hy.1]) hl
    clear hx hy hb
    go_enter Tryd.func34, Tryd.ntmps34
    go_wp2
    go_ret
    exact ⟨rfl, 0, rfl⟩
end Go.Proofs.YtghekfigfjhkeabDoor.num
namespace Go.Proofs.YtghekfigfjhkeabDoor.num
open Go.RowKit

def It.dat (t : It) : Int × List Int := (t.id, t.xs)
/-- Cell j of the block of a slice of items; behind the last item: zero. -/
def itemCell (its : List It) (j : Nat) : Value :=
  match its[j / 2]? with
  | some t => if j % 2 = 0 then .int .i64 t.id else .slice t.A t.n t.c
  | none => if j % 2 = 0 then .int .i64 0 else .slice none 0 0
theorem itemCell_even {its : List It} {k : Nat} {t : It} (h : its[k]? = some t) : itemCell its (k * 2) = .int .i64 t.id := by
  unfold itemCell
  rw [Nat.mul_div_cancel _ (by decide), h]
  simp
theorem itemCell_odd {its : List It} {k : Nat} {t : It} (h : its[k]? = some t) : itemCell its (k * 2 + 1) = .slice t.A t.n t.c := by
  unfold itemCell
  rw [show (k * 2 + 1) / 2 = k by omega, h]
  simp only
  rw [if_neg (by omega)]
theorem itemCell_even0 {its : List It} {k : Nat} (h : its.length = k) : itemCell its (k * 2) = .int .i64 0 := by
  unfold itemCell
  rw [Nat.mul_div_cancel _ (by decide), List.getElem?_eq_none (by omega)]
  simp
theorem itemCell_odd0 {its : List It} {k : Nat} (h : its.length = k) : itemCell its (k * 2 + 1) = .slice none 0 0 := by
  unfold itemCell
  rw [show (k * 2 + 1) / 2 = k by omega, List.getElem?_eq_none (by omega)]
  simp only
  rw [if_neg (by omega)]
theorem itemCell_snoc {its : List It} {k : Nat} (h : its.length = k) (t : It) (j : Nat) :
    (if j = k * 2 + 1 then .slice t.A t.n t.c else if j = k * 2 then .int .i64 t.id else itemCell its j) = itemCell (its ++ [t]) j := by
  have hk : (its ++ [t])[k]? = some t := by rw [List.getElem?_append_right (by omega)]; simp [h]
  by_cases h1 : j = k * 2 + 1
  · subst h1
    rw [if_pos rfl, itemCell_odd hk]
  · by_cases h2 : j = k * 2
    · subst h2
      rw [if_neg h1, if_pos rfl, itemCell_even hk]
    · rw [if_neg h1, if_neg h2]
      have hj : j / 2 ≠ k := by omega
      unfold itemCell
      rcases Nat.lt_or_ge (j / 2) k with h3 | h3
      · rw [List.getElem?_append_left (by omega)]
      · rw [List.getElem?_eq_none (by omega), List.getElem?_eq_none (by simp; omega)]

/-- An item whose slice is a block of the call's own, behind block b. -/
def OwnIt (w : World) (b : Nat) (t : It) : Prop := ∃ bk, t.A = some ⟨bk, 0, none⟩ ∧ b < bk ∧ t.n = t.xs.length ∧ t.c = t.n ∧ IntRow w bk t.xs
theorem OwnIt.below {w w' : World} {b : Nat} {t : It} (h : OwnIt w b t) (hb : Below w.heap.size w w') : OwnIt w' b t := by
  obtain ⟨bk, h1, h2, h3, h4, h5⟩ := h
  exact ⟨bk, h1, h2, h3, h4, h5.below hb h5.lt⟩
theorem OwnIt.set {w : World} {b : Nat} {t : It} (h : OwnIt w b t) (j : Nat) (v : Value) : OwnIt (w.setCell ⟨b, j, none⟩ v) b t := by
  obtain ⟨bk, h1, h2, h3, h4, h5⟩ := h
  exact ⟨bk, h1, h2, h3, h4, World.rowIs.setOther h5 (by show bk ≠ b; omega) v⟩
/-- What is known of item k. -/
theorem Items.at {w : World} {B : Nat} {A : Option Addr} {n : Nat} {its : List It} (h : Items w B A n its) (k : Nat) (hk : k < n) :
    ∃ (b off : Nat) (t : It), A = some ⟨b, off, none⟩ ∧ b < B ∧ its[k]? = some t ∧ w.cell? ⟨b, off + k * 2, none⟩ = some (.int .i64 t.id) ∧ w.cell? ⟨b, off + k * 2 + 1, none⟩ = some (.slice t.A t.n t.c) ∧ Ints w B t.A t.n t.xs := by
  have hl := h.1
  obtain ⟨b, off, h1, h2, h3, h4, h5⟩ := h.2 k (by omega)
  exact ⟨b, off, its[k], h1, h2, List.getElem?_eq_getElem _, h3, h4, h5⟩
theorem mem_of_at {α : Type} {l : List α} {k : Nat} {t : α} (h : l[k]? = some t) : t ∈ l := List.mem_of_getElem? h
theorem take_at {α : Type} {l : List α} {k : Nat} {t : α} (h : l[k]? = some t) : l.take (k + 1) = l.take k ++ [t] := by
  rw [List.take_add_one, h]; rfl
theorem below_drewN {B : Nat} {a w : World} (h : Below B a w) (n : Nat) : Below B a (w.drewN n) := ⟨h.os, h.tape, h.output, h.size, h.block⟩
theorem take_all {α : Type} {l : List α} {n : Nat} (h : l.length = n) : l.take n = l := List.take_of_length_le (by omega)

end Go.Proofs.YtghekfigfjhkeabDoor.num
namespace Go.Proofs.YtghekfigfjhkeabDoor.num
open Go.RowKit Go.ChangeShapes Go.WideShapes Go.Deep Go.Joins

theorem laidOut : laidOutB Tryd.prog = true := by kernel_rfl
theorem add_flat {w : World} {a : Addr} {j : Nat} {v v0 : Value} (h0 : w.cell? (a.add 0) = some v0) (h : w.cell? (a.add j) = some v) : ∃ b off : Nat, a = ⟨b, off, none⟩ ∧ b < w.heap.size ∧ w.cell? ⟨b, off + j, none⟩ = some v := by
  obtain ⟨b, off, spot⟩ := a
  have hspot : spot = none := by
    have := World.cell?_spot h0
    simpa [Addr.add] using this
  subst hspot
  have e : (⟨b, off, none⟩ : Addr).add j = ⟨b, off + j, none⟩ := by unfold Addr.add; split <;> simp_all
  rw [e] at h
  exact ⟨b, off, rfl, World.block_lt_of_cell? w _ h, h⟩

section
variable {H : Type} {enc : TypeId × Value → H} {W : World}
theorem open_introw {fuel : Nat} {v : Value} {x : DataW H × List MemPlace} (h : DataW.trod enc Tryd.prog W 0 (fun _ => true) true fuel 28 [v] = some x) :
    ∃ A n c xs, v = .slice A n c ∧ n ≤ 9223372036854775807 ∧ Ints W W.heap.size A n xs := by
  rcases open_ints Tryd.underlying28 Tryd.underlying3 (by kernel_rfl) h with ⟨hv, _⟩ | ⟨a, len, cap, zs, hv, _, hl, hm, hz, _, hc, _⟩
  · exact ⟨none, 0, 0, [], by simpa using hv, by omega, rfl, fun k hk => by omega⟩
  · have hz' : zs.length = cap := by simpa using hz
    refine ⟨some a, len, cap, zs.take len, by simpa using hv, by unfold maxLen at hm; omega, by rw [List.length_take]; omega, fun k hk => ?_⟩
    obtain ⟨b, off, rfl, hb, hcell⟩ := add_flat (hc 0 (by omega)) (hc k (by omega))
    refine ⟨b, off, rfl, hb, hcell.trans ?_⟩
    rw [List.getD_eq_getElem?_getD, List.getD_eq_getElem?_getD, List.getElem?_take_of_lt hk]
theorem list_of {α : Type} {n : Nat} {p : Nat → α → Prop} (h : ∀ i, i < n → ∃ t, p i t) : ∃ l : List α, l.length = n ∧ ∀ i (hi : i < l.length), p i l[i] := by
  induction n with
  | zero => exact ⟨[], rfl, fun i hi => by simp at hi⟩
  | succ n ih =>
    obtain ⟨l, hl, hp⟩ := ih (fun i hi => h i (by omega))
    obtain ⟨t, ht⟩ := h n (by omega)
    refine ⟨l ++ [t], by simp [hl], fun i hi => ?_⟩
    rcases Nat.lt_or_ge i l.length with h1 | h1
    · rw [List.getElem_append_left h1]; exact hp i h1
    · obtain rfl : i = l.length := by simp at hi; omega
      rw [List.getElem_append_right h1]
      simpa [hl] using ht
end
end Go.Proofs.YtghekfigfjhkeabDoor.num
namespace Go.Proofs.YtghekfigfjhkeabDoor.num
open Go.RowKit
set_option linter.unusedVariables false

/-- A slice of pairs that reads as ps, below block B. -/
def Pairs (w : World) (B : Nat) (A : Option Addr) (n : Nat) (ps : List (Int × Int)) : Prop :=
  ps.length = n ∧ ∀ k p, ps[k]? = some p → ∃ b off : Nat, A = some ⟨b, off, none⟩ ∧ b < B ∧ w.cell? ⟨b, off + k * 2, none⟩ = some (.int .i64 p.1) ∧ w.cell? ⟨b, off + k * 2 + 1, none⟩ = some (.int .i64 p.2)
theorem Pairs.below {w w' : World} {B : Nat} {A : Option Addr} {n : Nat} {ps : List (Int × Int)} (h : Pairs w B A n ps) (hb : Below B w w') : Pairs w' B A n ps :=
  ⟨h.1, fun k p hk => by
    obtain ⟨b, off, ha, hB, h1, h2⟩ := h.2 k p hk
    exact ⟨b, off, ha, hB, (hb.cell (p := ⟨b, off + k * 2, none⟩) hB).trans h1, (hb.cell (p := ⟨b, off + k * 2 + 1, none⟩) hB).trans h2⟩⟩
theorem Pairs.more {w : World} {B B' : Nat} {A : Option Addr} {n : Nat} {ps : List (Int × Int)} (h : Pairs w B A n ps) (hB : B ≤ B') : Pairs w B' A n ps :=
  ⟨h.1, fun k p hk => by
    obtain ⟨b, off, ha, hb, hc⟩ := h.2 k p hk
    exact ⟨b, off, ha, by omega, hc⟩⟩
theorem Pairs.at {w : World} {B : Nat} {A : Option Addr} {n : Nat} {ps : List (Int × Int)} (h : Pairs w B A n ps) (k : Nat) (hk : k < n) :
    ∃ (b off : Nat) (x y : Int), A = some ⟨b, off, none⟩ ∧ b < B ∧ ps[k]? = some (x, y) ∧ w.cell? ⟨b, off + k * 2, none⟩ = some (.int .i64 x) ∧ w.cell? ⟨b, off + k * 2 + 1, none⟩ = some (.int .i64 y) := by
  have hl := h.1
  have hg : ps[k]? = some (ps[k]'(by omega)) := List.getElem?_eq_getElem _
  obtain ⟨b, off, h1, h2, h3, h4⟩ := h.2 k _ hg
  exact ⟨b, off, _, _, h1, h2, hg, h3, h4⟩

/-- Cell j of the block of a slice of pairs; behind the last: zero. -/
def pairCell (ps : List (Int × Int)) (j : Nat) : Value :=
  match ps[j / 2]? with
  | some p => if j % 2 = 0 then .int .i64 p.1 else .int .i64 p.2
  | none => .int .i64 0
theorem pairCell_even {ps : List (Int × Int)} {k : Nat} {p : Int × Int} (h : ps[k]? = some p) : pairCell ps (k * 2) = .int .i64 p.1 := by
  unfold pairCell
  rw [Nat.mul_div_cancel _ (by decide), h]
  simp
theorem pairCell_odd {ps : List (Int × Int)} {k : Nat} {p : Int × Int} (h : ps[k]? = some p) : pairCell ps (k * 2 + 1) = .int .i64 p.2 := by
  unfold pairCell
  rw [show (k * 2 + 1) / 2 = k by omega, h]
  simp only
  rw [if_neg (by omega)]
theorem pairCell_none {ps : List (Int × Int)} {j : Nat} (h : ps.length ≤ j / 2) : pairCell ps j = .int .i64 0 := by
  unfold pairCell
  rw [List.getElem?_eq_none h]
theorem pairCell_snoc {ps : List (Int × Int)} {k : Nat} (h : ps.length = k) (p : Int × Int) (j : Nat) :
    (if j = k * 2 + 1 then .int .i64 p.2 else if j = k * 2 then .int .i64 p.1 else pairCell ps j) = pairCell (ps ++ [p]) j := by
  have hk : (ps ++ [p])[k]? = some p := by rw [List.getElem?_append_right (by omega)]; simp [h]
  by_cases h1 : j = k * 2 + 1
  · subst h1
    rw [if_pos rfl, pairCell_odd hk]
  · by_cases h2 : j = k * 2
    · subst h2
      rw [if_neg h1, if_pos rfl, pairCell_even hk]
    · rw [if_neg h1, if_neg h2]
      have hj : j / 2 ≠ k := by omega
      unfold pairCell
      rcases Nat.lt_or_ge (j / 2) k with h3 | h3
      · rw [List.getElem?_append_left (by omega)]
      · rw [List.getElem?_eq_none (by omega), List.getElem?_eq_none (by simp; omega)]
/-- Block b is a row of pairs of the call's own. -/
def PairRow (w : World) (b : Nat) (ps : List (Int × Int)) : Prop := w.rowIs b 43 (ps.length * 2) (pairCell ps)
theorem PairRow.lt {w : World} {b : Nat} {ps : List (Int × Int)} (h : PairRow w b ps) : b < w.heap.size := World.rowIs.lt h
theorem PairRow.below {w w' : World} {b B : Nat} {ps : List (Int × Int)} (h : PairRow w b ps) (hb : Below B w w') (hB : b < B) : PairRow w' b ps := World.rowIs.of_block h (hb.block b hB)
theorem PairRow.pairs {w : World} {b B : Nat} {ps : List (Int × Int)} (h : PairRow w b ps) (hB : b < B) : Pairs w B (some ⟨b, 0, none⟩) ps.length ps :=
  ⟨rfl, fun k p hk => by
    have hlt : k < ps.length := by
      rcases Nat.lt_or_ge k ps.length with h' | h'
      · exact h'
      · rw [List.getElem?_eq_none h'] at hk; cases hk
    refine ⟨b, 0, rfl, hB, ?_, ?_⟩
    · rw [Nat.zero_add, World.rowIs.cell h (by omega), pairCell_even hk]
    · rw [Nat.zero_add, World.rowIs.cell h (by omega), pairCell_odd hk]⟩
theorem ptake_at {α : Type} {l : List α} {k : Nat} {t : α} (h : l[k]? = some t) : l.take (k + 1) = l.take k ++ [t] := by
  rw [List.take_add_one, h]; rfl
theorem ptake_all {α : Type} {l : List α} {n : Nat} (h : l.length = n) : l.take n = l := List.take_of_length_le (by omega)
theorem info_pair : (Tryd.prog.info? 43).map (fun i => (i.zero, i.size, i.bytes)) = some (some (.agg #[.int .i64 0, .int .i64 0]), 2, 16) := by kernel_rfl
theorem make_pairs (n : Nat) (hn : n ≤ 1048576) (w : World) :
    (Instr.makeSlice 22 (.int .i64 (n : Int)) (.int .i64 (n : Int))).run Tryd.prog w = .ok (.slice (some ⟨w.heap.size, 0, none⟩) n n) (w.alloc (.cells (madeCells #[.int .i64 0, .int .i64 0] (n * 2)) 43)) := by
  obtain ⟨i, hi, hzz⟩ := Option.map_eq_some_iff.1 info_pair
  simp only [Prod.mk.injEq] at hzz
  obtain ⟨hz, hs, hb⟩ := hzz
  have hr := run_make (P := Tryd.prog) w _ _ i _ Tryd.underlying22 hi hz .i64 .i64 n n (by omega) (Int.le_refl _) (by rw [hb]; omega) (by omega)
  rw [hs] at hr
  simp only [Int.toNat_natCast] at hr
  exact hr
theorem made_pairs (w : World) (n : Nat) : (w.alloc (.cells (madeCells #[.int .i64 0, .int .i64 0] (n * 2)) 43)).rowIs w.heap.size 43 (n * 2) (pairCell []) :=
  ⟨_, heap_alloc_new w _, size_madeCells _ _, fun i hi => by
    have h : (madeCells #[.int .i64 0, .int .i64 0] (n * 2))[i]? = some (#[(.int .i64 0 : Value), .int .i64 0][i % 2]!) := by simp [madeCells, hi]
    rw [h]
    unfold pairCell
    rcases Nat.mod_two_eq_zero_or_one i with h1 | h1 <;> rw [h1] <;> rfl⟩

theorem szPairs (A : Option Addr) (n c : Nat) (left : Int) (hn : n ≤ 9223372036854775807) (h0 : 0 ≤ left) (h1 : left ≤ 1048576) (w : World) :
    Calls Tryd.prog 23 #[.slice A n c, .int .i64 left] w fun e w' => (∃ r : Int, e = .returned (.int .i64 r) ∧ (r = -1 ∨ (0 ≤ r ∧ r ≤ left ∧ (n : Int) ≤ left))) ∧ w = w' := by
  by_cases hle : (n : Int) ≤ left
  · go_enter Tryd.func23, Tryd.ntmps23
    go_wp2
    go_ret
    exact ⟨⟨_, rfl, .inr ⟨by omega, by omega, hle⟩⟩, rfl⟩
  · go_enter Tryd.func23, Tryd.ntmps23
    go_wp2
    go_ret
    exact ⟨⟨_, rfl, .inl rfl⟩, rfl⟩
theorem pheap_mid (w : World) (o1 o2 o3 : Obj) : (((w.alloc o1).alloc o2).alloc o3).heap[w.heap.size + 1]? = some o2 := by
  rw [Below.heap_alloc _ _ _ (by simp)]
  exact heap_alloc2_new w o1 o2
theorem toPair_c (w : World) (x y : Int) :
    Calls Tryd.prog 43 #[.agg #[.int .i64 x, .int .i64 y]] w fun e w' => e = .returned (.agg #[.int .i64 x, .int .i64 y]) ∧ Below w.heap.size w w' := by
  go_enter Tryd.func43, Tryd.ntmps43
  go_wp2
  refine bodyPost_ret_by (results_cell_row rfl _ _ (w.heap.size + 1) 43 _ (0, 0) _ rfl (pheap_mid _ _ _ _) Tryd.underlying43 rfl (by kernel_rfl)) rfl ?_
  exact ⟨rfl, (((Below.refl _ w).alloc (Nat.le_refl _) _).alloc (by simp) _).alloc (by simp; omega) _⟩
theorem toPairs (w : World) (B : Nat) (A : Option Addr) (n c : Nat) (ps : List (Int × Int)) (hi : Pairs w B A n ps) (hB : B ≤ w.heap.size) (hn : n ≤ 1048576) :
    Calls Tryd.prog 28 #[.slice A n c] w fun e w' => e = .returned (.slice (some ⟨w.heap.size, 0, none⟩) n n) ∧ PairRow w' w.heap.size ps ∧ Below w.heap.size w w' := by
  have HX := Lib.hid hi
  have hmk := make_pairs n hn
  clear hi
  go_enter Tryd.func28, Tryd.ntmps28
  go_wp2
  clear hmk
  go_loopw [4] (fun i wr => ∃ k : Nat, k ≤ n ∧ i = .int .i64 k ∧ wr.rowIs w.heap.size 43 (n * 2) (pairCell (ps.take k)) ∧ Below w.heap.size w wr) (fun i _ => n - (intOf i).toNat)
  case atStart => exact ⟨0, Nat.zero_le _, rfl, made_pairs w n, (Below.refl _ _).alloc (Nat.le_refl _) _⟩
  case round =>
    obtain ⟨k, hk, rfl, hrow, hbel⟩ := hrel
    have HR := Lib.hid hrow
    have HB := Lib.hid hbel
    by_cases hlt : k < n
    · obtain ⟨b, off, x, y, rfl, hb, hat, hc1, hc2⟩ := HX.out.at k hlt
      have g1 := (hbel.cell (p := ⟨b, off + k * 2, none⟩) (by exact Nat.lt_of_lt_of_le hb hB)).trans hc1
      have g2 := (hbel.cell (p := ⟨b, off + k * 2 + 1, none⟩) (by exact Nat.lt_of_lt_of_le hb hB)).trans hc2
      have HT := Lib.hid hat
      have hlk : Hid ((ps.take k).length = k) := Lib.hid (by rw [List.length_take, HX.out.1]; omega)
      clear hat hc1 hc2 hbel hrow
      go_wp2_with fail
      refine (toPair_c wr x y).mono ?_
      rintro e w1 ⟨rfl, hb1⟩
      have hrow1 := World.rowIs.of_block HR.out (hb1.block _ (World.rowIs.lt HR.out))
      have q1 : w1.cell? ⟨w.heap.size, k * 2, none⟩ = some (.int .i64 0) := by rw [World.rowIs.cell hrow1 (by omega), pairCell_none (by rw [hlk.out]; omega)]
      have q2 : w1.cell? ⟨w.heap.size, k * 2 + 1, none⟩ = some (.int .i64 0) := by rw [World.rowIs.cell hrow1 (by omega), pairCell_none (by rw [hlk.out]; omega)]
      have q3 := World.rowIs.frozen hrow1 (k * 2)
      have q4 := World.rowIs.frozen hrow1 (k * 2 + 1)
      have HR1 := Lib.hid hrow1
      have HB1 := Lib.hid (HB.out.trans (hb1.mono HB.out.size))
      clear hrow1 hb1 g1 g2
      go_wp2
      go_roundw
      case rel =>
        refine ⟨k + 1, by omega, by go_num, ?_, (HB1.out.setCell (Nat.le_refl _) _).setCell (Nat.le_refl _) _⟩
        rw [ptake_at HT.out]
        exact (World.rowIs.set (World.rowIs.set HR1.out (k * 2) (.int .i64 x)) (k * 2 + 1) (.int .i64 y)).congr (fun j _ => pairCell_snoc hlk.out (x, y) j)
      case measure => simp [intOf]; omega
    · obtain rfl : k = n := by omega
      clear hrow hbel
      go_wp2
      go_ret
      refine ⟨rfl, ?_, HB.out⟩
      have h := HR.out
      rw [ptake_all HX.out.1] at h
      unfold PairRow
      rw [HX.out.1]; exact h
end Go.Proofs.YtghekfigfjhkeabDoor.num
namespace Go.Proofs.YtghekfigfjhkeabDoor.num
open Go.RowKit Go.ChangeShapes Go.WideShapes Go.Deep Go.Joins

section
variable {H : Type} {enc : TypeId × Value → H} {W : World}
set_option maxRecDepth 20000 in
theorem open_pairs {b0 : Nat} {v : Value} {d : DataW H} {p : List MemPlace} (hv : Value.okWide Tryd.prog W .any b0 29 v) (h : DataW.Trod enc Tryd.prog W 0 (fun _ => true) true 29 v d p) :
    ∃ A n c ps, v = .slice A n c ∧ n ≤ 9223372036854775807 ∧ Pairs W W.heap.size A n ps := by
  obtain ⟨A, n, c, rfl⟩ := okWide_slice Tryd.underlying29 hv
  obtain ⟨fuel, hf⟩ := h
  rcases open_slice_pairs Tryd.underlying29 Tryd.underlying72 (by kernel_rfl) rfl rfl (by kernel_rfl) (by kernel_rfl) hf with ⟨hc, _⟩ | ⟨a, len, cap, m, k, V0, V1, D0, D1, P0, P1, hc, _, hl, hm, hmm, _, hx⟩
  · have hs : Value.slice A n c = .slice none 0 0 := by simpa [Value.cells] using hc
    injection hs with h1 h2 h3
    subst h1 h2 h3
    exact ⟨none, 0, 0, [], rfl, by omega, rfl, fun k p hk => by simp at hk⟩
  · have hs : Value.slice A n c = .slice (some a) len cap := by simpa [Value.cells] using hc
    injection hs with h1 h2 h3
    subst h1 h2 h3
    have hmc : m = c := by simpa using hmm
    obtain ⟨ps, hlen, hp⟩ := list_of (n := n) (p := fun i (t : Int × Int) => ∃ b off : Nat, some a = some ⟨b, off, none⟩ ∧ b < W.heap.size ∧ W.cell? ⟨b, off + i * 2, none⟩ = some (.int .i64 t.1) ∧ W.cell? ⟨b, off + i * 2 + 1, none⟩ = some (.int .i64 t.2)) (fun i hi => by
      obtain ⟨g0, g1, t0, t1⟩ := hx i (by omega)
      obtain ⟨gz, _, _, _⟩ := hx 0 (by omega)
      obtain ⟨x, hx0, _, _⟩ := DataW.trod_int Tryd.underlying3 t0
      obtain ⟨y, hy0, _, _⟩ := DataW.trod_int Tryd.underlying3 t1
      have hx' : V0 i = .int .i64 x := by simpa using hx0
      have hy' : V1 i = .int .i64 y := by simpa using hy0
      obtain ⟨b, off, rfl, hb, q0⟩ := add_flat gz g0
      obtain ⟨b', off', he, hb', q1⟩ := add_flat gz g1
      injection he with e1 e2
      subst e1 e2
      exact ⟨(x, y), b, off, rfl, hb, q0.trans (by rw [hx']), q1.trans (by rw [hy'])⟩)
    refine ⟨some a, n, c, ps, rfl, by unfold maxLen at hm; omega, hlen, fun i t hi => ?_⟩
    have hlt : i < ps.length := by
      rcases Nat.lt_or_ge i ps.length with h' | h'
      · exact h'
      · rw [List.getElem?_eq_none h'] at hi; cases hi
    rw [List.getElem?_eq_getElem hlt] at hi
    cases hi
    exact hp i hlt
end
end Go.Proofs.YtghekfigfjhkeabDoor.num
namespace Go.Proofs.YtghekfigfjhkeabDoor.num
set_option linter.unusedVariables false

/-- A way down along the pairs. -/
inductive Reach (ps : List (Int × Int)) : Int → Int → Prop
  | one {a b : Int} (h : (a, b) ∈ ps) : Reach ps a b
  | more {a b c : Int} (h : (a, b) ∈ ps) (t : Reach ps b c) : Reach ps a c
theorem Reach.trans {ps : List (Int × Int)} {a b c : Int} (h : Reach ps a b) (h' : Reach ps b c) : Reach ps a c := by
  induction h with
  | one h => exact .more h h'
  | more h _ ih => exact .more h (ih h')
theorem Reach.mono {ps qs : List (Int × Int)} (hs : ∀ p, p ∈ ps → p ∈ qs) {a b : Int} (h : Reach ps a b) : Reach qs a b := by
  induction h with
  | one h => exact .one (hs _ h)
  | more h _ ih => exact .more (hs _ h) ih
theorem Reach.nil {a b : Int} (h : Reach [] a b) : False := by
  cases h with
  | one h => cases h
  | more h _ => cases h
theorem Reach.snoc {ps : List (Int × Int)} {p : Int × Int} {a v : Int} :
    Reach (ps ++ [p]) a v ↔ Reach ps a v ∨ ((a = p.1 ∨ Reach ps a p.1) ∧ (v = p.2 ∨ Reach ps p.2 v)) := by
  have hm : ∀ q, q ∈ ps → q ∈ ps ++ [p] := fun q hq => List.mem_append_left _ hq
  have hp : Reach (ps ++ [p]) p.1 p.2 := .one (List.mem_append_right _ (by simp))
  constructor
  · intro h
    induction h with
    | one h =>
      rcases List.mem_append.1 h with h | h
      · exact .inl (.one h)
      · obtain rfl := List.mem_singleton.1 h
        exact .inr ⟨.inl rfl, .inl rfl⟩
    | more h _ ih =>
      rcases List.mem_append.1 h with h | h
      · rcases ih with ih | ⟨ih1, ih2⟩
        · exact .inl (.more h ih)
        · refine .inr ⟨.inr ?_, ih2⟩
          rcases ih1 with rfl | ih1
          · exact .one h
          · exact .more h ih1
      · obtain rfl := List.mem_singleton.1 h
        rcases ih with ih | ⟨_, ih2⟩
        · exact .inr ⟨.inl rfl, .inr ih⟩
        · exact .inr ⟨.inl rfl, ih2⟩
  · rintro (h | ⟨h1, h2⟩)
    · exact h.mono hm
    · have h3 : Reach (ps ++ [p]) a p.2 := by
        rcases h1 with rfl | h1
        · exact hp
        · exact (h1.mono hm).trans hp
      rcases h2 with rfl | h2
      · exact h3
      · exact h3.trans (h2.mono hm)
theorem Reach.ends {ps : List (Int × Int)} {a b : Int} (h : Reach ps a b) : (∃ y, (a, y) ∈ ps) ∧ ∃ x, (x, b) ∈ ps := by
  induction h with
  | one h => exact ⟨⟨_, h⟩, _, h⟩
  | more h _ ih => exact ⟨⟨_, h⟩, ih.2⟩
/-- The last step. -/
theorem Reach.last {ps : List (Int × Int)} {a b : Int} (h : Reach ps a b) : ∃ x, (x, b) ∈ ps ∧ (x = a ∨ Reach ps a x) := by
  induction h with
  | one h => exact ⟨_, h, .inl rfl⟩
  | more h _ ih =>
    obtain ⟨x, hx, hr⟩ := ih
    refine ⟨x, hx, .inr ?_⟩
    rcases hr with rfl | hr
    · exact .one h
    · exact .more h hr

/-- Reach, reckoned. -/
def stepR (R : Int → Int → Bool) (p : Int × Int) : Int → Int → Bool := fun a v => R a v || ((a == p.1 || R a p.1) && (v == p.2 || R p.2 v))
def rb (ps : List (Int × Int)) : Int → Int → Bool := ps.foldl stepR (fun _ _ => false)
theorem rb_nil (a b : Int) : rb [] a b = false := rfl
theorem rb_snoc (ps : List (Int × Int)) (p : Int × Int) (a v : Int) : rb (ps ++ [p]) a v = (rb ps a v || ((a == p.1 || rb ps a p.1) && (v == p.2 || rb ps p.2 v))) := by
  unfold rb
  rw [List.foldl_append]
  rfl
theorem list_snoc_ind {α : Type} {P : List α → Prop} (h0 : P []) (hs : ∀ l a, P l → P (l ++ [a])) : ∀ l, P l := by
  intro l
  rw [← List.reverse_reverse l]
  induction l.reverse with
  | nil => exact h0
  | cons a r ih => rw [List.reverse_cons]; exact hs _ _ ih
theorem rb_iff (ps : List (Int × Int)) : ∀ a b, rb ps a b = true ↔ Reach ps a b := by
  induction ps using list_snoc_ind with
  | h0 => exact fun a b => ⟨fun h => by simp [rb_nil] at h, fun h => h.nil.elim⟩
  | hs l p ih =>
    intro a b
    rw [rb_snoc, Reach.snoc]
    simp [ih]
theorem rb_false {ps : List (Int × Int)} {a b : Int} (h : ¬ Reach ps a b) : rb ps a b = false := by
  cases e : rb ps a b
  · rfl
  · exact (h ((rb_iff _ _ _).1 e)).elim

def InR (v : Int) : Prop := 0 ≤ v ∧ v ≤ 9
/-- Values in range, no circle. -/
structure Good (ps : List (Int × Int)) : Prop where
  rng : ∀ p, p ∈ ps → InR p.1 ∧ InR p.2
  acy : ∀ v, ¬ Reach ps v v
theorem Good.nil : Good [] := ⟨fun p h => by simp at h, fun v h => h.nil⟩
theorem Good.rb_self {ps : List (Int × Int)} (h : Good ps) (v : Int) : rb ps v v = false := rb_false (h.acy v)
theorem reach_rng {ps : List (Int × Int)} (h : ∀ p, p ∈ ps → InR p.1 ∧ InR p.2) {a b : Int} (r : Reach ps a b) : InR a ∧ InR b := by
  obtain ⟨⟨y, hy⟩, x, hx⟩ := r.ends
  exact ⟨(h _ hy).1, (h _ hx).2⟩
theorem good_snoc {ps : List (Int × Int)} {p : Int × Int} : Good (ps ++ [p]) ↔ Good ps ∧ InR p.1 ∧ InR p.2 ∧ p.1 ≠ p.2 ∧ rb ps p.2 p.1 = false := by
  constructor
  · intro h
    refine ⟨⟨fun q hq => h.rng q (List.mem_append_left _ hq), fun v r => h.acy v (Reach.snoc.2 (.inl r))⟩, (h.rng p (by simp)).1, (h.rng p (by simp)).2, fun e => ?_, rb_false fun r => ?_⟩
    · exact h.acy p.1 (Reach.snoc.2 (.inr ⟨.inl rfl, .inl e⟩))
    · exact h.acy p.1 (Reach.snoc.2 (.inr ⟨.inl rfl, .inr r⟩))
  · rintro ⟨h, h1, h2, hne, hr⟩
    refine ⟨fun q hq => ?_, fun v r => ?_⟩
    · rcases List.mem_append.1 hq with hq | hq
      · exact h.rng q hq
      · obtain rfl := List.mem_singleton.1 hq
        exact ⟨h1, h2⟩
    · have hn : ¬ Reach ps p.2 p.1 := fun r => by rw [(rb_iff _ _ _).2 r] at hr; cases hr
      rcases Reach.snoc.1 r with r | ⟨r1, r2⟩
      · exact h.acy v r
      · rcases r1 with rfl | r1
        · rcases r2 with e | r2
          · exact hne e
          · exact hn r2
        · rcases r2 with rfl | r2
          · exact hn r1
          · exact hn (r2.trans r1)
theorem good_take {ps : List (Int × Int)} (h : Good ps) (k : Nat) : Good (ps.take k) :=
  ⟨fun p hp => h.rng p (List.mem_of_mem_take hp), fun v r => h.acy v (r.mono fun q hq => List.mem_of_mem_take hq)⟩

/-! ### the ten values -/
def vals : List Int := (List.range 10).map fun k : Nat => (k : Int)
theorem mem_vals {v : Int} : v ∈ vals ↔ InR v := by
  unfold vals InR
  rw [List.mem_map]
  constructor
  · rintro ⟨k, hk, rfl⟩
    have := List.mem_range.1 hk
    omega
  · rintro ⟨h1, h2⟩
    exact ⟨v.toNat, List.mem_range.2 (by omega), Int.toNat_of_nonneg h1⟩
theorem filter_lt {α : Type} {p q : α → Bool} : ∀ (l : List α), (∀ x, x ∈ l → p x = true → q x = true) → (∃ x, x ∈ l ∧ q x = true ∧ p x = false) → (l.filter p).length < (l.filter q).length
  | [], _, h => by obtain ⟨x, hx, _⟩ := h; cases hx
  | a :: r, h1, h2 => by
    have hle : ∀ (l : List α), (∀ x, x ∈ l → p x = true → q x = true) → (l.filter p).length ≤ (l.filter q).length := by
      intro l
      induction l with
      | nil => intro _; exact Nat.le_refl _
      | cons b s ih =>
        intro h
        have := ih fun x hx => h x (List.mem_cons_of_mem _ hx)
        cases hp : p b
        · cases hq : q b <;> simp [hp, hq] <;> omega
        · simp [hp, h b (by simp) hp]; omega
    obtain ⟨x, hx, hq, hp⟩ := h2
    rcases List.mem_cons.1 hx with rfl | hx
    · have := hle r fun y hy => h1 y (List.mem_cons_of_mem _ hy)
      simp [hp, hq]
      omega
    · have ih := filter_lt r (fun y hy => h1 y (List.mem_cons_of_mem _ hy)) ⟨x, hx, hq, hp⟩
      cases hpa : p a
      · cases hqa : q a <;> simp [hpa, hqa] <;> omega
      · simp [hpa, h1 a (by simp) hpa]; omega
/-- How many stand above. -/
def upN (ps : List (Int × Int)) (v : Int) : Nat := (vals.filter fun a => rb ps a v).length
theorem upN_le (ps : List (Int × Int)) (v : Int) : upN ps v ≤ 10 := by
  have := List.length_filter_le (fun a => rb ps a v) vals
  have h : vals.length = 10 := rfl
  unfold upN; omega
theorem upN_lt {ps : List (Int × Int)} (h : Good ps) {a v : Int} (r : Reach ps a v) : upN ps a < upN ps v := by
  refine filter_lt vals (fun x _ hx => (rb_iff _ _ _).2 (((rb_iff _ _ _).1 hx).trans r)) ⟨a, mem_vals.2 (reach_rng h.rng r).1, (rb_iff _ _ _).2 r, h.rb_self a⟩

/-! ### heights -/
/-- The longest way to v, of at most k steps. -/
def hgt (ps : List (Int × Int)) : Nat → Int → Nat
  | 0, _ => 0
  | k + 1, v => ps.foldl (fun n p => if p.2 = v then max n (hgt ps k p.1 + 1) else n) 0
/-- .. over the pairs of a list. -/
def hstep (ps : List (Int × Int)) (k : Nat) (v : Int) (l : List (Int × Int)) : Nat := l.foldl (fun n p => if p.2 = v then max n (hgt ps k p.1 + 1) else n) 0
theorem hgt_succ (ps : List (Int × Int)) (k : Nat) (v : Int) : hgt ps (k + 1) v = hstep ps k v ps := rfl
theorem hstep_nil (ps : List (Int × Int)) (k : Nat) (v : Int) : hstep ps k v [] = 0 := rfl
theorem hstep_snoc (ps : List (Int × Int)) (k : Nat) (v : Int) (l : List (Int × Int)) (p : Int × Int) : hstep ps k v (l ++ [p]) = if p.2 = v then max (hstep ps k v l) (hgt ps k p.1 + 1) else hstep ps k v l := by
  unfold hstep
  rw [List.foldl_append]
  rfl
theorem hstep_le {ps : List (Int × Int)} {k : Nat} (v : Int) (l : List (Int × Int)) {m : Nat} (h : ∀ p, p ∈ l → p.2 = v → hgt ps k p.1 + 1 ≤ m) : hstep ps k v l ≤ m := by
  induction l using list_snoc_ind with
  | h0 => exact Nat.zero_le _
  | hs l p ih =>
    rw [hstep_snoc]
    have := ih fun q hq => h q (List.mem_append_left _ hq)
    split
    · exact Nat.max_le.2 ⟨this, h p (by simp) (by assumption)⟩
    · exact this
theorem hstep_ge {ps : List (Int × Int)} {k : Nat} (v : Int) (l : List (Int × Int)) (p : Int × Int) (hp : p ∈ l) (hv : p.2 = v) : hgt ps k p.1 + 1 ≤ hstep ps k v l := by
  induction l using list_snoc_ind with
  | h0 => simp at hp
  | hs l q ih =>
    rw [hstep_snoc]
    rcases List.mem_append.1 hp with hp | hp
    · have := ih hp
      split
      · exact Nat.le_trans this (Nat.le_max_left _ _)
      · exact this
    · obtain rfl := List.mem_singleton.1 hp
      rw [if_pos hv]
      exact Nat.le_max_right _ _
theorem hgt_le (ps : List (Int × Int)) : ∀ (k : Nat) (v : Int), hgt ps k v ≤ k
  | 0, _ => Nat.le_refl _
  | k + 1, v => by
    rw [hgt_succ]
    exact hstep_le v ps fun p _ _ => by have := hgt_le ps k p.1; omega
/-- Enough steps are enough. -/
theorem hgt_enough {ps : List (Int × Int)} (h : Good ps) : ∀ (k : Nat) (v : Int), upN ps v < k → hgt ps (k + 1) v = hgt ps k v
  | 0, _, hk => by omega
  | k + 1, v, hk => by
    have hl : ∀ l : List (Int × Int), (∀ p, p ∈ l → p ∈ ps) → hstep ps (k + 1) v l = hstep ps k v l := by
      intro l
      induction l using list_snoc_ind with
      | h0 => intro _; rfl
      | hs l p ih =>
        intro hm
        rw [hstep_snoc, hstep_snoc, ih fun q hq => hm q (List.mem_append_left _ hq)]
        split
        · rename_i e
          have hr : Reach ps p.1 v := .one (by rw [← e]; exact hm p (by simp))
          have := upN_lt h hr
          rw [hgt_enough h k p.1 (by omega)]
        · rfl
    rw [hgt_succ, hgt_succ ps k]
    exact hl ps fun p hp => hp
def height (ps : List (Int × Int)) (v : Int) : Nat := hgt ps 11 v
theorem hgt_eq {ps : List (Int × Int)} (h : Good ps) (k : Nat) (v : Int) (hk : upN ps v < k) (hk' : k ≤ 11) : hgt ps k v = height ps v := by
  have : ∀ d, k + d ≤ 11 → hgt ps (k + d) v = hgt ps k v := by
    intro d
    induction d with
    | zero => intro _; rfl
    | succ d ih => intro hd; rw [← Nat.add_assoc, hgt_enough h (k + d) v (by omega), ih (by omega)]
  have := this (11 - k) (by omega)
  rw [show k + (11 - k) = 11 by omega] at this
  exact this.symm
theorem height_edge {ps : List (Int × Int)} (h : Good ps) {a b : Int} (hab : (a, b) ∈ ps) : height ps a < height ps b := by
  have hr : Reach ps a b := .one hab
  have h1 := upN_lt h hr
  have h2 := upN_le ps b
  have h3 : hgt ps 10 a + 1 ≤ hgt ps 11 b := by
    show hgt ps 10 a + 1 ≤ hstep ps 10 b ps
    exact hstep_ge (k := 10) b ps (a, b) hab rfl
  rw [hgt_eq h 10 a (by omega) (by omega)] at h3
  exact h3
theorem height_reach {ps : List (Int × Int)} (h : Good ps) {a b : Int} (r : Reach ps a b) : height ps a < height ps b := by
  induction r with
  | one e => exact height_edge h e
  | more e _ ih => exact Nat.lt_trans (height_edge h e) ih

/-! ### a linear order -/
theorem length_le_of_subset {α : Type} [DecidableEq α] : ∀ (l m : List α), l.Nodup → (∀ x, x ∈ l → x ∈ m) → l.length ≤ m.length
  | [], _, _, _ => Nat.zero_le _
  | a :: r, m, hn, hs => by
    obtain ⟨h1, h2⟩ := List.nodup_cons.1 hn
    have ha := hs a (by simp)
    have := length_le_of_subset r (m.erase a) h2 fun x hx => (List.mem_erase_of_ne (fun e => h1 (by rw [← e]; exact hx))).2 (hs x (List.mem_cons_of_mem _ hx))
    have hl := List.length_erase_of_mem ha
    have hp := List.length_pos_of_mem ha
    rw [List.length_cons]
    omega
def freeB (ps : List (Int × Int)) (out : List Int) (v : Int) : Bool := !out.contains v && vals.all fun a => !rb ps a v || out.contains a
theorem freeB_iff {ps : List (Int × Int)} (h : Good ps) {out : List Int} {v : Int} : freeB ps out v = true ↔ v ∉ out ∧ ∀ a, Reach ps a v → a ∈ out := by
  unfold freeB
  simp only [Bool.and_eq_true, Bool.not_eq_true', List.all_eq_true, Bool.or_eq_true]
  constructor
  · rintro ⟨h1, h2⟩
    refine ⟨by simpa using h1, fun a r => ?_⟩
    rcases h2 a (mem_vals.2 (reach_rng h.rng r).1) with e | e
    · rw [(rb_iff _ _ _).2 r] at e; cases e
    · simpa using e
  · rintro ⟨h1, h2⟩
    refine ⟨by simpa using h1, fun a _ => ?_⟩
    cases e : rb ps a v
    · exact .inl rfl
    · exact .inr (by simpa using h2 a ((rb_iff _ _ _).1 e))
/-- What is laid down is closed upwards. -/
structure UpSet (ps : List (Int × Int)) (out : List Int) : Prop where
  nodup : out.Nodup
  rng : ∀ v, v ∈ out → InR v
  up : ∀ v a, v ∈ out → Reach ps a v → a ∈ out
theorem UpSet.nil (ps : List (Int × Int)) : UpSet ps [] := ⟨List.nodup_nil, fun v h => by simp at h, fun v a h => by simp at h⟩
theorem UpSet.snoc {ps : List (Int × Int)} (h : Good ps) {out : List Int} (u : UpSet ps out) {v : Int} (hv : InR v) (hf : freeB ps out v = true) : UpSet ps (out ++ [v]) := by
  obtain ⟨h1, h2⟩ := (freeB_iff h).1 hf
  refine ⟨?_, fun x hx => ?_, fun x a hx r => ?_⟩
  · rw [List.nodup_append]
    exact ⟨u.nodup, by simp, fun a ha b hb e => h1 (by rw [← List.mem_singleton.1 hb, ← e]; exact ha)⟩
  · rcases List.mem_append.1 hx with hx | hx
    · exact u.rng x hx
    · rw [List.mem_singleton.1 hx]; exact hv
  · rcases List.mem_append.1 hx with hx | hx
    · exact List.mem_append_left _ (u.up x a hx r)
    · rw [List.mem_singleton.1 hx] at r
      exact List.mem_append_left _ (h2 a r)
theorem UpSet.le {ps : List (Int × Int)} {out : List Int} (u : UpSet ps out) : out.length ≤ 10 :=
  length_le_of_subset out vals u.nodup fun x hx => mem_vals.2 (u.rng x hx)
/-- In an upward closed set it is enough to look at the pairs. -/
theorem freeB_pairs {ps : List (Int × Int)} (h : Good ps) {out : List Int} (u : UpSet ps out) {v : Int} : freeB ps out v = true ↔ v ∉ out ∧ ∀ p, p ∈ ps → p.2 = v → p.1 ∈ out := by
  rw [freeB_iff h]
  constructor
  · rintro ⟨h1, h2⟩
    exact ⟨h1, fun p hp e => h2 p.1 (.one (by rw [← e]; exact hp))⟩
  · rintro ⟨h1, h2⟩
    refine ⟨h1, fun a r => ?_⟩
    obtain ⟨x, hx, hr⟩ := r.last
    have := h2 (x, v) hx rfl
    rcases hr with rfl | hr
    · exact this
    · exact u.up x a this hr
theorem free_some {ps : List (Int × Int)} (h : Good ps) {out : List Int} (u : UpSet ps out) (hl : out.length < 10) : ∃ v, InR v ∧ freeB ps out v = true := by
  have h0 : ∃ v, v ∈ vals ∧ v ∉ out := by
    refine Classical.byContradiction fun hn => ?_
    have := length_le_of_subset vals out (by decide) fun x hx => Classical.byContradiction fun hx' => hn ⟨x, hx, hx'⟩
    have h10 : vals.length = 10 := rfl
    omega
  obtain ⟨v0, hv0, hn0⟩ := h0
  have key : ∀ (n : Nat) (v : Int), upN ps v ≤ n → InR v → v ∉ out → ∃ v, InR v ∧ freeB ps out v = true := by
    intro n
    induction n with
    | zero =>
      intro v hn hv ho
      refine ⟨v, hv, (freeB_iff h).2 ⟨ho, fun a r => ?_⟩⟩
      have := upN_lt h r
      omega
    | succ n ih =>
      intro v hn hv ho
      by_cases hf : freeB ps out v = true
      · exact ⟨v, hv, hf⟩
      · have : ∃ a, Reach ps a v ∧ a ∉ out := by
          refine Classical.byContradiction fun hx => hf ((freeB_iff h).2 ⟨ho, fun a r => Classical.byContradiction fun ha => hx ⟨a, r, ha⟩⟩)
        obtain ⟨a, r, ha⟩ := this
        have := upN_lt h r
        exact ih a (by omega) (reach_rng h.rng r).1 ha
  exact key _ v0 (Nat.le_refl _) (mem_vals.1 hv0) hn0
/-- v is the smallest that is free. -/
def NextV (ps : List (Int × Int)) (out : List Int) (v : Int) : Prop := InR v ∧ freeB ps out v = true ∧ ∀ u, InR u → freeB ps out u = true → v ≤ u
theorem next_some {ps : List (Int × Int)} (h : Good ps) {out : List Int} (u : UpSet ps out) (hl : out.length < 10) : ∃ v, NextV ps out v := by
  obtain ⟨v, hv, hf⟩ := free_some h u hl
  have key : ∀ (n : Nat) (v : Int), v ≤ n → InR v → freeB ps out v = true → ∃ v, NextV ps out v := by
    intro n
    induction n with
    | zero =>
      intro v hn hv hf
      exact ⟨v, hv, hf, fun x hx _ => by unfold InR at *; omega⟩
    | succ n ih =>
      intro v hn hv hf
      by_cases hx : ∃ x, InR x ∧ freeB ps out x = true ∧ x < v
      · obtain ⟨x, hx, hxf, hlt⟩ := hx
        exact ih x (by omega) hx hxf
      · exact ⟨v, hv, hf, fun x hx' hxf => Classical.byContradiction fun hlt => hx ⟨x, hx', hxf, by omega⟩⟩
  exact key v.toNat v (by unfold InR at hv; omega) hv hf
theorem NextV.one {ps : List (Int × Int)} {out : List Int} {v v' : Int} (h : NextV ps out v) (h' : NextV ps out v') : v = v' := by
  have h1 := h.2.2 v' h'.1 h'.2.1
  have h2 := h'.2.2 v h.1 h.2.1
  omega
/-- The list that stands behind k choices. -/
inductive Lin (ps : List (Int × Int)) : Nat → List Int → Prop
  | nil : Lin ps 0 []
  | snoc {k : Nat} {out : List Int} {v : Int} (h : Lin ps k out) (hv : NextV ps out v) : Lin ps (k + 1) (out ++ [v])
theorem Lin.up {ps : List (Int × Int)} (hg : Good ps) {k : Nat} {out : List Int} (h : Lin ps k out) : UpSet ps out ∧ out.length = k := by
  induction h with
  | nil => exact ⟨.nil _, rfl⟩
  | snoc _ hv ih => exact ⟨ih.1.snoc hg hv.1 hv.2.1, by simp [ih.2]⟩
theorem Lin.one {ps : List (Int × Int)} : ∀ {k : Nat} {o o' : List Int}, Lin ps k o → Lin ps k o' → o = o'
  | 0, _, _, .nil, .nil => rfl
  | _ + 1, _, _, .snoc h hv, .snoc h' hv' => by
    obtain rfl := h.one h'
    rw [hv.one hv']
theorem Lin.next {ps : List (Int × Int)} (hg : Good ps) {k : Nat} {out : List Int} (h : Lin ps k out) (hk : k < 10) : ∃ v, NextV ps out v := by
  obtain ⟨u, hl⟩ := h.up hg
  exact next_some hg u (by omega)
/-- Nobody stands behind one that is below it. -/
theorem Lin.order {ps : List (Int × Int)} (hg : Good ps) {k : Nat} {out : List Int} (h : Lin ps k out) : ∀ (i j : Nat) (x y : Int), i < j → out[i]? = some x → out[j]? = some y → x ≠ y ∧ ¬ Reach ps y x := by
  induction h with
  | nil => intro i j x y _ hx; simp at hx
  | @snoc k out v h hv ih =>
    intro i j x y hij hx hy
    have hf := (freeB_iff hg).1 hv.2.1
    have hj : j < (out ++ [v]).length := by
      rcases Nat.lt_or_ge j (out ++ [v]).length with h' | h'
      · exact h'
      · rw [List.getElem?_eq_none h'] at hy; cases hy
    have hi : i < out.length := by simp at hj; omega
    rw [List.getElem?_append_left hi] at hx
    have hxm := List.mem_of_getElem? hx
    rcases Nat.lt_or_ge j out.length with h' | h'
    · rw [List.getElem?_append_left h'] at hy
      exact ih i j x y hij hx hy
    · have hjl : j = out.length := by simp at hj; omega
      subst hjl
      rw [List.getElem?_append_right (Nat.le_refl _)] at hy
      simp at hy
      subst hy
      refine ⟨fun e => hf.1 (e ▸ hxm), fun r => hf.1 ((h.up hg).1.up x v hxm r)⟩

/-! ### the closure -/
def rowsOf (ps : List (Int × Int)) (l : List (Int × Int)) : List (Int × Int) := l.filter fun p => rb ps p.1 p.2
/-- All couples of values, in order. -/
def grid : List (Int × Int) := (List.range 100).map fun k => (((k / 10 : Nat) : Int), ((k % 10 : Nat) : Int))
/-- The closure's first part: those of the first k couples. -/
def clo (ps : List (Int × Int)) (k : Nat) : List (Int × Int) := rowsOf ps (grid.take k)
theorem grid_at {a b : Nat} (ha : a < 10) (hb : b < 10) : grid[a * 10 + b]? = some ((a : Int), (b : Int)) := by
  unfold grid
  rw [List.getElem?_map, List.getElem?_range (by omega)]
  simp only [Option.map_some]
  rw [show (a * 10 + b) / 10 = a by omega, show (a * 10 + b) % 10 = b by omega]
theorem clo_zero (ps : List (Int × Int)) : clo ps 0 = [] := rfl
theorem clo_succ (ps : List (Int × Int)) {a b : Nat} (ha : a < 10) (hb : b < 10) : clo ps (a * 10 + (b + 1)) = if rb ps a b = true then clo ps (a * 10 + b) ++ [((a : Int), (b : Int))] else clo ps (a * 10 + b) := by
  unfold clo rowsOf
  rw [← Nat.add_assoc, List.take_add_one, grid_at ha hb, List.filter_append]
  cases h : rb ps a b <;> simp [h]
theorem clo_len (ps : List (Int × Int)) (k : Nat) : (clo ps k).length ≤ 100 := by
  unfold clo rowsOf
  have h1 := List.length_filter_le (fun p : Int × Int => rb ps p.1 p.2) (grid.take k)
  have h2 : (grid.take k).length ≤ 100 := by
    rw [List.length_take]
    have : grid.length = 100 := by unfold grid; simp
    omega
  omega
theorem clo_mem {ps : List (Int × Int)} (h : Good ps) {p : Int × Int} : p ∈ clo ps 100 ↔ Reach ps p.1 p.2 := by
  have hl : grid.length = 100 := by unfold grid; simp
  unfold clo rowsOf
  rw [List.take_of_length_le (by omega), List.mem_filter, rb_iff]
  constructor
  · exact fun h => h.2
  · intro r
    refine ⟨?_, r⟩
    obtain ⟨h1, h2⟩ := reach_rng h.rng r
    unfold InR at h1 h2
    have := grid_at (a := p.1.toNat) (b := p.2.toNat) (by omega) (by omega)
    have hm := List.mem_of_getElem? this
    rw [show ((p.1.toNat : Nat) : Int) = p.1 by omega, show ((p.2.toNat : Nat) : Int) = p.2 by omega] at hm
    exact hm
end Go.Proofs.YtghekfigfjhkeabDoor.num
namespace Go.Proofs.YtghekfigfjhkeabDoor.num
open Go.RowKit

theorem bool_of (p : Prop) : ∃ b : Bool, b = true ↔ p := by
  by_cases h : p
  · exact ⟨true, by simp [h]⟩
  · exact ⟨false, by simp [h]⟩
theorem ne_len {α β : Type} {f : α → β} {l l' : List α} (h : l.length ≠ l'.length) : l.map f ≠ l'.map f := fun e => h (by simpa using congrArg List.length e)
theorem ne_dat {l l' : List It} {k : Nat} {t t' : It} (h1 : l[k]? = some t) (h2 : l'[k]? = some t') (h : t.dat ≠ t'.dat) : l.map It.dat ≠ l'.map It.dat := fun e => h (by
  have := congrArg (·[k]?) e
  simpa [h1, h2] using this)

end Go.Proofs.YtghekfigfjhkeabDoor.num
namespace Go.Proofs.YtghekfigfjhkeabDoor.num
open Go.RowKit

/-- What makes an item: three values from 0 to 9, a number from 0 to 99. -/
def IsP (d : Int × List Int) : Prop := (∀ v ∈ d.2, 0 ≤ v ∧ v ≤ 9) ∧ (0 ≤ d.1 ∧ d.1 ≤ 99) ∧ d.2.length = 3

theorem in_of (x lo hi : Int) (b : Bool) (hb : b = true ↔ lo ≤ x ∧ x ≤ hi) (w : World) :
    Calls Tryd.prog 41 #[.int .i64 x, .int .i64 lo, .int .i64 hi] w fun e w' => e = .returned (.bool b) ∧ w = w' := by
  obtain rfl : b = (decide (lo ≤ x) && decide (x ≤ hi)) := by rw [Bool.eq_iff_iff]; simpa using hb
  clear hb
  by_cases h1 : lo ≤ x
  · go_enter Tryd.func41, Tryd.ntmps41
    go_wp2
    go_ret
    exact ⟨by simp [h1], rfl⟩
  · go_enter Tryd.func41, Tryd.ntmps41
    go_wp2
    go_ret
    exact ⟨by simp; omega, rfl⟩

end Go.Proofs.YtghekfigfjhkeabDoor.num
namespace Go.Proofs.YtghekfigfjhkeabDoor.num
open Go.RowKit

/-- Every block but b, and every block from the end on, is as it was. -/
def marks (k : Nat) (n : Nat) : List Int := (List.range n).map fun j => ((k + j : Nat) : Int)
theorem marks_len (k n : Nat) : (marks k n).length = n := by simp [marks]
theorem marks_get {k n j : Nat} (h : j < n) : (marks k n).getD j 0 = ((k + j : Nat) : Int) := by
  rw [List.getD_eq_getElem?_getD]
  simp [marks, h]
/-- w' is w but for block b. -/
structure Only (b : Nat) (w w' : World) : Prop where
  os : w'.os = w.os
  tape : w'.tape = w.tape
  output : w'.output = w.output
  size : w'.heap.size = w.heap.size
  block : ∀ k, k ≠ b → w'.heap[k]? = w.heap[k]?
theorem Only.refl (b : Nat) (w : World) : Only b w w := ⟨rfl, rfl, rfl, rfl, fun _ _ => rfl⟩
theorem Only.set {b : Nat} {w w' : World} (h : Only b w w') (j : Nat) (v : Value) : Only b w (w'.setCell ⟨b, j, none⟩ v) :=
  ⟨h.os, h.tape, h.output, by simpa [World.setCell] using h.size, fun k hk => (Below.heap_setCell w' ⟨b, j, none⟩ v k hk).trans (h.block k hk)⟩
theorem Only.below {b B : Nat} {w w' : World} (h : Only b w w') (hB : B ≤ b) : Below B w w' :=
  ⟨h.os, h.tape, h.output, by rw [h.size]; exact Nat.le_refl _, fun k hk => h.block k (by omega)⟩

/-- Below bx and from S on as it was. -/
structure Mid (bx S : Nat) (w w' : World) : Prop where
  os : w'.os = w.os
  tape : w'.tape = w.tape
  output : w'.output = w.output
  size : w'.heap.size = w.heap.size
  block : ∀ k, k < bx ∨ S ≤ k → w'.heap[k]? = w.heap[k]?
theorem Mid.refl (bx S : Nat) (w : World) : Mid bx S w w := ⟨rfl, rfl, rfl, rfl, fun _ _ => rfl⟩
theorem Mid.only {bx S b : Nat} {w w' w'' : World} (h : Mid bx S w w') (g : Only b w' w'') (h1 : bx ≤ b) (h2 : b < S) : Mid bx S w w'' :=
  ⟨g.os.trans h.os, g.tape.trans h.tape, g.output.trans h.output, g.size.trans h.size, fun k hk => (g.block k (by omega)).trans (h.block k hk)⟩
theorem Mid.below {bx S : Nat} {w w' : World} (h : Mid bx S w w') : Below bx w w' :=
  ⟨h.os, h.tape, h.output, by rw [h.size]; exact Nat.le_refl _, fun k hk => h.block k (.inl hk)⟩
/-- A row of ints behind a call that marked one. -/
def Slot (w : World) (bx S : Nat) (t : It) : Prop := ∃ bk ys, t.A = some ⟨bk, 0, none⟩ ∧ bx < bk ∧ bk < S ∧ ys.length = t.n ∧ IntRow w bk ys
theorem row_len {w : World} {b n m : Nat} {t s : TypeId} {f g : Nat → Value} (h : w.rowIs b t n f) (k : w.rowIs b s m g) : n = m := by
  obtain ⟨c, h1, h2, _⟩ := h
  obtain ⟨d, k1, k2, _⟩ := k
  rw [h1] at k1
  injection k1 with k1
  injection k1 with k1
  rw [← h2, ← k2, k1]
theorem Slot.only {w w' : World} {bx S b k0 n : Nat} {t : It} {xs : List Int} (h : Slot w bx S t) (h0 : IntRow w b xs) (hl : xs.length = n) (h1 : IntRow w' b (marks k0 n)) (g : Only b w w') : Slot w' bx S t := by
  obtain ⟨bk, ys, a1, a2, a3, a4, a5⟩ := h
  by_cases e : bk = b
  · subst e
    have := row_len a5 h0
    exact ⟨bk, marks k0 n, a1, a2, a3, by rw [marks_len]; omega, h1⟩
  · exact ⟨bk, ys, a1, a2, a3, a4, World.rowIs.of_block a5 (g.block bk e)⟩
theorem Slot.set {w : World} {bx S : Nat} {t : It} (h : Slot w bx S t) (j : Nat) (v : Value) : Slot (w.setCell ⟨bx, j, none⟩ v) bx S t := by
  obtain ⟨bk, ys, a1, a2, a3, a4, a5⟩ := h
  exact ⟨bk, ys, a1, a2, a3, a4, World.rowIs.setOther a5 (by show bk ≠ bx; omega) v⟩
theorem Slot.below {w w' : World} {bx S : Nat} {t : It} (h : Slot w bx S t) (hb : Below S w w') : Slot w' bx S t := by
  obtain ⟨bk, ys, a1, a2, a3, a4, a5⟩ := h
  exact ⟨bk, ys, a1, a2, a3, a4, a5.below hb a3⟩
theorem Mid.row {w w' : World} {bx S b : Nat} {xs : List Int} (h : Mid bx S w w') (hx : IntRow w b xs) (hS : S ≤ b) : IntRow w' b xs := World.rowIs.of_block hx (h.block b (.inr hS))
/-- eqIntS, the world behind it told as 'Below'. -/
theorem eqInts_b (w : World) (B : Nat) (A A' : Option Addr) (n n' c c' : Nat) (xs ys : List Int) (hx : Ints w B A n xs) (hy : Ints w B A' n' ys) (hn : n ≤ 1048576) (b : Bool) (hb : b = true ↔ xs = ys) :
    Calls Tryd.prog 34 #[.slice A n c, .slice A' n' c'] w fun e w' => e = .returned (.bool b) ∧ Below w.heap.size w w' :=
  (eqInts w B A A' n n' c c' xs ys hx hy hn b hb).mono fun _ _ ⟨he, m, hm⟩ => ⟨he, hm ▸ below_drewN (Below.refl _ _) m⟩
end Go.Proofs.YtghekfigfjhkeabDoor.num
namespace Go.Proofs.YtghekfigfjhkeabDoor.num
open Go.RowKit

def OwnI (w : World) (B : Nat) (v : Value) (l : List Int) : Prop := w.ownsRow B 3 1 v l.length (l.map (Value.int .i64))
theorem OwnI.empty (w : World) (B : Nat) (hB : B ≤ w.heap.size) : OwnI (w.alloc (.cells #[] 3)) B (.slice (some ⟨w.heap.size, 0, none⟩) 0 0) [] :=
  World.ownsRow_made w #[] 0 hB (Nat.zero_le _) (by simp)
theorem OwnI.ints {w : World} {B : Nat} {v : Value} {l : List Int} (h : OwnI w B v l) : ∃ A n c, v = .slice A n c ∧ Ints w w.heap.size A n l := by
  have h0 := h
  rcases h.2 with ⟨rfl, hl⟩ | ⟨g, cap, cur, rfl, _, hg, _⟩
  · obtain rfl : l = [] := List.eq_nil_of_length_eq_zero hl
    exact ⟨none, 0, 0, rfl, rfl, fun k hk => by omega⟩
  · refine ⟨some ⟨g, 0, none⟩, l.length, cap, rfl, rfl, fun k hk => ⟨g, 0, rfl, lt_of_block hg, ?_⟩⟩
    rw [Nat.zero_add, World.ownsRow.cellAt h0 k (by omega), List.getElem?_map, List.getD_eq_getElem?_getD, List.getElem?_eq_getElem hk]; rfl
/-- append of ints that the statement itself lists. -/
theorem wp_appI {ops : Array Oper} {rest : List Oper} {o : Oper} {a : Act} {Q : Exit → Act → World → Prop} (w : World) (hgd : o.guard = none) (s x : Operand)
    (ho : o.op = .call { callee := .builtin .append, args := #[s, x], argTypes := #[28, 28] })
    (B : Nat) (v : Value) (l : List Int) (hs : a.eval s = v) (hown : OwnI w B v l) (cs : Array Value) (new : List Int) (hcs : cs = (new.map (Value.int .i64)).toArray) (n c : Nat) (hn : n = new.length)
    (hx : a.eval x = .slice (some ⟨w.heap.size, 0, none⟩) n c) (hlen : (l.length + new.length) * 8 ≤ 140737488355328) (hB : B ≤ w.heap.size)
    (h : ∀ v' w', OwnI w' B v' (l ++ new) → Below B w w' → wpList Tryd.prog ops Q rest (a.put o.dst v') w') :
    wpList Tryd.prog ops Q (o :: rest) a (w.alloc (.cells cs 3)) := by
  obtain ⟨i0, hi, hz0, hz1, hz2⟩ := info_parts info_int
  subst hcs hn
  refine wpList_append_own _ hgd s x 28 ho B 3 i0 (.int .i64 0) 1 8 Tryd.underlying28 hi hz0 hz1 hz2 rfl (by decide) v l.length (l.map (Value.int .i64)) hs (World.ownsRow.alloc hown _) ⟨w.heap.size, 0, none⟩ new.length c (new.map (Value.int .i64)) hx (by simp) ?_ ?_ (by unfold maxLen; omega) (by omega) (by simp; omega) ?_
  · intro j u hj
    have e : (⟨w.heap.size, 0, none⟩ : Addr).add j = ⟨w.heap.size, j, none⟩ := by unfold Addr.add; split <;> simp_all
    rw [e, World.cell?_alloc_at _ _ _ _ rfl]
    simpa using hj
  · intro u hu
    obtain ⟨b, _, rfl⟩ := List.mem_map.1 hu
    rfl
  · intro v' w' hown' hg _
    refine h v' w' ?_ (((Below.refl B w).alloc hB _).grown hg (by simp; omega) (fun k hk => ?_))
    · have e : (l ++ new).length = l.length + new.length := by simp
      unfold OwnI
      rw [e, List.map_append]
      exact hown'
    · exact (World.ownsRow.lt hown k hk).1

def idL (its : List It) : List Int := its.map It.id
theorem idL_dat {its its' : List It} (h : its.map It.dat = its'.map It.dat) : idL its = idL its' := by
  have := congrArg (List.map Prod.fst) h
  simpa [idL, It.dat, Function.comp_def] using this
theorem idL_take {its : List It} {k : Nat} {t : It} (h : its[k]? = some t) : idL (its.take (k + 1)) = idL (its.take k) ++ [t.id] := by rw [take_at h]; simp [idL]
theorem idL_len (its : List It) : (idL its).length = its.length := by simp [idL]
theorem idL_get {its : List It} {k : Nat} {t : It} (h : its[k]? = some t) : (idL its).getD k 0 = t.id := by simp [idL, List.getD_eq_getElem?_getD, h]

end Go.Proofs.YtghekfigfjhkeabDoor.num
namespace Go.Proofs.YtghekfigfjhkeabDoor.num
open Go.RowKit
set_option linter.unusedVariables false

theorem Ints.at {w : World} {B : Nat} {A : Option Addr} {n : Nat} {xs : List Int} (h : Ints w B A n xs) (k : Nat) (hk : k < n) :
    ∃ (b off : Nat) (x : Int), A = some ⟨b, off, none⟩ ∧ b < B ∧ xs[k]? = some x ∧ w.cell? ⟨b, off + k, none⟩ = some (.int .i64 x) := by
  obtain ⟨b, off, h1, h2, h3⟩ := h.2 k hk
  have hl := h.1
  refine ⟨b, off, xs[k]'(by omega), h1, h2, List.getElem?_eq_getElem _, ?_⟩
  rw [h3, List.getD_eq_getElem?_getD, List.getElem?_eq_getElem (by omega)]
  rfl

/-- l2Has. -/
theorem has_of (w : World) (B : Nat) (A : Option Addr) (n c : Nat) (xs : List Int) (hi : Ints w B A n xs) (hn : n ≤ 2000000) (x : Int) (b : Bool) (hb : b = true ↔ x ∈ xs) :
    Calls Tryd.prog 65 #[.slice A n c, .int .i64 x] w fun e w' => e = .returned (.bool b) ∧ w = w' := by
  have HX := Lib.hid hi
  have HB := Lib.hid hb
  clear hi hb
  go_enter Tryd.func65, Tryd.ntmps65
  go_wp2
  go_loopw [5] (fun i wr => ∃ k : Nat, k ≤ n ∧ i = .int .i64 k ∧ (∀ y ∈ xs.take k, y ≠ x) ∧ wr = w) (fun i _ => n - (intOf i).toNat)
  case atStart => exact ⟨0, Nat.zero_le _, rfl, by simp, rfl⟩
  case round =>
    obtain ⟨k, hk, rfl, hne, rfl⟩ := hrel
    have HN := Lib.hid hne
    clear hne
    by_cases hlt : k < n
    · obtain ⟨b1, off, y, rfl, hb1, hat, hc⟩ := HX.out.at k hlt
      have HT := Lib.hid hat
      clear hat
      by_cases he : y = x
      · subst he
        obtain rfl : b = true := HB.out.2 (List.mem_of_getElem? HT.out)
        go_wp2
        go_ret
        exact ⟨rfl, rfl⟩
      · have he1 : (y == x) = false := by simpa using he
        have HE := Lib.hid he
        clear he
        go_wp2
        go_roundw
        case rel =>
          refine ⟨k + 1, by omega, by go_num, ?_, by first | rfl | trivial⟩
          rw [ptake_at HT.out]
          intro z hz
          rcases List.mem_append.1 hz with hz | hz
          · exact HN.out z hz
          · rw [List.mem_singleton.1 hz]; exact HE.out
        case measure => simp [intOf]; omega
    · obtain rfl : k = n := by omega
      obtain rfl : b = false := by
        cases b
        · rfl
        · have h := HN.out
          rw [ptake_all HX.out.1] at h
          exact absurd rfl (h x (HB.out.1 rfl))
      go_wp2
      go_ret
      exact ⟨rfl, rfl⟩

def ValidP (ps : List (Int × Int)) : Prop := (∀ p, p ∈ ps → InR p.1 ∧ InR p.2) ∧ ps.length ≤ 8
/-- l3Valid. -/
theorem valid_of (w : World) (B : Nat) (A : Option Addr) (n c : Nat) (ps : List (Int × Int)) (hi : Pairs w B A n ps) (hn : n ≤ 1048576) (b : Bool) (hb : b = true ↔ ValidP ps) :
    Calls Tryd.prog 51 #[.slice A n c] w fun e w' => e = .returned (.bool b) ∧ w = w' := by
  have HX := Lib.hid hi
  have HB := Lib.hid hb
  clear hi hb
  go_enter Tryd.func51, Tryd.ntmps51
  go_wp2
  go_loopw [3] (fun i wr => ∃ k : Nat, k ≤ n ∧ i = .int .i64 k ∧ (∀ p ∈ ps.take k, InR p.1 ∧ InR p.2) ∧ wr = w) (fun i _ => n - (intOf i).toNat)
  case atStart => exact ⟨0, Nat.zero_le _, rfl, by simp, rfl⟩
  case round =>
    obtain ⟨k, hk, rfl, hne, rfl⟩ := hrel
    have HN := Lib.hid hne
    clear hne
    by_cases hlt : k < n
    · obtain ⟨b1, off, x, y, rfl, hb1, hat, hc1, hc2⟩ := HX.out.at k hlt
      have HT := Lib.hid hat
      obtain ⟨q1, hq1⟩ := bool_of (0 ≤ x ∧ x ≤ 9)
      obtain ⟨q2, hq2⟩ := bool_of (0 ≤ y ∧ y ≤ 9)
      have HQ1 := Lib.hid hq1
      have HQ2 := Lib.hid hq2
      clear hat hq1 hq2
      have hbad : (q1 && q2) = false → b = false := fun hq => by
        cases b
        · rfl
        · have h := (HB.out.1 rfl).1 (x, y) (List.mem_of_getElem? HT.out)
          rw [HQ1.out.2 h.1, HQ2.out.2 h.2] at hq
          cases hq
      have HBad := Lib.hid hbad
      clear hbad
      go_wp2_with fail
      refine (in_of x 0 9 q1 HQ1.out _).mono ?_
      rintro e w1 ⟨rfl, rfl⟩
      cases q1
      · obtain rfl : b = false := HBad.out rfl
        go_wp2
        go_ret
        exact ⟨rfl, rfl⟩
      · go_wp2_with fail
        refine (in_of y 0 9 q2 HQ2.out _).mono ?_
        rintro e w1 ⟨rfl, rfl⟩
        cases q2
        · obtain rfl : b = false := HBad.out rfl
          go_wp2
          go_ret
          exact ⟨rfl, rfl⟩
        · go_wp2
          go_roundw
          case rel =>
            refine ⟨k + 1, by omega, by go_num, ?_, by first | rfl | trivial⟩
            rw [ptake_at HT.out]
            intro z hz
            rcases List.mem_append.1 hz with hz | hz
            · exact HN.out z hz
            · rw [List.mem_singleton.1 hz]; exact ⟨HQ1.out.1 (by first | rfl | trivial), HQ2.out.1 (by first | rfl | trivial)⟩
          case measure => simp [intOf]; omega
    · obtain rfl : k = n := by omega
      have h := HN.out
      rw [ptake_all HX.out.1] at h
      have HH := Lib.hid h
      clear h
      by_cases h8 : (k : Int) ≤ 8
      · obtain rfl : b = true := HB.out.2 ⟨HH.out, by rw [HX.out.1]; omega⟩
        go_wp2
        go_ret
        exact ⟨by simp, rfl⟩
      · obtain rfl : b = false := by
          cases b
          · rfl
          · have := (HB.out.1 rfl).2
            rw [HX.out.1] at this
            omega
        go_wp2
        go_ret
        exact ⟨by simp, rfl⟩

/-! ### a search -/
/-- What has been seen from a on: those before place i wholly looked at, the one at place i as far as the k-th pair. -/
structure Seen (ps : List (Int × Int)) (a b : Int) (S : List Int) (i k : Nat) : Prop where
  nodup : S.Nodup
  first : a ∈ S
  src : ∀ s, s ∈ S → s = a ∨ Reach ps a s
  sub : ∀ s, s ∈ S → s = a ∨ s ∈ ps.map Prod.snd
  done : ∀ (j : Nat) (s : Int), j < i → S[j]? = some s → ∀ p, p ∈ ps → p.1 = s → p.2 ≠ b ∧ p.2 ∈ S
  part : ∀ s : Int, S[i]? = some s → ∀ p, p ∈ ps.take k → p.1 = s → p.2 ≠ b ∧ p.2 ∈ S
theorem Seen.start (ps : List (Int × Int)) (a b : Int) : Seen ps a b [a] 0 0 :=
  ⟨by simp, by simp, fun s hs => .inl (by simpa using hs), fun s hs => .inl (by simpa using hs), fun j s hj => by omega, fun s _ p hp => by simp at hp⟩
theorem Seen.len {ps : List (Int × Int)} {a b : Int} {S : List Int} {i k : Nat} (h : Seen ps a b S i k) : S.length ≤ ps.length + 1 := by
  have := length_le_of_subset S (a :: ps.map Prod.snd) h.nodup fun s hs => by
    rcases h.sub s hs with rfl | hs
    · simp
    · exact List.mem_cons_of_mem _ hs
  simpa using this
theorem Seen.skip {ps : List (Int × Int)} {a b s : Int} {S : List Int} {i k : Nat} {p : Int × Int} (h : Seen ps a b S i k) (hs : S[i]? = some s) (hp : ps[k]? = some p) (hne : p.1 ≠ s) : Seen ps a b S i (k + 1) :=
  ⟨h.nodup, h.first, h.src, h.sub, h.done, fun s' hs' q hq e => by
    rw [ptake_at hp] at hq
    rcases List.mem_append.1 hq with hq | hq
    · exact h.part s' hs' q hq e
    · obtain rfl := List.mem_singleton.1 hq
      rw [hs] at hs'
      exact absurd (e.trans (Option.some.inj hs').symm) hne⟩
theorem Seen.hit {ps : List (Int × Int)} {a b : Int} {S : List Int} {i k : Nat} {p : Int × Int} (h : Seen ps a b S i k) (hs : S[i]? = some p.1) (hp : ps[k]? = some p) (hb : p.2 = b) : Reach ps a b := by
  have hm : (p.1, b) ∈ ps := by rw [← hb]; exact List.mem_of_getElem? hp
  rcases h.src _ (List.mem_of_getElem? hs) with e | r
  · exact .one (by rw [← e]; exact hm)
  · exact r.trans (.one hm)
theorem Seen.old {ps : List (Int × Int)} {a b : Int} {S : List Int} {i k : Nat} {p : Int × Int} (h : Seen ps a b S i k) (hs : S[i]? = some p.1) (hp : ps[k]? = some p) (hb : p.2 ≠ b) (hm : p.2 ∈ S) : Seen ps a b S i (k + 1) :=
  ⟨h.nodup, h.first, h.src, h.sub, h.done, fun s' hs' q hq e => by
    rw [ptake_at hp] at hq
    rcases List.mem_append.1 hq with hq | hq
    · exact h.part s' hs' q hq e
    · obtain rfl := List.mem_singleton.1 hq
      exact ⟨hb, hm⟩⟩
theorem Seen.more {ps : List (Int × Int)} {a b : Int} {S : List Int} {i k : Nat} {p : Int × Int} (h : Seen ps a b S i k) (hs : S[i]? = some p.1) (hp : ps[k]? = some p) (hb : p.2 ≠ b) (hm : p.2 ∉ S) : Seen ps a b (S ++ [p.2]) i (k + 1) := by
  have hpm := List.mem_of_getElem? hp
  have hi : i < S.length := by
    rcases Nat.lt_or_ge i S.length with h' | h'
    · exact h'
    · rw [List.getElem?_eq_none h'] at hs; cases hs
  refine ⟨?_, List.mem_append_left _ h.first, fun s hs' => ?_, fun s hs' => ?_, fun j s hj hs' q hq e => ?_, fun s' hs' q hq e => ?_⟩
  · rw [List.nodup_append]
    exact ⟨h.nodup, by simp, fun x hx y hy e => hm (by rw [← List.mem_singleton.1 hy, ← e]; exact hx)⟩
  · rcases List.mem_append.1 hs' with hs' | hs'
    · exact h.src s hs'
    · rw [List.mem_singleton.1 hs']
      rcases h.src _ (List.mem_of_getElem? hs) with e | r
      · exact .inr (.one (by rw [← e]; exact hpm))
      · exact .inr (r.trans (.one hpm))
  · rcases List.mem_append.1 hs' with hs' | hs'
    · exact h.sub s hs'
    · rw [List.mem_singleton.1 hs']
      exact .inr (List.mem_map.2 ⟨p, hpm, rfl⟩)
  · rw [List.getElem?_append_left (by omega)] at hs'
    obtain ⟨h1, h2⟩ := h.done j s hj hs' q hq e
    exact ⟨h1, List.mem_append_left _ h2⟩
  · rw [List.getElem?_append_left hi] at hs'
    rw [ptake_at hp] at hq
    rcases List.mem_append.1 hq with hq | hq
    · obtain ⟨h1, h2⟩ := h.part s' hs' q hq e
      exact ⟨h1, List.mem_append_left _ h2⟩
    · obtain rfl := List.mem_singleton.1 hq
      exact ⟨hb, List.mem_append_right _ (by simp)⟩
theorem Seen.next {ps : List (Int × Int)} {a b : Int} {S : List Int} {i k : Nat} (h : Seen ps a b S i k) (hk : k = ps.length) : Seen ps a b S (i + 1) 0 :=
  ⟨h.nodup, h.first, h.src, h.sub, fun j s hj hs q hq e => by
    rcases Nat.lt_or_ge j i with h' | h'
    · exact h.done j s h' hs q hq e
    · obtain rfl : j = i := by omega
      exact h.part s hs q (by rw [hk, List.take_length]; exact hq) e, fun s _ q hq => by simp at hq⟩
theorem Seen.fin {ps : List (Int × Int)} {a b : Int} {S : List Int} {i k : Nat} (h : Seen ps a b S i k) (hi : S.length ≤ i) : ¬ Reach ps a b := by
  have step : ∀ s, s ∈ S → ∀ p, p ∈ ps → p.1 = s → p.2 ≠ b ∧ p.2 ∈ S := fun s hs p hp e => by
    obtain ⟨j, hj, hjs⟩ := List.getElem_of_mem hs
    exact h.done j s (by omega) (by rw [List.getElem?_eq_getElem hj, hjs]) p hp e
  have key : ∀ x y, Reach ps x y → x ∈ S → y ≠ b := by
    intro x y r
    induction r with
    | one hm => exact fun hx => (step _ hx _ hm rfl).1
    | more hm _ ih => exact fun hx => ih (step _ hx _ hm rfl).2
  exact fun r => key a b r h.first rfl
end Go.Proofs.YtghekfigfjhkeabDoor.num
namespace Go.Proofs.YtghekfigfjhkeabDoor.num
open Go.RowKit
set_option linter.unusedVariables false

theorem ownI_one (w : World) (B : Nat) (x : Int) (hB : B ≤ w.heap.size) : OwnI (w.alloc (.cells #[.int .i64 x] 3)) B (.slice (some ⟨w.heap.size, 0, none⟩) 1 1) [x] :=
  ⟨rfl, .inr ⟨w.heap.size, 1, #[.int .i64 x], rfl, hB, heap_alloc_new w _, Nat.le_refl _, by decide, rfl, rfl⟩⟩
theorem ownI_below {w w' : World} {B : Nat} {v : Value} {l : List Int} (h : OwnI w B v l) (hb : Below w.heap.size w w') : OwnI w' B v l := by
  obtain ⟨h1, h2⟩ := h
  refine ⟨h1, ?_⟩
  rcases h2 with h2 | ⟨g, cap, cur, h3, h4, h5, h6⟩
  · exact .inl h2
  · exact .inr ⟨g, cap, cur, h3, h4, (hb.block g (lt_of_block h5)).trans h5, h6⟩

/-- The relation of the search's loops. -/
def SeenRel (ps : List (Int × Int)) (a b : Int) (B : Nat) (w : World) (S : List Int) (i k : Nat) (v : Value) (wr : World) : Prop := Seen ps a b S i k ∧ OwnI wr B v S ∧ Below B w wr

theorem reach_of (w : World) (B : Nat) (A : Option Addr) (n c : Nat) (ps : List (Int × Int)) (hi : Pairs w B A n ps) (hB : B ≤ w.heap.size) (h8 : n ≤ 1048576) (a b : Int) (q : Bool) (hq : q = true ↔ Reach ps a b) :
    Calls Tryd.prog 52 #[.slice A n c, .int .i64 a, .int .i64 b] w fun e w' => e = .returned (.bool q) ∧ Below w.heap.size w w' := by
  have HX := Lib.hid hi
  have HQ := Lib.hid hq
  clear hi hq
  go_enter Tryd.func52, Tryd.ntmps52
  go_wp2
  go_loopw [7, 8] (fun v i wr => ∃ (S : List Int) (j : Nat), j ≤ S.length ∧ i = .int .i64 j ∧ SeenRel ps a b w.heap.size w S j 0 v wr) (fun _ i _ => n + 1 - (intOf i).toNat)
  case atStart => exact ⟨[a], 0, Nat.zero_le _, rfl, Seen.start ps a b, ownI_one w _ a (Nat.le_refl _), (Below.refl _ _).alloc (Nat.le_refl _) _⟩
  case round =>
    obtain ⟨S, j, hj, rfl, hS, hown, hbel⟩ := hrel
    have HS := Lib.hid hS
    have HO := Lib.hid hown
    have HB := Lib.hid hbel
    obtain ⟨A1, n1, c1, rfl, hints⟩ := hown.ints
    have HI := Lib.hid hints
    have hn1 : n1 = S.length := hints.1.symm
    have hlen : n1 ≤ n + 1 := by rw [hn1]; have := hS.len; rw [HX.out.1] at this; exact this
    clear hown hS hbel hints
    by_cases hlt : j < n1
    · clear HI
      have HN1 := Lib.hid hn1
      clear hn1
      obtain ⟨wo, hwo⟩ : ∃ wo : World, wo = wr := ⟨_, rfl⟩
      subst hwo
      go_wp2
      go_loopw [7, 9] (fun v i wr => ∃ (S : List Int) (k : Nat), k ≤ n ∧ j < S.length ∧ i = .int .i64 k ∧ SeenRel ps a b w.heap.size w S j k v wr) (fun _ i _ => n - (intOf i).toNat)
      case atStart => exact ⟨S, 0, Nat.zero_le _, by rw [← HN1.out]; exact hlt, rfl, HS.out, HO.out, HB.out⟩
      case round =>
        clear HS HO HB HN1 hj
        obtain ⟨S, k, hk, hjS, rfl, hS, hown, hbel⟩ := hrel
        have HS := Lib.hid hS
        have HO := Lib.hid hown
        have HB := Lib.hid hbel
        obtain ⟨A1, n1, c1, rfl, hints⟩ := hown.ints
        have hn1 : n1 = S.length := hints.1.symm
        have hlen : n1 ≤ n + 1 := by rw [hn1]; have := hS.len; rw [HX.out.1] at this; exact this
        obtain ⟨b2, off2, s, rfl, hb2, hat2, hd1⟩ := hints.at j (by omega)
        have hjn : (j : Int) < (n1 : Int) := by omega
        have HT2 := Lib.hid hat2
        have HI := Lib.hid hints
        have HN1 := Lib.hid hn1
        clear hown hS hat2 hints hn1
        by_cases hlt : k < n
        · obtain ⟨b1, off, x, y, rfl, hb1, hat, hc1, hc2⟩ := HX.out.at k hlt
          have f1 := (hbel.cell (p := ⟨b1, off + k * 2, none⟩) (by exact Nat.lt_of_lt_of_le hb1 hB)).trans hc1
          have f2 := (hbel.cell (p := ⟨b1, off + k * 2 + 1, none⟩) (by exact Nat.lt_of_lt_of_le hb1 hB)).trans hc2
          have HT := Lib.hid hat
          have hkn : (k : Int) < (n : Int) := by omega
          clear hc1 hc2 hat hbel
          by_cases he : x = s
          · subst he
            by_cases hyb : y = b
            · subst hyb
              obtain rfl : q = true := HQ.out.2 (HS.out.hit HT2.out HT.out rfl)
              go_wp2
              go_quiet (fail)
              go_wp2
              go_ret
              exact ⟨rfl, below_drewN HB.out _⟩
            · obtain ⟨m, hm⟩ := bool_of (y ∈ S)
              have HM := Lib.hid hm
              have hyb1 : (y == b) = false := by simpa using hyb
              have HYB := Lib.hid hyb
              clear hm hyb
              go_wp2
              go_quiet (fail)
              go_wp2_with fail
              refine (has_of _ _ _ _ _ S (by have h := HI.out; exact ⟨h.1, h.2⟩) (by omega) y m HM.out).mono ?_
              rintro e w1 ⟨rfl, rfl⟩
              cases m
              · have H4 : Hid ((S.length + [y].length) * 8 ≤ 140737488355328) := Lib.hid (by
                  rw [← HN1.out]
                  simp only [List.length_cons, List.length_nil]
                  omega)
                have HOq := Lib.hid (show OwnI (wr.drewN nq) w.heap.size _ S from HO.out)
                go_wp2_with (at_builtin; refine wp_appI _ (by rfl) (.tmp 49) (.tmp 55) (by rfl) w.heap.size _ S (by rfl) HOq.out _ [y] (by rfl) 1 1 rfl (by rfl) H4.out (below_drewN HB.out _).size ?_)
                intro v1 w2 hown2 hb2
                have HO2 := Lib.hid hown2
                have HB2 := Lib.hid ((below_drewN HB.out _).trans hb2)
                clear hown2 hb2
                go_wp2
                go_roundw
                case rel => exact ⟨S ++ [y], k + 1, by omega, by simp; omega, by go_num, HS.out.more HT2.out HT.out HYB.out (fun h => by have := HM.out.2 h; cases this), HO2.out, HB2.out⟩
                case measure => simp [intOf]; omega
              · go_wp2
                go_roundw
                case rel => exact ⟨S, k + 1, by omega, hjS, by go_num, HS.out.old HT2.out HT.out HYB.out (HM.out.1 (by first | rfl | trivial)), HO.out, below_drewN HB.out _⟩
                case measure => simp [intOf]; omega
          · have hne : (x != s) = true := by simpa using he
            have HE := Lib.hid he
            clear he
            go_wp2
            go_quiet (fail)
            go_wp2
            go_roundw
            case rel => exact ⟨S, k + 1, by omega, hjS, by go_num, HS.out.skip HT2.out HT.out HE.out, HO.out, below_drewN HB.out _⟩
            case measure => simp [intOf]; omega
        · obtain rfl : k = n := by omega
          clear hbel
          go_wp2
          go_roundw
          case rel => exact ⟨S, j + 1, by omega, by go_num, HS.out.next HX.out.1.symm, HO.out, HB.out⟩
          case measure => simp [intOf]; omega
    · have hno := HS.out.fin (by omega)
      obtain rfl : q = false := by
        cases q
        · rfl
        · exact absurd (HQ.out.1 rfl) hno
      clear hno hn1
      go_wp2
      go_ret
      exact ⟨rfl, HB.out⟩
end Go.Proofs.YtghekfigfjhkeabDoor.num
namespace Go.Proofs.YtghekfigfjhkeabDoor.num
open Go.RowKit
set_option linter.unusedVariables false

/-- What makes a list of pairs valid. -/
def OkP (ps : List (Int × Int)) : Prop := Good ps ∧ ps.length ≤ 8
theorem OkP.valid {ps : List (Int × Int)} (h : OkP ps) : ValidP ps := ⟨h.1.rng, h.2⟩
theorem okP_of {ps : List (Int × Int)} (h : ValidP ps) (hn : ∀ v : Int, 0 ≤ v → v ≤ 9 → ¬ Reach ps v v) : OkP ps :=
  ⟨⟨h.1, fun v r => hn v (reach_rng h.1 r).1.1 (reach_rng h.1 r).1.2 r⟩, h.2⟩

theorem sArePairs (w : World) (B : Nat) (A : Option Addr) (n c : Nat) (ps : List (Int × Int)) (hi : Pairs w B A n ps) (hB : B ≤ w.heap.size) (hn : n ≤ 1048576) (q : Bool) (hq : q = true ↔ OkP ps) :
    Calls Tryd.prog 36 #[.slice A n c] w fun e w' => e = .returned (.bool q) ∧ Below w.heap.size w w' := by
  have HX := Lib.hid hi
  have HQ := Lib.hid hq
  obtain ⟨m, hm⟩ := bool_of (ValidP ps)
  have HM := Lib.hid hm
  clear hi hq hm
  go_enter Tryd.func36, Tryd.ntmps36
  go_wp2_with fail
  refine (valid_of w B A n c ps HX.out hn m HM.out).mono ?_
  rintro e w1 ⟨rfl, rfl⟩
  cases m
  · obtain rfl : q = false := by
      cases q
      · rfl
      · have := HM.out.2 (HQ.out.1 rfl).valid; cases this
    go_wp2
    go_ret
    exact ⟨rfl, Below.refl _ _⟩
  · have HV := Lib.hid (HM.out.1 (by first | rfl | trivial))
    clear HM
    go_wp2
    go_loopw [3] (fun i wr => ∃ k : Nat, k ≤ 10 ∧ i = .int .i64 k ∧ (∀ v : Int, 0 ≤ v → v < k → ¬ Reach ps v v) ∧ Below w.heap.size w wr) (fun i _ => 10 - (intOf i).toNat)
    case atStart => exact ⟨0, by decide, rfl, fun v h1 h2 => by omega, Below.refl _ _⟩
    case round =>
      obtain ⟨k, hk, rfl, hne, hbel⟩ := hrel
      have HN := Lib.hid hne
      have HBe := Lib.hid hbel
      clear hne hbel
      by_cases hlt : k < 10
      · obtain ⟨r, hr⟩ := bool_of (Reach ps k k)
        have HR := Lib.hid hr
        clear hr
        go_wp2_with fail
        refine (reach_of wr B A n c ps (HX.out.below (HBe.out.mono hB)) (Nat.le_trans hB HBe.out.size) hn k k r HR.out).mono ?_
        rintro e w1 ⟨rfl, hb1⟩
        have HB1 := Lib.hid (HBe.out.trans (hb1.mono HBe.out.size))
        clear hb1
        cases r
        · go_wp2
          go_roundw
          case rel =>
            refine ⟨k + 1, by omega, by go_num, fun v h1 h2 => ?_, HB1.out⟩
            by_cases e : v = k
            · subst e
              exact fun r => by have := HR.out.2 r; cases this
            · exact HN.out v h1 (by omega)
          case measure => simp [intOf]; omega
        · obtain rfl : q = false := by
            cases q
            · rfl
            · exact absurd (HR.out.1 (by first | rfl | trivial)) ((HQ.out.1 rfl).1.acy _)
          go_wp2
          go_ret
          exact ⟨rfl, HB1.out⟩
      · obtain rfl : k = 10 := by omega
        obtain rfl : q = true := HQ.out.2 (okP_of HV.out fun v h1 h2 => HN.out v h1 (by omega))
        go_wp2
        go_ret
        exact ⟨rfl, HBe.out⟩

/-- What HeightOf answers. -/
def htOf (ps : List (Int × Int)) (v : Int) (ok : Bool) : Int := if ok then ((height ps v : Nat) : Int) else -1
end Go.Proofs.YtghekfigfjhkeabDoor.num
namespace Go.Proofs.YtghekfigfjhkeabDoor.num
open Go.RowKit
set_option linter.unusedVariables false

/-- The cells of a list of pairs. -/
def flat : List (Int × Int) → List Value
  | [] => []
  | p :: r => .int .i64 p.1 :: .int .i64 p.2 :: flat r
theorem flat_len : ∀ l : List (Int × Int), (flat l).length = l.length * 2
  | [] => rfl
  | p :: r => by simp [flat, flat_len r]; omega
theorem flat_app : ∀ l m : List (Int × Int), flat (l ++ m) = flat l ++ flat m
  | [], m => rfl
  | p :: r, m => by simp [flat, flat_app r m]
theorem flat_even : ∀ (l : List (Int × Int)) (k : Nat) (p : Int × Int), l[k]? = some p → (flat l)[k * 2]? = some (.int .i64 p.1)
  | [], k, p, h => by simp at h
  | q :: r, 0, p, h => by simp at h; subst h; rfl
  | q :: r, k + 1, p, h => by
    rw [show (k + 1) * 2 = k * 2 + 1 + 1 by omega]
    simp only [flat, List.getElem?_cons_succ]
    exact flat_even r k p (by simpa using h)
theorem flat_odd : ∀ (l : List (Int × Int)) (k : Nat) (p : Int × Int), l[k]? = some p → (flat l)[k * 2 + 1]? = some (.int .i64 p.2)
  | [], k, p, h => by simp at h
  | q :: r, 0, p, h => by simp at h; subst h; rfl
  | q :: r, k + 1, p, h => by
    rw [show (k + 1) * 2 + 1 = k * 2 + 1 + 1 + 1 by omega]
    simp only [flat, List.getElem?_cons_succ]
    exact flat_odd r k p (by simpa using h)
theorem flat_one (l : List (Int × Int)) : ∀ u ∈ flat l, u.oneCell' = true := by
  induction l with
  | nil => intro u hu; simp [flat] at hu
  | cons p r ih =>
    intro u hu
    simp only [flat, List.mem_cons] at hu
    rcases hu with rfl | rfl | hu
    · rfl
    · rfl
    · exact ih u hu

def OwnP (w : World) (B : Nat) (v : Value) (l : List (Int × Int)) : Prop := w.ownsRow B 43 2 v l.length (flat l)
theorem OwnP.empty (w : World) (B : Nat) (hB : B ≤ w.heap.size) : OwnP (w.alloc (.cells #[] 43)) B (.slice (some ⟨w.heap.size, 0, none⟩) 0 0) [] :=
  World.ownsRow_made w #[] 0 hB (Nat.zero_le _) (by simp)
theorem OwnP.nil (w : World) (B : Nat) : OwnP w B (.slice none 0 0) [] := ⟨rfl, .inl ⟨rfl, rfl⟩⟩
theorem OwnP.below {w w' : World} {B : Nat} {v : Value} {l : List (Int × Int)} (h : OwnP w B v l) (hb : Below w.heap.size w w') : OwnP w' B v l := by
  obtain ⟨h1, h2⟩ := h
  refine ⟨h1, ?_⟩
  rcases h2 with h2 | ⟨g, cap, cur, h3, h4, h5, h6⟩
  · exact .inl h2
  · exact .inr ⟨g, cap, cur, h3, h4, (hb.block g (lt_of_block h5)).trans h5, h6⟩
/-- What is owned reads as its pairs; and where it lies. -/
theorem OwnP.pairs {w : World} {B : Nat} {v : Value} {l : List (Int × Int)} (h : OwnP w B v l) : ∃ A n c, v = .slice A n c ∧ Pairs w w.heap.size A n l := by
  have h0 := h
  rcases h.2 with ⟨rfl, hl⟩ | ⟨g, cap, cur, rfl, _, hg, _⟩
  · obtain rfl : l = [] := List.eq_nil_of_length_eq_zero hl
    exact ⟨none, 0, 0, rfl, rfl, fun k p hk => by simp at hk⟩
  · refine ⟨some ⟨g, 0, none⟩, l.length, cap, rfl, rfl, fun k p hk => ⟨g, 0, rfl, lt_of_block hg, ?_, ?_⟩⟩
    · have hlt : k < l.length := by
        rcases Nat.lt_or_ge k l.length with h' | h'
        · exact h'
        · rw [List.getElem?_eq_none h'] at hk; cases hk
      rw [Nat.zero_add, World.ownsRow.cellAt h0 _ (by omega), flat_even l k p hk]
    · have hlt : k < l.length := by
        rcases Nat.lt_or_ge k l.length with h' | h'
        · exact h'
        · rw [List.getElem?_eq_none h'] at hk; cases hk
      rw [Nat.zero_add, World.ownsRow.cellAt h0 _ (by omega), flat_odd l k p hk]
/-- append of pairs that the statement itself lists. -/
theorem wp_appP {ops : Array Oper} {rest : List Oper} {o : Oper} {a : Act} {Q : Exit → Act → World → Prop} (w : World) (hgd : o.guard = none) (s x : Operand)
    (ho : o.op = .call { callee := .builtin .append, args := #[s, x], argTypes := #[22, 22] })
    (B : Nat) (v : Value) (l : List (Int × Int)) (hs : a.eval s = v) (hown : OwnP w B v l) (cs : Array Value) (new : List (Int × Int)) (hcs : cs = (flat new).toArray) (n c : Nat) (hn : n = new.length)
    (hx : a.eval x = .slice (some ⟨w.heap.size, 0, none⟩) n c) (hlen : (l.length + new.length) * 16 ≤ 140737488355328) (hB : B ≤ w.heap.size)
    (h : ∀ v' w', OwnP w' B v' (l ++ new) → Below B w w' → wpList Tryd.prog ops Q rest (a.put o.dst v') w') :
    wpList Tryd.prog ops Q (o :: rest) a (w.alloc (.cells cs 43)) := by
  obtain ⟨i0, hi, hz0, hz1, hz2⟩ := info_parts info_pair
  subst hcs hn
  refine wpList_append_own _ hgd s x 22 ho B 43 i0 (.agg #[.int .i64 0, .int .i64 0]) 2 16 Tryd.underlying22 hi hz0 hz1 hz2 rfl (by decide) v l.length (flat l) hs (World.ownsRow.alloc hown _) ⟨w.heap.size, 0, none⟩ new.length c (flat new) hx (flat_len new) ?_ (flat_one new) (by unfold maxLen; omega) (by omega) (by simp; omega) ?_
  · intro j u hj
    have e : (⟨w.heap.size, 0, none⟩ : Addr).add j = ⟨w.heap.size, j, none⟩ := by unfold Addr.add; split <;> simp_all
    rw [e, World.cell?_alloc_at _ _ _ _ rfl]
    simpa using hj
  · intro v' w' hown' hg _
    refine h v' w' ?_ (((Below.refl B w).alloc hB _).grown hg (by simp; omega) (fun k hk => ?_))
    · have e : (l ++ new).length = l.length + new.length := by simp
      unfold OwnP
      rw [e, flat_app]
      exact hown'
    · exact (World.ownsRow.lt hown k hk).1

/-- What ClosureOf answers. -/
def cloOf (ps : List (Int × Int)) (ok : Bool) : List (Int × Int) := if ok then clo ps 100 else []
end Go.Proofs.YtghekfigfjhkeabDoor.num
namespace Go.Proofs.YtghekfigfjhkeabDoor.num
open Go.RowKit
set_option linter.unusedVariables false

set_option maxRecDepth 20000 in
theorem eqPair_c (w : World) (x y x' y' : Int) (b : Bool) (hb : b = true ↔ (x, y) = (x', y')) :
    Calls Tryd.prog 21 #[.agg #[.int .i64 x, .int .i64 y], .agg #[.int .i64 x', .int .i64 y']] w fun e w' => e = .returned (.bool b) ∧ Below w.heap.size w w' := by
  have HB := Lib.hid hb
  clear hb
  by_cases h1 : x = x'
  · subst h1
    by_cases h2 : y = y'
    · subst h2
      obtain rfl : b = true := HB.out.2 rfl
      go_enter Tryd.func21, Tryd.ntmps21
      go_wp2
      go_ret
      exact ⟨rfl, ((Below.refl _ w).alloc (Nat.le_refl _) _).alloc (by simp) _⟩
    · obtain rfl : b = false := by
        cases b
        · rfl
        · exact absurd (Prod.mk.inj (HB.out.1 rfl)).2 h2
      have hne : (y != y') = true := by simpa using h2
      clear h2
      go_enter Tryd.func21, Tryd.ntmps21
      go_wp2
      go_ret
      exact ⟨rfl, ((Below.refl _ w).alloc (Nat.le_refl _) _).alloc (by simp) _⟩
  · obtain rfl : b = false := by
      cases b
      · rfl
      · exact absurd (Prod.mk.inj (HB.out.1 rfl)).1 h1
    have hne : (x != x') = true := by simpa using h1
    clear h1
    go_enter Tryd.func21, Tryd.ntmps21
    go_wp2
    go_ret
    exact ⟨rfl, ((Below.refl _ w).alloc (Nat.le_refl _) _).alloc (by simp) _⟩

theorem ne_atP {ps qs : List (Int × Int)} {k : Nat} {p q : Int × Int} (h1 : ps[k]? = some p) (h2 : qs[k]? = some q) (h : p ≠ q) : ps ≠ qs := fun e => by
  rw [e, h2] at h1
  exact h (Option.some.inj h1).symm

set_option maxRecDepth 20000 in
theorem eqPairs (w : World) (B : Nat) (A A' : Option Addr) (n n' c c' : Nat) (ps qs : List (Int × Int)) (h1 : Pairs w B A n ps) (h2 : Pairs w B A' n' qs) (hB : B ≤ w.heap.size) (hn : n ≤ 1048576) (b : Bool) (hb : b = true ↔ ps = qs) :
    Calls Tryd.prog 7 #[.slice A n c, .slice A' n' c'] w fun e w' => e = .returned (.bool b) ∧ Below w.heap.size w w' := by
  have HX := Lib.hid h1
  have HY := Lib.hid h2
  by_cases hl : n = n'
  · subst hl
    have HBo := Lib.hid hb
    clear h1 h2 hb
    go_enter Tryd.func7, Tryd.ntmps7
    go_wp2
    go_loopw [5] (fun i wr => ∃ k : Nat, k ≤ n ∧ i = .int .i64 k ∧ ps.take k = qs.take k ∧ Below w.heap.size w wr) (fun i _ => n - (intOf i).toNat)
    case atStart => exact ⟨0, Nat.zero_le _, rfl, rfl, Below.refl _ _⟩
    case round =>
      obtain ⟨k, hk, rfl, htake, hbel⟩ := hrel
      have HT := Lib.hid htake
      have HB := Lib.hid hbel
      clear htake
      by_cases hlt : k < n
      · obtain ⟨b1, off1, x1, y1, rfl, hb1, hat1, hc1, hd1⟩ := HX.out.at k hlt
        obtain ⟨b2, off2, x2, y2, rfl, hb2, hat2, hc2, hd2⟩ := HY.out.at k hlt
        have f1 := (hbel.cell (p := ⟨b1, off1 + k * 2, none⟩) (by exact Nat.lt_of_lt_of_le hb1 hB)).trans hc1
        have f2 := (hbel.cell (p := ⟨b1, off1 + k * 2 + 1, none⟩) (by exact Nat.lt_of_lt_of_le hb1 hB)).trans hd1
        have f3 := (hbel.cell (p := ⟨b2, off2 + k * 2, none⟩) (by exact Nat.lt_of_lt_of_le hb2 hB)).trans hc2
        have f4 := (hbel.cell (p := ⟨b2, off2 + k * 2 + 1, none⟩) (by exact Nat.lt_of_lt_of_le hb2 hB)).trans hd2
        have HA1 := Lib.hid hat1
        have HA2 := Lib.hid hat2
        have hsz := Lib.hid hbel.size
        have hlt' : (k : Int) < (n : Int) := by omega
        obtain ⟨q, hq⟩ : ∃ q : Bool, q = true ↔ (x1, y1) = (x2, y2) := bool_of _
        have HQ := Lib.hid hq
        clear hc1 hd1 hc2 hd2 hat1 hat2 hbel hq
        have HB' : Hid (Below w.heap.size w wr.drew) := Lib.hid HB.out.drew
        have hsz' : Hid (w.heap.size ≤ wr.drew.heap.size) := hsz
        clear HB hsz
        go_wp2
        go_still_tail 8, (by kernel_rfl)
        change wpList _ _ _ _ _ wr.drew
        generalize wr.drew = w2 at *
        clear f1 f2 f3 f4
        go_wp2_with fail
        refine (eqPair_c w2 x1 y1 x2 y2 q HQ.out).mono ?_
        rintro e w3 ⟨rfl, hb3⟩
        have HB3 := Lib.hid (HB'.out.trans (hb3.mono hsz'.out))
        clear hb3
        cases q
        · have HF := Lib.hid (ne_atP HA1.out HA2.out (fun e => by have := HQ.out.2 e; cases this))
          obtain rfl : b = false := by
            cases b
            · rfl
            · exact absurd (HBo.out.1 rfl) HF.out
          go_wp2
          go_ret
          exact ⟨rfl, HB3.out⟩
        · have HD := Lib.hid (HQ.out.1 (by first | rfl | trivial))
          go_wp2
          go_roundw
          case rel => exact ⟨k + 1, by omega, by go_num, by rw [ptake_at HA1.out, ptake_at HA2.out, HT.out, HD.out], HB3.out⟩
          case measure => simp [intOf]; omega
      · obtain rfl : k = n := by omega
        obtain rfl : b = true := HBo.out.2 (by have := HT.out; rwa [ptake_all HX.out.1, ptake_all HY.out.1] at this)
        clear hbel
        go_wp2
        go_ret
        exact ⟨rfl, HB.out⟩
  · obtain rfl : b = false := by
      cases b
      · rfl
      · exact absurd (by rw [← h1.1, hb.1 rfl, h2.1]) hl
    clear h1 h2 hb
    go_enter Tryd.func7, Tryd.ntmps7
    go_wp2
    go_ret
    exact ⟨rfl, Below.refl _ _⟩
end Go.Proofs.YtghekfigfjhkeabDoor.num
namespace Go.Proofs.YtghekfigfjhkeabDoor.num
open Go.RowKit
set_option linter.unusedVariables false

/-- w' is w but for the block that the slice v lies in. -/
structure OnlyV (v : Value) (w w' : World) : Prop where
  os : w'.os = w.os
  tape : w'.tape = w.tape
  output : w'.output = w.output
  size : w'.heap.size = w.heap.size
  block : ∀ k, v.ownBlock ≠ some k → w'.heap[k]? = w.heap[k]?
theorem OnlyV.refl (v : Value) (w : World) : OnlyV v w w := ⟨rfl, rfl, rfl, rfl, fun _ _ => rfl⟩
theorem OnlyV.set {g n cap : Nat} {w w' : World} (h : OnlyV (.slice (some ⟨g, 0, none⟩) n cap) w w') (j : Nat) (u : Value) : OnlyV (.slice (some ⟨g, 0, none⟩) n cap) w (w'.setCell ⟨g, j, none⟩ u) :=
  ⟨h.os, h.tape, h.output, by simpa [World.setCell] using h.size, fun k hk => (Below.heap_setCell w' ⟨g, j, none⟩ u k (fun e => hk (by rw [e]; rfl))).trans (h.block k hk)⟩
theorem OnlyV.below {v : Value} {B : Nat} {w w' : World} (h : OnlyV v w w') (hB : ∀ k, v.ownBlock = some k → B ≤ k) : Below B w w' :=
  ⟨h.os, h.tape, h.output, by rw [h.size]; exact Nat.le_refl _, fun k hk => h.block k (fun e => by have := hB k e; omega)⟩
theorem OnlyV.high {v : Value} {B : Nat} {w w' : World} (h : OnlyV v w w') (hB : ∀ k, v.ownBlock = some k → k < B) (k : Nat) (hk : B ≤ k) : w'.heap[k]? = w.heap[k]? :=
  h.block k (fun e => by have := hB k e; omega)

section
variable {w w' : World} {B : Nat} {v : Value}
theorem OwnP.lows {l : List (Int × Int)} (h : OwnP w B v l) : ∀ k, v.ownBlock = some k → B ≤ k := fun k hk => (World.ownsRow.lt h k hk).1
theorem OwnP.tops {l : List (Int × Int)} (h : OwnP w B v l) : ∀ k, v.ownBlock = some k → k < w.heap.size := fun k hk => (World.ownsRow.lt h k hk).2
theorem ownI_lows {l : List Int} (h : OwnI w B v l) : ∀ k, v.ownBlock = some k → B ≤ k := fun k hk => (World.ownsRow.lt h k hk).1
theorem ownI_tops {l : List Int} (h : OwnI w B v l) : ∀ k, v.ownBlock = some k → k < w.heap.size := fun k hk => (World.ownsRow.lt h k hk).2
theorem OwnP.blocks {l : List (Int × Int)} (h : OwnP w B v l) (hb : ∀ k, v.ownBlock = some k → w'.heap[k]? = w.heap[k]?) : OwnP w' B v l := by
  obtain ⟨h1, h2⟩ := h
  refine ⟨h1, ?_⟩
  rcases h2 with h2 | ⟨g, cap, cur, rfl, h4, h5, h6⟩
  · exact .inl h2
  · exact .inr ⟨g, cap, cur, rfl, h4, (hb g rfl).trans h5, h6⟩
theorem ownI_blocks {l : List Int} (h : OwnI w B v l) (hb : ∀ k, v.ownBlock = some k → w'.heap[k]? = w.heap[k]?) : OwnI w' B v l := by
  obtain ⟨h1, h2⟩ := h
  refine ⟨h1, ?_⟩
  rcases h2 with h2 | ⟨g, cap, cur, rfl, h4, h5, h6⟩
  · exact .inl h2
  · exact .inr ⟨g, cap, cur, rfl, h4, (hb g rfl).trans h5, h6⟩
theorem OwnP.row {l : List (Int × Int)} (h : OwnP w B v l) : (v = .slice none 0 0 ∧ l = []) ∨
    ∃ g cap f, v = .slice (some ⟨g, 0, none⟩) l.length cap ∧ B ≤ g ∧ l.length ≤ cap ∧ cap ≤ maxLen ∧ w.rowIs g 43 (cap * 2) f ∧ ∀ j, j < l.length * 2 → (flat l)[j]? = some (f j) := by
  rcases h.2 with ⟨rfl, hl⟩ | ⟨g, cap, cur, rfl, hB, hg, h1, h2, h3, h4⟩
  · exact .inl ⟨rfl, List.eq_nil_of_length_eq_zero hl⟩
  · refine .inr ⟨g, cap, fun j => (cur[j]?).getD undef, rfl, hB, h1, h2, ⟨cur, hg, h3, fun i hi => ?_⟩, fun j hj => ?_⟩
    · show cur[i]? = some ((cur[i]?).getD undef)
      rw [Array.getElem?_eq_getElem (by omega)]; rfl
    · show _ = some ((cur[j]?).getD undef)
      rw [← h4, List.getElem?_take_of_lt hj, Array.getElem?_toList, Array.getElem?_eq_getElem (by rw [h3]; omega)]; rfl
theorem OwnP.of_row {l : List (Int × Int)} {g n cap : Nat} {f : Nat → Value} (hB : B ≤ g) (hl : l.length = n) (hn : n ≤ cap) (hc : cap ≤ maxLen) (hr : w.rowIs g 43 (cap * 2) f) (hf : ∀ j, j < n * 2 → (flat l)[j]? = some (f j)) :
    OwnP w B (.slice (some ⟨g, 0, none⟩) n cap) l := by
  subst hl
  obtain ⟨cur, hg, hs, hcur⟩ := hr
  refine ⟨flat_len l, .inr ⟨g, cap, cur, rfl, hB, hg, hn, hc, hs, ?_⟩⟩
  apply List.ext_getElem?
  intro j
  rcases Nat.lt_or_ge j (l.length * 2) with h | h
  · rw [List.getElem?_take_of_lt h, Array.getElem?_toList, hcur j (by omega), hf j h]
  · rw [List.getElem?_eq_none (by rw [List.length_take]; omega), List.getElem?_eq_none (by rw [flat_len]; exact h)]
theorem ownI_row {l : List Int} (h : OwnI w B v l) : (v = .slice none 0 0 ∧ l = []) ∨
    ∃ g cap f, v = .slice (some ⟨g, 0, none⟩) l.length cap ∧ B ≤ g ∧ l.length ≤ cap ∧ cap ≤ maxLen ∧ w.rowIs g 3 cap f ∧ ∀ j, j < l.length → (l.map (Value.int .i64))[j]? = some (f j) := by
  rcases h.2 with ⟨rfl, hl⟩ | ⟨g, cap, cur, rfl, hB, hg, h1, h2, h3, h4⟩
  · exact .inl ⟨rfl, List.eq_nil_of_length_eq_zero hl⟩
  · refine .inr ⟨g, cap, fun j => (cur[j]?).getD undef, rfl, hB, h1, h2, ⟨cur, hg, by omega, fun i hi => ?_⟩, fun j hj => ?_⟩
    · show cur[i]? = some ((cur[i]?).getD undef)
      rw [Array.getElem?_eq_getElem (by omega)]; rfl
    · show _ = some ((cur[j]?).getD undef)
      rw [← h4, List.getElem?_take_of_lt (by omega), Array.getElem?_toList, Array.getElem?_eq_getElem (by rw [h3]; omega)]; rfl
theorem ownI_of_row {l : List Int} {g n cap : Nat} {f : Nat → Value} (hB : B ≤ g) (hl : l.length = n) (hn : n ≤ cap) (hc : cap ≤ maxLen) (hr : w.rowIs g 3 cap f) (hf : ∀ j, j < n → (l.map (Value.int .i64))[j]? = some (f j)) :
    OwnI w B (.slice (some ⟨g, 0, none⟩) n cap) l := by
  subst hl
  obtain ⟨cur, hg, hs, hcur⟩ := hr
  refine ⟨by simp, .inr ⟨g, cap, cur, rfl, hB, hg, hn, hc, by omega, ?_⟩⟩
  apply List.ext_getElem?
  intro j
  rcases Nat.lt_or_ge j l.length with h | h
  · rw [List.getElem?_take_of_lt (by omega), Array.getElem?_toList, hcur j (by omega), hf j h]
  · rw [List.getElem?_eq_none (by rw [List.length_take]; omega), List.getElem?_eq_none (by simpa using h)]
theorem PairRow.own {b n : Nat} {ps : List (Int × Int)} (h : PairRow w b ps) (hB : B ≤ b) (hl : ps.length = n) (hn : n ≤ 1048576) : OwnP w B (.slice (some ⟨b, 0, none⟩) n n) ps := by
  subst hl
  refine OwnP.of_row hB rfl (Nat.le_refl _) (by unfold maxLen; omega) h fun j hj => ?_
  have hk : j / 2 < ps.length := by omega
  have hat : ps[j / 2]? = some ps[j / 2] := List.getElem?_eq_getElem hk
  rcases Nat.mod_two_eq_zero_or_one j with h1 | h1
  · have e : j = j / 2 * 2 := by omega
    rw [e, flat_even _ _ _ hat, pairCell_even hat]
  · have e : j = j / 2 * 2 + 1 := by omega
    rw [e, flat_odd _ _ _ hat, pairCell_odd hat]
end

/-- The pairs that the marks make. -/
def pmarks (k n : Nat) : List (Int × Int) := (List.range n).map fun j => (((k + 2 * j : Nat) : Int), ((k + 2 * j + 1 : Nat) : Int))
theorem pmarks_len (k n : Nat) : (pmarks k n).length = n := by simp [pmarks]
theorem pmarks_flat {k n j : Nat} (h : j < n * 2) : (flat (pmarks k n))[j]? = some (.int .i64 ((k + j : Nat) : Int)) := by
  have hk : j / 2 < n := by omega
  have hat : (pmarks k n)[j / 2]? = some (((k + 2 * (j / 2) : Nat) : Int), ((k + 2 * (j / 2) + 1 : Nat) : Int)) := by simp [pmarks, hk]
  rcases Nat.mod_two_eq_zero_or_one j with h1 | h1
  · have e : j = j / 2 * 2 := by omega
    have e2 : k + 2 * (j / 2) = k + j := by omega
    have := flat_even _ _ _ hat
    rw [← e, e2] at this
    exact this
  · have e : j = j / 2 * 2 + 1 := by omega
    have e2 : k + 2 * (j / 2) + 1 = k + j := by omega
    have := flat_odd _ _ _ hat
    rw [← e, e2] at this
    exact this
set_option maxRecDepth 20000 in
theorem markP (w : World) (B : Nat) (v : Value) (l : List (Int × Int)) (h : OwnP w B v l) (hn : l.length ≤ 1048576) (k0 : Nat) (hk0 : k0 ≤ 1152921504606846976) :
    Calls Tryd.prog 8 #[v, .int .i64 k0] w fun e w' => e = .returned (.int .i64 ((k0 + 2 * l.length : Nat) : Int)) ∧ OwnP w' B v (pmarks k0 l.length) ∧ OnlyV v w w' := by
  rcases h.row with ⟨rfl, rfl⟩ | ⟨g, cap, f, rfl, hB, hle, hcap, hrow, hf⟩
  · go_enter Tryd.func8, Tryd.ntmps8
    go_wp2
    go_loopw [1, 5] (fun m i wr => i = .int .i64 0 ∧ m = .int .i64 k0 ∧ wr = w) (fun _ _ _ => 0)
    case atStart => exact ⟨rfl, rfl, rfl⟩
    case round =>
      obtain ⟨rfl, rfl, rfl⟩ := hrel
      go_wp2
      go_ret
      exact ⟨rfl, OwnP.nil _ _, OnlyV.refl _ _⟩
  · obtain ⟨n, hn'⟩ : ∃ n, n = l.length := ⟨_, rfl⟩
    rw [← hn'] at hn hle hf ⊢
    clear h hn'
    have HW := Lib.hid hrow
    have hcap' : cap ≤ 9223372036854775807 := by unfold maxLen at hcap; omega
    have HF := Lib.hid hf
    have HCap := Lib.hid hcap
    clear hrow hf hcap
    go_enter Tryd.func8, Tryd.ntmps8
    go_wp2
    go_loopw [1, 5] (fun m i wr => ∃ k : Nat, k ≤ n ∧ i = .int .i64 k ∧ m = .int .i64 ((k0 + 2 * k : Nat) : Int) ∧ wr.rowIs g 43 (cap * 2) (fun j => if j < 2 * k then .int .i64 ((k0 + j : Nat) : Int) else f j) ∧ OnlyV (.slice (some ⟨g, 0, none⟩) n cap) w wr) (fun _ i _ => n - (intOf i).toNat)
    case atStart => exact ⟨0, Nat.zero_le _, rfl, rfl, by simpa using HW.out, OnlyV.refl _ _⟩
    case round =>
      obtain ⟨k, hk, rfl, rfl, hrow, honly⟩ := hrel
      have HR := Lib.hid hrow
      have HO := Lib.hid honly
      by_cases hlt : k < n
      · have g1 : wr.cell? ⟨g, k * 2, none⟩ = some (f (k * 2)) := by rw [World.rowIs.cell hrow (by omega), if_neg (by omega)]
        have g2 : wr.cell? ⟨g, k * 2 + 1, none⟩ = some (f (k * 2 + 1)) := by rw [World.rowIs.cell hrow (by omega), if_neg (by omega)]
        have g3 := World.rowIs.frozen hrow (k * 2)
        have g4 := World.rowIs.frozen hrow (k * 2 + 1)
        obtain ⟨m, hm⟩ : ∃ m : Nat, m = k0 + 2 * k := ⟨_, rfl⟩
        rw [← hm]
        have hm1 : m ≤ 4700000000000000000 := by omega
        have HM := Lib.hid hm
        clear hrow honly hm
        go_wp2
        go_roundw
        case rel =>
          refine ⟨k + 1, by omega, by go_num, ?_, (World.rowIs.set (World.rowIs.set HR.out (k * 2) (.int .i64 m)) (k * 2 + 1) (.int .i64 (m + 1))).congr (fun j _ => ?_), (HO.out.set _ _).set _ _⟩
          · have := HM.out; congr 1; omega
          · have := HM.out
            by_cases h1 : j = k * 2 + 1
            · subst h1; rw [if_pos rfl, if_pos (by omega)]; congr 1; omega
            · by_cases h2 : j = k * 2
              · subst h2; rw [if_neg h1, if_pos rfl, if_pos (by omega)]; congr 1; omega
              · by_cases h3 : j < 2 * k
                · rw [if_neg h1, if_neg h2, if_pos h3, if_pos (by omega)]
                · rw [if_neg h1, if_neg h2, if_neg h3, if_neg (by omega)]
        case measure => simp [intOf]; omega
      · obtain rfl : k = n := by omega
        obtain ⟨m, hm⟩ : ∃ m : Nat, m = k0 + 2 * k := ⟨_, rfl⟩
        rw [← hm]
        clear hrow honly
        have HM := Lib.hid hm
        clear hm
        go_wp2
        go_ret
        refine ⟨by show Ending.returned (.int .i64 (m : Int)) = _; rw [HM.out], OwnP.of_row hB (pmarks_len _ _) hle HCap.out HR.out (fun j hj => ?_), HO.out⟩
        rw [pmarks_flat hj, if_pos (by omega)]

set_option maxRecDepth 20000 in
theorem heldP (w : World) (B : Nat) (v : Value) (k0 n : Nat) (h : OwnP w B v (pmarks k0 n)) (hn : n ≤ 1048576) (hk0 : k0 ≤ 1152921504606846976) :
    Calls Tryd.prog 9 #[v, .int .i64 k0] w fun e w' => e = .returned (.int .i64 ((k0 + 2 * n : Nat) : Int)) ∧ w = w' := by
  rcases h.row with ⟨rfl, h0⟩ | ⟨g, cap, f, rfl, hB, hle, hcap, hrow, hf⟩
  · obtain rfl : n = 0 := by have := congrArg List.length h0; rwa [pmarks_len] at this
    go_enter Tryd.func9, Tryd.ntmps9
    go_wp2
    go_loopw [1, 5] (fun m i wr => i = .int .i64 0 ∧ m = .int .i64 k0 ∧ wr = w) (fun _ _ _ => 0)
    case atStart => exact ⟨rfl, rfl, rfl⟩
    case round =>
      obtain ⟨rfl, rfl, rfl⟩ := hrel
      go_wp2
      go_ret
      exact ⟨rfl, rfl⟩
  · rw [pmarks_len] at hle hf ⊢
    have HW := Lib.hid hrow
    have hcap' : cap ≤ 9223372036854775807 := by unfold maxLen at hcap; omega
    have HF : Hid (∀ j, j < n * 2 → f j = .int .i64 ((k0 + j : Nat) : Int)) := Lib.hid fun j hj => by
      have := hf j hj
      rw [pmarks_flat hj] at this
      exact (Option.some.inj this).symm
    clear hrow hf hcap h
    go_enter Tryd.func9, Tryd.ntmps9
    go_wp2
    go_loopw [1, 5] (fun m i wr => ∃ k : Nat, k ≤ n ∧ i = .int .i64 k ∧ m = .int .i64 ((k0 + 2 * k : Nat) : Int) ∧ wr = w) (fun _ i _ => n - (intOf i).toNat)
    case atStart => exact ⟨0, Nat.zero_le _, rfl, rfl, rfl⟩
    case round =>
      obtain ⟨k, hk, rfl, rfl, rfl⟩ := hrel
      obtain ⟨m, hm⟩ : ∃ m : Nat, m = k0 + 2 * k := ⟨_, rfl⟩
      rw [← hm]
      have hm1 : m ≤ 4700000000000000000 := by omega
      have HM := Lib.hid hm
      by_cases hlt : k < n
      · have g1 : wr.cell? ⟨g, k * 2, none⟩ = some (.int .i64 m) := by
          rw [World.rowIs.cell HW.out (by omega), HF.out _ (by omega)]
          congr 2; congr 1; omega
        have g2 : wr.cell? ⟨g, k * 2 + 1, none⟩ = some (.int .i64 (m + 1)) := by
          rw [World.rowIs.cell HW.out (by omega), HF.out _ (by omega)]
          congr 2; omega
        clear hm
        go_wp2
        go_roundw
        case rel => exact ⟨k + 1, by omega, by go_num, by have := HM.out; congr 1; omega, by first | rfl | trivial⟩
        case measure => simp [intOf]; omega
      · obtain rfl : k = n := by omega
        clear hm
        go_wp2
        go_ret
        exact ⟨by show Ending.returned (.int .i64 (m : Int)) = _; rw [HM.out], rfl⟩
end Go.Proofs.YtghekfigfjhkeabDoor.num
namespace Go.Proofs.YtghekfigfjhkeabDoor.num
open Go.RowKit
set_option linter.unusedVariables false

theorem marks_at {k n j : Nat} (h : j < n) : ((marks k n).map (Value.int .i64))[j]? = some (.int .i64 ((k + j : Nat) : Int)) := by simp [marks, h]
theorem ownI_nil (w : World) (B : Nat) : OwnI w B (.slice none 0 0) [] := ⟨rfl, .inl ⟨rfl, rfl⟩⟩
end Go.Proofs.YtghekfigfjhkeabDoor.num
namespace Go.Proofs.YtghekfigfjhkeabDoor.num
open Go.RowKit
set_option linter.unusedVariables false

theorem Lin.len {ps : List (Int × Int)} {k : Nat} {out : List Int} (h : Lin ps k out) : out.length = k := by
  induction h with
  | nil => rfl
  | snoc _ _ ih => simp [ih]
/-- What Linearize answers. -/
def LinP (ps : List (Int × Int)) (ok : Bool) (out : List Int) : Prop := (ok = true → Lin ps 10 out) ∧ (ok = false → out = [])
theorem LinP.one {ps : List (Int × Int)} {ok : Bool} {o o' : List Int} (h : LinP ps ok o) (h' : LinP ps ok o') : o = o' := by
  cases ok
  · rw [h.2 rfl, h'.2 rfl]
  · exact (h.1 rfl).one (h'.1 rfl)
def FreeUp (ps : List (Int × Int)) (out : List Int) (v : Int) (m : Nat) (f : Bool) : Prop := f = true ↔ v ∉ out ∧ ∀ p, p ∈ ps.take m → p.2 = v → p.1 ∈ out
theorem FreeUp.step {ps : List (Int × Int)} {out : List Int} {v : Int} {m : Nat} {f : Bool} {p : Int × Int} (h : FreeUp ps out v m f) (hp : ps[m]? = some p) {g : Bool} (hg : g = true ↔ f = true ∧ (p.2 = v → p.1 ∈ out)) : FreeUp ps out v (m + 1) g := by
  unfold FreeUp at h ⊢
  rw [hg, h, ptake_at hp]
  constructor
  · rintro ⟨⟨h1, h2⟩, h3⟩
    refine ⟨h1, fun q hq e => ?_⟩
    rcases List.mem_append.1 hq with hq | hq
    · exact h2 q hq e
    · obtain rfl := List.mem_singleton.1 hq
      exact h3 e
  · rintro ⟨h1, h2⟩
    exact ⟨⟨h1, fun q hq e => h2 q (List.mem_append_left _ hq) e⟩, fun e => h2 p (List.mem_append_right _ (by simp)) e⟩

end Go.Proofs.YtghekfigfjhkeabDoor.num
namespace Go.Proofs.YtghekfigfjhkeabDoor.num
open Go.RowKit
set_option linter.unusedVariables false

theorem PairRow.pairsN {w : World} {b B n : Nat} {ps : List (Int × Int)} (h : PairRow w b ps) (hB : b < B) (hl : ps.length = n) : Pairs w B (some ⟨b, 0, none⟩) n ps := hl ▸ h.pairs hB
theorem OwnP.at {w : World} {B : Nat} {A : Option Addr} {n c : Nat} {l : List (Int × Int)} (h : OwnP w B (.slice A n c) l) : Pairs w w.heap.size A n l := by
  obtain ⟨A', n', c', e, hp⟩ := h.pairs
  injection e with e1 e2 e3
  subst e1 e2 e3
  exact hp
theorem ownI_at {w : World} {B : Nat} {A : Option Addr} {n c : Nat} {l : List Int} (h : OwnI w B (.slice A n c) l) : Ints w w.heap.size A n l := by
  obtain ⟨A', n', c', e, hp⟩ := h.ints
  injection e with e1 e2 e3
  subst e1 e2 e3
  exact hp
theorem cloOf_len (ps : List (Int × Int)) (q : Bool) : (cloOf ps q).length ≤ 1048576 := by
  unfold cloOf
  split
  · have := clo_len ps 100; omega
  · simp
theorem LinP.small {ps : List (Int × Int)} {q : Bool} {out : List Int} (h : LinP ps q out) : out.length ≤ 1048576 := by
  cases q
  · rw [h.2 rfl]; simp
  · rw [(h.1 rfl).len]; decide
end Go.Proofs.YtghekfigfjhkeabDoor.num
namespace Go.Proofs.YtghekfigfjhkeabDoor.num
open Go.RowKit
set_option linter.unusedVariables false

/-- What a wish says. -/
structure WD where
  kind : Int
  field : Int
  value : Int
  ls : List Int
  ps : List (Int × Int)
/-- A wish's value: its numbers, and its two slices with what they read as. -/
structure Wi where
  kind : Int
  field : Int
  value : Int
  LA : Option Addr
  Ln : Nat
  Lc : Nat
  ls : List Int
  PA : Option Addr
  Pn : Nat
  Pc : Nat
  ps : List (Int × Int)
def Wi.val (t : Wi) : Value := .agg #[.int .i64 t.kind, .int .i64 t.field, .int .i64 t.value, .slice t.LA t.Ln t.Lc, .slice t.PA t.Pn t.Pc]
def Wi.dat (t : Wi) : WD := ⟨t.kind, t.field, t.value, t.ls, t.ps⟩
/-- The wish's slices read as said, below block B; its numbers are ints. -/
structure WiIn (w : World) (B : Nat) (t : Wi) : Prop where
  k : (Lit.int .i64 t.kind).wf = true
  f : (Lit.int .i64 t.field).wf = true
  v : (Lit.int .i64 t.value).wf = true
  l : Ints w B t.LA t.Ln t.ls
  p : Pairs w B t.PA t.Pn t.ps
theorem WiIn.below {w w' : World} {B : Nat} {t : Wi} (h : WiIn w B t) (hb : Below B w w') : WiIn w' B t := ⟨h.k, h.f, h.v, h.l.below hb, h.p.below hb⟩
theorem WiIn.more {w : World} {B B' : Nat} {t : Wi} (h : WiIn w B t) (hB : B ≤ B') : WiIn w B' t := ⟨h.k, h.f, h.v, h.l.more hB, h.p.more hB⟩
/-- A wish whose slices are short. -/
def Wi.Short (t : Wi) : Prop := t.Ln ≤ 1048576 ∧ t.Pn ≤ 1048576

theorem szWish_c (t : Wi) (left : Int) (hl : t.Ln ≤ 9223372036854775807) (hp : t.Pn ≤ 9223372036854775807) (h0 : 0 ≤ left) (h1 : left ≤ 1048576) (w : World) :
    Calls Tryd.prog 10 #[t.val, .int .i64 left] w fun e w' => (∃ r : Int, e = .returned (.int .i64 r) ∧ (r = -1 ∨ (0 ≤ r ∧ r ≤ left ∧ (t.Ln : Int) ≤ left ∧ (t.Pn : Int) ≤ left))) ∧ Below w.heap.size w w' := by
  obtain ⟨k, f, v, LA, Ln, Lc, ls, PA, Pn, Pc, ps⟩ := t
  unfold Wi.val
  simp only [] at hl hp ⊢
  by_cases hle : (Ln : Int) ≤ left
  · go_enter Tryd.func10, Tryd.ntmps10
    go_wp2_with fail
    refine (szInts_yes _ _ _ _ hl hle h1 _).mono ?_
    rintro e w1 ⟨rfl, rfl⟩
    go_wp2_with fail
    refine (szPairs _ _ _ _ hp (by omega) (by omega) _).mono ?_
    rintro e w2 ⟨⟨r, rfl, hr⟩, rfl⟩
    rcases hr with rfl | ⟨r0, r1, r2⟩
    · go_wp2
      go_ret
      exact ⟨⟨_, rfl, .inl rfl⟩, (Below.refl _ _).alloc (Nat.le_refl _) _⟩
    · go_wp2
      go_ret
      exact ⟨⟨r, rfl, .inr ⟨r0, by omega, hle, by omega⟩⟩, (Below.refl _ _).alloc (Nat.le_refl _) _⟩
  · go_enter Tryd.func10, Tryd.ntmps10
    go_wp2_with fail
    refine (szInts_no _ _ _ _ hl (by omega) h0 _).mono ?_
    rintro e w1 ⟨rfl, rfl⟩
    go_wp2
    go_ret
    exact ⟨⟨_, rfl, .inl rfl⟩, (Below.refl _ _).alloc (Nat.le_refl _) _⟩
theorem below4 {w : World} {B : Nat} (hB : B ≤ w.heap.size) (o1 o2 o3 o4 : Obj) : Below B w ((((w.alloc o1).alloc o2).alloc o3).alloc o4) := (below3 hB o1 o2 o3).alloc (by simp; omega) _
theorem heap_mid2 (w : World) (o1 o2 o3 o4 : Obj) : ((((w.alloc o1).alloc o2).alloc o3).alloc o4).heap[w.heap.size + 2]? = some o3 := by
  rw [Below.heap_alloc _ _ _ (by simp)]
  have h := heap_alloc_new ((w.alloc o1).alloc o2) o3
  have e : ((w.alloc o1).alloc o2).heap.size = w.heap.size + 2 := by simp
  rwa [e] at h
theorem five_set {w : World} {g : Nat} {t : TypeId} {u0 u1 u2 u3 u4 v0 v1 v2 v3 v4 : Value} (h : w.heap[g]? = some (.cells #[u0, u1, u2, u3, u4] t (0, 0))) :
    (((((w.setCell ⟨g, 0, none⟩ v0).setCell ⟨g, 1, none⟩ v1).setCell ⟨g, 2, none⟩ v2).setCell ⟨g, 3, none⟩ v3).setCell ⟨g, 4, none⟩ v4).heap[g]? = some (.cells #[v0, v1, v2, v3, v4] t (0, 0)) := by
  have h := heap_setCell_same _ g 4 _ _ v4 (heap_setCell_same _ g 3 _ _ v3 (heap_setCell_same _ g 2 _ _ v2 (heap_setCell_same _ g 1 _ _ v1 (heap_setCell_same w g 0 _ _ v0 h))))
  simpa using h
set_option maxRecDepth 20000 in
theorem toWish_c (w : World) (B : Nat) (t : Wi) (hi : WiIn w B t) (hB : B ≤ w.heap.size) (hn : t.Short) :
    Calls Tryd.prog 12 #[t.val] w fun e w' => ∃ t' : Wi, e = .returned t'.val ∧ t'.dat = t.dat ∧ t'.Short ∧ WiIn w' w'.heap.size t' ∧ Below w.heap.size w w' := by
  obtain ⟨k, f, v, LA, Ln, Lc, ls, PA, Pn, Pc, ps⟩ := t
  obtain ⟨hk, hf, hv, hl, hp⟩ := hi
  unfold Wi.val
  simp only [Wi.Short] at hk hf hv hl hp hn ⊢
  have HL := Lib.hid hl
  have HP := Lib.hid hp
  have HK := Lib.hid hk
  have HF := Lib.hid hf
  have HV := Lib.hid hv
  have HN := Lib.hid hn
  clear hl hp hk hf hv hn
  go_enter Tryd.func12, Tryd.ntmps12
  go_wp2_with fail
  refine (toInts _ B LA Ln Lc ls (HL.out.below (below3 hB _ _ _)) (by simp; omega) HN.out.1).mono ?_
  rintro e w1 ⟨rfl, rfl⟩
  go_wp2_with fail
  refine (toPairs _ B PA Pn Pc ps (HP.out.below (below4 hB _ _ _ _)) (by simp; omega) HN.out.2).mono ?_
  rintro e w2 ⟨rfl, hrow, hb2⟩
  have hr1 : w2.heap[w.heap.size + 1]? = some (.cells #[.int .i64 0, .int .i64 0, .int .i64 0, .slice none 0 0, .slice none 0 0] 35 (0, 0)) := (hb2.block _ (by simp <;> omega)).trans (heap_mid _ _ _ _ _)
  have hr2 : w2.heap[w.heap.size + 1 + 1]? = some (.cells #[.int .i64 k, .int .i64 f, .int .i64 v, .slice (some ⟨w.heap.size + 1 + 1 + 1, 0, none⟩) Ln Ln, .slice none 0 0] 35 (0, 0)) := (hb2.block _ (by simp <;> omega)).trans (heap_mid2 _ _ _ _ _)
  have hr3 : IntRow w2 (w.heap.size + 1 + 1 + 1) ls := (IntRow.made _ ls _ (by simp)).below hb2 (by simp)
  have hbel : Below w.heap.size w w2 := (below4 (Nat.le_refl _) _ _ _ _).trans (hb2.mono (by simp; omega))
  have hsz : w.heap.size + 1 + 1 + 1 + 1 < w2.heap.size := by have := hrow.lt; simp at this ⊢; omega
  have HRow := Lib.hid hrow
  have HR3 := Lib.hid hr3
  have HB2 := Lib.hid hbel
  have HS := Lib.hid hsz
  have d0 : w2.cell? ⟨w.heap.size + 1, 0, none⟩ = some (.int .i64 0) := cell_of_row w2 _ 0 _ _ (0, 0) hr1
  have d1 : w2.cell? ⟨w.heap.size + 1, 1, none⟩ = some (.int .i64 0) := cell_of_row w2 _ 1 _ _ (0, 0) hr1
  have d2 : w2.cell? ⟨w.heap.size + 1, 2, none⟩ = some (.int .i64 0) := cell_of_row w2 _ 2 _ _ (0, 0) hr1
  have d3 : w2.cell? ⟨w.heap.size + 1, 3, none⟩ = some (.slice none 0 0) := cell_of_row w2 _ 3 _ _ (0, 0) hr1
  have d4 : w2.cell? ⟨w.heap.size + 1, 4, none⟩ = some (.slice none 0 0) := cell_of_row w2 _ 4 _ _ (0, 0) hr1
  have g0 : w2.frozen? ⟨w.heap.size + 1, 0, none⟩ = false := frozen_of_row w2 _ 0 _ _ hr1
  have g1 : w2.frozen? ⟨w.heap.size + 1, 1, none⟩ = false := frozen_of_row w2 _ 1 _ _ hr1
  have g2 : w2.frozen? ⟨w.heap.size + 1, 2, none⟩ = false := frozen_of_row w2 _ 2 _ _ hr1
  have g3 : w2.frozen? ⟨w.heap.size + 1, 3, none⟩ = false := frozen_of_row w2 _ 3 _ _ hr1
  have g4 : w2.frozen? ⟨w.heap.size + 1, 4, none⟩ = false := frozen_of_row w2 _ 4 _ _ hr1
  have c0 : w2.cell? ⟨w.heap.size + 1 + 1, 0, none⟩ = some (.int .i64 k) := cell_of_row w2 _ 0 _ _ (0, 0) hr2
  have c1 : w2.cell? ⟨w.heap.size + 1 + 1, 1, none⟩ = some (.int .i64 f) := cell_of_row w2 _ 1 _ _ (0, 0) hr2
  have c2 : w2.cell? ⟨w.heap.size + 1 + 1, 2, none⟩ = some (.int .i64 v) := cell_of_row w2 _ 2 _ _ (0, 0) hr2
  have c3 : w2.cell? ⟨w.heap.size + 1 + 1, 3, none⟩ = some (.slice (some ⟨w.heap.size + 1 + 1 + 1, 0, none⟩) Ln Ln) := cell_of_row w2 _ 3 _ _ (0, 0) hr2
  have c4 : w2.cell? ⟨w.heap.size + 1 + 1, 4, none⟩ = some (.slice none 0 0) := cell_of_row w2 _ 4 _ _ (0, 0) hr2
  have e4 : w2.frozen? ⟨w.heap.size + 1 + 1, 4, none⟩ = false := frozen_of_row w2 _ 4 _ _ hr2
  have HR1 := Lib.hid hr1
  clear hr1 hr2 hr3 hrow hbel hsz hb2
  go_wp2
  refine bodyPost_ret_by (results_cell_row rfl _ _ (w.heap.size + 1) 35 _ (0, 0) _ rfl (five_set ((heap_setCell_other _ _ _ _ (by simp)).trans HR1.out)) Tryd.underlying35 rfl (by kernel_rfl)) rfl ?_
  have hk2 : ∀ b, w.heap.size + 1 + 1 < b → ∀ v1 v2 v3 v4 v5 v6, ((((((w2.setCell ⟨w.heap.size + 1 + 1, 4, none⟩ v1).setCell ⟨w.heap.size + 1, 0, none⟩ v2).setCell ⟨w.heap.size + 1, 1, none⟩ v3).setCell ⟨w.heap.size + 1, 2, none⟩ v4).setCell ⟨w.heap.size + 1, 3, none⟩ v5).setCell ⟨w.heap.size + 1, 4, none⟩ v6).heap[b]? = w2.heap[b]? := fun b hb v1 v2 v3 v4 v5 v6 => by
    rw [heap_setCell_other _ _ _ _ (by simp; omega), heap_setCell_other _ _ _ _ (by simp; omega), heap_setCell_other _ _ _ _ (by simp; omega), heap_setCell_other _ _ _ _ (by simp; omega), heap_setCell_other _ _ _ _ (by simp; omega), heap_setCell_other _ _ _ _ (by simp; omega)]
  refine ⟨⟨k, f, v, some ⟨w.heap.size + 1 + 1 + 1, 0, none⟩, Ln, Ln, ls, some ⟨w.heap.size + 1 + 1 + 1 + 1, 0, none⟩, Pn, Pn, ps⟩, rfl, rfl, HN.out, ⟨HK.out, HF.out, HV.out, ints_row HL.out (World.rowIs.of_block HR3.out (hk2 _ (by omega) _ _ _ _ _ _)), ?_⟩, ?_⟩
  · have hp0 : PairRow w2 (w.heap.size + 1 + 1 + 1 + 1) ps := by have := HRow.out; simp at this; exact this
    refine PairRow.pairsN (World.rowIs.of_block hp0 (hk2 _ (by omega) _ _ _ _ _ _)) ?_ HP.out.1
    have := HS.out
    simpa using this
  · exact (((((HB2.out.setCell (by show _ ≤ w.heap.size + 1 + 1; omega) _).setCell (by show _ ≤ w.heap.size + 1; omega) _).setCell (by show _ ≤ w.heap.size + 1; omega) _).setCell (by show _ ≤ w.heap.size + 1; omega) _).setCell (by show _ ≤ w.heap.size + 1; omega) _).setCell (by show _ ≤ w.heap.size + 1; omega) _

set_option maxRecDepth 20000 in
theorem eqWish_c (w : World) (B : Nat) (t t' : Wi) (h1 : WiIn w B t) (h2 : WiIn w B t') (hB : B ≤ w.heap.size) (hn : t.Short) (b : Bool) (hb : b = true ↔ t.dat = t'.dat) :
    Calls Tryd.prog 14 #[t.val, t'.val] w fun e w' => e = .returned (.bool b) ∧ Below w.heap.size w w' := by
  obtain ⟨k, f, v, LA, Ln, Lc, ls, PA, Pn, Pc, ps⟩ := t
  obtain ⟨k', f', v', LA', Ln', Lc', ls', PA', Pn', Pc', ps'⟩ := t'
  obtain ⟨-, -, -, hl, hp⟩ := h1
  obtain ⟨-, -, -, hl', hp'⟩ := h2
  unfold Wi.val
  simp only [Wi.dat, WD.mk.injEq, Wi.Short] at hl hp hl' hp' hn hb ⊢
  have HL := Lib.hid hl
  have HP := Lib.hid hp
  have HL' := Lib.hid hl'
  have HP' := Lib.hid hp'
  have HB := Lib.hid hb
  have HN := Lib.hid hn
  have hB2 : ∀ o1 o2 : Obj, Below B w ((w.alloc o1).alloc o2) := fun o1 o2 => ((Below.refl B w).alloc hB _).alloc (by simp; omega) _
  have hW2 : ∀ o1 o2 : Obj, Below w.heap.size w ((w.alloc o1).alloc o2) := fun o1 o2 => ((Below.refl _ w).alloc (Nat.le_refl _) _).alloc (by simp) _
  have HB2 := Lib.hid hB2
  have HW2 := Lib.hid hW2
  clear hl hp hl' hp' hb hn hB2 hW2
  have hno : ¬ (k = k' ∧ f = f' ∧ v = v' ∧ ls = ls' ∧ ps = ps') → b = false := fun h => by
    cases b
    · rfl
    · exact absurd (HB.out.1 rfl) h
  have HNo := Lib.hid hno
  clear hno
  by_cases e1 : k = k'
  · subst e1
    by_cases e2 : f = f'
    · subst e2
      by_cases e3 : v = v'
      · subst e3
        obtain ⟨q1, hq1⟩ := bool_of (ls = ls')
        obtain ⟨q2, hq2⟩ := bool_of (ps = ps')
        have HQ1 := Lib.hid hq1
        have HQ2 := Lib.hid hq2
        clear hq1 hq2
        go_enter Tryd.func14, Tryd.ntmps14
        go_wp2_with fail
        refine (eqInts_b _ B LA LA' Ln Ln' Lc Lc' ls ls' (HL.out.below (HB2.out _ _)) (HL'.out.below (HB2.out _ _)) HN.out.1 q1 HQ1.out).mono ?_
        rintro e w1 ⟨rfl, hb1⟩
        have HB1 := Lib.hid (And.intro (((HB2.out _ _).trans (hb1.mono (by simp <;> omega)))) ((HW2.out _ _).trans (hb1.mono (by simp <;> omega))))
        have c1 : w1.cell? ⟨w.heap.size, 4, none⟩ = some (.slice PA Pn Pc) := (hb1.cell (p := ⟨w.heap.size, 4, none⟩) (by simp; omega)).trans (by rw [World.cell?_alloc_past _ _ _ (by simp), World.cell?_alloc_at _ _ _ _ rfl]; rfl)
        have c2 : w1.cell? ⟨w.heap.size + 1, 4, none⟩ = some (.slice PA' Pn' Pc') := (hb1.cell (p := ⟨w.heap.size + 1, 4, none⟩) (by simp)).trans (by rw [World.cell?_alloc_at _ _ _ _ (by simp)]; rfl)
        clear hb1
        cases q1
        · obtain rfl := HNo.out (fun h => by have := HQ1.out.2 h.2.2.2.1; cases this)
          go_wp2
          go_ret
          exact ⟨rfl, HB1.out.2⟩
        · go_wp2_with fail
          refine (eqPairs w1 B PA PA' Pn Pn' Pc Pc' ps ps' (HP.out.below HB1.out.1) (HP'.out.below HB1.out.1) (Nat.le_trans hB HB1.out.2.size) HN.out.2 q2 HQ2.out).mono ?_
          rintro e w2 ⟨rfl, hb2⟩
          have HBB := Lib.hid (HB1.out.2.trans (hb2.mono HB1.out.2.size))
          clear hb2 c1 c2
          cases q2
          · obtain rfl := HNo.out (fun h => by have := HQ2.out.2 h.2.2.2.2; cases this)
            go_wp2
            go_ret
            exact ⟨rfl, HBB.out⟩
          · obtain rfl := HB.out.2 ⟨(by first | rfl | trivial), (by first | rfl | trivial), (by first | rfl | trivial), HQ1.out.1 (by first | rfl | trivial), HQ2.out.1 (by first | rfl | trivial)⟩
            go_wp2
            go_ret
            exact ⟨rfl, HBB.out⟩
      · obtain rfl := HNo.out (fun h => e3 h.2.2.1)
        have hne : (v != v') = true := by simpa using e3
        clear e3
        go_enter Tryd.func14, Tryd.ntmps14
        go_wp2
        go_ret
        exact ⟨rfl, HW2.out _ _⟩
    · obtain rfl := HNo.out (fun h => e2 h.2.1)
      have hne : (f != f') = true := by simpa using e2
      clear e2
      go_enter Tryd.func14, Tryd.ntmps14
      go_wp2
      go_ret
      exact ⟨rfl, HW2.out _ _⟩
  · obtain rfl := HNo.out (fun h => e1 h.1)
    have hne : (k != k') = true := by simpa using e1
    clear e1
    go_enter Tryd.func14, Tryd.ntmps14
    go_wp2
    go_ret
    exact ⟨rfl, HW2.out _ _⟩
end Go.Proofs.YtghekfigfjhkeabDoor.num
namespace Go.Proofs.YtghekfigfjhkeabDoor.num
open Go.RowKit Go.ChangeShapes Go.WideShapes Go.Deep Go.Joins

theorem array5 {α : Type} {cs : Array α} (h : cs.size = 5) : ∃ c0 c1 c2 c3 c4, cs = #[c0, c1, c2, c3, c4] := by
  obtain ⟨l⟩ := cs
  match l, h with
  | [c0, c1, c2, c3, c4], _ => exact ⟨c0, c1, c2, c3, c4, rfl⟩
section
variable {H : Type} {enc : TypeId × Value → H} {W : World}
theorem open_struct5 {P : Program} {w : World} {base : Nat} {spare : Nat → Bool} {held : Bool} {r : Go.Reach} {b0 : Nat} {t : TypeId} {f0 f1 f2 f3 f4 : Field} {v : Value} {d : DataW H} {p : List MemPlace} (hs : P.underlying t = some (.struct #[f0, f1, f2, f3, f4])) (hone : oneCellFields P #[f0, f1, f2, f3, f4] = true) (hC : P.cellsOf t = 5)
    (hv : Value.okWide P w r b0 t v) (h : DataW.Trod enc P w base spare held t v d p) :
    ∃ (v0 v1 v2 v3 v4 : Value) (y0 y1 y2 y3 y4 : DataW H × List MemPlace) (n : Nat), v = .agg #[v0, v1, v2, v3, v4] ∧
      DataW.trod enc P w base spare held n f0.type [v0] = some y0 ∧ DataW.trod enc P w base spare held n f1.type [v1] = some y1 ∧ DataW.trod enc P w base spare held n f2.type [v2] = some y2 ∧ DataW.trod enc P w base spare held n f3.type [v3] = some y3 ∧ DataW.trod enc P w base spare held n f4.type [v4] = some y4 := by
  obtain ⟨cs, rfl, hsz⟩ := okWide_struct hs hv
  obtain ⟨c0, c1, c2, c3, c4, rfl⟩ := array5 (hsz.trans hC)
  obtain ⟨fuel, hf⟩ := h
  obtain ⟨xs, n, _, _, _, hlen, hx⟩ := DataW.trod_struct hs hf
  obtain ⟨o0, k0⟩ := hone_of hone 0 f0 rfl
  obtain ⟨o1, k1⟩ := hone_of hone 1 f1 rfl
  obtain ⟨o2, k2⟩ := hone_of hone 2 f2 rfl
  obtain ⟨o3, k3⟩ := hone_of hone 3 f3 rfl
  obtain ⟨o4, k4⟩ := hone_of hone 4 f4 rfl
  match xs, hlen with
  | [y0, y1, y2, y3, y4], _ =>
    exact ⟨c0, c1, c2, c3, c4, y0, y1, y2, y3, y4, n, rfl, by simpa [Value.cells, o0, k0] using hx 0 f0 rfl, by simpa [Value.cells, o1, k1] using hx 1 f1 rfl, by simpa [Value.cells, o2, k2] using hx 2 f2 rfl, by simpa [Value.cells, o3, k3] using hx 3 f3 rfl, by simpa [Value.cells, o4, k4] using hx 4 f4 rfl⟩
set_option maxRecDepth 20000 in
theorem open_pairrow {fuel : Nat} {v : Value} {x : DataW H × List MemPlace} (hf : DataW.trod enc Tryd.prog W 0 (fun _ => true) true fuel 29 [v] = some x) :
    ∃ A n c ps, v = .slice A n c ∧ n ≤ 9223372036854775807 ∧ Pairs W W.heap.size A n ps := by
  rcases open_slice_pairs Tryd.underlying29 Tryd.underlying72 (by kernel_rfl) rfl rfl (by kernel_rfl) (by kernel_rfl) hf with ⟨hc, _⟩ | ⟨a, len, cap, m, k, V0, V1, D0, D1, P0, P1, hc, _, hl, hm, hmm, _, hx⟩
  · obtain rfl : v = .slice none 0 0 := by simpa using hc
    exact ⟨none, 0, 0, [], rfl, by omega, rfl, fun k p hk => by simp at hk⟩
  · obtain rfl : v = .slice (some a) len cap := by simpa using hc
    have hmc : m = cap := by simpa using hmm
    obtain ⟨ps, hlen, hp⟩ := list_of (n := len) (p := fun i (t : Int × Int) => ∃ b off : Nat, some a = some ⟨b, off, none⟩ ∧ b < W.heap.size ∧ W.cell? ⟨b, off + i * 2, none⟩ = some (.int .i64 t.1) ∧ W.cell? ⟨b, off + i * 2 + 1, none⟩ = some (.int .i64 t.2)) (fun i hi => by
      obtain ⟨g0, g1, t0, t1⟩ := hx i (by omega)
      obtain ⟨gz, _, _, _⟩ := hx 0 (by omega)
      obtain ⟨x, hx0, _, _⟩ := DataW.trod_int Tryd.underlying3 t0
      obtain ⟨y, hy0, _, _⟩ := DataW.trod_int Tryd.underlying3 t1
      have hx' : V0 i = .int .i64 x := by simpa using hx0
      have hy' : V1 i = .int .i64 y := by simpa using hy0
      obtain ⟨b, off, rfl, hb, q0⟩ := add_flat gz g0
      obtain ⟨b', off', he, hb', q1⟩ := add_flat gz g1
      injection he with e1 e2
      subst e1 e2
      exact ⟨(x, y), b, off, rfl, hb, q0.trans (by rw [hx']), q1.trans (by rw [hy'])⟩)
    refine ⟨some a, len, cap, ps, rfl, by unfold maxLen at hm; omega, hlen, fun i t hi => ?_⟩
    have hlt : i < ps.length := by
      rcases Nat.lt_or_ge i ps.length with h' | h'
      · exact h'
      · rw [List.getElem?_eq_none h'] at hi; cases hi
    rw [List.getElem?_eq_getElem hlt] at hi
    cases hi
    exact hp i hlt
set_option maxRecDepth 20000 in
theorem open_wish {b0 : Nat} {v : Value} {d : DataW H} {p : List MemPlace} (hv : Value.okWide Tryd.prog W .any b0 31 v) (h : DataW.Trod enc Tryd.prog W 0 (fun _ => true) true 31 v d p) :
    ∃ t : Wi, v = t.val ∧ t.Ln ≤ 9223372036854775807 ∧ t.Pn ≤ 9223372036854775807 ∧ WiIn W W.heap.size t := by
  obtain ⟨v0, v1, v2, v3, v4, y0, y1, y2, y3, y4, n, rfl, h0, h1, h2, h3, h4⟩ := open_struct5 Tryd.underlying31 (by kernel_rfl) (by kernel_rfl) hv h
  obtain ⟨k, hk, _, wk⟩ := DataW.trod_int Tryd.underlying3 h0
  obtain ⟨f, hf, _, wf⟩ := DataW.trod_int Tryd.underlying3 h1
  obtain ⟨x, hx, _, wx⟩ := DataW.trod_int Tryd.underlying3 h2
  obtain ⟨A, m, c, xs, rfl, hm, hxs⟩ := open_introw h3
  obtain ⟨A', m', c', ps, rfl, hm', hps⟩ := open_pairrow h4
  obtain rfl : v0 = .int .i64 k := by simpa using hk
  obtain rfl : v1 = .int .i64 f := by simpa using hf
  obtain rfl : v2 = .int .i64 x := by simpa using hx
  exact ⟨⟨k, f, x, A, m, c, xs, A', m', c', ps⟩, rfl, hm, hm', wk, wf, wx, hxs, hps⟩
end
end Go.Proofs.YtghekfigfjhkeabDoor.num
namespace Go.Proofs.YtghekfigfjhkeabDoor.num
open Go.RowKit

section
variable {P : Program} {ops : Array Oper} {Q : Exit → Act → World → Prop} {md : Region.Mode} {S : World → Prop}
/-- Operation i, wanted, yields v in every world that meets S. -/
theorem takeY (d : Tmp) {i : Nat} {oi : Oper} {v : Value} {fuel : Nat} {listed : Array Bool} {a : Act} {w : World} (hi : ops[i]? = some oi) (hd : oi.dst = some d)
    (hs : Region.noSelect ops = true) (hf : Region.free md ops listed i = true) (hr : (Region.ready md ops listed).contains i = true)
    (hQ : ∀ c a w, Q (.panic c) (a.put oi.dst v) w → Q (.panic c) a w) (hw : Region.wanted oi (yielded ops a.tmps) = true) (hy : ∀ w, S w → (execOp a.eval oi).run P w = .ok (.value v) w) (hS : S w)
    (h : wpAnyH P md ops Q S fuel (listed.setIfInBounds i true) (a.put (some d) v) w) : wpAnyH P md ops Q S (fuel + 1) listed a w :=
  wpAnyH_take hi hs hf hr hQ (Or.inl ⟨hw, hy⟩) hS (hd ▸ h)
/-- Operation i, not wanted. -/
theorem takeU (d : Tmp) {i : Nat} {oi : Oper} {fuel : Nat} {listed : Array Bool} {a : Act} {w : World} (hi : ops[i]? = some oi) (hd : oi.dst = some d)
    (hs : Region.noSelect ops = true) (hf : Region.free md ops listed i = true) (hr : (Region.ready md ops listed).contains i = true)
    (hQ : ∀ c a w, Q (.panic c) (a.put oi.dst undef) w → Q (.panic c) a w) (hw : Region.wanted oi (yielded ops a.tmps) = false) (hS : S w)
    (h : wpAnyH P md ops Q S fuel (listed.setIfInBounds i true) (a.put (some d) undef) w) : wpAnyH P md ops Q S (fuel + 1) listed a w :=
  wpAnyH_take hi hs hf hr hQ (Or.inr ⟨hw, rfl⟩) hS (hd ▸ h)
end
end Go.Proofs.YtghekfigfjhkeabDoor.num
namespace Go.Proofs.YtghekfigfjhkeabDoor.num
open Go.RowKit
set_option linter.unusedVariables false

/-- Block g holds the wish t. -/
def Box5 (w : World) (g : Nat) (t : Wi) : Prop :=
  g < w.heap.size ∧ w.cell? ⟨g, 0, none⟩ = some (.int .i64 t.kind) ∧ w.cell? ⟨g, 1, none⟩ = some (.int .i64 t.field) ∧ w.cell? ⟨g, 2, none⟩ = some (.int .i64 t.value) ∧ w.cell? ⟨g, 3, none⟩ = some (.slice t.LA t.Ln t.Lc) ∧ w.cell? ⟨g, 4, none⟩ = some (.slice t.PA t.Pn t.Pc)
theorem Box5.below {w w' : World} {g : Nat} {t : Wi} (h : Box5 w g t) (hb : Below w.heap.size w w') : Box5 w' g t :=
  ⟨Nat.lt_of_lt_of_le h.1 hb.size, (hb.cell (p := ⟨g, 0, none⟩) h.1).trans h.2.1, (hb.cell (p := ⟨g, 1, none⟩) h.1).trans h.2.2.1, (hb.cell (p := ⟨g, 2, none⟩) h.1).trans h.2.2.2.1, (hb.cell (p := ⟨g, 3, none⟩) h.1).trans h.2.2.2.2.1, (hb.cell (p := ⟨g, 4, none⟩) h.1).trans h.2.2.2.2.2⟩
theorem Box5.alloc {w : World} {g : Nat} {t : Wi} (h : Box5 w g t) (o : Obj) : Box5 (w.alloc o) g t := h.below ((Below.refl _ w).alloc (Nat.le_refl _) _)
theorem Box5.new (w : World) (t : Wi) (T : TypeId) : Box5 (w.alloc (.cells #[.int .i64 t.kind, .int .i64 t.field, .int .i64 t.value, .slice t.LA t.Ln t.Lc, .slice t.PA t.Pn t.Pc] T)) w.heap.size t :=
  ⟨by simp, World.cell?_alloc_at _ _ _ _ rfl, World.cell?_alloc_at _ _ _ _ rfl, World.cell?_alloc_at _ _ _ _ rfl, World.cell?_alloc_at _ _ _ _ rfl, World.cell?_alloc_at _ _ _ _ rfl⟩
/-- Block g holds the item t. -/
def Box2 (w : World) (g : Nat) (t : It) : Prop :=
  g < w.heap.size ∧ w.cell? ⟨g, 0, none⟩ = some (.int .i64 t.id) ∧ w.cell? ⟨g, 1, none⟩ = some (.slice t.A t.n t.c)
theorem Box2.below {w w' : World} {g : Nat} {t : It} (h : Box2 w g t) (hb : Below w.heap.size w w') : Box2 w' g t :=
  ⟨Nat.lt_of_lt_of_le h.1 hb.size, (hb.cell (p := ⟨g, 0, none⟩) h.1).trans h.2.1, (hb.cell (p := ⟨g, 1, none⟩) h.1).trans h.2.2⟩
theorem Box2.alloc {w : World} {g : Nat} {t : It} (h : Box2 w g t) (o : Obj) : Box2 (w.alloc o) g t := h.below ((Below.refl _ w).alloc (Nat.le_refl _) _)
theorem Box2.new (w : World) (t : It) (T : TypeId) : Box2 (w.alloc (.cells #[.int .i64 t.id, .slice t.A t.n t.c] T)) w.heap.size t :=
  ⟨by simp, World.cell?_alloc_at _ _ _ _ rfl, World.cell?_alloc_at _ _ _ _ rfl⟩
theorem WiIn.step {w w' : World} {t : Wi} (h : WiIn w w.heap.size t) (hb : Below w.heap.size w w') : WiIn w' w'.heap.size t := (h.below hb).more hb.size
theorem Ints.step {w w' : World} {A : Option Addr} {n : Nat} {xs : List Int} (h : Ints w w.heap.size A n xs) (hb : Below w.heap.size w w') : Ints w' w'.heap.size A n xs := (h.below hb).more hb.size
theorem below_on {w w1 w2 : World} (h : Below w.heap.size w w1) (h2 : Below w1.heap.size w1 w2) : Below w.heap.size w w2 := h.trans (h2.mono h.size)
theorem kind_dat (t : Wi) : t.kind = t.dat.kind := rfl
/-- A copy of the wish t. -/
structure CopyW (w : World) (t t' : Wi) : Prop where
  dat : t'.dat = t.dat
  short : t'.Short
  at' : WiIn w w.heap.size t'
theorem CopyW.step {w w' : World} {t t' : Wi} (h : CopyW w t t') (hb : Below w.heap.size w w') : CopyW w' t t' := ⟨h.dat, h.short, h.at'.step hb⟩
theorem toWish_w (w : World) (B : Nat) (t : Wi) (hi : WiIn w B t) (hB : B ≤ w.heap.size) (hn : t.Short) :
    Calls Tryd.prog 12 #[t.val] w fun e w' => ∃ t' : Wi, e = .returned t'.val ∧ CopyW w' t t' ∧ Below w.heap.size w w' :=
  (toWish_c w B t hi hB hn).mono fun _ _ ⟨t', h1, h2, h3, h4, h5⟩ => ⟨t', h1, ⟨h2, h3, h4⟩, h5⟩
theorem eqWish_w (w : World) (t t1 t2 : Wi) (h1 : CopyW w t t1) (h2 : CopyW w t t2) :
    Calls Tryd.prog 14 #[t1.val, t2.val] w fun e w' => e = .returned (.bool true) ∧ Below w.heap.size w w' :=
  eqWish_c w w.heap.size t1 t2 h1.at' h2.at' (Nat.le_refl _) h1.short true (by rw [h1.dat, h2.dat]; simp)
structure CopyI (w : World) (t t' : It) : Prop where
  dat : t'.dat = t.dat
  short : t'.n ≤ 1048576
  at' : Ints w w.heap.size t'.A t'.n t'.xs
theorem CopyI.step {w w' : World} {t t' : It} (h : CopyI w t t') (hb : Below w.heap.size w w') : CopyI w' t t' := ⟨h.dat, h.short, h.at'.step hb⟩
end Go.Proofs.YtghekfigfjhkeabDoor.num
namespace Go.Proofs.YtghekfigfjhkeabDoor.num

/-- The number that bytes encode, most significant first. -/
def beVal (l : List UInt8) : Nat := l.foldl (fun n b => n * 256 + b.toNat) 0
theorem beVal_snoc (l : List UInt8) (b : UInt8) : beVal (l ++ [b]) = beVal l * 256 + b.toNat := by simp [beVal, List.foldl_append]
theorem beVal_cons (b : UInt8) (l : List UInt8) : beVal (b :: l) = b.toNat * 256 ^ l.length + beVal l := by
  have h : ∀ (l : List UInt8) (a : Nat), l.foldl (fun n b => n * 256 + b.toNat) a = a * 256 ^ l.length + beVal l := by
    intro l
    induction l with
    | nil => intro a; simp [beVal]
    | cons c l ih =>
      intro a
      simp only [List.foldl_cons, List.length_cons, beVal]
      rw [ih, ih (0 * 256 + c.toNat), Nat.pow_succ]
      simp only [Nat.zero_mul, Nat.zero_add, Nat.add_mul, Nat.mul_assoc, Nat.mul_comm 256, Nat.add_assoc]
  simp only [beVal, List.foldl_cons]
  rw [h l]; simp [beVal]
theorem beVal_lt (l : List UInt8) : beVal l < 256 ^ l.length := by
  induction l with
  | nil => simp [beVal]
  | cons b l ih =>
    have hb := b.toNat_lt
    have h1 : b.toNat * 256 ^ l.length ≤ 255 * 256 ^ l.length := Nat.mul_le_mul_right _ (by omega)
    rw [beVal_cons, List.length_cons, Nat.pow_succ]
    omega
theorem take_snoc (s : ByteArray) (k : Nat) (h : k < s.size) : s.data.toList.take (k + 1) = s.data.toList.take k ++ [s[k]] := by
  rw [List.take_succ_eq_append_getElem (by simpa using h)]; rfl
theorem pow_le (k : Nat) (h : k ≤ 7) : 256 ^ k ≤ 72057594037927936 := by
  have : 256 ^ k ≤ 256 ^ 7 := Nat.pow_le_pow_right (by decide) h
  simpa using this
theorem pow_le6 (k : Nat) (h : k ≤ 6) : 256 ^ k ≤ 281474976710656 := by
  have : 256 ^ k ≤ 256 ^ 6 := Nat.pow_le_pow_right (by decide) h
  simpa using this
theorem beVal_take_lt6 (s : ByteArray) (k : Nat) (h : k ≤ 6) : beVal (s.data.toList.take k) < 281474976710656 := by
  have h1 := beVal_lt (s.data.toList.take k)
  have h2 : (s.data.toList.take k).length ≤ 6 := by have := List.length_take_le k s.data.toList; omega
  have h3 := pow_le6 _ h2
  omega
/-- Two numbers whose bits do not meet. -/
theorem or_add (a b : Nat) (hb : b < 256) : a * 256 ||| b = a * 256 + b := by
  have h := Nat.two_pow_add_eq_or_of_lt (i := 8) (b := b) (by simpa using hb) a
  rw [Nat.mul_comm a 256]
  simpa using h.symm
theorem beVal_take_lt (s : ByteArray) (k : Nat) (h : k ≤ 7) : beVal (s.data.toList.take k) < 72057594037927936 := by
  have h1 := beVal_lt (s.data.toList.take k)
  have h2 : (s.data.toList.take k).length ≤ 7 := by have := List.length_take_le k s.data.toList; omega
  have h3 := pow_le _ h2
  omega

/-- n as w bytes, most significant first. -/
def beEnc : Nat → Nat → List UInt8
  | 0, _ => []
  | k + 1, n => UInt8.ofNat (n / 256 ^ k) :: beEnc k n
theorem beEnc_length (k n : Nat) : (beEnc k n).length = k := by induction k with
  | zero => rfl
  | succ k ih => simp [beEnc, ih]
theorem beEnc_get (k n j : Nat) (h : j < k) : (beEnc k n)[j]? = some (UInt8.ofNat (n / 256 ^ (k - 1 - j))) := by
  induction k generalizing j with
  | zero => omega
  | succ k ih =>
    cases j with
    | zero => simp [beEnc]
    | succ j => simp only [beEnc, List.getElem?_cons_succ]; rw [ih j (by omega)]; congr 4; omega
theorem beVal_beEnc (k n : Nat) : beVal (beEnc k n) = n % 256 ^ k := by
  induction k with
  | zero => simp [beEnc, beVal, Nat.mod_one]
  | succ k ih =>
    simp only [beEnc]
    rw [beVal_cons, ih, beEnc_length, Nat.pow_succ, Nat.mod_mul]
    simp only [UInt8.toNat_ofNat']
    rw [Nat.mul_comm (256 ^ k)]
    have h2 : (2 : Nat) ^ 8 = 256 := by decide
    rw [h2]; omega

/-- A varint's byte with and without a successor. -/
def hib (m : Nat) : UInt8 := UInt8.ofNat (m % 128 + 128)
def lob (m : Nat) : UInt8 := UInt8.ofNat m
theorem hib_toNat (m : Nat) : (hib m).toNat = m % 128 + 128 := by simp [hib]; omega
theorem lob_toNat (m : Nat) (h : m < 128) : (lob m).toNat = m := by simp [lob]; omega
/-- A number as a varint: seven bits a byte, least significant first. -/
def vEnc (n : Nat) : List UInt8 := if n < 128 then [lob n] else hib n :: vEnc (n / 128)
  termination_by n
  decreasing_by omega
theorem vEnc_small (n : Nat) (h : n < 128) : vEnc n = [lob n] := by rw [vEnc, if_pos h]
theorem vEnc_big (n : Nat) (h : 128 ≤ n) : vEnc n = hib n :: vEnc (n / 128) := by rw [vEnc, if_neg (by omega)]
theorem vEnc_len (k n : Nat) (h : n < 128 ^ (k + 1)) : (vEnc n).length ≤ k + 1 := by
  induction k generalizing n with
  | zero => rw [vEnc_small n (by simpa using h)]; simp
  | succ k ih =>
    by_cases hn : n < 128
    · rw [vEnc_small n hn]; simp
    · rw [vEnc_big n (by omega)]
      have h1 := ih (n / 128) (by rw [Nat.pow_succ] at h; exact Nat.div_lt_of_lt_mul (by omega))
      simpa using h1
theorem vEnc_len7 (n : Nat) (h : n ≤ 562949953421311) : (vEnc n).length ≤ 7 := vEnc_len 6 n (by
  have : (128 : Nat) ^ (6 + 1) = 562949953421312 := by decide
  omega)
theorem vPre_len {pre : List UInt8} {m n : Nat} (h : pre ++ vEnc m = vEnc n) (hn : n ≤ 562949953421311) : pre.length ≤ 7 := by
  have h1 := vEnc_len7 n hn
  rw [← h, List.length_append] at h1
  omega
theorem vPre_step {pre : List UInt8} {m n : Nat} (h : pre ++ vEnc m = vEnc n) (hm : 128 ≤ m) : (pre ++ [hib m]) ++ vEnc (m / 128) = vEnc n := by
  rw [← h, vEnc_big m hm]; simp
theorem vPre_end {pre : List UInt8} {m n : Nat} (h : pre ++ vEnc m = vEnc n) (hm : m < 128) : pre ++ [lob m] = vEnc n := by
  rw [← h, vEnc_small m hm]
end Go.Proofs.YtghekfigfjhkeabDoor.num
namespace Go.Proofs.YtghekfigfjhkeabDoor.num
open Go

def isD (b : UInt8) : Bool := decide (48 ≤ b.toNat ∧ b.toNat ≤ 57)
def dstep (n : Nat) (b : UInt8) : Nat := if isD b then 10 * n + (b.toNat - 48) else n
def scanV (l : List UInt8) : Nat := l.foldl dstep 0
def scanK (l : List UInt8) : Nat := (l.filter isD).length
def dash (l : List UInt8) : Bool := l.head? == some 45
def dgs (l : List UInt8) : List UInt8 := if dash l then l.tail else l
theorem scanV_snoc (l : List UInt8) (b : UInt8) : scanV (l ++ [b]) = dstep (scanV l) b := by simp [scanV, List.foldl_append]
theorem scanK_snoc (l : List UInt8) (b : UInt8) : scanK (l ++ [b]) = scanK l + if isD b then 1 else 0 := by
  unfold scanK
  rw [List.filter_append]
  cases h : isD b <;> simp [h]
theorem scanV_lt (k : Nat) : ∀ l : List UInt8, l.length ≤ k → scanV l < 10 ^ k := by
  induction k with
  | zero =>
    intro l h
    obtain rfl : l = [] := List.eq_nil_of_length_eq_zero (by omega)
    simp [scanV]
  | succ k ih =>
    intro l h
    rcases l.eq_nil_or_concat with rfl | ⟨l', b, rfl⟩
    · have h1 : 10 ^ 0 ≤ 10 ^ (k + 1) := Nat.pow_le_pow_right (by decide) (Nat.zero_le _)
      have h2 : (10 : Nat) ^ 0 = 1 := by decide
      show 0 < 10 ^ (k + 1)
      omega
    · rw [List.concat_eq_append] at h ⊢
      have h1 := ih l' (by simp at h; omega)
      rw [scanV_snoc, Nat.pow_succ]
      unfold dstep
      split
      · rename_i hd
        have : b.toNat ≤ 57 := (of_decide_eq_true hd).2
        omega
      · omega
theorem scanV_le11 (l : List UInt8) (h : l.length ≤ 10) : scanV l ≤ 9999999999 := by
  have := scanV_lt 10 l h
  have e : (10 : Nat) ^ 10 = 10000000000 := by decide
  omega
theorem scanV_le12 (l : List UInt8) (h : l.length ≤ 11) : scanV l ≤ 99999999999 := by
  have := scanV_lt 11 l h
  have e : (10 : Nat) ^ 11 = 100000000000 := by decide
  omega
theorem scanV_le9 (l : List UInt8) (h : l.length ≤ 9) : scanV l ≤ 999999999 := by
  have := scanV_lt 9 l h
  have e : (10 : Nat) ^ 9 = 1000000000 := by decide
  omega
theorem dash_cons {l : List UInt8} (h : dash l = true) : l = 45 :: l.tail := by
  unfold dash at h
  cases l with
  | nil => simp at h
  | cons b l => simp at h; simp [h]
theorem scanV_dgs (l : List UInt8) : scanV (dgs l) = scanV l := by
  unfold dgs
  cases h : dash l
  · rfl
  · have e := dash_cons h
    rw [e]
    simp [scanV, dstep, isD]
theorem scanK_dgs (l : List UInt8) : scanK (dgs l) = scanK l := by
  unfold dgs
  cases h : dash l
  · rfl
  · have e := dash_cons h
    rw [e]
    simp [scanK, isD]
theorem dgs_len (l : List UInt8) : l.length ≤ (dgs l).length + 1 := by
  unfold dgs
  cases h : dash l
  · simp
  · simp; omega
theorem scanK_all {l : List UInt8} (h : l.all isD = true) : scanK l = l.length := by
  unfold scanK
  rw [List.filter_eq_self.2]
  intro a ha
  exact List.all_eq_true.1 h a ha
theorem scanK_le (l : List UInt8) : scanK l ≤ l.length := List.length_filter_le _ _

theorem dec_all (u : Nat) : (Lib.decDigits u).all isD = true := by
  induction u using Nat.strongRecOn with
  | _ u ih =>
    rw [Lib.decDigits]
    split
    · simp [isD]; omega
    · rw [List.all_append, ih (u / 10) (by omega)]
      simp [isD]; omega
theorem dec_dash (u : Nat) : dash (Lib.decDigits u) = false := by
  have h := dec_all u
  cases hl : Lib.decDigits u with
  | nil => rfl
  | cons b l =>
    rw [hl] at h
    simp only [List.all_cons, Bool.and_eq_true] at h
    have hb := h.1
    unfold dash
    simp only [List.head?_cons]
    rw [beq_eq_false_iff_ne]
    intro e
    injection e with e
    subst e
    simp [isD] at hb
theorem dgs_itoa (m : Int) : dgs (Lib.itoa m) = Lib.decDigits m.natAbs := by
  unfold Lib.itoa
  split
  · simp [dgs, dash]
  · have e : m.toNat = m.natAbs := by omega
    rw [e, dgs, dec_dash]; rfl
theorem dash_itoa (m : Int) : dash (Lib.itoa m) = decide (m < 0) := by
  unfold Lib.itoa
  split
  · rename_i h; simp [dash, h]
  · rename_i h; rw [dec_dash]; simp [h]
theorem scanV_dec (u : Nat) : scanV (Lib.decDigits u) = u := by
  induction u using Nat.strongRecOn with
  | _ u ih =>
    rw [Lib.decDigits]
    split
    · rename_i h
      have e : (UInt8.ofNat (48 + u)).toNat = 48 + u := by simp; omega
      simp only [scanV, List.foldl_cons, List.foldl_nil, dstep, isD, e]
      rw [if_pos (by simp; omega)]; omega
    · have e : (UInt8.ofNat (48 + u % 10)).toNat = 48 + u % 10 := by simp; omega
      rw [scanV_snoc, ih (u / 10) (by omega), dstep, isD, e]
      rw [if_pos (by simp; omega)]; omega
theorem dec_len (k u : Nat) : (Lib.decDigits u).length ≤ k + 1 ↔ u < 10 ^ (k + 1) := by
  induction k generalizing u with
  | zero =>
    rw [Lib.decDigits]
    split
    · simp; assumption
    · rename_i h
      constructor
      · intro h2
        rw [Lib.decDigits] at h2
        split at h2 <;> simp at h2
      · intro h2; simp at h2; omega
  | succ k ih =>
    rw [Lib.decDigits]
    split
    · rename_i h
      have : 10 ^ 1 ≤ 10 ^ (k + 1 + 1) := Nat.pow_le_pow_right (by decide) (by omega)
      constructor
      · intro; omega
      · intro; simp
    · rw [List.length_append, List.length_singleton]
      have h1 := ih (u / 10)
      rw [Nat.pow_succ]
      constructor
      · intro h2
        have := h1.1 (by omega)
        omega
      · intro h2
        have := h1.2 (Nat.div_lt_of_lt_mul (by omega))
        omega

/-- The number with its sign. -/
def signed (l : List UInt8) (v : Nat) : Int := if dash l then -(v : Int) else (v : Int)
def pOk (l : List UInt8) : Bool := decide ((dgs l).length ≤ 9 ∧ (dgs l).all isD = true ∧ Lib.itoa (signed l (scanV (dgs l))) = l)
def pVal (l : List UInt8) : Int := if pOk l then signed l (scanV (dgs l)) else 0
/-- The model's test, where the string is short. -/
theorem pOk_model (l : List UInt8) (hk : scanK l ≤ 9) (h : Lib.itoa (signed l (scanV l)) = l) : pOk l = true ∧ pVal l = signed l (scanV l) := by
  have hd : dgs l = Lib.decDigits (signed l (scanV l)).natAbs := by
    have := dgs_itoa (signed l (scanV l))
    rw [h] at this; exact this
  have ha : (dgs l).all isD = true := by rw [hd]; exact dec_all _
  have hlen : (dgs l).length ≤ 9 := by rw [← scanK_all ha, scanK_dgs]; exact hk
  have hok : pOk l = true := decide_eq_true ⟨hlen, ha, by rw [scanV_dgs]; exact h⟩
  exact ⟨hok, by rw [pVal, if_pos hok, scanV_dgs]⟩
theorem pOk_no (l : List UInt8) (h : ¬ (l.length ≤ 10 ∧ scanK l ≤ 9 ∧ Lib.itoa (signed l (scanV l)) = l)) : pOk l = false ∧ pVal l = 0 := by
  have hok : pOk l = false := decide_eq_false fun ⟨h1, h2, h3⟩ => h ⟨by have := dgs_len l; omega, by rw [← scanK_dgs, scanK_all h2]; exact h1, by rw [← scanV_dgs]; exact h3⟩
  exact ⟨hok, by rw [pVal, hok]; rfl⟩
theorem pOk_long (l : List UInt8) (h : 10 < l.length) : pOk l = false ∧ pVal l = 0 := pOk_no l fun ⟨h1, _⟩ => by omega
/-- The program's tests. -/
theorem pOk_p1 (l : List UInt8) (h : ¬ ((dgs l).length ≤ 9 ∧ (dgs l).all isD = true)) : pOk l = false ∧ pVal l = 0 := by
  have hok : pOk l = false := decide_eq_false fun ⟨h1, h2, _⟩ => h ⟨h1, h2⟩
  exact ⟨hok, by rw [pVal, hok]; rfl⟩
theorem pOk_p2 (l : List UInt8) (h1 : (dgs l).length ≤ 9) (h2 : (dgs l).all isD = true) (b : Bool) (hb : b = true ↔ Lib.itoa (signed l (scanV (dgs l))) = l) :
    pOk l = b ∧ pVal l = if b then signed l (scanV (dgs l)) else 0 := by
  have hok : pOk l = b := by
    cases b
    · exact decide_eq_false fun ⟨_, _, h3⟩ => by have := hb.2 h3; cases this
    · exact decide_eq_true ⟨h1, h2, hb.1 rfl⟩
  exact ⟨hok, by rw [pVal, hok]⟩
/-- What is read back of a number's own text. -/
theorem pOk_itoa (m : Int) : pOk (Lib.itoa m) = decide (-1000000000 < m ∧ m < 1000000000) ∧ (pOk (Lib.itoa m) = true → pVal (Lib.itoa m) = m) := by
  have hs : signed (Lib.itoa m) (scanV (dgs (Lib.itoa m))) = m := by
    unfold signed
    rw [dash_itoa, dgs_itoa, scanV_dec]
    by_cases h : m < 0
    · simp [h]; omega
    · simp [h]; omega
  have hl := dec_len 8 m.natAbs
  have e : (10 : Nat) ^ (8 + 1) = 1000000000 := by decide
  rw [e] at hl
  have hok : pOk (Lib.itoa m) = decide (-1000000000 < m ∧ m < 1000000000) := by
    unfold pOk
    rw [hs, dgs_itoa]
    rw [Bool.eq_iff_iff]
    simp only [decide_eq_true_eq, dec_all, and_true]
    constructor
    · intro h; have := hl.1 h; omega
    · intro h; exact hl.2 (by omega)
  refine ⟨hok, fun h => ?_⟩
  rw [pVal, if_pos h, hs]
theorem hasDash (l : List UInt8) : Lib.hasPrefix l [45] = dash l := by
  cases l with
  | nil => rfl
  | cons b l =>
    simp only [Lib.hasPrefix, dash, List.isPrefixOf, List.head?_cons, Bool.and_true]
    by_cases h : b = 45
    · subst h; rfl
    · have h1 : ((45 : UInt8) == b) = false := by rw [beq_eq_false_iff_ne]; exact fun e => h e.symm
      have h2 : (some b == some (45 : UInt8)) = false := by
        rw [beq_eq_false_iff_ne]
        intro e
        injection e with e
        exact h e
      rw [h1, h2]
theorem trimDash (l : List UInt8) : Lib.trimPrefix l [45] = dgs l := by
  unfold Lib.trimPrefix dgs
  rw [hasDash]
  cases l <;> rfl
end Go.Proofs.YtghekfigfjhkeabDoor.num
namespace Go.Proofs
open Go.Shelf
def Tryd.lays169_ren : Go.Shelf.Ren := ⟨fun | 169 => 50 | n => n, fun | 70 => 79 | 9 => 9 | 0 => 0 | 72 => 81 | 37 => 70 | 127 => 102 | 3 => 3 | 5 => 5 | n => n, fun | n => n⟩
theorem Tryd.lays169 : Go.Proofs.Lays.n169 Tryd.prog Tryd.lays169_ren := {
  mixed := by kernel_rfl
  f169 := Tryd.func50.trans (congrArg some (by kernel_rfl))
  t0 := Tryd.underlying0
  a0 := Tryd.isAgg0
  z0 := Tryd.sizeOf0
  v0 := Tryd.zeroValue0
  t3 := Tryd.underlying3
  a3 := Tryd.isAgg3
  z3 := Tryd.sizeOf3
  v3 := Tryd.zeroValue3
  t9 := Tryd.underlying9
  a9 := Tryd.isAgg9
  z9 := Tryd.sizeOf9
  v9 := Tryd.zeroValue9
  t37 := Tryd.underlying70
  a37 := Tryd.isAgg70
  z37 := Tryd.sizeOf70
  v37 := Tryd.zeroValue70
  t70 := Tryd.underlying79
  a70 := Tryd.isAgg79
  z70 := Tryd.sizeOf79
  v70 := Tryd.zeroValue79
  t72 := Tryd.underlying81
  a72 := Tryd.isAgg81
  z72 := Tryd.sizeOf81
  v72 := Tryd.zeroValue81
  t127 := Tryd.underlying102
  a127 := Tryd.isAgg102
  z127 := Tryd.sizeOf102
  v127 := Tryd.zeroValue102 }
theorem Tryd.Builder_Extra_169 : Builder.Extra Tryd.prog Tryd.lays169_ren := {
  sizeBuilder := by kernel_rfl
  liesBuilder := by kernel_rfl
  t5 := Tryd.underlying5
  a5 := Tryd.isAgg5
  z5 := Tryd.sizeOf5
  v5 := Tryd.zeroValue5
  infoByte := by kernel_rfl
  cellsByte := by kernel_rfl
  sizeByte := by kernel_rfl
  neB5 := by decide }
open Go.RowKit in
theorem Tryd.Builder_String (B b : Nat) (l : List UInt8) (w : World) (h : Lib.IsBuilder 81 5 B b (Lib.byteCells l) w) (h0 : l ≠ []) :
    Calls Tryd.prog 50 #[.pointer (some ⟨b, 0, none⟩)] w fun e w' => e = .returned (.string ⟨l.toArray⟩) ∧ Below B w w' := Any.Builder_String Tryd.lays169 Tryd.Builder_Extra_169 B b l w h h0
open Go.RowKit in
theorem Tryd.Builder_String_empty (B b : Nat) (w : World) (h : Lib.IsBuilder 81 5 B b [] w) (hBw : B ≤ w.heap.size) :
    Calls Tryd.prog 50 #[.pointer (some ⟨b, 0, none⟩)] w fun e w' => e = .returned (.string ⟨#[]⟩) ∧ Below B w w' := Any.Builder_String_empty Tryd.lays169 Tryd.Builder_Extra_169 B b w h hBw
open Go.RowKit in
theorem Tryd.Builder_String_any (B b : Nat) (l : List UInt8) (w : World) (h : Lib.IsBuilder 81 5 B b (Lib.byteCells l) w) (hBw : B ≤ w.heap.size) :
    Calls Tryd.prog 50 #[.pointer (some ⟨b, 0, none⟩)] w fun e w' => e = .returned (.string ⟨l.toArray⟩) ∧ Below B w w' := Any.Builder_String_any Tryd.lays169 Tryd.Builder_Extra_169 B b l w h hBw
def Tryd.lays241_ren : Go.Shelf.Ren := ⟨fun | 241 => 64 | 277 => 74 | n => n, fun | 70 => 79 | 3 => 3 | 0 => 0 | 72 => 81 | 37 => 70 | 5 => 5 | n => n, fun | n => n⟩
theorem Tryd.lays241 : Go.Proofs.Lays.n241 Tryd.prog Tryd.lays241_ren := {
  mixed := by kernel_rfl
  f241 := Tryd.func64.trans (congrArg some (by kernel_rfl))
  f277 := Tryd.func74.trans (congrArg some (by kernel_rfl))
  t0 := Tryd.underlying0
  a0 := Tryd.isAgg0
  z0 := Tryd.sizeOf0
  v0 := Tryd.zeroValue0
  t3 := Tryd.underlying3
  a3 := Tryd.isAgg3
  z3 := Tryd.sizeOf3
  v3 := Tryd.zeroValue3
  t37 := Tryd.underlying70
  a37 := Tryd.isAgg70
  z37 := Tryd.sizeOf70
  v37 := Tryd.zeroValue70
  t70 := Tryd.underlying79
  a70 := Tryd.isAgg79
  z70 := Tryd.sizeOf79
  v70 := Tryd.zeroValue79
  t72 := Tryd.underlying81
  a72 := Tryd.isAgg81
  z72 := Tryd.sizeOf81
  v72 := Tryd.zeroValue81 }
theorem Tryd.Builder_Extra_241 : Builder.Extra Tryd.prog Tryd.lays241_ren := {
  sizeBuilder := by kernel_rfl
  liesBuilder := by kernel_rfl
  t5 := Tryd.underlying5
  a5 := Tryd.isAgg5
  z5 := Tryd.sizeOf5
  v5 := Tryd.zeroValue5
  infoByte := by kernel_rfl
  cellsByte := by kernel_rfl
  sizeByte := by kernel_rfl
  neB5 := by decide }
open Go.RowKit in
theorem Tryd.Builder_grow_fresh (B b n : Nat) (w : World) (hB : B ≤ b) (hbk : w.heap[b]? = some (.cells #[.pointer (some ⟨b, 0, none⟩), .slice none 0 0] 81 (0, 0))) (hBw : B ≤ w.heap.size) (hn : n ≤ 281474976710656) :
    Calls Tryd.prog 64 #[.pointer (some ⟨b, 0, none⟩), .int .i64 n] w fun e w' => e = .returned (.tuple #[]) ∧ (Lib.BuilderAt 81 5 B b (.pointer (some ⟨b, 0, none⟩)) [] w' ∧ Below B w w') := Any.Builder_grow_fresh Tryd.lays241 Tryd.Builder_Extra_241 B b n w hB hbk hBw hn
def Tryd.lays165_ren : Go.Shelf.Ren := ⟨fun | 165 => 48 | 240 => 63 | 241 => 64 | 276 => 73 | 277 => 74 | n => n, fun | 70 => 79 | 3 => 3 | 0 => 0 | 4 => 4 | 9 => 9 | 20 => 20 | 72 => 81 | 37 => 70 | 164 => 110 | 5 => 5 | n => n, fun | n => n⟩
theorem Tryd.lays165 : Go.Proofs.Lays.n165 Tryd.prog Tryd.lays165_ren := {
  mixed := by kernel_rfl
  f165 := Tryd.func48.trans (congrArg some (by kernel_rfl))
  f240 := Tryd.func63.trans (congrArg some (by kernel_rfl))
  f241 := Tryd.func64.trans (congrArg some (by kernel_rfl))
  f276 := Tryd.func73.trans (congrArg some (by kernel_rfl))
  f277 := Tryd.func74.trans (congrArg some (by kernel_rfl))
  t0 := Tryd.underlying0
  a0 := Tryd.isAgg0
  z0 := Tryd.sizeOf0
  v0 := Tryd.zeroValue0
  t3 := Tryd.underlying3
  a3 := Tryd.isAgg3
  z3 := Tryd.sizeOf3
  v3 := Tryd.zeroValue3
  t4 := Tryd.underlying4
  a4 := Tryd.isAgg4
  z4 := Tryd.sizeOf4
  v4 := Tryd.zeroValue4
  t9 := Tryd.underlying9
  a9 := Tryd.isAgg9
  z9 := Tryd.sizeOf9
  v9 := Tryd.zeroValue9
  t20 := Tryd.underlying20
  a20 := Tryd.isAgg20
  z20 := Tryd.sizeOf20
  v20 := Tryd.zeroValue20
  t37 := Tryd.underlying70
  a37 := Tryd.isAgg70
  z37 := Tryd.sizeOf70
  v37 := Tryd.zeroValue70
  t70 := Tryd.underlying79
  a70 := Tryd.isAgg79
  z70 := Tryd.sizeOf79
  v70 := Tryd.zeroValue79
  t72 := Tryd.underlying81
  a72 := Tryd.isAgg81
  z72 := Tryd.sizeOf81
  v72 := Tryd.zeroValue81
  t164 := Tryd.underlying110
  a164 := Tryd.isAgg110
  z164 := Tryd.sizeOf110
  v164 := Tryd.zeroValue110 }
theorem Tryd.Builder_Extra_165 : Builder.Extra Tryd.prog Tryd.lays165_ren := {
  sizeBuilder := by kernel_rfl
  liesBuilder := by kernel_rfl
  t5 := Tryd.underlying5
  a5 := Tryd.isAgg5
  z5 := Tryd.sizeOf5
  v5 := Tryd.zeroValue5
  infoByte := by kernel_rfl
  cellsByte := by kernel_rfl
  sizeByte := by kernel_rfl
  neB5 := by decide }
open Go.RowKit in
theorem Tryd.Builder_Grow_fresh (B b n : Nat) (w : World) (hB : B ≤ b) (hbk : w.heap[b]? = some (.cells #[.pointer none, .slice none 0 0] 81 (0, 0))) (hBw : B ≤ w.heap.size) (hn : n ≤ 281474976710656) :
    Calls Tryd.prog 48 #[.pointer (some ⟨b, 0, none⟩), .int .i64 n] w fun e w' => e = .returned (.tuple #[]) ∧ (Lib.BuilderAt 81 5 B b (.pointer (some ⟨b, 0, none⟩)) [] w' ∧ Below B w w') := Any.Builder_Grow_fresh Tryd.lays165 Tryd.Builder_Extra_165 B b n w hB hbk hBw hn
def Tryd.lays156_ren : Go.Shelf.Ren := ⟨fun | 156 => 33 | 165 => 48 | 166 => 49 | 169 => 50 | 240 => 63 | 241 => 64 | 276 => 73 | 277 => 74 | n => n, fun | 31 => 39 | 9 => 9 | 3 => 3 | 4 => 4 | 0 => 0 | 20 => 20 | 72 => 81 | 76 => 85 | 70 => 79 | 37 => 70 | 75 => 84 | 127 => 102 | 164 => 110 | 5 => 5 | 80 => 87 | n => n, fun | n => n⟩
theorem Tryd.lays156 : Go.Proofs.Lays.n156 Tryd.prog Tryd.lays156_ren := {
  mixed := by kernel_rfl
  f156 := Tryd.func33.trans (congrArg some (by kernel_rfl))
  f165 := Tryd.func48.trans (congrArg some (by kernel_rfl))
  f166 := Tryd.func49.trans (congrArg some (by kernel_rfl))
  f169 := Tryd.func50.trans (congrArg some (by kernel_rfl))
  f240 := Tryd.func63.trans (congrArg some (by kernel_rfl))
  f241 := Tryd.func64.trans (congrArg some (by kernel_rfl))
  f276 := Tryd.func73.trans (congrArg some (by kernel_rfl))
  f277 := Tryd.func74.trans (congrArg some (by kernel_rfl))
  t0 := Tryd.underlying0
  a0 := Tryd.isAgg0
  z0 := Tryd.sizeOf0
  v0 := Tryd.zeroValue0
  t3 := Tryd.underlying3
  a3 := Tryd.isAgg3
  z3 := Tryd.sizeOf3
  v3 := Tryd.zeroValue3
  t4 := Tryd.underlying4
  a4 := Tryd.isAgg4
  z4 := Tryd.sizeOf4
  v4 := Tryd.zeroValue4
  t9 := Tryd.underlying9
  a9 := Tryd.isAgg9
  z9 := Tryd.sizeOf9
  v9 := Tryd.zeroValue9
  t20 := Tryd.underlying20
  a20 := Tryd.isAgg20
  z20 := Tryd.sizeOf20
  v20 := Tryd.zeroValue20
  t31 := Tryd.underlying39
  a31 := Tryd.isAgg39
  z31 := Tryd.sizeOf39
  v31 := Tryd.zeroValue39
  t37 := Tryd.underlying70
  a37 := Tryd.isAgg70
  z37 := Tryd.sizeOf70
  v37 := Tryd.zeroValue70
  t70 := Tryd.underlying79
  a70 := Tryd.isAgg79
  z70 := Tryd.sizeOf79
  v70 := Tryd.zeroValue79
  t72 := Tryd.underlying81
  a72 := Tryd.isAgg81
  z72 := Tryd.sizeOf81
  v72 := Tryd.zeroValue81
  t75 := Tryd.underlying84
  a75 := Tryd.isAgg84
  z75 := Tryd.sizeOf84
  v75 := Tryd.zeroValue84
  t76 := Tryd.underlying85
  a76 := Tryd.isAgg85
  z76 := Tryd.sizeOf85
  v76 := Tryd.zeroValue85
  t127 := Tryd.underlying102
  a127 := Tryd.isAgg102
  z127 := Tryd.sizeOf102
  v127 := Tryd.zeroValue102
  t164 := Tryd.underlying110
  a164 := Tryd.isAgg110
  z164 := Tryd.sizeOf110
  v164 := Tryd.zeroValue110 }
theorem Tryd.Builder_Extra_156 : Builder.Extra Tryd.prog Tryd.lays156_ren := {
  sizeBuilder := by kernel_rfl
  liesBuilder := by kernel_rfl
  t5 := Tryd.underlying5
  a5 := Tryd.isAgg5
  z5 := Tryd.sizeOf5
  v5 := Tryd.zeroValue5
  infoByte := by kernel_rfl
  cellsByte := by kernel_rfl
  sizeByte := by kernel_rfl
  neB5 := by decide }
open Go.RowKit in
theorem Tryd.strings_Join_none (a : Option Addr) (c : Nat) (sep : ByteArray) (w : World) :
    Calls Tryd.prog 33 #[.slice a 0 c, .string sep] w fun e w' => e = .returned (.string ⟨#[]⟩) ∧ w' = w := Any.strings_Join_none Tryd.lays156 Tryd.Builder_Extra_156 a c sep w
open Go.RowKit in
theorem Tryd.strings_Join (bk o c : Nat) (xs : List ByteArray) (sep : ByteArray) (w : World) (hcells : ∀ (j : Nat) x, xs[j]? = some x → w.cell? ⟨bk, o + j, none⟩ = some (.string x)) (hbk : bk < w.heap.size) (hN : xs.length ≤ 140737488355328) (hcap : xs.length ≤ c) (hlen : (Lib.join (xs.map (·.data.toList)) sep.data.toList).length ≤ 140737488355328) :
    Calls Tryd.prog 33 #[.slice (some ⟨bk, o, none⟩) xs.length c, .string sep] w fun e w' => e = .returned (.string ⟨(Lib.join (xs.map (·.data.toList)) sep.data.toList).toArray⟩) ∧ Below w.heap.size w w' := Any.strings_Join Tryd.lays156 Tryd.Builder_Extra_156 bk o c xs sep w hcells hbk hN hcap hlen
def Tryd.lays210_ren : Go.Shelf.Ren := ⟨fun | 210 => 70 | 206 => 82 | n => n, fun | 9 => 9 | 4 => 4 | 3 => 3 | n => n, fun | n => n⟩
theorem Tryd.lays210 : Go.Proofs.Lays.n210 Tryd.prog Tryd.lays210_ren := {
  mixed := by kernel_rfl
  f206 := Tryd.func82.trans (congrArg some (by kernel_rfl))
  f210 := Tryd.func70.trans (congrArg some (by kernel_rfl))
  t3 := Tryd.underlying3
  a3 := Tryd.isAgg3
  z3 := Tryd.sizeOf3
  v3 := Tryd.zeroValue3
  t4 := Tryd.underlying4
  a4 := Tryd.isAgg4
  z4 := Tryd.sizeOf4
  v4 := Tryd.zeroValue4
  t9 := Tryd.underlying9
  a9 := Tryd.isAgg9
  z9 := Tryd.sizeOf9
  v9 := Tryd.zeroValue9 }
open Go.RowKit in
theorem Tryd.stringslite_CutPrefix (s p : ByteArray) (w : World) :
    Calls Tryd.prog 70 #[.string s, .string p] w fun e w' => e = .returned (.tuple #[.string ⟨(Lib.trimPrefix s.data.toList p.data.toList).toArray⟩, .bool (Lib.hasPrefix s.data.toList p.data.toList)]) ∧ w' = w := Any.stringslite_CutPrefix Tryd.lays210 s p w
def Tryd.lays103_ren : Go.Shelf.Ren := ⟨fun | 103 => 55 | 210 => 70 | 206 => 82 | n => n, fun | 9 => 9 | 4 => 4 | 24 => 90 | 3 => 3 | n => n, fun | n => n⟩
theorem Tryd.lays103 : Go.Proofs.Lays.n103 Tryd.prog Tryd.lays103_ren := {
  mixed := by kernel_rfl
  f103 := Tryd.func55.trans (congrArg some (by kernel_rfl))
  f206 := Tryd.func82.trans (congrArg some (by kernel_rfl))
  f210 := Tryd.func70.trans (congrArg some (by kernel_rfl))
  t3 := Tryd.underlying3
  a3 := Tryd.isAgg3
  z3 := Tryd.sizeOf3
  v3 := Tryd.zeroValue3
  t4 := Tryd.underlying4
  a4 := Tryd.isAgg4
  z4 := Tryd.sizeOf4
  v4 := Tryd.zeroValue4
  t9 := Tryd.underlying9
  a9 := Tryd.isAgg9
  z9 := Tryd.sizeOf9
  v9 := Tryd.zeroValue9
  t24 := Tryd.underlying90
  a24 := Tryd.isAgg90
  z24 := Tryd.sizeOf90
  v24 := Tryd.zeroValue90 }
open Go.RowKit in
theorem Tryd.strings_CutPrefix (s p : ByteArray) (w : World) :
    Calls Tryd.prog 55 #[.string s, .string p] w fun e w' => e = .returned (.tuple #[.string ⟨(Lib.trimPrefix s.data.toList p.data.toList).toArray⟩, .bool (Lib.hasPrefix s.data.toList p.data.toList)]) ∧ w' = w := Any.strings_CutPrefix Tryd.lays103 s p w
open Go.RowKit in
theorem Tryd.Builder_String_f (B b : Nat) (l : List UInt8) (w : World) (h : Lib.IsBuilderF 81 5 B b (Lib.byteCells l) w) (h0 : l ≠ []) :
    Calls Tryd.prog 50 #[.pointer (some ⟨b, 0, none⟩)] w fun e w' => e = .returned (.string ⟨l.toArray⟩) ∧ (Lib.IsBuilderF 81 5 B b (Lib.byteCells l) w' ∧ Below B w w') := Any.Builder_String_f Tryd.lays169 Tryd.Builder_Extra_169 B b l w h h0
open Go.RowKit in
theorem Tryd.Builder_String_empty_f (B b : Nat) (w : World) (h : Lib.IsBuilderF 81 5 B b [] w) (hBw : B ≤ w.heap.size) :
    Calls Tryd.prog 50 #[.pointer (some ⟨b, 0, none⟩)] w fun e w' => e = .returned (.string ⟨#[]⟩) ∧ (Lib.IsBuilderF 81 5 B b [] w' ∧ Below B w w') := Any.Builder_String_empty_f Tryd.lays169 Tryd.Builder_Extra_169 B b w h hBw
open Go.RowKit in
theorem Tryd.Builder_String_any_f (B b : Nat) (l : List UInt8) (w : World) (h : Lib.IsBuilderF 81 5 B b (Lib.byteCells l) w) (hBw : B ≤ w.heap.size) :
    Calls Tryd.prog 50 #[.pointer (some ⟨b, 0, none⟩)] w fun e w' => e = .returned (.string ⟨l.toArray⟩) ∧ (Lib.IsBuilderF 81 5 B b (Lib.byteCells l) w' ∧ Below B w w') := Any.Builder_String_any_f Tryd.lays169 Tryd.Builder_Extra_169 B b l w h hBw
open Go.RowKit in
theorem Tryd.Builder_String_k (B b : Nat) (l : List UInt8) (w : World) (h : Lib.IsBuilderF 81 5 B b (Lib.byteCells l) w) (h0 : l ≠ []) :
    Calls Tryd.prog 50 #[.pointer (some ⟨b, 0, none⟩)] w fun e w' => e = .returned (.string ⟨l.toArray⟩) ∧ (Lib.IsBuilderF 81 5 B b (Lib.byteCells l) w' ∧ Below B w w' ∧ Lib.OthersKept 5 (some b) w w') := Any.Builder_String_k Tryd.lays169 Tryd.Builder_Extra_169 B b l w h h0
open Go.RowKit in
theorem Tryd.Builder_String_empty_k (B b : Nat) (w : World) (h : Lib.IsBuilderF 81 5 B b [] w) (hBw : B ≤ w.heap.size) :
    Calls Tryd.prog 50 #[.pointer (some ⟨b, 0, none⟩)] w fun e w' => e = .returned (.string ⟨#[]⟩) ∧ (Lib.IsBuilderF 81 5 B b [] w' ∧ Below B w w' ∧ Lib.OthersKept 5 (some b) w w') := Any.Builder_String_empty_k Tryd.lays169 Tryd.Builder_Extra_169 B b w h hBw
open Go.RowKit in
theorem Tryd.Builder_String_any_k (B b : Nat) (l : List UInt8) (w : World) (h : Lib.IsBuilderF 81 5 B b (Lib.byteCells l) w) (hBw : B ≤ w.heap.size) :
    Calls Tryd.prog 50 #[.pointer (some ⟨b, 0, none⟩)] w fun e w' => e = .returned (.string ⟨l.toArray⟩) ∧ (Lib.IsBuilderF 81 5 B b (Lib.byteCells l) w' ∧ Below B w w' ∧ Lib.OthersKept 5 (some b) w w') := Any.Builder_String_any_k Tryd.lays169 Tryd.Builder_Extra_169 B b l w h hBw
def Tryd.lays195_ren : Go.Shelf.Ren := ⟨fun | 195 => 75 | n => n, fun | 9 => 9 | 3 => 3 | 0 => 0 | 4 => 4 | n => n, fun | n => n⟩
theorem Tryd.lays195 : Go.Proofs.Lays.n195 Tryd.prog Tryd.lays195_ren := {
  mixed := by kernel_rfl
  f195 := Tryd.func75.trans (congrArg some (by kernel_rfl))
  t0 := Tryd.underlying0
  a0 := Tryd.isAgg0
  z0 := Tryd.sizeOf0
  v0 := Tryd.zeroValue0
  t3 := Tryd.underlying3
  a3 := Tryd.isAgg3
  z3 := Tryd.sizeOf3
  v3 := Tryd.zeroValue3
  t4 := Tryd.underlying4
  a4 := Tryd.isAgg4
  z4 := Tryd.sizeOf4
  v4 := Tryd.zeroValue4
  t9 := Tryd.underlying9
  a9 := Tryd.isAgg9
  z9 := Tryd.sizeOf9
  v9 := Tryd.zeroValue9 }
open Go.RowKit in
theorem Tryd.utf8_RuneCountInString (s : ByteArray) (w : World) (hs : s.size < 9223372036854775807) :
    Calls Tryd.prog 75 #[.string s] w fun e w' => e = .returned (.int .i64 (Lib.runeCount s)) ∧ ∃ pos, w' = w.iter s pos := Any.utf8_RuneCountInString Tryd.lays195 s w hs
open Go.RowKit in
theorem Tryd.Builder_grow_fresh_cap (B b n : Nat) (w : World) (hB : B ≤ b) (hbk : w.heap[b]? = some (.cells #[.pointer (some ⟨b, 0, none⟩), .slice none 0 0] 81 (0, 0))) (hBw : B ≤ w.heap.size) (hn : n ≤ 281474976710656) :
    Calls Tryd.prog 64 #[.pointer (some ⟨b, 0, none⟩), .int .i64 n] w fun e w' => e = .returned (.tuple #[]) ∧ (Lib.BuilderAt 81 5 B b (.pointer (some ⟨b, 0, none⟩)) [] w' ∧ Below B w w') ∧ ∃ p cap, w'.cell? ⟨b, 1, none⟩ = some (.slice p 0 cap) ∧ n ≤ cap := Any.Builder_grow_fresh_cap Tryd.lays241 Tryd.Builder_Extra_241 B b n w hB hbk hBw hn
open Go.RowKit in
theorem Tryd.Builder_Grow_fresh_cap (B b n : Nat) (w : World) (hB : B ≤ b) (hbk : w.heap[b]? = some (.cells #[.pointer none, .slice none 0 0] 81 (0, 0))) (hBw : B ≤ w.heap.size) (hn : n ≤ 281474976710656) :
    Calls Tryd.prog 48 #[.pointer (some ⟨b, 0, none⟩), .int .i64 n] w fun e w' => e = .returned (.tuple #[]) ∧ (Lib.BuilderAt 81 5 B b (.pointer (some ⟨b, 0, none⟩)) [] w' ∧ Below B w w') ∧ ∃ p cap, w'.cell? ⟨b, 1, none⟩ = some (.slice p 0 cap) ∧ n ≤ cap := Any.Builder_Grow_fresh_cap Tryd.lays165 Tryd.Builder_Extra_165 B b n w hB hbk hBw hn
def Tryd.lays129_ren : Go.Shelf.Ren := ⟨fun | 129 => 91 | n => n, fun | 53 => 120 | 3 => 3 | 4 => 4 | 46 => 117 | 5 => 5 | 9 => 9 | n => n, fun | n => n⟩
theorem Tryd.lays129 : Go.Proofs.Lays.n129 Tryd.prog Tryd.lays129_ren := {
  mixed := by kernel_rfl
  f129 := Tryd.func91.trans (congrArg some (by kernel_rfl))
  t3 := Tryd.underlying3
  a3 := Tryd.isAgg3
  z3 := Tryd.sizeOf3
  v3 := Tryd.zeroValue3
  t4 := Tryd.underlying4
  a4 := Tryd.isAgg4
  z4 := Tryd.sizeOf4
  v4 := Tryd.zeroValue4
  t5 := Tryd.underlying5
  a5 := Tryd.isAgg5
  z5 := Tryd.sizeOf5
  v5 := Tryd.zeroValue5
  t9 := Tryd.underlying9
  a9 := Tryd.isAgg9
  z9 := Tryd.sizeOf9
  v9 := Tryd.zeroValue9
  t46 := Tryd.underlying117
  a46 := Tryd.isAgg117
  z46 := Tryd.sizeOf117
  v46 := Tryd.zeroValue117
  t53 := Tryd.underlying120
  a53 := Tryd.isAgg120
  z53 := Tryd.sizeOf120
  v53 := Tryd.zeroValue120 }
theorem Tryd.bits_Len64 (x : Int) (w : World) (h0 : 0 ≤ x) (h1 : x ≤ 18446744073709551615) :
    Calls Tryd.prog 91 #[.int .u64 x] w fun e w' => e = .returned (.int .i64 (Lib.bitLen x.toNat)) ∧ w' = w := Any.bits_Len64 Tryd.lays129 x w h0 h1
def Tryd.lays317_ren : Go.Shelf.Ren := ⟨fun | 317 => 90 | n => n, fun | 3 => 3 | 46 => 117 | n => n, fun | n => n⟩
theorem Tryd.lays317 : Go.Proofs.Lays.n317 Tryd.prog Tryd.lays317_ren := {
  mixed := by kernel_rfl
  f317 := Tryd.func90.trans (congrArg some (by kernel_rfl))
  t3 := Tryd.underlying3
  a3 := Tryd.isAgg3
  z3 := Tryd.sizeOf3
  v3 := Tryd.zeroValue3
  t46 := Tryd.underlying117
  a46 := Tryd.isAgg117
  z46 := Tryd.sizeOf117
  v46 := Tryd.zeroValue117 }
open Go.Lib in
theorem Tryd.internal_strconv_log10Pow2 (x : Nat) (h : x ≤ 64) (w : World) :
    Calls Tryd.prog 90 #[.int .i64 x] w fun e w' => e = .returned (.int .i64 (Lib.l10 x)) ∧ w' = w := Any.internal_strconv_log10Pow2 Tryd.lays317 x h w
def Tryd.lays318_ren : Go.Shelf.Ren := ⟨fun | 318 => 92 | n => n, fun | 3 => 3 | 4 => 4 | n => n, fun | n => n⟩
theorem Tryd.lays318 : Go.Proofs.Lays.n318 Tryd.prog Tryd.lays318_ren := {
  mixed := by kernel_rfl
  f318 := Tryd.func92.trans (congrArg some (by kernel_rfl))
  t3 := Tryd.underlying3
  a3 := Tryd.isAgg3
  z3 := Tryd.sizeOf3
  v3 := Tryd.zeroValue3
  t4 := Tryd.underlying4
  a4 := Tryd.isAgg4
  z4 := Tryd.sizeOf4
  v4 := Tryd.zeroValue4 }
open Go.Lib in
theorem Tryd.internal_strconv_bool2_int (b : Bool) (w : World) :
    Calls Tryd.prog 92 #[.bool b] w fun e w' => e = .returned (.int .i64 (if b then 1 else 0)) ∧ w' = w := Any.internal_strconv_bool2_int Tryd.lays318 b w
def Tryd.lays283_ren : Go.Shelf.Ren := ⟨fun | 283 => 83 | n => n, fun | 3 => 3 | 9 => 9 | 4 => 4 | n => n, fun | n => n⟩
theorem Tryd.lays283 : Go.Proofs.Lays.n283 Tryd.prog Tryd.lays283_ren := {
  mixed := by kernel_rfl
  f283 := Tryd.func83.trans (congrArg some (by kernel_rfl))
  t3 := Tryd.underlying3
  a3 := Tryd.isAgg3
  z3 := Tryd.sizeOf3
  v3 := Tryd.zeroValue3
  t4 := Tryd.underlying4
  a4 := Tryd.isAgg4
  z4 := Tryd.sizeOf4
  v4 := Tryd.zeroValue4
  t9 := Tryd.underlying9
  a9 := Tryd.isAgg9
  z9 := Tryd.sizeOf9
  v9 := Tryd.zeroValue9 }
open Go.Lib in
theorem Tryd.internal_strconv_small (i : Nat) (h : i < 100) (w : World) :
    Calls Tryd.prog 83 #[.int .i64 i] w fun e w' => e = .returned (.string ⟨(Lib.decDigits i).toArray⟩) ∧ w' = w := Any.internal_strconv_small Tryd.lays283 i h w
def Tryd.laysM284_ren : Go.Shelf.Ren := ⟨fun | 284 => 84 | 129 => 91 | 317 => 90 | 318 => 92 | n => n, fun | 53 => 120 | 3 => 3 | 212 => 129 | 0 => 0 | 4 => 4 | 46 => 117 | 5 => 5 | 9 => 9 | n => n, fun | 17 => 2 | n => n⟩
theorem Tryd.laysM284 : Go.Proofs.LaysM.n284 Tryd.prog Tryd.laysM284_ren := {
  mixed := by kernel_rfl
  f129 := Tryd.func91.trans (congrArg some (by kernel_rfl))
  f284 := Tryd.func84.trans (congrArg some (by kernel_rfl))
  f317 := Tryd.func90.trans (congrArg some (by kernel_rfl))
  f318 := Tryd.func92.trans (congrArg some (by kernel_rfl))
  t0 := Tryd.underlying0
  a0 := Tryd.isAgg0
  z0 := Tryd.sizeOf0
  v0 := Tryd.zeroValue0
  t3 := Tryd.underlying3
  a3 := Tryd.isAgg3
  z3 := Tryd.sizeOf3
  v3 := Tryd.zeroValue3
  t4 := Tryd.underlying4
  a4 := Tryd.isAgg4
  z4 := Tryd.sizeOf4
  v4 := Tryd.zeroValue4
  t5 := Tryd.underlying5
  a5 := Tryd.isAgg5
  z5 := Tryd.sizeOf5
  v5 := Tryd.zeroValue5
  t9 := Tryd.underlying9
  a9 := Tryd.isAgg9
  z9 := Tryd.sizeOf9
  v9 := Tryd.zeroValue9
  t46 := Tryd.underlying117
  a46 := Tryd.isAgg117
  z46 := Tryd.sizeOf117
  v46 := Tryd.zeroValue117
  t53 := Tryd.underlying120
  a53 := Tryd.isAgg120
  z53 := Tryd.sizeOf120
  v53 := Tryd.zeroValue120
  t212 := Tryd.underlying129
  a212 := Tryd.isAgg129
  z212 := Tryd.sizeOf129
  v212 := Tryd.zeroValue129
  g17 := by kernel_rfl
  i0 := by kernel_rfl
  i3 := by kernel_rfl
  i4 := by kernel_rfl
  i5 := by kernel_rfl
  i9 := by kernel_rfl
  i46 := by kernel_rfl
  i53 := by kernel_rfl
  i212 := by kernel_rfl
  m17 := by kernel_rfl }
open Go.Lib in
theorem Tryd.internal_strconv_numDigits (u : Nat) (h1 : 1 ≤ u) (h2 : u < 18446744073709551616) (w : World) (htab : Lib.TabIs Tryd.prog w "internal/strconv.uint64pow10" .u64 Lib.pow10Tab) :
    Calls Tryd.prog 84 #[.int .u64 u] w fun e w' => e = .returned (.int .i64 (Lib.nDigits u)) ∧ w' = w := Any.internal_strconv_numDigits Tryd.laysM284 u h1 h2 w htab
def Tryd.lays285_ren : Go.Shelf.Ren := ⟨fun | 285 => 85 | n => n, fun | 37 => 70 | 53 => 120 | 3 => 3 | 4 => 4 | 51 => 125 | 9 => 9 | 5 => 5 | 0 => 0 | n => n, fun | n => n⟩
theorem Tryd.lays285 : Go.Proofs.Lays.n285 Tryd.prog Tryd.lays285_ren := {
  mixed := by kernel_rfl
  f285 := Tryd.func85.trans (congrArg some (by kernel_rfl))
  t0 := Tryd.underlying0
  a0 := Tryd.isAgg0
  z0 := Tryd.sizeOf0
  v0 := Tryd.zeroValue0
  t3 := Tryd.underlying3
  a3 := Tryd.isAgg3
  z3 := Tryd.sizeOf3
  v3 := Tryd.zeroValue3
  t4 := Tryd.underlying4
  a4 := Tryd.isAgg4
  z4 := Tryd.sizeOf4
  v4 := Tryd.zeroValue4
  t5 := Tryd.underlying5
  a5 := Tryd.isAgg5
  z5 := Tryd.sizeOf5
  v5 := Tryd.zeroValue5
  t9 := Tryd.underlying9
  a9 := Tryd.isAgg9
  z9 := Tryd.sizeOf9
  v9 := Tryd.zeroValue9
  t37 := Tryd.underlying70
  a37 := Tryd.isAgg70
  z37 := Tryd.sizeOf70
  v37 := Tryd.zeroValue70
  t51 := Tryd.underlying125
  a51 := Tryd.isAgg125
  z51 := Tryd.sizeOf125
  v51 := Tryd.zeroValue125
  t53 := Tryd.underlying120
  a53 := Tryd.isAgg120
  z53 := Tryd.sizeOf120
  v53 := Tryd.zeroValue120 }
open Go.RowKit Go.Sort Go.Lib in
theorem Tryd.internal_strconv_formatBase10 (blk off cap : Nat) (u : Nat) (d : Array UInt8) (w : World) (hH : Holds (fun (b : UInt8) => Value.int .u8 (b.toNat : Int)) w blk off d) (hu : u < 10 ^ d.size) (hu64 : u < 18446744073709551616) (hsz : d.size < 4611686018427387904) :
    Calls Tryd.prog 85 #[.slice (some ⟨blk, off, none⟩) d.size cap, .int .u64 u] w fun e w' =>
      e = .returned (.tuple #[]) ∧ ∃ (n v' : Nat) (dk : Array UInt8), w' = (putRow (fun (b : UInt8) => Value.int .u8 (b.toNat : Int)) w blk off dk).drewN n ∧ FmtInv d.size u 0 v' dk := Any.internal_strconv_formatBase10 Tryd.lays285 blk off cap u d w hH hu hu64 hsz
def Tryd.laysM246_ren : Go.Shelf.Ren := ⟨fun | 246 => 72 | 283 => 83 | 284 => 84 | 285 => 85 | 286 => 86 | 129 => 91 | 317 => 90 | 318 => 92 | 319 => 93 | 320 => 94 | 337 => 95 | 338 => 96 | n => n, fun | 2 => 2 | 3 => 3 | 9 => 9 | 4 => 4 | 171 => 119 | 0 => 0 | 53 => 120 | 37 => 70 | 5 => 5 | 173 => 123 | 212 => 129 | 51 => 125 | 20 => 20 | 213 => 130 | 46 => 117 | 232 => 137 | 233 => 138 | n => n, fun | 17 => 2 | 18 => 5 | 19 => 6 | n => n⟩
theorem Tryd.laysM246 : Go.Proofs.LaysM.n246 Tryd.prog Tryd.laysM246_ren := {
  mixed := by kernel_rfl
  f129 := Tryd.func91.trans (congrArg some (by kernel_rfl))
  f246 := Tryd.func72.trans (congrArg some (by kernel_rfl))
  f283 := Tryd.func83.trans (congrArg some (by kernel_rfl))
  f284 := Tryd.func84.trans (congrArg some (by kernel_rfl))
  f285 := Tryd.func85.trans (congrArg some (by kernel_rfl))
  f286 := Tryd.func86.trans (congrArg some (by kernel_rfl))
  f317 := Tryd.func90.trans (congrArg some (by kernel_rfl))
  f318 := Tryd.func92.trans (congrArg some (by kernel_rfl))
  f319 := Tryd.func93.trans (congrArg some (by kernel_rfl))
  f320 := Tryd.func94.trans (congrArg some (by kernel_rfl))
  f337 := Tryd.func95.trans (congrArg some (by kernel_rfl))
  f338 := Tryd.func96.trans (congrArg some (by kernel_rfl))
  t0 := Tryd.underlying0
  a0 := Tryd.isAgg0
  z0 := Tryd.sizeOf0
  v0 := Tryd.zeroValue0
  t2 := Tryd.underlying2
  a2 := Tryd.isAgg2
  z2 := Tryd.sizeOf2
  v2 := Tryd.zeroValue2
  t3 := Tryd.underlying3
  a3 := Tryd.isAgg3
  z3 := Tryd.sizeOf3
  v3 := Tryd.zeroValue3
  t4 := Tryd.underlying4
  a4 := Tryd.isAgg4
  z4 := Tryd.sizeOf4
  v4 := Tryd.zeroValue4
  t5 := Tryd.underlying5
  a5 := Tryd.isAgg5
  z5 := Tryd.sizeOf5
  v5 := Tryd.zeroValue5
  t9 := Tryd.underlying9
  a9 := Tryd.isAgg9
  z9 := Tryd.sizeOf9
  v9 := Tryd.zeroValue9
  t20 := Tryd.underlying20
  a20 := Tryd.isAgg20
  z20 := Tryd.sizeOf20
  v20 := Tryd.zeroValue20
  t37 := Tryd.underlying70
  a37 := Tryd.isAgg70
  z37 := Tryd.sizeOf70
  v37 := Tryd.zeroValue70
  t46 := Tryd.underlying117
  a46 := Tryd.isAgg117
  z46 := Tryd.sizeOf117
  v46 := Tryd.zeroValue117
  t51 := Tryd.underlying125
  a51 := Tryd.isAgg125
  z51 := Tryd.sizeOf125
  v51 := Tryd.zeroValue125
  t53 := Tryd.underlying120
  a53 := Tryd.isAgg120
  z53 := Tryd.sizeOf120
  v53 := Tryd.zeroValue120
  t171 := Tryd.underlying119
  a171 := Tryd.isAgg119
  z171 := Tryd.sizeOf119
  v171 := Tryd.zeroValue119
  t173 := Tryd.underlying123
  a173 := Tryd.isAgg123
  z173 := Tryd.sizeOf123
  v173 := Tryd.zeroValue123
  t212 := Tryd.underlying129
  a212 := Tryd.isAgg129
  z212 := Tryd.sizeOf129
  v212 := Tryd.zeroValue129
  t213 := Tryd.underlying130
  a213 := Tryd.isAgg130
  z213 := Tryd.sizeOf130
  t232 := Tryd.underlying137
  a232 := Tryd.isAgg137
  z232 := Tryd.sizeOf137
  v232 := Tryd.zeroValue137
  t233 := Tryd.underlying138
  a233 := Tryd.isAgg138
  z233 := Tryd.sizeOf138
  v233 := Tryd.zeroValue138
  g17 := by kernel_rfl
  g18 := by kernel_rfl
  g19 := by kernel_rfl
  i0 := by kernel_rfl
  i2 := by kernel_rfl
  i3 := by kernel_rfl
  i4 := by kernel_rfl
  i5 := by kernel_rfl
  i9 := by kernel_rfl
  i20 := by kernel_rfl
  i37 := by kernel_rfl
  i46 := by kernel_rfl
  i51 := by kernel_rfl
  i53 := by kernel_rfl
  i171 := by kernel_rfl
  i173 := by kernel_rfl
  i212 := by kernel_rfl
  i232 := by kernel_rfl
  i233 := by kernel_rfl
  m17 := by kernel_rfl
  m18 := by kernel_rfl
  m19 := by kernel_rfl }
open Go.RowKit Go.Sort Go.Lib in
theorem Tryd.internal_strconv_FormatInt_10 (n : Int) (h0 : -9223372036854775808 ≤ n) (h1 : n ≤ 9223372036854775807) (w : World) (htab : Lib.TabIs Tryd.prog w "internal/strconv.uint64pow10" .u64 Lib.pow10Tab) :
    Calls Tryd.prog 72 #[.int .i64 n, .int .i64 10] w fun e w' => e = .returned (.string ⟨(Lib.itoa n).toArray⟩) ∧ ∃ k os, w' = grow (w.drewN k) os := Any.internal_strconv_FormatInt_10 Tryd.laysM246 n h0 h1 w htab
def Tryd.lays246_ren : Go.Shelf.Ren := ⟨fun | 246 => 72 | 283 => 83 | 284 => 84 | 285 => 85 | 286 => 86 | 129 => 91 | 317 => 90 | 318 => 92 | 319 => 93 | 320 => 94 | 337 => 95 | 338 => 96 | n => n, fun | 2 => 2 | 3 => 3 | 9 => 9 | 4 => 4 | 171 => 119 | 0 => 0 | 53 => 120 | 37 => 70 | 5 => 5 | 173 => 123 | 212 => 129 | 51 => 125 | 20 => 20 | 213 => 130 | 46 => 117 | 232 => 137 | 233 => 138 | n => n, fun | 17 => 2 | 18 => 5 | 19 => 6 | n => n⟩
theorem Tryd.lays246 : Go.Proofs.Lays.n246 Tryd.prog Tryd.lays246_ren := {
  mixed := by kernel_rfl
  f129 := Tryd.func91.trans (congrArg some (by kernel_rfl))
  f246 := Tryd.func72.trans (congrArg some (by kernel_rfl))
  f283 := Tryd.func83.trans (congrArg some (by kernel_rfl))
  f284 := Tryd.func84.trans (congrArg some (by kernel_rfl))
  f285 := Tryd.func85.trans (congrArg some (by kernel_rfl))
  f286 := Tryd.func86.trans (congrArg some (by kernel_rfl))
  f317 := Tryd.func90.trans (congrArg some (by kernel_rfl))
  f318 := Tryd.func92.trans (congrArg some (by kernel_rfl))
  f319 := Tryd.func93.trans (congrArg some (by kernel_rfl))
  f320 := Tryd.func94.trans (congrArg some (by kernel_rfl))
  f337 := Tryd.func95.trans (congrArg some (by kernel_rfl))
  f338 := Tryd.func96.trans (congrArg some (by kernel_rfl))
  t0 := Tryd.underlying0
  a0 := Tryd.isAgg0
  z0 := Tryd.sizeOf0
  v0 := Tryd.zeroValue0
  t2 := Tryd.underlying2
  a2 := Tryd.isAgg2
  z2 := Tryd.sizeOf2
  v2 := Tryd.zeroValue2
  t3 := Tryd.underlying3
  a3 := Tryd.isAgg3
  z3 := Tryd.sizeOf3
  v3 := Tryd.zeroValue3
  t4 := Tryd.underlying4
  a4 := Tryd.isAgg4
  z4 := Tryd.sizeOf4
  v4 := Tryd.zeroValue4
  t5 := Tryd.underlying5
  a5 := Tryd.isAgg5
  z5 := Tryd.sizeOf5
  v5 := Tryd.zeroValue5
  t9 := Tryd.underlying9
  a9 := Tryd.isAgg9
  z9 := Tryd.sizeOf9
  v9 := Tryd.zeroValue9
  t20 := Tryd.underlying20
  a20 := Tryd.isAgg20
  z20 := Tryd.sizeOf20
  v20 := Tryd.zeroValue20
  t37 := Tryd.underlying70
  a37 := Tryd.isAgg70
  z37 := Tryd.sizeOf70
  v37 := Tryd.zeroValue70
  t46 := Tryd.underlying117
  a46 := Tryd.isAgg117
  z46 := Tryd.sizeOf117
  v46 := Tryd.zeroValue117
  t51 := Tryd.underlying125
  a51 := Tryd.isAgg125
  z51 := Tryd.sizeOf125
  v51 := Tryd.zeroValue125
  t53 := Tryd.underlying120
  a53 := Tryd.isAgg120
  z53 := Tryd.sizeOf120
  v53 := Tryd.zeroValue120
  t171 := Tryd.underlying119
  a171 := Tryd.isAgg119
  z171 := Tryd.sizeOf119
  v171 := Tryd.zeroValue119
  t173 := Tryd.underlying123
  a173 := Tryd.isAgg123
  z173 := Tryd.sizeOf123
  v173 := Tryd.zeroValue123
  t212 := Tryd.underlying129
  a212 := Tryd.isAgg129
  z212 := Tryd.sizeOf129
  v212 := Tryd.zeroValue129
  t213 := Tryd.underlying130
  a213 := Tryd.isAgg130
  z213 := Tryd.sizeOf130
  t232 := Tryd.underlying137
  a232 := Tryd.isAgg137
  z232 := Tryd.sizeOf137
  v232 := Tryd.zeroValue137
  t233 := Tryd.underlying138
  a233 := Tryd.isAgg138
  z233 := Tryd.sizeOf138
  v233 := Tryd.zeroValue138
  g17 := by kernel_rfl
  g18 := by kernel_rfl
  g19 := by kernel_rfl }
open Go.RowKit Go.Sort Go.Lib in
theorem Tryd.internal_strconv_FormatInt_10_small (i : Nat) (hi : i < 100) (w : World) :
    Calls Tryd.prog 72 #[.int .i64 i, .int .i64 10] w fun e w' => e = .returned (.string ⟨(Lib.decDigits i).toArray⟩) ∧ w' = w := Any.internal_strconv_FormatInt_10_small Tryd.lays246 i hi w
def Tryd.laysM243_ren : Go.Shelf.Ren := ⟨fun | 243 => 62 | 246 => 72 | 283 => 83 | 284 => 84 | 285 => 85 | 286 => 86 | 129 => 91 | 317 => 90 | 318 => 92 | 319 => 93 | 320 => 94 | 337 => 95 | 338 => 96 | n => n, fun | 3 => 3 | 9 => 9 | 2 => 2 | 4 => 4 | 171 => 119 | 0 => 0 | 53 => 120 | 37 => 70 | 5 => 5 | 173 => 123 | 212 => 129 | 51 => 125 | 20 => 20 | 213 => 130 | 46 => 117 | 232 => 137 | 233 => 138 | n => n, fun | 17 => 2 | 18 => 5 | 19 => 6 | n => n⟩
theorem Tryd.laysM243 : Go.Proofs.LaysM.n243 Tryd.prog Tryd.laysM243_ren := {
  mixed := by kernel_rfl
  f129 := Tryd.func91.trans (congrArg some (by kernel_rfl))
  f243 := Tryd.func62.trans (congrArg some (by kernel_rfl))
  f246 := Tryd.func72.trans (congrArg some (by kernel_rfl))
  f283 := Tryd.func83.trans (congrArg some (by kernel_rfl))
  f284 := Tryd.func84.trans (congrArg some (by kernel_rfl))
  f285 := Tryd.func85.trans (congrArg some (by kernel_rfl))
  f286 := Tryd.func86.trans (congrArg some (by kernel_rfl))
  f317 := Tryd.func90.trans (congrArg some (by kernel_rfl))
  f318 := Tryd.func92.trans (congrArg some (by kernel_rfl))
  f319 := Tryd.func93.trans (congrArg some (by kernel_rfl))
  f320 := Tryd.func94.trans (congrArg some (by kernel_rfl))
  f337 := Tryd.func95.trans (congrArg some (by kernel_rfl))
  f338 := Tryd.func96.trans (congrArg some (by kernel_rfl))
  t0 := Tryd.underlying0
  a0 := Tryd.isAgg0
  z0 := Tryd.sizeOf0
  v0 := Tryd.zeroValue0
  t2 := Tryd.underlying2
  a2 := Tryd.isAgg2
  z2 := Tryd.sizeOf2
  v2 := Tryd.zeroValue2
  t3 := Tryd.underlying3
  a3 := Tryd.isAgg3
  z3 := Tryd.sizeOf3
  v3 := Tryd.zeroValue3
  t4 := Tryd.underlying4
  a4 := Tryd.isAgg4
  z4 := Tryd.sizeOf4
  v4 := Tryd.zeroValue4
  t5 := Tryd.underlying5
  a5 := Tryd.isAgg5
  z5 := Tryd.sizeOf5
  v5 := Tryd.zeroValue5
  t9 := Tryd.underlying9
  a9 := Tryd.isAgg9
  z9 := Tryd.sizeOf9
  v9 := Tryd.zeroValue9
  t20 := Tryd.underlying20
  a20 := Tryd.isAgg20
  z20 := Tryd.sizeOf20
  v20 := Tryd.zeroValue20
  t37 := Tryd.underlying70
  a37 := Tryd.isAgg70
  z37 := Tryd.sizeOf70
  v37 := Tryd.zeroValue70
  t46 := Tryd.underlying117
  a46 := Tryd.isAgg117
  z46 := Tryd.sizeOf117
  v46 := Tryd.zeroValue117
  t51 := Tryd.underlying125
  a51 := Tryd.isAgg125
  z51 := Tryd.sizeOf125
  v51 := Tryd.zeroValue125
  t53 := Tryd.underlying120
  a53 := Tryd.isAgg120
  z53 := Tryd.sizeOf120
  v53 := Tryd.zeroValue120
  t171 := Tryd.underlying119
  a171 := Tryd.isAgg119
  z171 := Tryd.sizeOf119
  v171 := Tryd.zeroValue119
  t173 := Tryd.underlying123
  a173 := Tryd.isAgg123
  z173 := Tryd.sizeOf123
  v173 := Tryd.zeroValue123
  t212 := Tryd.underlying129
  a212 := Tryd.isAgg129
  z212 := Tryd.sizeOf129
  v212 := Tryd.zeroValue129
  t213 := Tryd.underlying130
  a213 := Tryd.isAgg130
  z213 := Tryd.sizeOf130
  t232 := Tryd.underlying137
  a232 := Tryd.isAgg137
  z232 := Tryd.sizeOf137
  v232 := Tryd.zeroValue137
  t233 := Tryd.underlying138
  a233 := Tryd.isAgg138
  z233 := Tryd.sizeOf138
  v233 := Tryd.zeroValue138
  g17 := by kernel_rfl
  g18 := by kernel_rfl
  g19 := by kernel_rfl
  i0 := by kernel_rfl
  i2 := by kernel_rfl
  i3 := by kernel_rfl
  i4 := by kernel_rfl
  i5 := by kernel_rfl
  i9 := by kernel_rfl
  i20 := by kernel_rfl
  i37 := by kernel_rfl
  i46 := by kernel_rfl
  i51 := by kernel_rfl
  i53 := by kernel_rfl
  i171 := by kernel_rfl
  i173 := by kernel_rfl
  i212 := by kernel_rfl
  i232 := by kernel_rfl
  i233 := by kernel_rfl
  m17 := by kernel_rfl
  m18 := by kernel_rfl
  m19 := by kernel_rfl }
open Go.RowKit Go.Sort Go.Lib in
theorem Tryd.internal_strconv_Itoa (n : Int) (h0 : -9223372036854775808 ≤ n) (h1 : n ≤ 9223372036854775807) (w : World) (htab : Lib.TabIs Tryd.prog w "internal/strconv.uint64pow10" .u64 Lib.pow10Tab) :
    Calls Tryd.prog 62 #[.int .i64 n] w fun e w' => e = .returned (.string ⟨(Lib.itoa n).toArray⟩) ∧ ∃ k os, w' = grow (w.drewN k) os := Any.internal_strconv_Itoa Tryd.laysM243 n h0 h1 w htab
def Tryd.lays243_ren : Go.Shelf.Ren := ⟨fun | 243 => 62 | 246 => 72 | 283 => 83 | 284 => 84 | 285 => 85 | 286 => 86 | 129 => 91 | 317 => 90 | 318 => 92 | 319 => 93 | 320 => 94 | 337 => 95 | 338 => 96 | n => n, fun | 3 => 3 | 9 => 9 | 2 => 2 | 4 => 4 | 171 => 119 | 0 => 0 | 53 => 120 | 37 => 70 | 5 => 5 | 173 => 123 | 212 => 129 | 51 => 125 | 20 => 20 | 213 => 130 | 46 => 117 | 232 => 137 | 233 => 138 | n => n, fun | 17 => 2 | 18 => 5 | 19 => 6 | n => n⟩
theorem Tryd.lays243 : Go.Proofs.Lays.n243 Tryd.prog Tryd.lays243_ren := {
  mixed := by kernel_rfl
  f129 := Tryd.func91.trans (congrArg some (by kernel_rfl))
  f243 := Tryd.func62.trans (congrArg some (by kernel_rfl))
  f246 := Tryd.func72.trans (congrArg some (by kernel_rfl))
  f283 := Tryd.func83.trans (congrArg some (by kernel_rfl))
  f284 := Tryd.func84.trans (congrArg some (by kernel_rfl))
  f285 := Tryd.func85.trans (congrArg some (by kernel_rfl))
  f286 := Tryd.func86.trans (congrArg some (by kernel_rfl))
  f317 := Tryd.func90.trans (congrArg some (by kernel_rfl))
  f318 := Tryd.func92.trans (congrArg some (by kernel_rfl))
  f319 := Tryd.func93.trans (congrArg some (by kernel_rfl))
  f320 := Tryd.func94.trans (congrArg some (by kernel_rfl))
  f337 := Tryd.func95.trans (congrArg some (by kernel_rfl))
  f338 := Tryd.func96.trans (congrArg some (by kernel_rfl))
  t0 := Tryd.underlying0
  a0 := Tryd.isAgg0
  z0 := Tryd.sizeOf0
  v0 := Tryd.zeroValue0
  t2 := Tryd.underlying2
  a2 := Tryd.isAgg2
  z2 := Tryd.sizeOf2
  v2 := Tryd.zeroValue2
  t3 := Tryd.underlying3
  a3 := Tryd.isAgg3
  z3 := Tryd.sizeOf3
  v3 := Tryd.zeroValue3
  t4 := Tryd.underlying4
  a4 := Tryd.isAgg4
  z4 := Tryd.sizeOf4
  v4 := Tryd.zeroValue4
  t5 := Tryd.underlying5
  a5 := Tryd.isAgg5
  z5 := Tryd.sizeOf5
  v5 := Tryd.zeroValue5
  t9 := Tryd.underlying9
  a9 := Tryd.isAgg9
  z9 := Tryd.sizeOf9
  v9 := Tryd.zeroValue9
  t20 := Tryd.underlying20
  a20 := Tryd.isAgg20
  z20 := Tryd.sizeOf20
  v20 := Tryd.zeroValue20
  t37 := Tryd.underlying70
  a37 := Tryd.isAgg70
  z37 := Tryd.sizeOf70
  v37 := Tryd.zeroValue70
  t46 := Tryd.underlying117
  a46 := Tryd.isAgg117
  z46 := Tryd.sizeOf117
  v46 := Tryd.zeroValue117
  t51 := Tryd.underlying125
  a51 := Tryd.isAgg125
  z51 := Tryd.sizeOf125
  v51 := Tryd.zeroValue125
  t53 := Tryd.underlying120
  a53 := Tryd.isAgg120
  z53 := Tryd.sizeOf120
  v53 := Tryd.zeroValue120
  t171 := Tryd.underlying119
  a171 := Tryd.isAgg119
  z171 := Tryd.sizeOf119
  v171 := Tryd.zeroValue119
  t173 := Tryd.underlying123
  a173 := Tryd.isAgg123
  z173 := Tryd.sizeOf123
  v173 := Tryd.zeroValue123
  t212 := Tryd.underlying129
  a212 := Tryd.isAgg129
  z212 := Tryd.sizeOf129
  v212 := Tryd.zeroValue129
  t213 := Tryd.underlying130
  a213 := Tryd.isAgg130
  z213 := Tryd.sizeOf130
  t232 := Tryd.underlying137
  a232 := Tryd.isAgg137
  z232 := Tryd.sizeOf137
  v232 := Tryd.zeroValue137
  t233 := Tryd.underlying138
  a233 := Tryd.isAgg138
  z233 := Tryd.sizeOf138
  v233 := Tryd.zeroValue138
  g17 := by kernel_rfl
  g18 := by kernel_rfl
  g19 := by kernel_rfl }
open Go.RowKit Go.Sort Go.Lib in
theorem Tryd.internal_strconv_Itoa_small (i : Nat) (hi : i < 100) (w : World) :
    Calls Tryd.prog 62 #[.int .i64 i] w fun e w' => e = .returned (.string ⟨(Lib.decDigits i).toArray⟩) ∧ w' = w := Any.internal_strconv_Itoa_small Tryd.lays243 i hi w
def Tryd.laysM171_ren : Go.Shelf.Ren := ⟨fun | 171 => 45 | 243 => 62 | 246 => 72 | 283 => 83 | 284 => 84 | 285 => 85 | 286 => 86 | 129 => 91 | 317 => 90 | 318 => 92 | 319 => 93 | 320 => 94 | 337 => 95 | 338 => 96 | n => n, fun | 3 => 3 | 9 => 9 | 2 => 2 | 4 => 4 | 171 => 119 | 0 => 0 | 53 => 120 | 37 => 70 | 5 => 5 | 173 => 123 | 212 => 129 | 51 => 125 | 20 => 20 | 213 => 130 | 46 => 117 | 232 => 137 | 233 => 138 | n => n, fun | 17 => 2 | 18 => 5 | 19 => 6 | n => n⟩
theorem Tryd.laysM171 : Go.Proofs.LaysM.n171 Tryd.prog Tryd.laysM171_ren := {
  mixed := by kernel_rfl
  f129 := Tryd.func91.trans (congrArg some (by kernel_rfl))
  f171 := Tryd.func45.trans (congrArg some (by kernel_rfl))
  f243 := Tryd.func62.trans (congrArg some (by kernel_rfl))
  f246 := Tryd.func72.trans (congrArg some (by kernel_rfl))
  f283 := Tryd.func83.trans (congrArg some (by kernel_rfl))
  f284 := Tryd.func84.trans (congrArg some (by kernel_rfl))
  f285 := Tryd.func85.trans (congrArg some (by kernel_rfl))
  f286 := Tryd.func86.trans (congrArg some (by kernel_rfl))
  f317 := Tryd.func90.trans (congrArg some (by kernel_rfl))
  f318 := Tryd.func92.trans (congrArg some (by kernel_rfl))
  f319 := Tryd.func93.trans (congrArg some (by kernel_rfl))
  f320 := Tryd.func94.trans (congrArg some (by kernel_rfl))
  f337 := Tryd.func95.trans (congrArg some (by kernel_rfl))
  f338 := Tryd.func96.trans (congrArg some (by kernel_rfl))
  t0 := Tryd.underlying0
  a0 := Tryd.isAgg0
  z0 := Tryd.sizeOf0
  v0 := Tryd.zeroValue0
  t2 := Tryd.underlying2
  a2 := Tryd.isAgg2
  z2 := Tryd.sizeOf2
  v2 := Tryd.zeroValue2
  t3 := Tryd.underlying3
  a3 := Tryd.isAgg3
  z3 := Tryd.sizeOf3
  v3 := Tryd.zeroValue3
  t4 := Tryd.underlying4
  a4 := Tryd.isAgg4
  z4 := Tryd.sizeOf4
  v4 := Tryd.zeroValue4
  t5 := Tryd.underlying5
  a5 := Tryd.isAgg5
  z5 := Tryd.sizeOf5
  v5 := Tryd.zeroValue5
  t9 := Tryd.underlying9
  a9 := Tryd.isAgg9
  z9 := Tryd.sizeOf9
  v9 := Tryd.zeroValue9
  t20 := Tryd.underlying20
  a20 := Tryd.isAgg20
  z20 := Tryd.sizeOf20
  v20 := Tryd.zeroValue20
  t37 := Tryd.underlying70
  a37 := Tryd.isAgg70
  z37 := Tryd.sizeOf70
  v37 := Tryd.zeroValue70
  t46 := Tryd.underlying117
  a46 := Tryd.isAgg117
  z46 := Tryd.sizeOf117
  v46 := Tryd.zeroValue117
  t51 := Tryd.underlying125
  a51 := Tryd.isAgg125
  z51 := Tryd.sizeOf125
  v51 := Tryd.zeroValue125
  t53 := Tryd.underlying120
  a53 := Tryd.isAgg120
  z53 := Tryd.sizeOf120
  v53 := Tryd.zeroValue120
  t171 := Tryd.underlying119
  a171 := Tryd.isAgg119
  z171 := Tryd.sizeOf119
  v171 := Tryd.zeroValue119
  t173 := Tryd.underlying123
  a173 := Tryd.isAgg123
  z173 := Tryd.sizeOf123
  v173 := Tryd.zeroValue123
  t212 := Tryd.underlying129
  a212 := Tryd.isAgg129
  z212 := Tryd.sizeOf129
  v212 := Tryd.zeroValue129
  t213 := Tryd.underlying130
  a213 := Tryd.isAgg130
  z213 := Tryd.sizeOf130
  t232 := Tryd.underlying137
  a232 := Tryd.isAgg137
  z232 := Tryd.sizeOf137
  v232 := Tryd.zeroValue137
  t233 := Tryd.underlying138
  a233 := Tryd.isAgg138
  z233 := Tryd.sizeOf138
  v233 := Tryd.zeroValue138
  g17 := by kernel_rfl
  g18 := by kernel_rfl
  g19 := by kernel_rfl
  i0 := by kernel_rfl
  i2 := by kernel_rfl
  i3 := by kernel_rfl
  i4 := by kernel_rfl
  i5 := by kernel_rfl
  i9 := by kernel_rfl
  i20 := by kernel_rfl
  i37 := by kernel_rfl
  i46 := by kernel_rfl
  i51 := by kernel_rfl
  i53 := by kernel_rfl
  i171 := by kernel_rfl
  i173 := by kernel_rfl
  i212 := by kernel_rfl
  i232 := by kernel_rfl
  i233 := by kernel_rfl
  m17 := by kernel_rfl
  m18 := by kernel_rfl
  m19 := by kernel_rfl }
open Go.RowKit Go.Sort Go.Lib in
theorem Tryd.strconv_Itoa (n : Int) (h0 : -9223372036854775808 ≤ n) (h1 : n ≤ 9223372036854775807) (w : World) (htab : Lib.TabIs Tryd.prog w "internal/strconv.uint64pow10" .u64 Lib.pow10Tab) :
    Calls Tryd.prog 45 #[.int .i64 n] w fun e w' => e = .returned (.string ⟨(Lib.itoa n).toArray⟩) ∧ ∃ k os, w' = grow (w.drewN k) os := Any.strconv_Itoa Tryd.laysM171 n h0 h1 w htab
def Tryd.lays171_ren : Go.Shelf.Ren := ⟨fun | 171 => 45 | 243 => 62 | 246 => 72 | 283 => 83 | 284 => 84 | 285 => 85 | 286 => 86 | 129 => 91 | 317 => 90 | 318 => 92 | 319 => 93 | 320 => 94 | 337 => 95 | 338 => 96 | n => n, fun | 3 => 3 | 9 => 9 | 2 => 2 | 4 => 4 | 171 => 119 | 0 => 0 | 53 => 120 | 37 => 70 | 5 => 5 | 173 => 123 | 212 => 129 | 51 => 125 | 20 => 20 | 213 => 130 | 46 => 117 | 232 => 137 | 233 => 138 | n => n, fun | 17 => 2 | 18 => 5 | 19 => 6 | n => n⟩
theorem Tryd.lays171 : Go.Proofs.Lays.n171 Tryd.prog Tryd.lays171_ren := {
  mixed := by kernel_rfl
  f129 := Tryd.func91.trans (congrArg some (by kernel_rfl))
  f171 := Tryd.func45.trans (congrArg some (by kernel_rfl))
  f243 := Tryd.func62.trans (congrArg some (by kernel_rfl))
  f246 := Tryd.func72.trans (congrArg some (by kernel_rfl))
  f283 := Tryd.func83.trans (congrArg some (by kernel_rfl))
  f284 := Tryd.func84.trans (congrArg some (by kernel_rfl))
  f285 := Tryd.func85.trans (congrArg some (by kernel_rfl))
  f286 := Tryd.func86.trans (congrArg some (by kernel_rfl))
  f317 := Tryd.func90.trans (congrArg some (by kernel_rfl))
  f318 := Tryd.func92.trans (congrArg some (by kernel_rfl))
  f319 := Tryd.func93.trans (congrArg some (by kernel_rfl))
  f320 := Tryd.func94.trans (congrArg some (by kernel_rfl))
  f337 := Tryd.func95.trans (congrArg some (by kernel_rfl))
  f338 := Tryd.func96.trans (congrArg some (by kernel_rfl))
  t0 := Tryd.underlying0
  a0 := Tryd.isAgg0
  z0 := Tryd.sizeOf0
  v0 := Tryd.zeroValue0
  t2 := Tryd.underlying2
  a2 := Tryd.isAgg2
  z2 := Tryd.sizeOf2
  v2 := Tryd.zeroValue2
  t3 := Tryd.underlying3
  a3 := Tryd.isAgg3
  z3 := Tryd.sizeOf3
  v3 := Tryd.zeroValue3
  t4 := Tryd.underlying4
  a4 := Tryd.isAgg4
  z4 := Tryd.sizeOf4
  v4 := Tryd.zeroValue4
  t5 := Tryd.underlying5
  a5 := Tryd.isAgg5
  z5 := Tryd.sizeOf5
  v5 := Tryd.zeroValue5
  t9 := Tryd.underlying9
  a9 := Tryd.isAgg9
  z9 := Tryd.sizeOf9
  v9 := Tryd.zeroValue9
  t20 := Tryd.underlying20
  a20 := Tryd.isAgg20
  z20 := Tryd.sizeOf20
  v20 := Tryd.zeroValue20
  t37 := Tryd.underlying70
  a37 := Tryd.isAgg70
  z37 := Tryd.sizeOf70
  v37 := Tryd.zeroValue70
  t46 := Tryd.underlying117
  a46 := Tryd.isAgg117
  z46 := Tryd.sizeOf117
  v46 := Tryd.zeroValue117
  t51 := Tryd.underlying125
  a51 := Tryd.isAgg125
  z51 := Tryd.sizeOf125
  v51 := Tryd.zeroValue125
  t53 := Tryd.underlying120
  a53 := Tryd.isAgg120
  z53 := Tryd.sizeOf120
  v53 := Tryd.zeroValue120
  t171 := Tryd.underlying119
  a171 := Tryd.isAgg119
  z171 := Tryd.sizeOf119
  v171 := Tryd.zeroValue119
  t173 := Tryd.underlying123
  a173 := Tryd.isAgg123
  z173 := Tryd.sizeOf123
  v173 := Tryd.zeroValue123
  t212 := Tryd.underlying129
  a212 := Tryd.isAgg129
  z212 := Tryd.sizeOf129
  v212 := Tryd.zeroValue129
  t213 := Tryd.underlying130
  a213 := Tryd.isAgg130
  z213 := Tryd.sizeOf130
  t232 := Tryd.underlying137
  a232 := Tryd.isAgg137
  z232 := Tryd.sizeOf137
  v232 := Tryd.zeroValue137
  t233 := Tryd.underlying138
  a233 := Tryd.isAgg138
  z233 := Tryd.sizeOf138
  v233 := Tryd.zeroValue138
  g17 := by kernel_rfl
  g18 := by kernel_rfl
  g19 := by kernel_rfl }
open Go.RowKit Go.Sort Go.Lib in
theorem Tryd.strconv_Itoa_small (i : Nat) (hi : i < 100) (w : World) :
    Calls Tryd.prog 45 #[.int .i64 i] w fun e w' => e = .returned (.string ⟨(Lib.decDigits i).toArray⟩) ∧ w' = w := Any.strconv_Itoa_small Tryd.lays171 i hi w
def Tryd.lays217_ren : Go.Shelf.Ren := ⟨fun | 217 => 78 | 266 => 88 | n => n, fun | 9 => 9 | 5 => 5 | 3 => 3 | n => n, fun | n => n⟩
theorem Tryd.lays217 : Go.Proofs.Lays.n217 Tryd.prog Tryd.lays217_ren := {
  mixed := by kernel_rfl
  f217 := Tryd.func78.trans (congrArg some (by kernel_rfl))
  f266 := Tryd.func88.trans (congrArg some (by kernel_rfl))
  t3 := Tryd.underlying3
  a3 := Tryd.isAgg3
  z3 := Tryd.sizeOf3
  v3 := Tryd.zeroValue3
  t5 := Tryd.underlying5
  a5 := Tryd.isAgg5
  z5 := Tryd.sizeOf5
  v5 := Tryd.zeroValue5
  t9 := Tryd.underlying9
  a9 := Tryd.isAgg9
  z9 := Tryd.sizeOf9
  v9 := Tryd.zeroValue9 }
open Go.RowKit Go.Lib in
theorem Tryd.stringslite_IndexByte (s : ByteArray) (c : Int) (w : World) :
    Calls Tryd.prog 78 #[.string s, .int .u8 c] w fun e w' => e = .returned (.int .i64 (Lib.indexByte s.data.toList c.toNat.toUInt8)) ∧ w' = w := Any.stringslite_IndexByte Tryd.lays217 s c w
def Tryd.lays224_ren : Go.Shelf.Ren := ⟨fun | 224 => 80 | n => n, fun | 3 => 3 | n => n, fun | n => n⟩
theorem Tryd.lays224 : Go.Proofs.Lays.n224 Tryd.prog Tryd.lays224_ren := {
  mixed := by kernel_rfl
  f224 := Tryd.func80.trans (congrArg some (by kernel_rfl))
  t3 := Tryd.underlying3
  a3 := Tryd.isAgg3
  z3 := Tryd.sizeOf3
  v3 := Tryd.zeroValue3 }
open Go.RowKit Go.Lib in
theorem Tryd.bytealg_Cutover (n : Int) (h0 : 0 ≤ n) (h1 : n < 4611686018427387904) (w : World) :
    Calls Tryd.prog 80 #[.int .i64 n] w fun e w' => e = .returned (.int .i64 ((n + 16) / 8)) ∧ w' = w := Any.bytealg_Cutover Tryd.lays224 n h0 h1 w
def Tryd.lays314_ren : Go.Shelf.Ren := ⟨fun | 314 => 89 | n => n, fun | 9 => 9 | 51 => 125 | 3 => 3 | 4 => 4 | 5 => 5 | 46 => 117 | n => n, fun | n => n⟩
theorem Tryd.lays314 : Go.Proofs.Lays.n314 Tryd.prog Tryd.lays314_ren := {
  mixed := by kernel_rfl
  f314 := Tryd.func89.trans (congrArg some (by kernel_rfl))
  t3 := Tryd.underlying3
  a3 := Tryd.isAgg3
  z3 := Tryd.sizeOf3
  v3 := Tryd.zeroValue3
  t4 := Tryd.underlying4
  a4 := Tryd.isAgg4
  z4 := Tryd.sizeOf4
  v4 := Tryd.zeroValue4
  t5 := Tryd.underlying5
  a5 := Tryd.isAgg5
  z5 := Tryd.sizeOf5
  v5 := Tryd.zeroValue5
  t9 := Tryd.underlying9
  a9 := Tryd.isAgg9
  z9 := Tryd.sizeOf9
  v9 := Tryd.zeroValue9
  t46 := Tryd.underlying117
  a46 := Tryd.isAgg117
  z46 := Tryd.sizeOf117
  v46 := Tryd.zeroValue117
  t51 := Tryd.underlying125
  a51 := Tryd.isAgg125
  z51 := Tryd.sizeOf125
  v51 := Tryd.zeroValue125 }
open Go.RowKit Go.Lib in
theorem Tryd.bytealg_hashStr (sep : ByteArray) (hs : sep.size < 4294967281) (w : World) :
    Calls Tryd.prog 89 #[.string sep] w fun e w' => e = .returned (.tuple #[.int .u32 (RK.H sep.data.toList % 4294967296), .int .u32 (16777619 ^ sep.size % 4294967296)]) ∧ w' = w := Any.bytealg_hashStr Tryd.lays314 sep hs w
def Tryd.lays267_ren : Go.Shelf.Ren := ⟨fun | 267 => 81 | 314 => 89 | n => n, fun | 9 => 9 | 3 => 3 | 146 => 126 | 51 => 125 | 4 => 4 | 5 => 5 | 46 => 117 | n => n, fun | n => n⟩
theorem Tryd.lays267 : Go.Proofs.Lays.n267 Tryd.prog Tryd.lays267_ren := {
  mixed := by kernel_rfl
  f267 := Tryd.func81.trans (congrArg some (by kernel_rfl))
  f314 := Tryd.func89.trans (congrArg some (by kernel_rfl))
  t3 := Tryd.underlying3
  a3 := Tryd.isAgg3
  z3 := Tryd.sizeOf3
  v3 := Tryd.zeroValue3
  t4 := Tryd.underlying4
  a4 := Tryd.isAgg4
  z4 := Tryd.sizeOf4
  v4 := Tryd.zeroValue4
  t5 := Tryd.underlying5
  a5 := Tryd.isAgg5
  z5 := Tryd.sizeOf5
  v5 := Tryd.zeroValue5
  t9 := Tryd.underlying9
  a9 := Tryd.isAgg9
  z9 := Tryd.sizeOf9
  v9 := Tryd.zeroValue9
  t46 := Tryd.underlying117
  a46 := Tryd.isAgg117
  z46 := Tryd.sizeOf117
  v46 := Tryd.zeroValue117
  t51 := Tryd.underlying125
  a51 := Tryd.isAgg125
  z51 := Tryd.sizeOf125
  v51 := Tryd.zeroValue125
  t146 := Tryd.underlying126
  a146 := Tryd.isAgg126
  z146 := Tryd.sizeOf126
  v146 := Tryd.zeroValue126 }
open Go.RowKit Go.Lib in
theorem Tryd.bytealg_IndexRabinKarp (s sep : ByteArray) (h1 : 1 ≤ sep.size) (h2 : sep.size ≤ s.size) (hs : s.size < 4294967281) (w : World) :
    Calls Tryd.prog 81 #[.string s, .string sep] w fun e w' => e = .returned (.int .i64 (Lib.index s.data.toList sep.data.toList)) ∧ w' = w := Any.bytealg_IndexRabinKarp Tryd.lays267 s sep h1 h2 hs w
def Tryd.lays219_ren : Go.Shelf.Ren := ⟨fun | 219 => 69 | 217 => 78 | 225 => 79 | 224 => 80 | 267 => 81 | 266 => 88 | 314 => 89 | n => n, fun | 9 => 9 | 3 => 3 | 4 => 4 | 5 => 5 | 46 => 117 | 146 => 126 | 51 => 125 | n => n, fun | 1 => 1 | n => n⟩
theorem Tryd.lays219 : Go.Proofs.Lays.n219 Tryd.prog Tryd.lays219_ren := {
  mixed := by kernel_rfl
  f217 := Tryd.func78.trans (congrArg some (by kernel_rfl))
  f219 := Tryd.func69.trans (congrArg some (by kernel_rfl))
  f224 := Tryd.func80.trans (congrArg some (by kernel_rfl))
  f225 := Tryd.func79.trans (congrArg some (by kernel_rfl))
  f266 := Tryd.func88.trans (congrArg some (by kernel_rfl))
  f267 := Tryd.func81.trans (congrArg some (by kernel_rfl))
  f314 := Tryd.func89.trans (congrArg some (by kernel_rfl))
  t3 := Tryd.underlying3
  a3 := Tryd.isAgg3
  z3 := Tryd.sizeOf3
  v3 := Tryd.zeroValue3
  t4 := Tryd.underlying4
  a4 := Tryd.isAgg4
  z4 := Tryd.sizeOf4
  v4 := Tryd.zeroValue4
  t5 := Tryd.underlying5
  a5 := Tryd.isAgg5
  z5 := Tryd.sizeOf5
  v5 := Tryd.zeroValue5
  t9 := Tryd.underlying9
  a9 := Tryd.isAgg9
  z9 := Tryd.sizeOf9
  v9 := Tryd.zeroValue9
  t46 := Tryd.underlying117
  a46 := Tryd.isAgg117
  z46 := Tryd.sizeOf117
  v46 := Tryd.zeroValue117
  t51 := Tryd.underlying125
  a51 := Tryd.isAgg125
  z51 := Tryd.sizeOf125
  v51 := Tryd.zeroValue125
  t146 := Tryd.underlying126
  a146 := Tryd.isAgg126
  z146 := Tryd.sizeOf126
  v146 := Tryd.zeroValue126
  g1 := by kernel_rfl }
open Go.RowKit Go.Lib in
theorem Tryd.stringslite_Index_one (s : ByteArray) (c : UInt8) (w : World) :
    Calls Tryd.prog 69 #[.string s, .string ⟨#[c]⟩] w fun e w' => e = .returned (.int .i64 (Lib.indexByte s.data.toList c)) ∧ w' = w := Any.stringslite_Index_one Tryd.lays219 s c w
open Go.RowKit Go.Lib in
theorem Tryd.stringslite_Index (s sub : ByteArray) (m : Int) (w : World) (hs : s.size < 4294967281) (hm : w.cell? ⟨1, 0, none⟩ = some (.int .i64 m)) :
    Calls Tryd.prog 69 #[.string s, .string sub] w fun e w' => e = .returned (.int .i64 (Lib.index s.data.toList sub.data.toList)) ∧ w' = w := Any.stringslite_Index Tryd.lays219 s sub m w hs hm
def Tryd.lays143_ren : Go.Shelf.Ren := ⟨fun | 143 => 68 | 219 => 69 | 217 => 78 | 225 => 79 | 224 => 80 | 267 => 81 | 266 => 88 | 314 => 89 | n => n, fun | 9 => 9 | 3 => 3 | 4 => 4 | 5 => 5 | 46 => 117 | 146 => 126 | 51 => 125 | n => n, fun | 1 => 1 | n => n⟩
theorem Tryd.lays143 : Go.Proofs.Lays.n143 Tryd.prog Tryd.lays143_ren := {
  mixed := by kernel_rfl
  f143 := Tryd.func68.trans (congrArg some (by kernel_rfl))
  f217 := Tryd.func78.trans (congrArg some (by kernel_rfl))
  f219 := Tryd.func69.trans (congrArg some (by kernel_rfl))
  f224 := Tryd.func80.trans (congrArg some (by kernel_rfl))
  f225 := Tryd.func79.trans (congrArg some (by kernel_rfl))
  f266 := Tryd.func88.trans (congrArg some (by kernel_rfl))
  f267 := Tryd.func81.trans (congrArg some (by kernel_rfl))
  f314 := Tryd.func89.trans (congrArg some (by kernel_rfl))
  t3 := Tryd.underlying3
  a3 := Tryd.isAgg3
  z3 := Tryd.sizeOf3
  v3 := Tryd.zeroValue3
  t4 := Tryd.underlying4
  a4 := Tryd.isAgg4
  z4 := Tryd.sizeOf4
  v4 := Tryd.zeroValue4
  t5 := Tryd.underlying5
  a5 := Tryd.isAgg5
  z5 := Tryd.sizeOf5
  v5 := Tryd.zeroValue5
  t9 := Tryd.underlying9
  a9 := Tryd.isAgg9
  z9 := Tryd.sizeOf9
  v9 := Tryd.zeroValue9
  t46 := Tryd.underlying117
  a46 := Tryd.isAgg117
  z46 := Tryd.sizeOf117
  v46 := Tryd.zeroValue117
  t51 := Tryd.underlying125
  a51 := Tryd.isAgg125
  z51 := Tryd.sizeOf125
  v51 := Tryd.zeroValue125
  t146 := Tryd.underlying126
  a146 := Tryd.isAgg126
  z146 := Tryd.sizeOf126
  v146 := Tryd.zeroValue126
  g1 := by kernel_rfl }
open Go.RowKit Go.Lib in
theorem Tryd.strings_Index_one (s : ByteArray) (c : UInt8) (w : World) :
    Calls Tryd.prog 68 #[.string s, .string ⟨#[c]⟩] w fun e w' => e = .returned (.int .i64 (Lib.indexByte s.data.toList c)) ∧ w' = w := Any.strings_Index_one Tryd.lays143 s c w
open Go.RowKit Go.Lib in
theorem Tryd.strings_Index (s sub : ByteArray) (m : Int) (w : World) (hs : s.size < 4294967281) (hm : w.cell? ⟨1, 0, none⟩ = some (.int .i64 m)) :
    Calls Tryd.prog 68 #[.string s, .string sub] w fun e w' => e = .returned (.int .i64 (Lib.index s.data.toList sub.data.toList)) ∧ w' = w := Any.strings_Index Tryd.lays143 s sub m w hs hm
def Tryd.lays220_ren : Go.Shelf.Ren := ⟨fun | 220 => 54 | 219 => 69 | 217 => 78 | 225 => 79 | 224 => 80 | 267 => 81 | 266 => 88 | 314 => 89 | n => n, fun | 9 => 9 | 4 => 4 | 3 => 3 | 5 => 5 | 46 => 117 | 146 => 126 | 51 => 125 | n => n, fun | 1 => 1 | n => n⟩
theorem Tryd.lays220 : Go.Proofs.Lays.n220 Tryd.prog Tryd.lays220_ren := {
  mixed := by kernel_rfl
  f217 := Tryd.func78.trans (congrArg some (by kernel_rfl))
  f219 := Tryd.func69.trans (congrArg some (by kernel_rfl))
  f220 := Tryd.func54.trans (congrArg some (by kernel_rfl))
  f224 := Tryd.func80.trans (congrArg some (by kernel_rfl))
  f225 := Tryd.func79.trans (congrArg some (by kernel_rfl))
  f266 := Tryd.func88.trans (congrArg some (by kernel_rfl))
  f267 := Tryd.func81.trans (congrArg some (by kernel_rfl))
  f314 := Tryd.func89.trans (congrArg some (by kernel_rfl))
  t3 := Tryd.underlying3
  a3 := Tryd.isAgg3
  z3 := Tryd.sizeOf3
  v3 := Tryd.zeroValue3
  t4 := Tryd.underlying4
  a4 := Tryd.isAgg4
  z4 := Tryd.sizeOf4
  v4 := Tryd.zeroValue4
  t5 := Tryd.underlying5
  a5 := Tryd.isAgg5
  z5 := Tryd.sizeOf5
  v5 := Tryd.zeroValue5
  t9 := Tryd.underlying9
  a9 := Tryd.isAgg9
  z9 := Tryd.sizeOf9
  v9 := Tryd.zeroValue9
  t46 := Tryd.underlying117
  a46 := Tryd.isAgg117
  z46 := Tryd.sizeOf117
  v46 := Tryd.zeroValue117
  t51 := Tryd.underlying125
  a51 := Tryd.isAgg125
  z51 := Tryd.sizeOf125
  v51 := Tryd.zeroValue125
  t146 := Tryd.underlying126
  a146 := Tryd.isAgg126
  z146 := Tryd.sizeOf126
  v146 := Tryd.zeroValue126
  g1 := by kernel_rfl }
open Go.RowKit Go.Lib in
theorem Tryd.stringslite_Cut (s sep : ByteArray) (m : Int) (w : World) (hs : s.size < 4294967281) (hm : w.cell? ⟨1, 0, none⟩ = some (.int .i64 m)) :
    Calls Tryd.prog 54 #[.string s, .string sep] w fun e w' => e = .returned (.tuple #[.string ⟨(Lib.cut s.data.toList sep.data.toList).1.toArray⟩, .string ⟨(Lib.cut s.data.toList sep.data.toList).2.1.toArray⟩, .bool (Lib.cut s.data.toList sep.data.toList).2.2]) ∧ ∃ n, w' = w.drewN n := Any.stringslite_Cut Tryd.lays220 s sep m w hs hm
def Tryd.lays145_ren : Go.Shelf.Ren := ⟨fun | 145 => 38 | 220 => 54 | 219 => 69 | 217 => 78 | 225 => 79 | 224 => 80 | 267 => 81 | 266 => 88 | 314 => 89 | n => n, fun | 9 => 9 | 4 => 4 | 59 => 63 | 3 => 3 | 5 => 5 | 46 => 117 | 146 => 126 | 51 => 125 | n => n, fun | 1 => 1 | n => n⟩
theorem Tryd.lays145 : Go.Proofs.Lays.n145 Tryd.prog Tryd.lays145_ren := {
  mixed := by kernel_rfl
  f145 := Tryd.func38.trans (congrArg some (by kernel_rfl))
  f217 := Tryd.func78.trans (congrArg some (by kernel_rfl))
  f219 := Tryd.func69.trans (congrArg some (by kernel_rfl))
  f220 := Tryd.func54.trans (congrArg some (by kernel_rfl))
  f224 := Tryd.func80.trans (congrArg some (by kernel_rfl))
  f225 := Tryd.func79.trans (congrArg some (by kernel_rfl))
  f266 := Tryd.func88.trans (congrArg some (by kernel_rfl))
  f267 := Tryd.func81.trans (congrArg some (by kernel_rfl))
  f314 := Tryd.func89.trans (congrArg some (by kernel_rfl))
  t3 := Tryd.underlying3
  a3 := Tryd.isAgg3
  z3 := Tryd.sizeOf3
  v3 := Tryd.zeroValue3
  t4 := Tryd.underlying4
  a4 := Tryd.isAgg4
  z4 := Tryd.sizeOf4
  v4 := Tryd.zeroValue4
  t5 := Tryd.underlying5
  a5 := Tryd.isAgg5
  z5 := Tryd.sizeOf5
  v5 := Tryd.zeroValue5
  t9 := Tryd.underlying9
  a9 := Tryd.isAgg9
  z9 := Tryd.sizeOf9
  v9 := Tryd.zeroValue9
  t46 := Tryd.underlying117
  a46 := Tryd.isAgg117
  z46 := Tryd.sizeOf117
  v46 := Tryd.zeroValue117
  t51 := Tryd.underlying125
  a51 := Tryd.isAgg125
  z51 := Tryd.sizeOf125
  v51 := Tryd.zeroValue125
  t59 := Tryd.underlying63
  a59 := Tryd.isAgg63
  z59 := Tryd.sizeOf63
  v59 := Tryd.zeroValue63
  t146 := Tryd.underlying126
  a146 := Tryd.isAgg126
  z146 := Tryd.sizeOf126
  v146 := Tryd.zeroValue126
  g1 := by kernel_rfl }
open Go.RowKit Go.Lib in
theorem Tryd.strings_Cut (s sep : ByteArray) (m : Int) (w : World) (hs : s.size < 4294967281) (hm : w.cell? ⟨1, 0, none⟩ = some (.int .i64 m)) :
    Calls Tryd.prog 38 #[.string s, .string sep] w fun e w' => e = .returned (.tuple #[.string ⟨(Lib.cut s.data.toList sep.data.toList).1.toArray⟩, .string ⟨(Lib.cut s.data.toList sep.data.toList).2.1.toArray⟩, .bool (Lib.cut s.data.toList sep.data.toList).2.2]) ∧ ∃ n, w' = w.drewN n := Any.strings_Cut Tryd.lays145 s sep m w hs hm
def Tryd.lays138_ren : Go.Shelf.Ren := ⟨fun | 138 => 67 | 195 => 75 | 218 => 77 | 143 => 68 | 219 => 69 | 217 => 78 | 225 => 79 | 224 => 80 | 267 => 81 | 266 => 88 | 314 => 89 | n => n, fun | 9 => 9 | 3 => 3 | 4 => 4 | 5 => 5 | 0 => 0 | 46 => 117 | 146 => 126 | 51 => 125 | n => n, fun | 1 => 1 | n => n⟩
theorem Tryd.lays138 : Go.Proofs.Lays.n138 Tryd.prog Tryd.lays138_ren := {
  mixed := by kernel_rfl
  f138 := Tryd.func67.trans (congrArg some (by kernel_rfl))
  f143 := Tryd.func68.trans (congrArg some (by kernel_rfl))
  f195 := Tryd.func75.trans (congrArg some (by kernel_rfl))
  f217 := Tryd.func78.trans (congrArg some (by kernel_rfl))
  f218 := Tryd.func77.trans (congrArg some (by kernel_rfl))
  f219 := Tryd.func69.trans (congrArg some (by kernel_rfl))
  f224 := Tryd.func80.trans (congrArg some (by kernel_rfl))
  f225 := Tryd.func79.trans (congrArg some (by kernel_rfl))
  f266 := Tryd.func88.trans (congrArg some (by kernel_rfl))
  f267 := Tryd.func81.trans (congrArg some (by kernel_rfl))
  f314 := Tryd.func89.trans (congrArg some (by kernel_rfl))
  t0 := Tryd.underlying0
  a0 := Tryd.isAgg0
  z0 := Tryd.sizeOf0
  v0 := Tryd.zeroValue0
  t3 := Tryd.underlying3
  a3 := Tryd.isAgg3
  z3 := Tryd.sizeOf3
  v3 := Tryd.zeroValue3
  t4 := Tryd.underlying4
  a4 := Tryd.isAgg4
  z4 := Tryd.sizeOf4
  v4 := Tryd.zeroValue4
  t5 := Tryd.underlying5
  a5 := Tryd.isAgg5
  z5 := Tryd.sizeOf5
  v5 := Tryd.zeroValue5
  t9 := Tryd.underlying9
  a9 := Tryd.isAgg9
  z9 := Tryd.sizeOf9
  v9 := Tryd.zeroValue9
  t46 := Tryd.underlying117
  a46 := Tryd.isAgg117
  z46 := Tryd.sizeOf117
  v46 := Tryd.zeroValue117
  t51 := Tryd.underlying125
  a51 := Tryd.isAgg125
  z51 := Tryd.sizeOf125
  v51 := Tryd.zeroValue125
  t146 := Tryd.underlying126
  a146 := Tryd.isAgg126
  z146 := Tryd.sizeOf126
  v146 := Tryd.zeroValue126
  g1 := by kernel_rfl }
open Go.RowKit Go.Lib in
theorem Tryd.strings_Count_one (s : ByteArray) (c : UInt8) (w : World) :
    Calls Tryd.prog 67 #[.string s, .string ⟨#[c]⟩] w fun e w' => e = .returned (.int .i64 (Lib.countByte s.data.toList c)) ∧ w' = w := Any.strings_Count_one Tryd.lays138 s c w
open Go.RowKit Go.Lib in
theorem Tryd.strings_Count (s sub : ByteArray) (m : Int) (w : World) (hs : s.size < 4294967281) (hm : w.cell? ⟨1, 0, none⟩ = some (.int .i64 m)) (h2 : 2 ≤ sub.size) :
    Calls Tryd.prog 67 #[.string s, .string sub] w fun e w' => e = .returned (.int .i64 (Lib.countB s sub)) ∧ w' = w := Any.strings_Count Tryd.lays138 s sub m w hs hm h2
def Tryd.laysM219_ren : Go.Shelf.Ren := ⟨fun | 219 => 69 | 217 => 78 | 225 => 79 | 224 => 80 | 267 => 81 | 266 => 88 | 314 => 89 | n => n, fun | 9 => 9 | 3 => 3 | 4 => 4 | 5 => 5 | 46 => 117 | 146 => 126 | 51 => 125 | n => n, fun | 1 => 1 | n => n⟩
theorem Tryd.laysM219 : Go.Proofs.LaysM.n219 Tryd.prog Tryd.laysM219_ren := {
  mixed := by kernel_rfl
  f217 := Tryd.func78.trans (congrArg some (by kernel_rfl))
  f219 := Tryd.func69.trans (congrArg some (by kernel_rfl))
  f224 := Tryd.func80.trans (congrArg some (by kernel_rfl))
  f225 := Tryd.func79.trans (congrArg some (by kernel_rfl))
  f266 := Tryd.func88.trans (congrArg some (by kernel_rfl))
  f267 := Tryd.func81.trans (congrArg some (by kernel_rfl))
  f314 := Tryd.func89.trans (congrArg some (by kernel_rfl))
  t3 := Tryd.underlying3
  a3 := Tryd.isAgg3
  z3 := Tryd.sizeOf3
  v3 := Tryd.zeroValue3
  t4 := Tryd.underlying4
  a4 := Tryd.isAgg4
  z4 := Tryd.sizeOf4
  v4 := Tryd.zeroValue4
  t5 := Tryd.underlying5
  a5 := Tryd.isAgg5
  z5 := Tryd.sizeOf5
  v5 := Tryd.zeroValue5
  t9 := Tryd.underlying9
  a9 := Tryd.isAgg9
  z9 := Tryd.sizeOf9
  v9 := Tryd.zeroValue9
  t46 := Tryd.underlying117
  a46 := Tryd.isAgg117
  z46 := Tryd.sizeOf117
  v46 := Tryd.zeroValue117
  t51 := Tryd.underlying125
  a51 := Tryd.isAgg125
  z51 := Tryd.sizeOf125
  v51 := Tryd.zeroValue125
  t146 := Tryd.underlying126
  a146 := Tryd.isAgg126
  z146 := Tryd.sizeOf126
  v146 := Tryd.zeroValue126
  g1 := by kernel_rfl
  i3 := by kernel_rfl
  i4 := by kernel_rfl
  i5 := by kernel_rfl
  i9 := by kernel_rfl
  i46 := by kernel_rfl
  i51 := by kernel_rfl
  i146 := by kernel_rfl
  m1 := by kernel_rfl
  s1_3 := fun w h => Go.Proofs.cell_of_shapedOpen_int (zero := #[.int .i64 0]) (t := 3) h (of_decide_eq_true (by kernel_rfl)) (by kernel_rfl) rfl (by kernel_rfl) (by kernel_rfl) Tryd.underlying3 }
open Go.RowKit Go.Lib in
theorem Tryd.stringslite_Index_shaped (s sub : ByteArray) (w : World) (h : w.ShapedOpen Tryd.prog) (hs : s.size < 4294967281) :
    Calls Tryd.prog 69 #[.string s, .string sub] w fun e w' => e = .returned (.int .i64 (Lib.index s.data.toList sub.data.toList)) ∧ w' = w := Any.stringslite_Index_shaped Tryd.laysM219 s sub w h hs
def Tryd.laysM143_ren : Go.Shelf.Ren := ⟨fun | 143 => 68 | 219 => 69 | 217 => 78 | 225 => 79 | 224 => 80 | 267 => 81 | 266 => 88 | 314 => 89 | n => n, fun | 9 => 9 | 3 => 3 | 4 => 4 | 5 => 5 | 46 => 117 | 146 => 126 | 51 => 125 | n => n, fun | 1 => 1 | n => n⟩
theorem Tryd.laysM143 : Go.Proofs.LaysM.n143 Tryd.prog Tryd.laysM143_ren := {
  mixed := by kernel_rfl
  f143 := Tryd.func68.trans (congrArg some (by kernel_rfl))
  f217 := Tryd.func78.trans (congrArg some (by kernel_rfl))
  f219 := Tryd.func69.trans (congrArg some (by kernel_rfl))
  f224 := Tryd.func80.trans (congrArg some (by kernel_rfl))
  f225 := Tryd.func79.trans (congrArg some (by kernel_rfl))
  f266 := Tryd.func88.trans (congrArg some (by kernel_rfl))
  f267 := Tryd.func81.trans (congrArg some (by kernel_rfl))
  f314 := Tryd.func89.trans (congrArg some (by kernel_rfl))
  t3 := Tryd.underlying3
  a3 := Tryd.isAgg3
  z3 := Tryd.sizeOf3
  v3 := Tryd.zeroValue3
  t4 := Tryd.underlying4
  a4 := Tryd.isAgg4
  z4 := Tryd.sizeOf4
  v4 := Tryd.zeroValue4
  t5 := Tryd.underlying5
  a5 := Tryd.isAgg5
  z5 := Tryd.sizeOf5
  v5 := Tryd.zeroValue5
  t9 := Tryd.underlying9
  a9 := Tryd.isAgg9
  z9 := Tryd.sizeOf9
  v9 := Tryd.zeroValue9
  t46 := Tryd.underlying117
  a46 := Tryd.isAgg117
  z46 := Tryd.sizeOf117
  v46 := Tryd.zeroValue117
  t51 := Tryd.underlying125
  a51 := Tryd.isAgg125
  z51 := Tryd.sizeOf125
  v51 := Tryd.zeroValue125
  t146 := Tryd.underlying126
  a146 := Tryd.isAgg126
  z146 := Tryd.sizeOf126
  v146 := Tryd.zeroValue126
  g1 := by kernel_rfl
  i3 := by kernel_rfl
  i4 := by kernel_rfl
  i5 := by kernel_rfl
  i9 := by kernel_rfl
  i46 := by kernel_rfl
  i51 := by kernel_rfl
  i146 := by kernel_rfl
  m1 := by kernel_rfl
  s1_3 := fun w h => Go.Proofs.cell_of_shapedOpen_int (zero := #[.int .i64 0]) (t := 3) h (of_decide_eq_true (by kernel_rfl)) (by kernel_rfl) rfl (by kernel_rfl) (by kernel_rfl) Tryd.underlying3 }
open Go.RowKit Go.Lib in
theorem Tryd.strings_Index_shaped (s sub : ByteArray) (w : World) (h : w.ShapedOpen Tryd.prog) (hs : s.size < 4294967281) :
    Calls Tryd.prog 68 #[.string s, .string sub] w fun e w' => e = .returned (.int .i64 (Lib.index s.data.toList sub.data.toList)) ∧ w' = w := Any.strings_Index_shaped Tryd.laysM143 s sub w h hs
def Tryd.laysM220_ren : Go.Shelf.Ren := ⟨fun | 220 => 54 | 219 => 69 | 217 => 78 | 225 => 79 | 224 => 80 | 267 => 81 | 266 => 88 | 314 => 89 | n => n, fun | 9 => 9 | 4 => 4 | 3 => 3 | 5 => 5 | 46 => 117 | 146 => 126 | 51 => 125 | n => n, fun | 1 => 1 | n => n⟩
theorem Tryd.laysM220 : Go.Proofs.LaysM.n220 Tryd.prog Tryd.laysM220_ren := {
  mixed := by kernel_rfl
  f217 := Tryd.func78.trans (congrArg some (by kernel_rfl))
  f219 := Tryd.func69.trans (congrArg some (by kernel_rfl))
  f220 := Tryd.func54.trans (congrArg some (by kernel_rfl))
  f224 := Tryd.func80.trans (congrArg some (by kernel_rfl))
  f225 := Tryd.func79.trans (congrArg some (by kernel_rfl))
  f266 := Tryd.func88.trans (congrArg some (by kernel_rfl))
  f267 := Tryd.func81.trans (congrArg some (by kernel_rfl))
  f314 := Tryd.func89.trans (congrArg some (by kernel_rfl))
  t3 := Tryd.underlying3
  a3 := Tryd.isAgg3
  z3 := Tryd.sizeOf3
  v3 := Tryd.zeroValue3
  t4 := Tryd.underlying4
  a4 := Tryd.isAgg4
  z4 := Tryd.sizeOf4
  v4 := Tryd.zeroValue4
  t5 := Tryd.underlying5
  a5 := Tryd.isAgg5
  z5 := Tryd.sizeOf5
  v5 := Tryd.zeroValue5
  t9 := Tryd.underlying9
  a9 := Tryd.isAgg9
  z9 := Tryd.sizeOf9
  v9 := Tryd.zeroValue9
  t46 := Tryd.underlying117
  a46 := Tryd.isAgg117
  z46 := Tryd.sizeOf117
  v46 := Tryd.zeroValue117
  t51 := Tryd.underlying125
  a51 := Tryd.isAgg125
  z51 := Tryd.sizeOf125
  v51 := Tryd.zeroValue125
  t146 := Tryd.underlying126
  a146 := Tryd.isAgg126
  z146 := Tryd.sizeOf126
  v146 := Tryd.zeroValue126
  g1 := by kernel_rfl
  i3 := by kernel_rfl
  i4 := by kernel_rfl
  i5 := by kernel_rfl
  i9 := by kernel_rfl
  i46 := by kernel_rfl
  i51 := by kernel_rfl
  i146 := by kernel_rfl
  m1 := by kernel_rfl
  s1_3 := fun w h => Go.Proofs.cell_of_shapedOpen_int (zero := #[.int .i64 0]) (t := 3) h (of_decide_eq_true (by kernel_rfl)) (by kernel_rfl) rfl (by kernel_rfl) (by kernel_rfl) Tryd.underlying3 }
open Go.RowKit Go.Lib in
theorem Tryd.stringslite_Cut_shaped (s sep : ByteArray) (w : World) (h : w.ShapedOpen Tryd.prog) (hs : s.size < 4294967281) :
    Calls Tryd.prog 54 #[.string s, .string sep] w fun e w' => e = .returned (.tuple #[.string ⟨(Lib.cut s.data.toList sep.data.toList).1.toArray⟩, .string ⟨(Lib.cut s.data.toList sep.data.toList).2.1.toArray⟩, .bool (Lib.cut s.data.toList sep.data.toList).2.2]) ∧ ∃ n, w' = w.drewN n := Any.stringslite_Cut_shaped Tryd.laysM220 s sep w h hs
def Tryd.laysM145_ren : Go.Shelf.Ren := ⟨fun | 145 => 38 | 220 => 54 | 219 => 69 | 217 => 78 | 225 => 79 | 224 => 80 | 267 => 81 | 266 => 88 | 314 => 89 | n => n, fun | 9 => 9 | 4 => 4 | 59 => 63 | 3 => 3 | 5 => 5 | 46 => 117 | 146 => 126 | 51 => 125 | n => n, fun | 1 => 1 | n => n⟩
theorem Tryd.laysM145 : Go.Proofs.LaysM.n145 Tryd.prog Tryd.laysM145_ren := {
  mixed := by kernel_rfl
  f145 := Tryd.func38.trans (congrArg some (by kernel_rfl))
  f217 := Tryd.func78.trans (congrArg some (by kernel_rfl))
  f219 := Tryd.func69.trans (congrArg some (by kernel_rfl))
  f220 := Tryd.func54.trans (congrArg some (by kernel_rfl))
  f224 := Tryd.func80.trans (congrArg some (by kernel_rfl))
  f225 := Tryd.func79.trans (congrArg some (by kernel_rfl))
  f266 := Tryd.func88.trans (congrArg some (by kernel_rfl))
  f267 := Tryd.func81.trans (congrArg some (by kernel_rfl))
  f314 := Tryd.func89.trans (congrArg some (by kernel_rfl))
  t3 := Tryd.underlying3
  a3 := Tryd.isAgg3
  z3 := Tryd.sizeOf3
  v3 := Tryd.zeroValue3
  t4 := Tryd.underlying4
  a4 := Tryd.isAgg4
  z4 := Tryd.sizeOf4
  v4 := Tryd.zeroValue4
  t5 := Tryd.underlying5
  a5 := Tryd.isAgg5
  z5 := Tryd.sizeOf5
  v5 := Tryd.zeroValue5
  t9 := Tryd.underlying9
  a9 := Tryd.isAgg9
  z9 := Tryd.sizeOf9
  v9 := Tryd.zeroValue9
  t46 := Tryd.underlying117
  a46 := Tryd.isAgg117
  z46 := Tryd.sizeOf117
  v46 := Tryd.zeroValue117
  t51 := Tryd.underlying125
  a51 := Tryd.isAgg125
  z51 := Tryd.sizeOf125
  v51 := Tryd.zeroValue125
  t59 := Tryd.underlying63
  a59 := Tryd.isAgg63
  z59 := Tryd.sizeOf63
  v59 := Tryd.zeroValue63
  t146 := Tryd.underlying126
  a146 := Tryd.isAgg126
  z146 := Tryd.sizeOf126
  v146 := Tryd.zeroValue126
  g1 := by kernel_rfl
  i3 := by kernel_rfl
  i4 := by kernel_rfl
  i5 := by kernel_rfl
  i9 := by kernel_rfl
  i46 := by kernel_rfl
  i51 := by kernel_rfl
  i59 := by kernel_rfl
  i146 := by kernel_rfl
  m1 := by kernel_rfl
  s1_3 := fun w h => Go.Proofs.cell_of_shapedOpen_int (zero := #[.int .i64 0]) (t := 3) h (of_decide_eq_true (by kernel_rfl)) (by kernel_rfl) rfl (by kernel_rfl) (by kernel_rfl) Tryd.underlying3 }
open Go.RowKit Go.Lib in
theorem Tryd.strings_Cut_shaped (s sep : ByteArray) (w : World) (h : w.ShapedOpen Tryd.prog) (hs : s.size < 4294967281) :
    Calls Tryd.prog 38 #[.string s, .string sep] w fun e w' => e = .returned (.tuple #[.string ⟨(Lib.cut s.data.toList sep.data.toList).1.toArray⟩, .string ⟨(Lib.cut s.data.toList sep.data.toList).2.1.toArray⟩, .bool (Lib.cut s.data.toList sep.data.toList).2.2]) ∧ ∃ n, w' = w.drewN n := Any.strings_Cut_shaped Tryd.laysM145 s sep w h hs
def Tryd.laysM138_ren : Go.Shelf.Ren := ⟨fun | 138 => 67 | 195 => 75 | 218 => 77 | 143 => 68 | 219 => 69 | 217 => 78 | 225 => 79 | 224 => 80 | 267 => 81 | 266 => 88 | 314 => 89 | n => n, fun | 9 => 9 | 3 => 3 | 4 => 4 | 5 => 5 | 0 => 0 | 46 => 117 | 146 => 126 | 51 => 125 | n => n, fun | 1 => 1 | n => n⟩
theorem Tryd.laysM138 : Go.Proofs.LaysM.n138 Tryd.prog Tryd.laysM138_ren := {
  mixed := by kernel_rfl
  f138 := Tryd.func67.trans (congrArg some (by kernel_rfl))
  f143 := Tryd.func68.trans (congrArg some (by kernel_rfl))
  f195 := Tryd.func75.trans (congrArg some (by kernel_rfl))
  f217 := Tryd.func78.trans (congrArg some (by kernel_rfl))
  f218 := Tryd.func77.trans (congrArg some (by kernel_rfl))
  f219 := Tryd.func69.trans (congrArg some (by kernel_rfl))
  f224 := Tryd.func80.trans (congrArg some (by kernel_rfl))
  f225 := Tryd.func79.trans (congrArg some (by kernel_rfl))
  f266 := Tryd.func88.trans (congrArg some (by kernel_rfl))
  f267 := Tryd.func81.trans (congrArg some (by kernel_rfl))
  f314 := Tryd.func89.trans (congrArg some (by kernel_rfl))
  t0 := Tryd.underlying0
  a0 := Tryd.isAgg0
  z0 := Tryd.sizeOf0
  v0 := Tryd.zeroValue0
  t3 := Tryd.underlying3
  a3 := Tryd.isAgg3
  z3 := Tryd.sizeOf3
  v3 := Tryd.zeroValue3
  t4 := Tryd.underlying4
  a4 := Tryd.isAgg4
  z4 := Tryd.sizeOf4
  v4 := Tryd.zeroValue4
  t5 := Tryd.underlying5
  a5 := Tryd.isAgg5
  z5 := Tryd.sizeOf5
  v5 := Tryd.zeroValue5
  t9 := Tryd.underlying9
  a9 := Tryd.isAgg9
  z9 := Tryd.sizeOf9
  v9 := Tryd.zeroValue9
  t46 := Tryd.underlying117
  a46 := Tryd.isAgg117
  z46 := Tryd.sizeOf117
  v46 := Tryd.zeroValue117
  t51 := Tryd.underlying125
  a51 := Tryd.isAgg125
  z51 := Tryd.sizeOf125
  v51 := Tryd.zeroValue125
  t146 := Tryd.underlying126
  a146 := Tryd.isAgg126
  z146 := Tryd.sizeOf126
  v146 := Tryd.zeroValue126
  g1 := by kernel_rfl
  i0 := by kernel_rfl
  i3 := by kernel_rfl
  i4 := by kernel_rfl
  i5 := by kernel_rfl
  i9 := by kernel_rfl
  i46 := by kernel_rfl
  i51 := by kernel_rfl
  i146 := by kernel_rfl
  m1 := by kernel_rfl
  s1_3 := fun w h => Go.Proofs.cell_of_shapedOpen_int (zero := #[.int .i64 0]) (t := 3) h (of_decide_eq_true (by kernel_rfl)) (by kernel_rfl) rfl (by kernel_rfl) (by kernel_rfl) Tryd.underlying3 }
open Go.RowKit Go.Lib in
theorem Tryd.strings_Count_shaped (s sub : ByteArray) (w : World) (h : w.ShapedOpen Tryd.prog) (hs : s.size < 4294967281) (h2 : 2 ≤ sub.size) :
    Calls Tryd.prog 67 #[.string s, .string sub] w fun e w' => e = .returned (.int .i64 (Lib.countB s sub)) ∧ w' = w := Any.strings_Count_shaped Tryd.laysM138 s sub w h hs h2
def Tryd.lays206_ren : Go.Shelf.Ren := ⟨fun | 206 => 82 | n => n, fun | 9 => 9 | 4 => 4 | 3 => 3 | n => n, fun | n => n⟩
theorem Tryd.lays206 : Go.Proofs.Lays.n206 Tryd.prog Tryd.lays206_ren := {
  mixed := by kernel_rfl
  f206 := Tryd.func82.trans (congrArg some (by kernel_rfl))
  t3 := Tryd.underlying3
  a3 := Tryd.isAgg3
  z3 := Tryd.sizeOf3
  v3 := Tryd.zeroValue3
  t4 := Tryd.underlying4
  a4 := Tryd.isAgg4
  z4 := Tryd.sizeOf4
  v4 := Tryd.zeroValue4
  t9 := Tryd.underlying9
  a9 := Tryd.isAgg9
  z9 := Tryd.sizeOf9
  v9 := Tryd.zeroValue9 }
open Go.RowKit Go.Lib in
theorem Tryd.stringslite_HasPrefix (s p : ByteArray) (w : World) :
    Calls Tryd.prog 82 #[.string s, .string p] w fun e w' => e = .returned (.bool (Lib.hasPrefix s.data.toList p.data.toList)) ∧ w' = w := Any.stringslite_HasPrefix Tryd.lays206 s p w
open Go.RowKit Go.Lib in
theorem Tryd.strings_Count_any (s sep : ByteArray) (m : Int) (w : World) (hs : s.size < 4294967281) (hm : w.cell? ⟨1, 0, none⟩ = some (.int .i64 m)) (h1 : 1 ≤ sep.size) :
    Calls Tryd.prog 67 #[.string s, .string sep] w fun e w' => e = .returned (.int .i64 (Lib.countB s sep)) ∧ w' = w := Any.strings_Count_any Tryd.lays138 s sep m w hs hm h1
def Tryd.lays221_ren : Go.Shelf.Ren := ⟨fun | 221 => 53 | 268 => 66 | 138 => 67 | 143 => 68 | 195 => 75 | 197 => 76 | 218 => 77 | 219 => 69 | 260 => 87 | 217 => 78 | 225 => 79 | 224 => 80 | 267 => 81 | 266 => 88 | 314 => 89 | n => n, fun | 9 => 9 | 3 => 3 | 31 => 39 | 4 => 4 | 0 => 0 | 105 => 113 | 21 => 21 | 5 => 5 | 46 => 117 | 119 => 132 | 139 => 135 | 138 => 134 | 146 => 126 | 51 => 125 | n => n, fun | 1 => 1 | 3 => 3 | 4 => 4 | n => n⟩
theorem Tryd.lays221 : Go.Proofs.Lays.n221 Tryd.prog Tryd.lays221_ren := {
  mixed := by kernel_rfl
  f138 := Tryd.func67.trans (congrArg some (by kernel_rfl))
  f143 := Tryd.func68.trans (congrArg some (by kernel_rfl))
  f195 := Tryd.func75.trans (congrArg some (by kernel_rfl))
  f197 := Tryd.func76.trans (congrArg some (by kernel_rfl))
  f217 := Tryd.func78.trans (congrArg some (by kernel_rfl))
  f218 := Tryd.func77.trans (congrArg some (by kernel_rfl))
  f219 := Tryd.func69.trans (congrArg some (by kernel_rfl))
  f221 := Tryd.func53.trans (congrArg some (by kernel_rfl))
  f224 := Tryd.func80.trans (congrArg some (by kernel_rfl))
  f225 := Tryd.func79.trans (congrArg some (by kernel_rfl))
  f260 := Tryd.func87.trans (congrArg some (by kernel_rfl))
  f266 := Tryd.func88.trans (congrArg some (by kernel_rfl))
  f267 := Tryd.func81.trans (congrArg some (by kernel_rfl))
  f268 := Tryd.func66.trans (congrArg some (by kernel_rfl))
  f314 := Tryd.func89.trans (congrArg some (by kernel_rfl))
  t0 := Tryd.underlying0
  a0 := Tryd.isAgg0
  z0 := Tryd.sizeOf0
  v0 := Tryd.zeroValue0
  t3 := Tryd.underlying3
  a3 := Tryd.isAgg3
  z3 := Tryd.sizeOf3
  v3 := Tryd.zeroValue3
  t4 := Tryd.underlying4
  a4 := Tryd.isAgg4
  z4 := Tryd.sizeOf4
  v4 := Tryd.zeroValue4
  t5 := Tryd.underlying5
  a5 := Tryd.isAgg5
  z5 := Tryd.sizeOf5
  v5 := Tryd.zeroValue5
  t9 := Tryd.underlying9
  a9 := Tryd.isAgg9
  z9 := Tryd.sizeOf9
  v9 := Tryd.zeroValue9
  t21 := Tryd.underlying21
  a21 := Tryd.isAgg21
  z21 := Tryd.sizeOf21
  v21 := Tryd.zeroValue21
  t31 := Tryd.underlying39
  a31 := Tryd.isAgg39
  z31 := Tryd.sizeOf39
  v31 := Tryd.zeroValue39
  t46 := Tryd.underlying117
  a46 := Tryd.isAgg117
  z46 := Tryd.sizeOf117
  v46 := Tryd.zeroValue117
  t51 := Tryd.underlying125
  a51 := Tryd.isAgg125
  z51 := Tryd.sizeOf125
  v51 := Tryd.zeroValue125
  t105 := Tryd.underlying113
  a105 := Tryd.isAgg113
  z105 := Tryd.sizeOf113
  v105 := Tryd.zeroValue113
  t119 := Tryd.underlying132
  a119 := Tryd.isAgg132
  z119 := Tryd.sizeOf132
  t138 := Tryd.underlying134
  a138 := Tryd.isAgg134
  z138 := Tryd.sizeOf134
  v138 := Tryd.zeroValue134
  t139 := Tryd.underlying135
  a139 := Tryd.isAgg135
  z139 := Tryd.sizeOf135
  v139 := Tryd.zeroValue135
  t146 := Tryd.underlying126
  a146 := Tryd.isAgg126
  z146 := Tryd.sizeOf126
  v146 := Tryd.zeroValue126
  g1 := by kernel_rfl
  g3 := by kernel_rfl
  g4 := by kernel_rfl }
open Go.RowKit Go.Lib in
theorem Tryd.strings_genSplit (s sep : ByteArray) (sv : Nat) (n : Int) (N : Nat) (m : Int) (w : World) (hs : s.size < 4294967281) (hm : w.cell? ⟨1, 0, none⟩ = some (.int .i64 m)) (h1 : 1 ≤ sep.size) (hsv : sv ≤ sep.size) (hn0 : n ≠ 0) (hn63 : n ≤ 9223372036854775807) (hN : (N : Int) = min (if n < 0 then (Lib.countB s sep : Int) + 1 else n) ((s.size : Int) + 1)) :
    Calls Tryd.prog 53 #[.string s, .string sep, .int .i64 sv, .int .i64 n] w fun e w' =>
      e = .returned (.slice (some ⟨w.heap.size, 0, none⟩) (Lib.splitB sep sv (N - 1) s).length N) ∧ w' = w.alloc (.cells (Lib.cellsOf (Lib.splitB sep sv (N - 1) s) N) 9) := Any.strings_genSplit Tryd.lays221 (by kernel_rfl) s sep sv n N m w hs hm h1 hsv hn0 hn63 hN
def Tryd.lays146_ren : Go.Shelf.Ren := ⟨fun | 146 => 37 | 221 => 53 | 268 => 66 | 138 => 67 | 143 => 68 | 195 => 75 | 197 => 76 | 218 => 77 | 219 => 69 | 260 => 87 | 217 => 78 | 225 => 79 | 224 => 80 | 267 => 81 | 266 => 88 | 314 => 89 | n => n, fun | 9 => 9 | 31 => 39 | 3 => 3 | 4 => 4 | 0 => 0 | 105 => 113 | 21 => 21 | 5 => 5 | 46 => 117 | 119 => 132 | 139 => 135 | 138 => 134 | 146 => 126 | 51 => 125 | n => n, fun | 1 => 1 | 3 => 3 | 4 => 4 | n => n⟩
theorem Tryd.lays146 : Go.Proofs.Lays.n146 Tryd.prog Tryd.lays146_ren := {
  mixed := by kernel_rfl
  f138 := Tryd.func67.trans (congrArg some (by kernel_rfl))
  f143 := Tryd.func68.trans (congrArg some (by kernel_rfl))
  f146 := Tryd.func37.trans (congrArg some (by kernel_rfl))
  f195 := Tryd.func75.trans (congrArg some (by kernel_rfl))
  f197 := Tryd.func76.trans (congrArg some (by kernel_rfl))
  f217 := Tryd.func78.trans (congrArg some (by kernel_rfl))
  f218 := Tryd.func77.trans (congrArg some (by kernel_rfl))
  f219 := Tryd.func69.trans (congrArg some (by kernel_rfl))
  f221 := Tryd.func53.trans (congrArg some (by kernel_rfl))
  f224 := Tryd.func80.trans (congrArg some (by kernel_rfl))
  f225 := Tryd.func79.trans (congrArg some (by kernel_rfl))
  f260 := Tryd.func87.trans (congrArg some (by kernel_rfl))
  f266 := Tryd.func88.trans (congrArg some (by kernel_rfl))
  f267 := Tryd.func81.trans (congrArg some (by kernel_rfl))
  f268 := Tryd.func66.trans (congrArg some (by kernel_rfl))
  f314 := Tryd.func89.trans (congrArg some (by kernel_rfl))
  t0 := Tryd.underlying0
  a0 := Tryd.isAgg0
  z0 := Tryd.sizeOf0
  v0 := Tryd.zeroValue0
  t3 := Tryd.underlying3
  a3 := Tryd.isAgg3
  z3 := Tryd.sizeOf3
  v3 := Tryd.zeroValue3
  t4 := Tryd.underlying4
  a4 := Tryd.isAgg4
  z4 := Tryd.sizeOf4
  v4 := Tryd.zeroValue4
  t5 := Tryd.underlying5
  a5 := Tryd.isAgg5
  z5 := Tryd.sizeOf5
  v5 := Tryd.zeroValue5
  t9 := Tryd.underlying9
  a9 := Tryd.isAgg9
  z9 := Tryd.sizeOf9
  v9 := Tryd.zeroValue9
  t21 := Tryd.underlying21
  a21 := Tryd.isAgg21
  z21 := Tryd.sizeOf21
  v21 := Tryd.zeroValue21
  t31 := Tryd.underlying39
  a31 := Tryd.isAgg39
  z31 := Tryd.sizeOf39
  v31 := Tryd.zeroValue39
  t46 := Tryd.underlying117
  a46 := Tryd.isAgg117
  z46 := Tryd.sizeOf117
  v46 := Tryd.zeroValue117
  t51 := Tryd.underlying125
  a51 := Tryd.isAgg125
  z51 := Tryd.sizeOf125
  v51 := Tryd.zeroValue125
  t105 := Tryd.underlying113
  a105 := Tryd.isAgg113
  z105 := Tryd.sizeOf113
  v105 := Tryd.zeroValue113
  t119 := Tryd.underlying132
  a119 := Tryd.isAgg132
  z119 := Tryd.sizeOf132
  t138 := Tryd.underlying134
  a138 := Tryd.isAgg134
  z138 := Tryd.sizeOf134
  v138 := Tryd.zeroValue134
  t139 := Tryd.underlying135
  a139 := Tryd.isAgg135
  z139 := Tryd.sizeOf135
  v139 := Tryd.zeroValue135
  t146 := Tryd.underlying126
  a146 := Tryd.isAgg126
  z146 := Tryd.sizeOf126
  v146 := Tryd.zeroValue126
  g1 := by kernel_rfl
  g3 := by kernel_rfl
  g4 := by kernel_rfl }
open Go.RowKit Go.Lib in
theorem Tryd.strings_Split (s sep : ByteArray) (m : Int) (w : World) (hs : s.size < 4294967281) (hm : w.cell? ⟨1, 0, none⟩ = some (.int .i64 m)) (h1 : 1 ≤ sep.size) :
    Calls Tryd.prog 37 #[.string s, .string sep] w fun e w' =>
      e = .returned (.slice (some ⟨w.heap.size, 0, none⟩) (Lib.countB s sep + 1) (Lib.countB s sep + 1)) ∧ w' = w.alloc (.cells ((Lib.splitB sep 0 (Lib.countB s sep) s).map Value.string).toArray 9) := Any.strings_Split Tryd.lays146 (by kernel_rfl) s sep m w hs hm h1
def Tryd.laysM146_ren : Go.Shelf.Ren := ⟨fun | 146 => 37 | 221 => 53 | 268 => 66 | 138 => 67 | 143 => 68 | 195 => 75 | 197 => 76 | 218 => 77 | 219 => 69 | 260 => 87 | 217 => 78 | 225 => 79 | 224 => 80 | 267 => 81 | 266 => 88 | 314 => 89 | n => n, fun | 9 => 9 | 31 => 39 | 3 => 3 | 4 => 4 | 0 => 0 | 105 => 113 | 21 => 21 | 5 => 5 | 46 => 117 | 119 => 132 | 139 => 135 | 138 => 134 | 146 => 126 | 51 => 125 | n => n, fun | 1 => 1 | 3 => 3 | 4 => 4 | n => n⟩
theorem Tryd.laysM146 : Go.Proofs.LaysM.n146 Tryd.prog Tryd.laysM146_ren := {
  mixed := by kernel_rfl
  f138 := Tryd.func67.trans (congrArg some (by kernel_rfl))
  f143 := Tryd.func68.trans (congrArg some (by kernel_rfl))
  f146 := Tryd.func37.trans (congrArg some (by kernel_rfl))
  f195 := Tryd.func75.trans (congrArg some (by kernel_rfl))
  f197 := Tryd.func76.trans (congrArg some (by kernel_rfl))
  f217 := Tryd.func78.trans (congrArg some (by kernel_rfl))
  f218 := Tryd.func77.trans (congrArg some (by kernel_rfl))
  f219 := Tryd.func69.trans (congrArg some (by kernel_rfl))
  f221 := Tryd.func53.trans (congrArg some (by kernel_rfl))
  f224 := Tryd.func80.trans (congrArg some (by kernel_rfl))
  f225 := Tryd.func79.trans (congrArg some (by kernel_rfl))
  f260 := Tryd.func87.trans (congrArg some (by kernel_rfl))
  f266 := Tryd.func88.trans (congrArg some (by kernel_rfl))
  f267 := Tryd.func81.trans (congrArg some (by kernel_rfl))
  f268 := Tryd.func66.trans (congrArg some (by kernel_rfl))
  f314 := Tryd.func89.trans (congrArg some (by kernel_rfl))
  t0 := Tryd.underlying0
  a0 := Tryd.isAgg0
  z0 := Tryd.sizeOf0
  v0 := Tryd.zeroValue0
  t3 := Tryd.underlying3
  a3 := Tryd.isAgg3
  z3 := Tryd.sizeOf3
  v3 := Tryd.zeroValue3
  t4 := Tryd.underlying4
  a4 := Tryd.isAgg4
  z4 := Tryd.sizeOf4
  v4 := Tryd.zeroValue4
  t5 := Tryd.underlying5
  a5 := Tryd.isAgg5
  z5 := Tryd.sizeOf5
  v5 := Tryd.zeroValue5
  t9 := Tryd.underlying9
  a9 := Tryd.isAgg9
  z9 := Tryd.sizeOf9
  v9 := Tryd.zeroValue9
  t21 := Tryd.underlying21
  a21 := Tryd.isAgg21
  z21 := Tryd.sizeOf21
  v21 := Tryd.zeroValue21
  t31 := Tryd.underlying39
  a31 := Tryd.isAgg39
  z31 := Tryd.sizeOf39
  v31 := Tryd.zeroValue39
  t46 := Tryd.underlying117
  a46 := Tryd.isAgg117
  z46 := Tryd.sizeOf117
  v46 := Tryd.zeroValue117
  t51 := Tryd.underlying125
  a51 := Tryd.isAgg125
  z51 := Tryd.sizeOf125
  v51 := Tryd.zeroValue125
  t105 := Tryd.underlying113
  a105 := Tryd.isAgg113
  z105 := Tryd.sizeOf113
  v105 := Tryd.zeroValue113
  t119 := Tryd.underlying132
  a119 := Tryd.isAgg132
  z119 := Tryd.sizeOf132
  t138 := Tryd.underlying134
  a138 := Tryd.isAgg134
  z138 := Tryd.sizeOf134
  v138 := Tryd.zeroValue134
  t139 := Tryd.underlying135
  a139 := Tryd.isAgg135
  z139 := Tryd.sizeOf135
  v139 := Tryd.zeroValue135
  t146 := Tryd.underlying126
  a146 := Tryd.isAgg126
  z146 := Tryd.sizeOf126
  v146 := Tryd.zeroValue126
  g1 := by kernel_rfl
  g3 := by kernel_rfl
  g4 := by kernel_rfl
  i0 := by kernel_rfl
  i3 := by kernel_rfl
  i4 := by kernel_rfl
  i5 := by kernel_rfl
  i9 := by kernel_rfl
  i21 := by kernel_rfl
  i31 := by kernel_rfl
  i46 := by kernel_rfl
  i51 := by kernel_rfl
  i105 := by kernel_rfl
  i138 := by kernel_rfl
  i139 := by kernel_rfl
  i146 := by kernel_rfl
  m1 := by kernel_rfl
  s1_3 := fun w h => Go.Proofs.cell_of_shapedOpen_int (zero := #[.int .i64 0]) (t := 3) h (of_decide_eq_true (by kernel_rfl)) (by kernel_rfl) rfl (by kernel_rfl) (by kernel_rfl) Tryd.underlying3
  m3 := by kernel_rfl
  m4 := by kernel_rfl }
open Go.RowKit Go.Lib in
theorem Tryd.strings_Split_shaped (s sep : ByteArray) (w : World) (h : w.ShapedOpen Tryd.prog) (hs : s.size < 4294967281) (h1 : 1 ≤ sep.size) :
    Calls Tryd.prog 37 #[.string s, .string sep] w fun e w' =>
      e = .returned (.slice (some ⟨w.heap.size, 0, none⟩) (Lib.countB s sep + 1) (Lib.countB s sep + 1)) ∧ w' = w.alloc (.cells ((Lib.splitB sep 0 (Lib.countB s sep) s).map Value.string).toArray 9) := Any.strings_Split_shaped Tryd.laysM146 s sep w h hs h1
def Tryd.lays197_ren : Go.Shelf.Ren := ⟨fun | 197 => 76 | 260 => 87 | n => n, fun | 9 => 9 | 21 => 21 | 3 => 3 | 4 => 4 | 5 => 5 | 105 => 113 | 119 => 132 | 0 => 0 | 46 => 117 | 139 => 135 | 138 => 134 | n => n, fun | 3 => 3 | 4 => 4 | n => n⟩
theorem Tryd.lays197 : Go.Proofs.Lays.n197 Tryd.prog Tryd.lays197_ren := {
  mixed := by kernel_rfl
  f197 := Tryd.func76.trans (congrArg some (by kernel_rfl))
  f260 := Tryd.func87.trans (congrArg some (by kernel_rfl))
  t0 := Tryd.underlying0
  a0 := Tryd.isAgg0
  z0 := Tryd.sizeOf0
  v0 := Tryd.zeroValue0
  t3 := Tryd.underlying3
  a3 := Tryd.isAgg3
  z3 := Tryd.sizeOf3
  v3 := Tryd.zeroValue3
  t4 := Tryd.underlying4
  a4 := Tryd.isAgg4
  z4 := Tryd.sizeOf4
  v4 := Tryd.zeroValue4
  t5 := Tryd.underlying5
  a5 := Tryd.isAgg5
  z5 := Tryd.sizeOf5
  v5 := Tryd.zeroValue5
  t9 := Tryd.underlying9
  a9 := Tryd.isAgg9
  z9 := Tryd.sizeOf9
  v9 := Tryd.zeroValue9
  t21 := Tryd.underlying21
  a21 := Tryd.isAgg21
  z21 := Tryd.sizeOf21
  v21 := Tryd.zeroValue21
  t46 := Tryd.underlying117
  a46 := Tryd.isAgg117
  z46 := Tryd.sizeOf117
  v46 := Tryd.zeroValue117
  t105 := Tryd.underlying113
  a105 := Tryd.isAgg113
  z105 := Tryd.sizeOf113
  v105 := Tryd.zeroValue113
  t119 := Tryd.underlying132
  a119 := Tryd.isAgg132
  z119 := Tryd.sizeOf132
  t138 := Tryd.underlying134
  a138 := Tryd.isAgg134
  z138 := Tryd.sizeOf134
  v138 := Tryd.zeroValue134
  t139 := Tryd.underlying135
  a139 := Tryd.isAgg135
  z139 := Tryd.sizeOf135
  v139 := Tryd.zeroValue135
  g3 := by kernel_rfl
  g4 := by kernel_rfl }
open Go.RowKit Go.Lib in
theorem Tryd.utf8_DecodeRuneInString_ascii (s : ByteArray) (x : UInt8) (w : World) (h0 : s.data.toList[0]? = some x) (hx : x.toNat < 128) :
    Calls Tryd.prog 76 #[.string s] w fun e w' => e = .returned (.tuple #[.int .i32 x.toNat, .int .i64 1]) ∧ w' = w := Any.utf8_DecodeRuneInString_ascii Tryd.lays197 s x w h0 hx
open Go.RowKit Go.Lib in
theorem Tryd.utf8_RuneCountInString_ascii (s : ByteArray) (w : World) (hs : s.size < 4294967281) (hascii : ∀ (j : Nat) b, s.data.toList[j]? = some b → b.toNat < 128) :
    Calls Tryd.prog 75 #[.string s] w fun e w' => e = .returned (.int .i64 s.size) ∧ w' = w.iter s s.size := Any.utf8_RuneCountInString_ascii Tryd.lays195 s w hs hascii
def Tryd.lays268_ren : Go.Shelf.Ren := ⟨fun | 268 => 66 | 195 => 75 | 197 => 76 | 260 => 87 | n => n, fun | 9 => 9 | 3 => 3 | 31 => 39 | 4 => 4 | 105 => 113 | 21 => 21 | 0 => 0 | 5 => 5 | 119 => 132 | 46 => 117 | 139 => 135 | 138 => 134 | n => n, fun | 3 => 3 | 4 => 4 | n => n⟩
theorem Tryd.lays268 : Go.Proofs.Lays.n268 Tryd.prog Tryd.lays268_ren := {
  mixed := by kernel_rfl
  f195 := Tryd.func75.trans (congrArg some (by kernel_rfl))
  f197 := Tryd.func76.trans (congrArg some (by kernel_rfl))
  f260 := Tryd.func87.trans (congrArg some (by kernel_rfl))
  f268 := Tryd.func66.trans (congrArg some (by kernel_rfl))
  t0 := Tryd.underlying0
  a0 := Tryd.isAgg0
  z0 := Tryd.sizeOf0
  v0 := Tryd.zeroValue0
  t3 := Tryd.underlying3
  a3 := Tryd.isAgg3
  z3 := Tryd.sizeOf3
  v3 := Tryd.zeroValue3
  t4 := Tryd.underlying4
  a4 := Tryd.isAgg4
  z4 := Tryd.sizeOf4
  v4 := Tryd.zeroValue4
  t5 := Tryd.underlying5
  a5 := Tryd.isAgg5
  z5 := Tryd.sizeOf5
  v5 := Tryd.zeroValue5
  t9 := Tryd.underlying9
  a9 := Tryd.isAgg9
  z9 := Tryd.sizeOf9
  v9 := Tryd.zeroValue9
  t21 := Tryd.underlying21
  a21 := Tryd.isAgg21
  z21 := Tryd.sizeOf21
  v21 := Tryd.zeroValue21
  t31 := Tryd.underlying39
  a31 := Tryd.isAgg39
  z31 := Tryd.sizeOf39
  v31 := Tryd.zeroValue39
  t46 := Tryd.underlying117
  a46 := Tryd.isAgg117
  z46 := Tryd.sizeOf117
  v46 := Tryd.zeroValue117
  t105 := Tryd.underlying113
  a105 := Tryd.isAgg113
  z105 := Tryd.sizeOf113
  v105 := Tryd.zeroValue113
  t119 := Tryd.underlying132
  a119 := Tryd.isAgg132
  z119 := Tryd.sizeOf132
  t138 := Tryd.underlying134
  a138 := Tryd.isAgg134
  z138 := Tryd.sizeOf134
  v138 := Tryd.zeroValue134
  t139 := Tryd.underlying135
  a139 := Tryd.isAgg135
  z139 := Tryd.sizeOf135
  v139 := Tryd.zeroValue135
  g3 := by kernel_rfl
  g4 := by kernel_rfl }
open Go.RowKit Go.Lib in
theorem Tryd.strings_explode_all (s : ByteArray) (n : Int) (w : World) (hn : n < 0) (hs : s.size < 4294967281) (hascii : ∀ (j : Nat) b, s.data.toList[j]? = some b → b.toNat < 128) :
    Calls Tryd.prog 66 #[.string s, .int .i64 n] w fun e w' =>
      e = .returned (.slice (some ⟨(w.iter s s.size).heap.size, 0, none⟩) s.size s.size) ∧ w' = (w.iter s s.size).alloc (.cells ((Lib.charsB s).map Value.string).toArray 9) := Any.strings_explode_all Tryd.lays268 (by kernel_rfl) s n w hn hs hascii
open Go.RowKit Go.Lib in
theorem Tryd.strings_genSplit_chars (s sep : ByteArray) (sv n : Int) (w : World) (h0 : sep.size = 0) (hn : n < 0) (hs : s.size < 4294967281) (hascii : ∀ (j : Nat) b, s.data.toList[j]? = some b → b.toNat < 128) :
    Calls Tryd.prog 53 #[.string s, .string sep, .int .i64 sv, .int .i64 n] w fun e w' =>
      e = .returned (.slice (some ⟨(w.iter s s.size).heap.size, 0, none⟩) s.size s.size) ∧ w' = (w.iter s s.size).alloc (.cells ((Lib.charsB s).map Value.string).toArray 9) := Any.strings_genSplit_chars Tryd.lays221 (by kernel_rfl) s sep sv n w h0 hn hs hascii
open Go.RowKit Go.Lib in
theorem Tryd.strings_Split_chars (s sep : ByteArray) (w : World) (h0 : sep.size = 0) (hs : s.size < 4294967281) (hascii : ∀ (j : Nat) b, s.data.toList[j]? = some b → b.toNat < 128) :
    Calls Tryd.prog 37 #[.string s, .string sep] w fun e w' =>
      e = .returned (.slice (some ⟨(w.iter s s.size).heap.size, 0, none⟩) s.size s.size) ∧ w' = (w.iter s s.size).alloc (.cells ((Lib.charsB s).map Value.string).toArray 9) := Any.strings_Split_chars Tryd.lays146 (by kernel_rfl) s sep w h0 hs hascii
def Tryd.lays260_ren : Go.Shelf.Ren := ⟨fun | 260 => 87 | n => n, fun | 9 => 9 | 21 => 21 | 3 => 3 | 4 => 4 | 5 => 5 | 119 => 132 | 0 => 0 | 46 => 117 | 139 => 135 | 138 => 134 | n => n, fun | 3 => 3 | 4 => 4 | n => n⟩
theorem Tryd.lays260 : Go.Proofs.Lays.n260 Tryd.prog Tryd.lays260_ren := {
  mixed := by kernel_rfl
  f260 := Tryd.func87.trans (congrArg some (by kernel_rfl))
  t0 := Tryd.underlying0
  a0 := Tryd.isAgg0
  z0 := Tryd.sizeOf0
  v0 := Tryd.zeroValue0
  t3 := Tryd.underlying3
  a3 := Tryd.isAgg3
  z3 := Tryd.sizeOf3
  v3 := Tryd.zeroValue3
  t4 := Tryd.underlying4
  a4 := Tryd.isAgg4
  z4 := Tryd.sizeOf4
  v4 := Tryd.zeroValue4
  t5 := Tryd.underlying5
  a5 := Tryd.isAgg5
  z5 := Tryd.sizeOf5
  v5 := Tryd.zeroValue5
  t9 := Tryd.underlying9
  a9 := Tryd.isAgg9
  z9 := Tryd.sizeOf9
  v9 := Tryd.zeroValue9
  t21 := Tryd.underlying21
  a21 := Tryd.isAgg21
  z21 := Tryd.sizeOf21
  v21 := Tryd.zeroValue21
  t46 := Tryd.underlying117
  a46 := Tryd.isAgg117
  z46 := Tryd.sizeOf117
  v46 := Tryd.zeroValue117
  t119 := Tryd.underlying132
  a119 := Tryd.isAgg132
  z119 := Tryd.sizeOf132
  t138 := Tryd.underlying134
  a138 := Tryd.isAgg134
  z138 := Tryd.sizeOf134
  v138 := Tryd.zeroValue134
  t139 := Tryd.underlying135
  a139 := Tryd.isAgg135
  z139 := Tryd.sizeOf135
  v139 := Tryd.zeroValue135
  g3 := by kernel_rfl
  g4 := by kernel_rfl }
open Go.RowKit Go.Lib in
theorem Tryd.utf8_decodeRuneInStringSlow (s : ByteArray) (w : World) (hT : Lib.Utf8Tabs 3 4 w) :
    Calls Tryd.prog 87 #[.string s] w fun e w' => e = .returned (.tuple #[.int .i32 (Lib.decodeGo s).1, .int .i64 (Lib.decodeGo s).2]) ∧ Below w.heap.size w w' := Any.utf8_decodeRuneInStringSlow Tryd.lays260 s w hT
open Go.RowKit Go.Lib in
theorem Tryd.utf8_DecodeRuneInString (s : ByteArray) (w : World) (hT : Lib.Utf8Tabs 3 4 w) :
    Calls Tryd.prog 76 #[.string s] w fun e w' => e = .returned (.tuple #[.int .i32 (Lib.decodeGo s).1, .int .i64 (Lib.decodeGo s).2]) ∧ Below w.heap.size w w' := Any.utf8_DecodeRuneInString Tryd.lays197 s w hT
end Go.Proofs
namespace Go.Proofs.YtghekfigfjhkeabDoor.num
open Go.RowKit

theorem or_i64 (a b : Nat) (ha : a < 281474976710656) (hb : b < 256) : bits .or .i64 ((a : Int) * 256) (b : Int) = ((a * 256 + b : Nat) : Int) := by
  show IntKind.i64.wrap ((BitVec.ofInt 64 ((a : Int) * 256) ||| BitVec.ofInt 64 (b : Int)).toNat : Int) = _
  have e : ((a : Int) * 256) = ((a * 256 : Nat) : Int) := by omega
  rw [e, BitVec.toNat_or, ofInt_u64 _ (by omega), ofInt_u64 b (by omega), or_add a b hb]
  exact IntWalk.i64_in _ ⟨by omega, by omega⟩

/-- l1In of the model. -/
theorem in_any (x l h : Int) (b : Bool) (hb : b = true ↔ l ≤ x ∧ x ≤ h) (w : World) :
    Calls Tryd.prog 41 #[.int .i64 x, .int .i64 l, .int .i64 h] w fun e w' => e = .returned (.bool b) ∧ w = w' := by
  obtain rfl : b = (decide (l ≤ x) && decide (x ≤ h)) := by rw [Bool.eq_iff_iff]; simpa using hb
  clear hb
  by_cases h1 : l ≤ x
  · go_enter Tryd.func41, Tryd.ntmps41
    go_wp2
    go_ret
    exact ⟨by simp [h1], rfl⟩
  · go_enter Tryd.func41, Tryd.ntmps41
    go_wp2
    go_ret
    exact ⟨by simp; omega, rfl⟩

end Go.Proofs.YtghekfigfjhkeabDoor.num
namespace Go.Proofs.YtghekfigfjhkeabDoor.num
open Go.RowKit

/-- What EncodeFixed returns. -/
def fixB (n wd : Int) : ByteArray := if 1 ≤ wd ∧ wd ≤ 7 ∧ 0 ≤ n ∧ n.toNat / 256 ^ wd.toNat = 0 then ⟨(beEnc wd.toNat n.toNat).toArray⟩ else ⟨#[]⟩
theorem fixB_yes (n wd : Nat) (h1 : 1 ≤ wd) (h2 : wd ≤ 7) (h : n / 256 ^ wd = 0) : fixB n wd = ⟨(beEnc wd n).toArray⟩ := by
  unfold fixB; rw [if_pos ⟨by omega, by omega, by omega, by simpa using h⟩]; simp
theorem fixB_no (n wd : Int) (h : ¬ (1 ≤ wd ∧ wd ≤ 7 ∧ 0 ≤ n ∧ n.toNat / 256 ^ wd.toNat = 0)) : fixB n wd = ⟨#[]⟩ := by
  unfold fixB; rw [if_neg h]
theorem fixB_yes' (n wd m : Nat) (h1 : 1 ≤ wd) (h2 : wd ≤ 7) (h : m = n / 256 ^ wd) (hm : ¬ (0 : Int) < m) : fixB n wd = ⟨(beEnc wd n).toArray⟩ := fixB_yes n wd h1 h2 (by rw [← h]; omega)
theorem fixB_no' (n wd m : Nat) (h : m = n / 256 ^ wd) (hm : (0 : Int) < m) : fixB n wd = ⟨#[]⟩ := fixB_no _ _ fun ⟨_, _, _, h4⟩ => by
  simp only [Int.toNat_natCast] at h4
  rw [← h] at h4
  omega
theorem div_step (n k m : Nat) (h : m = n / 256 ^ k) : m / 256 = n / 256 ^ (k + 1) := by rw [h, Nat.div_div_eq_div_mul, ← Nat.pow_succ]
theorem cons_bytes (b : UInt8) (l : List UInt8) : (ByteArray.mk #[b]) ++ ByteArray.mk l.toArray = ByteArray.mk (b :: l).toArray :=
  ByteArray.mk_append_mk [b] l

/-- The string of a slice of one new byte. -/
theorem one_byte {P : Program} (w : World) (src dst e : TypeId) (hs : P.underlying src = some (.slice e)) (he : P.underlying e = some (.int .u8)) (hd : P.underlying dst = some .string) (x : Int) (b : UInt8) (hx : x = (b.toNat : Int)) :
    (convert src dst (.slice (some ⟨w.heap.size, 0, none⟩) 1 1)).run P (w.alloc (.cells #[.int .u8 x] e)) = .ok (.string ⟨#[b]⟩) (w.alloc (.cells #[.int .u8 x] e)) :=
  run_convert_bytes_back _ src dst e ⟨w.heap.size, 0, none⟩ 1 [b] hs he hd (fun j hj => by
    obtain rfl : j = 0 := by simpa using hj
    subst hx
    simp [Addr.add])

/-- The program's bytes after k rounds. -/
def fixCell (wd n k j : Nat) : Value := if j < k then .int .u8 ((n / 256 ^ (wd - 1 - j) % 256 : Nat) : Int) else .int .u8 0
def fixCells (wd n k : Nat) : List Value := (List.range wd).map (fixCell wd n k)
theorem fixCells_zero (wd n : Nat) : (madeCells #[.int .u8 0] wd).toList = fixCells wd n 0 := by
  apply List.ext_getElem?
  intro j
  by_cases hj : j < wd
  · have h1 : j % 1 = 0 := Nat.mod_one j
    simp [fixCells, fixCell, madeCells, hj, h1]
  · simp [fixCells, madeCells, hj]
theorem fixCells_set (wd n k : Nat) (v : Int) (hv : v = ((n / 256 ^ (wd - 1 - k) % 256 : Nat) : Int)) : (fixCells wd n k).set k (.int .u8 v) = fixCells wd n (k + 1) := by
  subst hv
  apply List.ext_getElem?
  intro j
  by_cases hj : j < wd
  · by_cases e : k = j
    · subst e; simp [fixCells, fixCell, hj]
    · have h1 : (j < k + 1) = (j < k) := by simp; omega
      simp [fixCells, fixCell, hj, e, h1]
  · simp [fixCells, hj]
theorem fixCells_at (wd n k : Nat) (h : k < wd) : (fixCells wd n k)[k]? = some (.int .u8 0) := by simp [fixCells, fixCell, h]
theorem fixCells_end (wd n j : Nat) (h : j < (beEnc wd n).length) : (fixCells wd n wd)[j]? = some (.int .u8 (((beEnc wd n)[j]).toNat : Int)) := by
  rw [beEnc_length] at h
  have h1 := beEnc_get wd n j h
  rw [List.getElem?_eq_some_iff] at h1
  obtain ⟨_, h2⟩ := h1
  rw [h2]
  simp [fixCells, fixCell, h]
theorem shr_eq (n wd : Nat) : (n : Int) / 2 ^ (8 * wd) = ((n / 256 ^ wd : Nat) : Int) := by
  have h : (256 : Nat) ^ wd = 2 ^ (8 * wd) := by rw [show (256 : Nat) = 2 ^ 8 from by decide, ← Nat.pow_mul]
  rw [h]; simp

theorem shr_mod (n wd : Nat) : (n : Int) / 2 ^ (8 * wd) % 256 = ((n / 256 ^ wd % 256 : Nat) : Int) := by rw [shr_eq]; simp

theorem infoF_u8 : (Tryd.prog.info? 5).map (fun i => (i.zero, i.size, i.bytes)) = some (some (.int .u8 0), 1, 1) := by kernel_rfl

end Go.Proofs.YtghekfigfjhkeabDoor.num
