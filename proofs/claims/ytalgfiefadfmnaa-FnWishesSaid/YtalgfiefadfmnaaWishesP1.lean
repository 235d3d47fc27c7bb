/- What the law FnWishes leans on, part 1: contracts of the functions that it calls. -/
import Derived.Test.YtalgfiefadfmnaaProg
import Derived.WalkKit
import Derived.ProofKit
import Derived.Lib.Hide
import Derived.Outline
import Derived.WalkSpells
import Derived.Deep.OwnRows
import Derived.Deep.QuietTactic
import Derived.BigQuiet
import Derived.Deep.RegionWith
import Derived.StillTailTactics
import Derived.Deep.SlicePairs
import Derived.Lib.SmallJoins
import Derived.ChangeSlices
import Derived.Carry
import Derived.Laws.IdiomStrings
import Derived.Laws.Concat
import Derived.Laws.BitsAllLaws
import Derived.Deep.RegionHeld3
import Derived.Deep.RegionLaw
import Derived.Maps.AppendAt
namespace Go.Proofs.Ytalgfiefadfmnaa.num
open Go.RowKit

/-- A slice of ints (address A, n elements) that reads as xs and lies below block B. -/
def Ints (w : World) (B : Nat) (A : Option Addr) (n : Nat) (xs : List Int) : Prop :=
  xs.length = n ∧ ∀ k, k < n → ∃ b off : Nat, A = some ⟨b, off, none⟩ ∧ b < B ∧ w.cell? ⟨b, off + k, none⟩ = some (.int .i64 (xs.getD k 0))
theorem Ints.below {w w' : World} {B : Nat} {A : Option Addr} {n : Nat} {xs : List Int} (h : Ints w B A n xs) (hb : Below B w w') : Ints w' B A n xs :=
  ⟨h.1, fun k hk => by
    obtain ⟨b, off, ha, hB, hc⟩ := h.2 k hk
    exact ⟨b, off, ha, hB, (hb.cell (p := ⟨b, off + k, none⟩) hB).trans hc⟩⟩
theorem Ints.more {w : World} {B B' : Nat} {A : Option Addr} {n : Nat} {xs : List Int} (h : Ints w B A n xs) (hB : B ≤ B') : Ints w B' A n xs :=
  ⟨h.1, fun k hk => by
    obtain ⟨b, off, ha, hb, hc⟩ := h.2 k hk
    exact ⟨b, off, ha, by omega, hc⟩⟩
/-- An item's value in a cell row: its number, and its slice with what that reads as. -/
structure It where
  id : Int
  A : Option Addr
  n : Nat
  c : Nat
  xs : List Int
def It.val (t : It) : Value := .agg #[.int .i64 t.id, .slice t.A t.n t.c]
/-- A slice of items that reads as its, below block B. -/
def Items (w : World) (B : Nat) (A : Option Addr) (n : Nat) (its : List It) : Prop :=
  its.length = n ∧ ∀ k (hk : k < its.length), ∃ b off : Nat, A = some ⟨b, off, none⟩ ∧ b < B ∧ w.cell? ⟨b, off + k * 2, none⟩ = some (.int .i64 its[k].id) ∧ w.cell? ⟨b, off + k * 2 + 1, none⟩ = some (.slice its[k].A its[k].n its[k].c) ∧ Ints w B its[k].A its[k].n its[k].xs
theorem Items.below {w w' : World} {B : Nat} {A : Option Addr} {n : Nat} {its : List It} (h : Items w B A n its) (hb : Below B w w') : Items w' B A n its :=
  ⟨h.1, fun k hk => by
    obtain ⟨b, off, ha, hB, h1, h2, h3⟩ := h.2 k hk
    exact ⟨b, off, ha, hB, (hb.cell (p := ⟨b, off + k * 2, none⟩) hB).trans h1, (hb.cell (p := ⟨b, off + k * 2 + 1, none⟩) hB).trans h2, h3.below hb⟩⟩

theorem szInts_yes (A : Option Addr) (n c : Nat) (left : Int) (hn : n ≤ 9223372036854775807) (h0 : n ≤ left) (h1 : left ≤ 1048576) (w : World) :
    Calls Try.prog 42 #[.slice A n c, .int .i64 left] w fun e w' => e = .returned (.int .i64 (left - n)) ∧ w = w' := by
  go_enter Try.func42, Try.ntmps42
  go_wp2
  go_ret
  exact ⟨rfl, rfl⟩
theorem szInts_no (A : Option Addr) (n c : Nat) (left : Int) (hn : n ≤ 9223372036854775807) (h0 : left < n) (h1 : 0 ≤ left) (w : World) :
    Calls Try.prog 42 #[.slice A n c, .int .i64 left] w fun e w' => e = .returned (.int .i64 (-1)) ∧ w = w' := by
  go_enter Try.func42, Try.ntmps42
  go_wp2
  go_ret
  exact ⟨rfl, rfl⟩
theorem szItem_yes (t : It) (left : Int) (hn : t.n ≤ 9223372036854775807) (h0 : t.n ≤ left) (h1 : left ≤ 1048576) (w : World) :
    Calls Try.prog 25 #[t.val, .int .i64 left] w fun e w' => e = .returned (.int .i64 (left - t.n)) ∧ Below w.heap.size w w' := by
  obtain ⟨id, A, n, c, xs⟩ := t
  unfold It.val
  simp only [] at hn h0 ⊢
  go_enter Try.func25, Try.ntmps25
  go_wp2_with fail
  refine (szInts_yes _ _ _ _ hn h0 h1 _).mono ?_
  rintro e w1 ⟨rfl, rfl⟩
  go_wp2
  go_ret
  exact ⟨rfl, (Below.refl _ _).alloc (Nat.le_refl _) _⟩
theorem szItem_no (t : It) (left : Int) (hn : t.n ≤ 9223372036854775807) (h0 : left < t.n) (h1 : 0 ≤ left) (w : World) :
    Calls Try.prog 25 #[t.val, .int .i64 left] w fun e w' => e = .returned (.int .i64 (-1)) ∧ Below w.heap.size w w' := by
  obtain ⟨id, A, n, c, xs⟩ := t
  unfold It.val
  simp only [] at hn h0 ⊢
  go_enter Try.func25, Try.ntmps25
  go_wp2_with fail
  refine (szInts_no _ _ _ _ hn h0 h1 _).mono ?_
  rintro e w1 ⟨rfl, rfl⟩
  go_wp2
  go_ret
  exact ⟨rfl, (Below.refl _ _).alloc (Nat.le_refl _) _⟩
end Go.Proofs.Ytalgfiefadfmnaa.num
namespace Go.Proofs.Ytalgfiefadfmnaa.num
open Go.RowKit

/-- Block b is a row of intCells xs of the call's own. -/
def IntRow (w : World) (b : Nat) (xs : List Int) : Prop := w.rowIs b 3 xs.length (fun i => .int .i64 (xs.getD i 0))
theorem rowIs_below {w w' : World} {b B : Nat} {t : TypeId} {n : Nat} {f : Nat → Value} (h : w.rowIs b t n f) (hb : Below B w w') (hB : b < B) : w'.rowIs b t n f := h.of_block (hb.block b hB)
theorem IntRow.below {w w' : World} {b B : Nat} {xs : List Int} (h : IntRow w b xs) (hb : Below B w w') (hB : b < B) : IntRow w' b xs := rowIs_below h hb hB
theorem IntRow.lt {w : World} {b : Nat} {xs : List Int} (h : IntRow w b xs) : b < w.heap.size := World.rowIs.lt h
theorem IntRow.ints {w : World} {b B : Nat} {xs : List Int} (h : IntRow w b xs) (hB : b < B) : Ints w B (some ⟨b, 0, none⟩) xs.length xs :=
  ⟨rfl, fun k hk => ⟨b, 0, rfl, hB, by rw [Nat.zero_add]; exact World.rowIs.cell h hk⟩⟩

theorem info_int : (Try.prog.info? 3).map (fun i => (i.zero, i.size, i.bytes)) = some (some (.int .i64 0), 1, 8) := by kernel_rfl

def intCells (xs : List Int) : Array Value := (xs.map (Value.int .i64)).toArray
theorem cells_get {xs : List Int} {k : Nat} (h : k < xs.length) : (intCells xs)[k]? = some (.int .i64 (xs.getD k 0)) := by
  unfold intCells
  rw [List.getElem?_toArray, List.getElem?_map, List.getD_eq_getElem?_getD, List.getElem?_eq_getElem h]; rfl
theorem cells_of {xs : List Int} {n : Nat} {cs : Array Value} (hl : xs.length = n) (hs : cs.size = n) (h : ∀ j, j < n → cs[j]? = some (.int .i64 (xs.getD j 0))) : cs = intCells xs := by
  apply Array.ext_getElem?
  intro j
  by_cases hj : j < n
  · rw [h j hj, cells_get (by omega)]
  · rw [Array.getElem?_eq_none (by omega), Array.getElem?_eq_none (by unfold intCells; simp; omega)]
theorem prefix_step {xs : List Int} {n k : Nat} {cs : Array Value} (hs : cs.size = n) (hk : k < n) (h : ∀ j, j < n → cs[j]? = some (if j < k then .int .i64 (xs.getD j 0) else .int .i64 0)) (v : Int) (hv : xs.getD k 0 = v) :
    (cs.setIfInBounds k (.int .i64 v)).size = n ∧ ∀ j, j < n → (cs.setIfInBounds k (.int .i64 v))[j]? = some (if j < k + 1 then .int .i64 (xs.getD j 0) else .int .i64 0) := by
  refine ⟨by simpa using hs, fun j hj => ?_⟩
  rw [Array.getElem?_setIfInBounds]
  by_cases e : k = j
  · subst e
    rw [if_pos rfl, if_pos (by omega), if_pos (by omega), hv]
  · rw [if_neg e, h j hj]
    by_cases h2 : j < k
    · rw [if_pos h2, if_pos (by omega)]
    · rw [if_neg h2, if_neg (by omega)]
theorem IntRow.made (w : World) (xs : List Int) (b : Nat) (hb : b = w.heap.size) : IntRow (w.alloc (.cells (intCells xs) 3)) b xs :=
  hb ▸ ⟨intCells xs, heap_alloc_new w _, by simp [intCells], fun _ hi => cells_get hi⟩

/-- toIntS: one new block, the ints. -/
theorem toInts (w : World) (B : Nat) (A : Option Addr) (n c : Nat) (xs : List Int) (hi : Ints w B A n xs) (hB : B ≤ w.heap.size) (hn : n ≤ 1048576) :
    Calls Try.prog 44 #[.slice A n c] w fun e w' => e = .returned (.slice (some ⟨w.heap.size, 0, none⟩) n n) ∧ w.alloc (.cells (intCells xs) 3) = w' := by
  have hmk := run_make_row' (P := Try.prog) 24 3 (.int .i64 0) 8 Try.underlying24 info_int rfl .i64 .i64 n (by omega) (by omega)
  have HX := Lib.hid hi
  clear hi
  go_enter Try.func44, Try.ntmps44
  go_wp2
  clear hmk
  go_loopw [4] (fun i wr => ∃ (k : Nat) (cs : Array Value), k ≤ n ∧ i = .int .i64 k ∧ wr = w.alloc (.cells cs 3) ∧ cs.size = n ∧ ∀ j, j < n → cs[j]? = some (if j < k then .int .i64 (xs.getD j 0) else .int .i64 0)) (fun i _ => n - (intOf i).toNat)
  case atStart =>
    refine ⟨0, _, Nat.zero_le _, rfl, rfl, by rw [size_madeCells], fun j hj => ?_⟩
    simp [madeCells, hj, Nat.mod_one]
  case round =>
    obtain ⟨k, cs, hk, rfl, rfl, hs, hcs⟩ := hrel
    by_cases hlt : k < n
    · obtain ⟨b, off, rfl, hb, hc⟩ := HX.out.2 k hlt
      have hc' : (w.alloc (.cells cs 3)).cell? ⟨b, off + k, none⟩ = some (.int .i64 (xs.getD k 0)) := (World.cell?_alloc_past _ _ _ (by omega)).trans hc
      generalize hv : xs.getD k 0 = v at *
      have HP := Lib.hid (prefix_step hs hlt hcs v hv)
      have g1 := hcs k hlt
      rw [if_neg (by omega)] at g1
      clear hcs hc hv
      go_wp2
      go_roundw
      case rel => exact ⟨k + 1, _, by omega, by go_num, rfl, HP.out.1, HP.out.2⟩
      case measure => simp [intOf]; omega
    · obtain rfl : k = n := by omega
      have HE := Lib.hid (cells_of HX.out.1 hs (fun j hj => by rw [hcs j hj, if_pos hj]))
      clear hcs hs
      go_wp2
      go_ret
      exact ⟨rfl, by rw [HE.out]⟩
theorem getD_prefix (xs : List Int) (k j : Nat) : (if j = k then (Value.int .i64 (xs.getD k 0)) else if j < k then .int .i64 (xs.getD j 0) else .int .i64 0) = (if j < k + 1 then Value.int .i64 (xs.getD j 0) else .int .i64 0) := by
  by_cases h1 : j = k
  · subst h1; simp
  · by_cases h2 : j < k
    · rw [if_neg h1, if_pos h2, if_pos (by omega)]
    · rw [if_neg h1, if_neg h2, if_neg (by omega)]
theorem ints_row {w w' : World} {B : Nat} {A : Option Addr} {n b : Nat} {xs : List Int} (hi : Ints w B A n xs) (h : IntRow w' b xs) : Ints w' w'.heap.size (some ⟨b, 0, none⟩) n xs := hi.1 ▸ h.ints h.lt
theorem below3 {w : World} {B : Nat} (hB : B ≤ w.heap.size) (o1 o2 o3 : Obj) : Below B w (((w.alloc o1).alloc o2).alloc o3) :=
  (((Below.refl B w).alloc hB _).alloc (by simp; omega) _).alloc (by simp; omega) _
theorem heap_mid (w : World) (o1 o2 o3 o4 : Obj) : ((((w.alloc o1).alloc o2).alloc o3).alloc o4).heap[w.heap.size + 1]? = some o2 := by
  rw [Below.heap_alloc _ _ _ (by simp), Below.heap_alloc _ _ _ (by simp)]
  exact heap_alloc2_new w o1 o2
theorem toItem_c (w : World) (B : Nat) (t : It) (hi : Ints w B t.A t.n t.xs) (hB : B ≤ w.heap.size) (hn : t.n ≤ 1048576) :
    Calls Try.prog 26 #[t.val] w fun e w' => ∃ b, e = .returned (It.val ⟨t.id, some ⟨b, 0, none⟩, t.n, t.n, t.xs⟩) ∧ w.heap.size ≤ b ∧ IntRow w' b t.xs ∧ Below w.heap.size w w' := by
  obtain ⟨id, A, n, c, xs⟩ := t
  unfold It.val
  simp only [] at hi hn ⊢
  have HX := Lib.hid hi
  clear hi
  go_enter Try.func26, Try.ntmps26
  go_wp2_with fail
  refine (toInts _ B A n c xs (HX.out.below (below3 hB _ _ _)) (by simp; omega) hn).mono ?_
  rintro e w1 ⟨rfl, rfl⟩
  go_wp2
  refine bodyPost_ret_by (results_cell_row rfl _ _ (w.heap.size + 1) 36 _ (0, 0) _ rfl (heap_mid _ _ _ _ _) Try.underlying36 rfl (by kernel_rfl)) rfl ?_
  exact ⟨_, rfl, by omega, IntRow.made _ xs _ (by simp), (below3 (Nat.le_refl _) _ _ _).alloc (by simp; omega) _⟩

theorem take_snoc_getD {xs : List Int} {k n : Nat} (hl : xs.length = n) (h : k < n) : xs.take (k + 1) = xs.take k ++ [xs.getD k 0] := by
  rw [List.take_add_one, List.getD_eq_getElem?_getD, List.getElem?_eq_getElem (by omega)]; rfl
theorem ne_at {xs ys : List Int} {k : Nat} (h : xs.getD k 0 ≠ ys.getD k 0) : xs ≠ ys := fun e => h (by rw [e])

theorem eqInts (w : World) (B : Nat) (A A' : Option Addr) (n n' c c' : Nat) (xs ys : List Int) (hx : Ints w B A n xs) (hy : Ints w B A' n' ys) (hn : n ≤ 1048576) (b : Bool) (hb : b = true ↔ xs = ys) :
    Calls Try.prog 46 #[.slice A n c, .slice A' n' c'] w fun e w' => e = .returned (.bool b) ∧ ∃ m, w' = w.drewN m := by
  have HX := Lib.hid hx
  have HY := Lib.hid hy
  by_cases hl : n = n'
  · subst hl
    have HB := Lib.hid hb
    clear hx hy hb
    go_enter Try.func46, Try.ntmps46
    go_wp2
    go_loopw [5] (fun i wr => ∃ k : Nat, k ≤ n ∧ i = .int .i64 k ∧ xs.take k = ys.take k ∧ ∃ m, wr = w.drewN m) (fun i _ => n - (intOf i).toNat)
    case atStart => exact ⟨0, Nat.zero_le _, rfl, rfl, 0, rfl⟩
    case round =>
      obtain ⟨k, hk, rfl, htake, m, rfl⟩ := hrel
      have HT := Lib.hid htake
      clear htake
      by_cases hlt : k < n
      · obtain ⟨b1, off1, rfl, hb1, hc1⟩ := HX.out.2 k hlt
        obtain ⟨b2, off2, rfl, hb2, hc2⟩ := HY.out.2 k hlt
        generalize hv1 : xs.getD k 0 = v1 at *
        generalize hv2 : ys.getD k 0 = v2 at *
        have HV1 := Lib.hid hv1
        have HV2 := Lib.hid hv2
        clear hv1 hv2
        have hlt' : (k : Int) < (n : Int) := by omega
        by_cases he : v1 = v2
        · subst he
          go_wp2
          go_quiet (fail)
          go_wp2
          go_roundw
          case rel => exact ⟨k + 1, by omega, by go_num, by rw [take_snoc_getD HX.out.1 hlt, take_snoc_getD HY.out.1 hlt, HT.out, HV1.out, HV2.out], _, rfl⟩
          case measure => simp [intOf]; omega
        · have hne : (v1 != v2) = true := by simpa using he
          have hxy : xs ≠ ys := ne_at (k := k) (by rw [HV1.out, HV2.out]; exact he)
          obtain rfl : b = false := by
            cases b
            · rfl
            · exact absurd (HB.out.1 rfl) hxy
          have HE := Lib.hid he
          clear he hxy
          go_wp2
          go_quiet (fail)
          go_wp2
          go_ret
          exact ⟨rfl, _, World.drewN_drewN _ _ _⟩
      · obtain rfl : k = n := by omega
        obtain rfl : b = true := HB.out.2 (by
          have h1 := HT.out
          rwa [List.take_of_length_le (by rw [HX.out.1]; exact Nat.le_refl _), List.take_of_length_le (by rw [HY.out.1]; exact Nat.le_refl _)] at h1)
        go_wp2
        go_ret
        exact ⟨rfl, _, rfl⟩
  · obtain rfl : b = false := by
      cases b
      · rfl
      · exact absurd (by rw [← hx.1, hb.1 rfl, hy.1]) hl
    clear hx hy hb
    go_enter Try.func46, Try.ntmps46
    go_wp2
    go_ret
    exact ⟨rfl, 0, rfl⟩
end Go.Proofs.Ytalgfiefadfmnaa.num
namespace Go.Proofs.Ytalgfiefadfmnaa.num
open Go.RowKit

def It.dat (t : It) : Int × List Int := (t.id, t.xs)
/-- Cell j of the block of a slice of items; behind the last item: zero. -/
def itemCell (its : List It) (j : Nat) : Value :=
  match its[j / 2]? with
  | some t => if j % 2 = 0 then .int .i64 t.id else .slice t.A t.n t.c
  | none => if j % 2 = 0 then .int .i64 0 else .slice none 0 0
theorem itemCell_even {its : List It} {k : Nat} {t : It} (h : its[k]? = some t) : itemCell its (k * 2) = .int .i64 t.id := by
  unfold itemCell
  rw [Nat.mul_div_cancel _ (by decide), h]
  simp
theorem itemCell_odd {its : List It} {k : Nat} {t : It} (h : its[k]? = some t) : itemCell its (k * 2 + 1) = .slice t.A t.n t.c := by
  unfold itemCell
  rw [show (k * 2 + 1) / 2 = k by omega, h]
  simp only
  rw [if_neg (by omega)]
theorem itemCell_even0 {its : List It} {k : Nat} (h : its.length = k) : itemCell its (k * 2) = .int .i64 0 := by
  unfold itemCell
  rw [Nat.mul_div_cancel _ (by decide), List.getElem?_eq_none (by omega)]
  simp
theorem itemCell_odd0 {its : List It} {k : Nat} (h : its.length = k) : itemCell its (k * 2 + 1) = .slice none 0 0 := by
  unfold itemCell
  rw [show (k * 2 + 1) / 2 = k by omega, List.getElem?_eq_none (by omega)]
  simp only
  rw [if_neg (by omega)]
theorem itemCell_snoc {its : List It} {k : Nat} (h : its.length = k) (t : It) (j : Nat) :
    (if j = k * 2 + 1 then .slice t.A t.n t.c else if j = k * 2 then .int .i64 t.id else itemCell its j) = itemCell (its ++ [t]) j := by
  have hk : (its ++ [t])[k]? = some t := by rw [List.getElem?_append_right (by omega)]; simp [h]
  by_cases h1 : j = k * 2 + 1
  · subst h1
    rw [if_pos rfl, itemCell_odd hk]
  · by_cases h2 : j = k * 2
    · subst h2
      rw [if_neg h1, if_pos rfl, itemCell_even hk]
    · rw [if_neg h1, if_neg h2]
      have hj : j / 2 ≠ k := by omega
      unfold itemCell
      rcases Nat.lt_or_ge (j / 2) k with h3 | h3
      · rw [List.getElem?_append_left (by omega)]
      · rw [List.getElem?_eq_none (by omega), List.getElem?_eq_none (by simp; omega)]

/-- An item whose slice is a block of the call's own, behind block b. -/
def OwnIt (w : World) (b : Nat) (t : It) : Prop := ∃ bk, t.A = some ⟨bk, 0, none⟩ ∧ b < bk ∧ t.n = t.xs.length ∧ t.c = t.n ∧ IntRow w bk t.xs
theorem OwnIt.below {w w' : World} {b : Nat} {t : It} (h : OwnIt w b t) (hb : Below w.heap.size w w') : OwnIt w' b t := by
  obtain ⟨bk, h1, h2, h3, h4, h5⟩ := h
  exact ⟨bk, h1, h2, h3, h4, h5.below hb h5.lt⟩
theorem OwnIt.set {w : World} {b : Nat} {t : It} (h : OwnIt w b t) (j : Nat) (v : Value) : OwnIt (w.setCell ⟨b, j, none⟩ v) b t := by
  obtain ⟨bk, h1, h2, h3, h4, h5⟩ := h
  exact ⟨bk, h1, h2, h3, h4, World.rowIs.setOther h5 (by show bk ≠ b; omega) v⟩
/-- Block b is a row of items of the call's own, each with its own block behind b. -/
structure Fresh (w : World) (b : Nat) (its : List It) : Prop where
  row : w.rowIs b 36 (its.length * 2) (itemCell its)
  own : ∀ t ∈ its, OwnIt w b t
theorem Fresh.lt {w : World} {b : Nat} {its : List It} (h : Fresh w b its) : b < w.heap.size := World.rowIs.lt h.row
theorem Fresh.below {w w' : World} {b : Nat} {its : List It} (h : Fresh w b its) (hb : Below w.heap.size w w') : Fresh w' b its :=
  ⟨rowIs_below h.row hb h.lt, fun t ht => (h.own t ht).below hb⟩
theorem Fresh.items {w : World} {b B : Nat} {its : List It} (h : Fresh w b its) (hB : w.heap.size ≤ B) : Items w B (some ⟨b, 0, none⟩) its.length its :=
  ⟨rfl, fun k hk => by
    have hg : its[k]? = some its[k] := List.getElem?_eq_getElem hk
    have hlt := h.lt
    obtain ⟨bk, h1, _, h3, _, h5⟩ := h.own its[k] (List.getElem_mem hk)
    refine ⟨b, 0, rfl, by omega, ?_, ?_, ?_⟩
    · rw [Nat.zero_add, World.rowIs.cell h.row (by omega), itemCell_even hg]
    · rw [Nat.zero_add, World.rowIs.cell h.row (by omega), itemCell_odd hg]
    · rw [h1, h3]; exact h5.ints (by have := h5.lt; omega)⟩
/-- What is known of item k. -/
theorem Items.at {w : World} {B : Nat} {A : Option Addr} {n : Nat} {its : List It} (h : Items w B A n its) (k : Nat) (hk : k < n) :
    ∃ (b off : Nat) (t : It), A = some ⟨b, off, none⟩ ∧ b < B ∧ its[k]? = some t ∧ w.cell? ⟨b, off + k * 2, none⟩ = some (.int .i64 t.id) ∧ w.cell? ⟨b, off + k * 2 + 1, none⟩ = some (.slice t.A t.n t.c) ∧ Ints w B t.A t.n t.xs := by
  have hl := h.1
  obtain ⟨b, off, h1, h2, h3, h4, h5⟩ := h.2 k (by omega)
  exact ⟨b, off, its[k], h1, h2, List.getElem?_eq_getElem _, h3, h4, h5⟩
theorem mem_of_at {α : Type} {l : List α} {k : Nat} {t : α} (h : l[k]? = some t) : t ∈ l := List.mem_of_getElem? h
theorem take_at {α : Type} {l : List α} {k : Nat} {t : α} (h : l[k]? = some t) : l.take (k + 1) = l.take k ++ [t] := by
  rw [List.take_add_one, h]; rfl
theorem below_drewN {B : Nat} {a w : World} (h : Below B a w) (n : Nat) : Below B a (w.drewN n) := ⟨h.os, h.tape, h.output, h.size, h.block⟩
theorem take_all {α : Type} {l : List α} {n : Nat} (h : l.length = n) : l.take n = l := List.take_of_length_le (by omega)

theorem info_item : (Try.prog.info? 36).map (fun i => (i.zero, i.size, i.bytes)) = some (some (.agg #[.int .i64 0, .slice none 0 0]), 2, 32) := by kernel_rfl
theorem made_items (w : World) (n : Nat) : (w.alloc (.cells (madeCells #[.int .i64 0, .slice none 0 0] (n * 2)) 36)).rowIs w.heap.size 36 (n * 2) (itemCell []) :=
  ⟨_, heap_alloc_new w _, size_madeCells _ _, fun i hi => by
    have h : (madeCells #[.int .i64 0, .slice none 0 0] (n * 2))[i]? = some (#[(.int .i64 0 : Value), .slice none 0 0][i % 2]!) := by simp [madeCells, hi]
    rw [h]
    unfold itemCell
    rcases Nat.mod_two_eq_zero_or_one i with h1 | h1 <;> rw [h1] <;> rfl⟩

theorem eqItem_c (w : World) (B : Nat) (t t' : It) (h1 : Ints w B t.A t.n t.xs) (h2 : Ints w B t'.A t'.n t'.xs) (hB : B ≤ w.heap.size) (hn : t.n ≤ 1048576) (b : Bool) (hb : b = true ↔ t.dat = t'.dat) :
    Calls Try.prog 27 #[t.val, t'.val] w fun e w' => e = .returned (.bool b) ∧ Below w.heap.size w w' := by
  obtain ⟨id, A, n, c, xs⟩ := t
  obtain ⟨id', A', n', c', xs'⟩ := t'
  unfold It.val
  simp only [It.dat, Prod.mk.injEq] at h1 h2 hn hb ⊢
  have H1 := Lib.hid h1
  have H2 := Lib.hid h2
  have HB := Lib.hid hb
  clear h1 h2 hb
  by_cases he : id = id'
  · subst he
    have hB2 : ∀ o1 o2 : Obj, Below B w ((w.alloc o1).alloc o2) := fun o1 o2 => ((Below.refl B w).alloc hB _).alloc (by simp; omega) _
    have HB2 := Lib.hid hB2
    clear hB2
    go_enter Try.func27, Try.ntmps27
    go_wp2_with fail
    refine (eqInts _ B A A' n n' c c' xs xs' (H1.out.below (HB2.out _ _)) (H2.out.below (HB2.out _ _)) hn b (by rw [HB.out]; simp)).mono ?_
    rintro e w1 ⟨rfl, m, rfl⟩
    cases b
    · go_wp2
      go_ret
      exact ⟨rfl, below_drewN (((Below.refl _ w).alloc (Nat.le_refl _) _).alloc (by simp) _) m⟩
    · go_wp2
      go_ret
      exact ⟨rfl, below_drewN (((Below.refl _ w).alloc (Nat.le_refl _) _).alloc (by simp) _) m⟩
  · obtain rfl : b = false := by
      cases b
      · rfl
      · exact absurd (HB.out.1 rfl).1 he
    have hne : (id != id') = true := by simpa using he
    clear he
    go_enter Try.func27, Try.ntmps27
    go_wp2
    go_ret
    exact ⟨rfl, ((Below.refl _ w).alloc (Nat.le_refl _) _).alloc (by simp) _⟩
end Go.Proofs.Ytalgfiefadfmnaa.num
namespace Go.Proofs.Ytalgfiefadfmnaa.num
open Go.RowKit Go.ChangeShapes Go.WideShapes Go.Deep Go.Joins

theorem laidOut : laidOutB Try.prog = true := by kernel_rfl
theorem add_flat {w : World} {a : Addr} {j : Nat} {v v0 : Value} (h0 : w.cell? (a.add 0) = some v0) (h : w.cell? (a.add j) = some v) : ∃ b off : Nat, a = ⟨b, off, none⟩ ∧ b < w.heap.size ∧ w.cell? ⟨b, off + j, none⟩ = some v := by
  obtain ⟨b, off, spot⟩ := a
  have hspot : spot = none := by
    have := World.cell?_spot h0
    simpa [Addr.add] using this
  subst hspot
  have e : (⟨b, off, none⟩ : Addr).add j = ⟨b, off + j, none⟩ := by unfold Addr.add; split <;> simp_all
  rw [e] at h
  exact ⟨b, off, rfl, World.block_lt_of_cell? w _ h, h⟩

section
variable {H : Type} {enc : TypeId × Value → H} {W : World}
theorem open_introw {fuel : Nat} {v : Value} {x : DataW H × List MemPlace} (h : DataW.trod enc Try.prog W 0 (fun _ => true) true fuel 24 [v] = some x) :
    ∃ A n c xs, v = .slice A n c ∧ n ≤ 9223372036854775807 ∧ Ints W W.heap.size A n xs := by
  rcases open_ints Try.underlying24 Try.underlying3 (by kernel_rfl) h with ⟨hv, _⟩ | ⟨a, len, cap, zs, hv, _, hl, hm, hz, _, hc, _⟩
  · exact ⟨none, 0, 0, [], by simpa using hv, by omega, rfl, fun k hk => by omega⟩
  · have hz' : zs.length = cap := by simpa using hz
    refine ⟨some a, len, cap, zs.take len, by simpa using hv, by unfold maxLen at hm; omega, by rw [List.length_take]; omega, fun k hk => ?_⟩
    obtain ⟨b, off, rfl, hb, hcell⟩ := add_flat (hc 0 (by omega)) (hc k (by omega))
    refine ⟨b, off, rfl, hb, hcell.trans ?_⟩
    rw [List.getD_eq_getElem?_getD, List.getD_eq_getElem?_getD, List.getElem?_take_of_lt hk]
set_option maxRecDepth 20000 in
theorem open_item {b0 : Nat} {v : Value} {d : DataW H} {p : List MemPlace} (hv : Value.okWide Try.prog W .any b0 50 v) (h : DataW.Trod enc Try.prog W 0 (fun _ => true) true 50 v d p) :
    ∃ t : It, v = t.val ∧ t.n ≤ 9223372036854775807 ∧ Ints W W.heap.size t.A t.n t.xs := by
  obtain ⟨v0, v1, y0, y1, n, rfl, _, _, h0, h1⟩ := open_agg2 Try.underlying50 (by kernel_rfl) (by kernel_rfl) hv h
  obtain ⟨id, hid, _, _⟩ := DataW.trod_int Try.underlying3 h0
  obtain ⟨A, m, c, xs, rfl, hm, hx⟩ := open_introw h1
  obtain rfl : v0 = .int .i64 id := by simpa using hid
  exact ⟨⟨id, A, m, c, xs⟩, rfl, hm, hx⟩
theorem list_of {α : Type} {n : Nat} {p : Nat → α → Prop} (h : ∀ i, i < n → ∃ t, p i t) : ∃ l : List α, l.length = n ∧ ∀ i (hi : i < l.length), p i l[i] := by
  induction n with
  | zero => exact ⟨[], rfl, fun i hi => by simp at hi⟩
  | succ n ih =>
    obtain ⟨l, hl, hp⟩ := ih (fun i hi => h i (by omega))
    obtain ⟨t, ht⟩ := h n (by omega)
    refine ⟨l ++ [t], by simp [hl], fun i hi => ?_⟩
    rcases Nat.lt_or_ge i l.length with h1 | h1
    · rw [List.getElem_append_left h1]; exact hp i h1
    · obtain rfl : i = l.length := by simp at hi; omega
      rw [List.getElem_append_right h1]
      simpa [hl] using ht
end
end Go.Proofs.Ytalgfiefadfmnaa.num
namespace Go.Proofs.Ytalgfiefadfmnaa.num
open Go.RowKit

def bv (b : UInt8) : Value := .int .u8 (b.toNat : Int)
/-- The slice value v is the call's own (blocks from B on) and holds the bytes l. -/
def Own (w : World) (B : Nat) (v : Value) (l : List UInt8) : Prop := w.ownsRow B 5 1 v l.length (l.map bv)

theorem info_u8 : (Try.prog.info? 5).map (fun i => (i.zero, i.size, i.bytes)) = some (some (.int .u8 0), 1, 1) := by kernel_rfl

theorem Own.nil (w : World) (B : Nat) : Own w B (.slice none 0 0) [] := World.ownsRow_nil _ _ _ _
theorem Own.empty (w : World) (B : Nat) (hB : B ≤ w.heap.size) : Own (w.alloc (.cells #[] 5)) B (.slice (some ⟨w.heap.size, 0, none⟩) 0 0) [] :=
  World.ownsRow_made w #[] 0 hB (Nat.zero_le _) (by simp)
theorem Own.alloc {w : World} {B : Nat} {v : Value} {l : List UInt8} (h : Own w B v l) (o : Obj) : Own (w.alloc o) B v l := World.ownsRow.alloc h o
theorem Own.drew {w : World} {B : Nat} {v : Value} {l : List UInt8} (h : Own w B v l) : Own w.drew B v l := h
theorem add_zero (g j : Nat) : (⟨g, 0, none⟩ : Addr).add j = ⟨g, j, none⟩ := by unfold Addr.add; split <;> simp_all

/-- The string of an owned slice. -/
theorem own_string {w : World} {B : Nat} {v : Value} {l : List UInt8} (h : Own w B v l) : (convert 22 9 v).run Try.prog w = .ok (.string ⟨l.toArray⟩) w := by
  have h0 := h
  rcases h.2 with ⟨rfl, hl⟩ | ⟨g, cap, cur, rfl, _, _, _, _, _, _⟩
  · have hn : l = [] := List.eq_nil_of_length_eq_zero hl
    subst hn
    exact run_convert_bytes_nil w _ _ Try.underlying22 Try.underlying5 0 0 _ Try.underlying9
  · refine run_convert_bytes_back w 22 9 5 ⟨g, 0, none⟩ cap l Try.underlying22 Try.underlying5 Try.underlying9 (fun j hj => ?_)
    rw [add_zero, World.ownsRow.cellAt h0 j (by omega)]
    simp [hj, bv]

/-- append of bytes that the statement itself lists. -/
theorem wp_app {ops : Array Oper} {rest : List Oper} {o : Oper} {a : Act} {Q : Exit → Act → World → Prop} (w : World) (hgd : o.guard = none) (s x : Operand)
    (ho : o.op = .call { callee := .builtin .append, args := #[s, x], argTypes := #[22, 22] })
    (B : Nat) (v : Value) (l : List UInt8) (hs : a.eval s = v) (hown : Own w B v l) (cs : Array Value) (new : List UInt8) (hcs : cs = (new.map bv).toArray) (n c : Nat) (hn : n = new.length)
    (hx : a.eval x = .slice (some ⟨w.heap.size, 0, none⟩) n c) (hlen : l.length + new.length ≤ 140737488355328) (hB : B ≤ w.heap.size)
    (h : ∀ v' w', Own w' B v' (l ++ new) → Below B w w' → wpList Try.prog ops Q rest (a.put o.dst v') w') :
    wpList Try.prog ops Q (o :: rest) a (w.alloc (.cells cs 5)) := by
  obtain ⟨i0, hi, hz0, hz1, hz2⟩ := info_parts info_u8
  subst hcs hn
  refine wpList_append_own _ hgd s x 22 ho B 5 i0 (.int .u8 0) 1 1 Try.underlying22 hi hz0 hz1 hz2 rfl (by decide) v l.length (l.map bv) hs (World.ownsRow.alloc hown _) ⟨w.heap.size, 0, none⟩ new.length c (new.map bv) hx (by simp) ?_ ?_ (by unfold maxLen; omega) (by omega) (by simp; omega) ?_
  · intro j u hj
    rw [add_zero, World.cell?_alloc_mark]
    simpa using hj
  · intro u hu
    obtain ⟨b, _, rfl⟩ := List.mem_map.1 hu
    rfl
  · intro v' w' hown' hg _
    refine h v' w' ?_ (((Below.refl B w).alloc hB _).grown hg (by simp; omega) (fun k hk => ?_))
    · have e : (l ++ new).length = l.length + new.length := by simp
      unfold Own
      rw [e, List.map_append]
      exact hown'
    · exact (World.ownsRow.lt hown k hk).1
end Go.Proofs.Ytalgfiefadfmnaa.num
namespace Go.Proofs.Ytalgfiefadfmnaa.num
open Go.RowKit

/-- The bytes of a slice that came in, below block B. -/
def Row (w : World) (B : Nat) (a : Option Addr) (len : Nat) : Prop :=
  ∀ k, k < len → ∃ (b off : Nat) (z : Int), a = some ⟨b, off, none⟩ ∧ b < B ∧ w.cell? ⟨b, off + k, none⟩ = some (.int .u8 z) ∧ 0 ≤ z ∧ z ≤ 255
theorem Row.below {w w' : World} {B : Nat} {a : Option Addr} {len : Nat} (h : Row w B a len) (hb : Below B w w') : Row w' B a len := fun k hk => by
  obtain ⟨b, off, z, ha, hB, hc, h0, h1⟩ := h k hk
  exact ⟨b, off, z, ha, hB, (hb.cell (p := ⟨b, off + k, none⟩) hB).trans hc, h0, h1⟩
/-- The cursor's block. -/
def Cur (w : World) (g : Nat) (a : Option Addr) (len cap : Nat) : Prop :=
  ∃ (i : Nat) (h : Int), i ≤ len ∧ w.heap[g]? = some (.cells #[.slice a len cap, .int .i64 i, .int .i64 h] 80 (0, 0))
theorem Cur.lt {w : World} {g : Nat} {a : Option Addr} {len cap : Nat} (h : Cur w g a len cap) : g < w.heap.size := by
  obtain ⟨i, x, _, h⟩ := h
  rcases Nat.lt_or_ge g w.heap.size with h' | h'
  · exact h'
  · rw [Array.getElem?_eq_none h'] at h; cases h
theorem Cur.kept {w w' : World} {g : Nat} {a : Option Addr} {len cap : Nat} (h : Cur w g a len cap) (hk : w'.heap[g]? = w.heap[g]?) : Cur w' g a len cap := by
  obtain ⟨i, x, hi, h⟩ := h
  exact ⟨i, x, hi, hk.trans h⟩
def Out (P : Int → Prop) (w : World) (g : Nat) (a : Option Addr) (len cap : Nat) (e : Ending) (w' : World) : Prop :=
  ∃ n : Int, e = .returned (.int .i64 n) ∧ P n ∧ Cur w' g a len cap ∧ w.grownBy w' (some g)

theorem and_range (y : Int) (m : Nat) (hm : m < 9223372036854775808) : 0 ≤ bits .and .i64 y (m : Int) ∧ bits .and .i64 y (m : Int) ≤ m := by
  have e : bits .and .i64 y (m : Int) = IntKind.i64.wrap ((BitVec.ofInt 64 y &&& BitVec.ofInt 64 (m : Int)).toNat : Int) := rfl
  have h : (BitVec.ofInt 64 y &&& BitVec.ofInt 64 (m : Int)).toNat ≤ m := by
    rw [BitVec.toNat_and, ofInt_u64 m (by omega)]
    exact Nat.and_le_right
  rw [e, IntWalk.i64_in _ ⟨by omega, by omega⟩]
  omega
theorem and255 (y : Int) : 0 ≤ bits .and .i64 y 255 ∧ bits .and .i64 y 255 ≤ 255 := and_range y 255 (by decide)
theorem and30 (y : Int) : 0 ≤ bits .and .i64 y 1073741823 ∧ bits .and .i64 y 1073741823 ≤ 1073741823 := and_range y 1073741823 (by decide)

theorem grown_refl (w : World) (r : Option Nat) : w.grownBy w r := ⟨rfl, rfl, rfl, Nat.le_refl _, fun _ _ _ => rfl⟩
theorem grown_trans {a b c : World} {r : Option Nat} (h : a.grownBy b r) (k : b.grownBy c r) : a.grownBy c r :=
  ⟨k.os.trans h.os, k.tape.trans h.tape, k.output.trans h.output, Nat.le_trans h.size k.size, fun i hi hne => (k.block i (Nat.lt_of_lt_of_le hi h.size) hne).trans (h.block i hi hne)⟩
theorem grown_set {a b : World} {g : Nat} (h : a.grownBy b (some g)) (j : Nat) (v : Value) : a.grownBy (b.setCell ⟨g, j, none⟩ v) (some g) :=
  ⟨h.os, h.tape, h.output, Nat.le_trans h.size (by simp [World.setCell]), fun i hi hne => (Below.heap_setCell b ⟨g, j, none⟩ v i (fun e => hne (by rw [e]))).trans (h.block i hi hne)⟩
theorem grown_drew {a b : World} {r : Option Nat} (h : a.grownBy b r) : a.grownBy b.drew r := ⟨h.os, h.tape, h.output, h.size, h.block⟩
theorem grown_alloc {a b : World} {r : Option Nat} (h : a.grownBy b r) (o : Obj) : a.grownBy (b.alloc o) r := grown_trans h (World.grownBy_alloc b o r)
theorem grown_below {a b : World} {g B : Nat} (h : a.grownBy b (some g)) (hB : B ≤ g) (hs : B ≤ a.heap.size) : Below B a b :=
  (Below.refl B a).grown h hs (fun k hk => by injection hk with hk; omega)

set_option maxRecDepth 20000 in
theorem byte_any (w : World) (g : Nat) (a : Option Addr) (len cap : Nat) (hlen : len ≤ 1048576) (hc : Cur w g a len cap) (B : Nat) (hB : B ≤ g) (hrow : Row w B a len) :
    Calls Try.prog 50 #[.pointer (some ⟨g, 0, none⟩)] w (Out (fun n => 0 ≤ n ∧ n ≤ 255) w g a len cap) := by
  obtain ⟨i, h, hi, hblk⟩ := hc
  have c0 : w.cell? ⟨g, 0, none⟩ = some (.slice a len cap) := cell_of_row w g 0 _ _ (0, 0) hblk
  have c1 : w.cell? ⟨g, 1, none⟩ = some (.int .i64 i) := cell_of_row w g 1 _ _ (0, 0) hblk
  have c2 : w.cell? ⟨g, 2, none⟩ = some (.int .i64 h) := cell_of_row w g 2 _ _ (0, 0) hblk
  have f1 : w.frozen? ⟨g, 1, none⟩ = false := by simp [World.frozen?, hblk]
  have f2 : w.frozen? ⟨g, 2, none⟩ = false := by simp [World.frozen?, hblk]
  have HB := Lib.hid hblk
  clear hblk
  by_cases hlt : i < len
  · obtain ⟨b, off, z, rfl, hbB, hz, hz0, hz1⟩ := hrow i hlt
    have hz' : ∀ v, (w.setCell ⟨g, 2, none⟩ v).cell? ⟨b, off + i, none⟩ = some (.int .u8 z) := fun v => by
      rw [World.cell?_setCell_other w _ _ v (fun e => by injection e; omega)]; exact hz
    go_enter Try.func50, Try.ntmps50
    go_wp2
    generalize wrap64 (wrap64 (h * 6364136223846793005) + 1442695040888963407) = h1 at *
    go_region
    go_wp2
    go_region
    all_goals go_wp2
    all_goals go_region
    all_goals go_wp2
    all_goals
      go_ret
      have hb2 := heap_setCell_same w g 2 _ _ (.int .i64 h1) HB.out
      have hb3 := heap_setCell_same _ g 1 _ _ (.int .i64 ((i : Int) + 1)) hb2
      exact ⟨_, rfl, and255 _, ⟨i + 1, h1, by omega, hb3⟩, by repeat (first | exact grown_refl _ _ | apply grown_drew | apply grown_set)⟩
  · obtain rfl : i = len := by omega
    go_enter Try.func50, Try.ntmps50
    go_wp2
    generalize wrap64 (wrap64 (h * 6364136223846793005) + 1442695040888963407) = h1 at *
    go_region
    go_wp2
    go_region
    all_goals go_wp2
    all_goals
      go_ret
      have hb2 := heap_setCell_same w g 2 _ _ (.int .i64 h1) HB.out
      exact ⟨_, rfl, and255 _, ⟨i, h1, Nat.le_refl _, hb2⟩, by repeat (first | exact grown_refl _ _ | apply grown_drew | apply grown_set)⟩

def InRange (n r : Int) : Prop := (n ≤ 0 → r = 0) ∧ (0 < n → 0 ≤ r ∧ r < n)
theorem mod_range (x n : Int) (_hx : 0 ≤ x) (hn : 0 < n) : InRange n (x % n) := ⟨fun h => by omega, fun _ => ⟨Int.emod_nonneg _ (by omega), Int.emod_lt_of_pos _ hn⟩⟩
theorem tmod_range (x n : Int) (hx : 0 ≤ x) (hn : 0 < n) : InRange n (x.tmod n) := by rw [Int.tmod_eq_emod_of_nonneg hx]; exact mod_range x n hx hn

set_option maxRecDepth 20000 in
theorem below_any (n : Int) (hn : n ≤ 2147483648) (w : World) (g : Nat) (a : Option Addr) (len cap : Nat) (hlen : len ≤ 1048576) (hc : Cur w g a len cap) (B : Nat) (hB : B ≤ g) (hrow : Row w B a len) :
    Calls Try.prog 31 #[.pointer (some ⟨g, 0, none⟩), .int .i64 n] w (Out (InRange n) w g a len cap) := by
  have HC0 := Lib.hid hc
  have HR0 := Lib.hid hrow
  clear hc hrow
  by_cases h0 : n ≤ 0
  · go_enter Try.func31, Try.ntmps31
    go_wp2
    go_ret
    exact ⟨0, rfl, ⟨fun _ => rfl, fun h => by omega⟩, HC0.out, grown_refl _ _⟩
  by_cases h1 : n ≤ 256
  · go_enter Try.func31, Try.ntmps31
    go_wp2_with fail
    refine (byte_any _ g a len cap hlen HC0.out B hB HR0.out).mono ?_
    rintro e w1 ⟨x1, rfl, ⟨hx10, hx11⟩, hc1, hg1⟩
    have HC1 := Lib.hid hc1
    have HR1 := Lib.hid (HR0.out.below (grown_below hg1 hB (by have := HC0.out.lt; omega)))
    have HG1 := Lib.hid hg1
    clear hc1 hg1
    go_wp2
    go_ret
    exact ⟨_, rfl, by first | exact mod_range _ _ (by omega) (by omega) | exact tmod_range _ _ (by omega) (by omega), HC1.out, HG1.out⟩
  go_enter Try.func31, Try.ntmps31
  go_wp2_with fail
  refine (byte_any _ g a len cap hlen HC0.out B hB HR0.out).mono ?_
  rintro e w1 ⟨x1, rfl, ⟨hx10, hx11⟩, hc1, hg1⟩
  have HC1 := Lib.hid hc1
  have HR1 := Lib.hid (HR0.out.below (grown_below hg1 hB (by have := HC0.out.lt; omega)))
  have HG1 := Lib.hid hg1
  clear hc1 hg1
  go_wp2_with fail
  refine (byte_any _ g a len cap hlen HC1.out B hB HR1.out).mono ?_
  rintro e w2 ⟨x2, rfl, ⟨hx20, hx21⟩, hc2, hg2⟩
  have HC2 := Lib.hid hc2
  have HR2 := Lib.hid (HR1.out.below (grown_below hg2 hB (by have := HC1.out.lt; omega)))
  have HG2 := Lib.hid hg2
  clear hc2 hg2
  go_wp2_with fail
  refine (byte_any _ g a len cap hlen HC2.out B hB HR2.out).mono ?_
  rintro e w3 ⟨x3, rfl, ⟨hx30, hx31⟩, hc3, hg3⟩
  have HC3 := Lib.hid hc3
  have HR3 := Lib.hid (HR2.out.below (grown_below hg3 hB (by have := HC2.out.lt; omega)))
  have HG3 := Lib.hid hg3
  clear hc3 hg3
  go_wp2_with fail
  refine (byte_any _ g a len cap hlen HC3.out B hB HR3.out).mono ?_
  rintro e w4 ⟨x4, rfl, ⟨hx40, hx41⟩, hc4, hg4⟩
  have HC4 := Lib.hid hc4
  have HR4 := Lib.hid (HR3.out.below (grown_below hg4 hB (by have := HC3.out.lt; omega)))
  have HG4 := Lib.hid hg4
  clear hc4 hg4
  go_wp2
  go_ret
  exact ⟨_, rfl, by first | exact mod_range _ _ (by omega) (by omega) | exact tmod_range _ _ (by omega) (by omega), HC4.out, grown_trans HG1.out (grown_trans HG2.out (grown_trans HG3.out HG4.out))⟩
end Go.Proofs.Ytalgfiefadfmnaa.num
namespace Go.Proofs.Ytalgfiefadfmnaa.num
open Go.RowKit

def I64 (n : Int) : Prop := -9223372036854775808 ≤ n ∧ n ≤ 9223372036854775807
theorem I64.wrap (x : Int) : I64 (wrap64 x) := by unfold I64 wrap64; omega
/-- A row of seventeen or so numbers, each an int. -/
def Nums (w : World) (gl N : Nat) : Prop := ∀ k, k < N → ∃ z : Int, w.cell? ⟨gl, k, none⟩ = some (.int .i64 z) ∧ I64 z

set_option maxRecDepth 20000 in
theorem pick_any (gl N : Nat) (hN : 0 < N) (hN2 : N ≤ 100) (w : World) (g : Nat) (a : Option Addr) (len cap : Nat) (hlen : len ≤ 1048576) (hc : Cur w g a len cap) (B : Nat) (hB : B ≤ g) (hrow : Row w B a len) (hl : Nums w gl N) (hne : gl ≠ g) :
    Calls Try.prog 49 #[.pointer (some ⟨g, 0, none⟩), .slice (some ⟨gl, 0, none⟩) N N] w (Out I64 w g a len cap) := by
  have HC := Lib.hid hc
  have HR := Lib.hid hrow
  have HL := Lib.hid hl
  clear hc hrow hl
  go_enter Try.func49, Try.ntmps49
  go_wp2_with fail
  refine (below_any _ (by omega) _ g a len cap hlen HC.out B hB HR.out).mono ?_
  rintro e w1 ⟨x1, rfl, hx, hc1, hg1⟩
  have hx2 := hx.2 (by omega)
  obtain ⟨r, rfl⟩ := Int.eq_ofNat_of_zero_le hx2.1
  have hrN : r < N := by omega
  obtain ⟨z, hz, hzI⟩ := HL.out r hrN
  have hz1 : w1.cell? ⟨gl, r, none⟩ = some (.int .i64 z) := by
    have hlt := World.block_lt_of_cell? w _ hz
    exact (World.cell?_of_block (hg1.block gl hlt (fun e => by injection e; omega))).trans hz
  have HC1 := Lib.hid hc1
  have HG1 := Lib.hid hg1
  have HZ := Lib.hid hzI
  clear hc1 hg1 hzI hz hx hx2
  go_wp2
  go_ret
  exact ⟨z, rfl, HZ.out, HC1.out, HG1.out⟩

/-- What a text's draw leaves. -/
def OutText (w : World) (g : Nat) (a : Option Addr) (len cap : Nat) (e : Ending) (w' : World) : Prop :=
  ∃ l : List UInt8, e = .returned (.string ⟨l.toArray⟩) ∧ l.length ≤ 40 ∧ Cur w' g a len cap ∧ Below g w w'
theorem Own.keptg {w w' : World} {B g : Nat} {v : Value} {l : List UInt8} (h : Own w B v l) (hg : w.grownBy w' (some g)) (hB : g < B) : Own w' B v l :=
  World.ownsRow.kept h hg (by
    by_cases hv : v.ownBlock = none
    · exact .inl hv
    · right
      intro e
      have := (World.ownsRow.lt h g e).1
      omega)
theorem byte_list (x : Int) (h0 : 0 ≤ x) (h1 : x ≤ 255) : #[Value.int .u8 x] = (List.map bv [UInt8.ofNat x.toNat]).toArray := by
  have h : (UInt8.ofNat x.toNat).toNat = x.toNat := by simp; omega
  simp only [List.map_cons, List.map_nil, bv, h]
  congr 3
  omega

end Go.Proofs.Ytalgfiefadfmnaa.num
namespace Go.Proofs.Ytalgfiefadfmnaa.num
open Go.RowKit

theorem Row.wide {w : World} {B : Nat} {a : Option Addr} {len : Nat} (h : Row w B a len) : Row w w.heap.size a len := fun k hk => by
  obtain ⟨b, off, z, ha, _, hc, h0, h1⟩ := h k hk
  exact ⟨b, off, z, ha, World.block_lt_of_cell? w _ hc, hc, h0, h1⟩
theorem big_any (a : Option Addr) (len cap : Nat) (b : Bool) (hb : b = true ↔ 1048576 < len) (hl : len ≤ 9223372036854775807) (w : World) :
    Calls Try.prog 9 #[.slice a len cap] w fun e w' => e = .returned (.bool b) ∧ w = w' := by
  obtain rfl : b = decide (1048576 < len) := by rw [Bool.eq_iff_iff]; simpa using hb
  clear hb
  by_cases h : 1048576 < len
  · go_enter Try.func9, Try.ntmps9
    go_wp2
    go_ret
    exact ⟨by simp; omega, rfl⟩
  · go_enter Try.func9, Try.ntmps9
    go_wp2
    go_ret
    exact ⟨by simp; omega, rfl⟩

def OutNew (w : World) (a : Option Addr) (len cap : Nat) (e : Ending) (w' : World) : Prop :=
  ∃ g : Nat, e = .returned (.pointer (some ⟨g, 0, none⟩)) ∧ w.heap.size ≤ g ∧ Cur w' g a len cap ∧ Below w.heap.size w w'

set_option maxRecDepth 20000 in
theorem new_any (w : World) (a : Option Addr) (len cap : Nat) (hlen : len ≤ 1048576) (B : Nat) (hrow : Row w B a len) :
    Calls Try.prog 29 #[.slice a len cap] w (OutNew w a len cap) := by
  have HR := Lib.hid hrow
  clear hrow
  go_enter Try.func29, Try.ntmps29
  go_wp2
  go_loop [3, 4] (fun h i => ∃ (k : Nat) (x : Int), k ≤ len ∧ k ≤ 4000 ∧ i = .int .i64 k ∧ h = .int .i64 x ∧ 0 ≤ x ∧ x ≤ 1073741823) (fun _ i => len - (intOf i).toNat)
  case atStart => exact ⟨0, _, Nat.zero_le _, by omega, rfl, rfl, by omega, by omega⟩
  case round =>
    obtain ⟨k, x, hk, hk4, rfl, rfl, hx0, hx1⟩ := hrel
    by_cases hlt : k < len ∧ k < 4000
    · obtain ⟨h1, h2⟩ := hlt
      obtain ⟨b, off, z, rfl, hbB, hz, hz0, hz1⟩ := HR.out k h1
      have hd : decide ((k : Int) < 4000) = true := by simp; omega
      go_wp2
      go_round
      case rel => exact ⟨k + 1, _, by omega, by omega, by go_num, rfl, (and30 _).1, (and30 _).2⟩
      case measure => simp [intOf]; omega
    · go_wp2
      all_goals
        go_ret
        exact ⟨w.heap.size, rfl, Nat.le_refl _, ⟨0, x, Nat.zero_le _, heap_alloc_new w _⟩, (Below.refl _ _).alloc (Nat.le_refl _) _⟩

def OutNum (P : Int → Prop) (w : World) (e : Ending) (w' : World) : Prop := ∃ n : Int, e = .returned (.int .i64 n) ∧ P n ∧ Below w.heap.size w w'
def OutStr (w : World) (e : Ending) (w' : World) : Prop := ∃ l : List UInt8, e = .returned (.string ⟨l.toArray⟩) ∧ l.length ≤ 40 ∧ Below w.heap.size w w'
def OutTwo (w : World) (e : Ending) (w' : World) : Prop := ∃ n x : Int, e = .returned (.tuple #[.int .i64 n, .int .i64 x]) ∧ I64 n ∧ -1 ≤ x ∧ x ≤ 8 ∧ Below w.heap.size w w'

end Go.Proofs.Ytalgfiefadfmnaa.num
namespace Go.Proofs.Ytalgfiefadfmnaa.num
set_option linter.unusedVariables false

/-- A way down along the pairs. -/
inductive Reach (ps : List (Int × Int)) : Int → Int → Prop
  | one {a b : Int} (h : (a, b) ∈ ps) : Reach ps a b
  | more {a b c : Int} (h : (a, b) ∈ ps) (t : Reach ps b c) : Reach ps a c
theorem Reach.trans {ps : List (Int × Int)} {a b c : Int} (h : Reach ps a b) (h' : Reach ps b c) : Reach ps a c := by
  induction h with
  | one h => exact .more h h'
  | more h _ ih => exact .more h (ih h')
theorem Reach.mono {ps qs : List (Int × Int)} (hs : ∀ p, p ∈ ps → p ∈ qs) {a b : Int} (h : Reach ps a b) : Reach qs a b := by
  induction h with
  | one h => exact .one (hs _ h)
  | more h _ ih => exact .more (hs _ h) ih
theorem Reach.nil {a b : Int} (h : Reach [] a b) : False := by
  cases h with
  | one h => cases h
  | more h _ => cases h
theorem Reach.snoc {ps : List (Int × Int)} {p : Int × Int} {a v : Int} :
    Reach (ps ++ [p]) a v ↔ Reach ps a v ∨ ((a = p.1 ∨ Reach ps a p.1) ∧ (v = p.2 ∨ Reach ps p.2 v)) := by
  have hm : ∀ q, q ∈ ps → q ∈ ps ++ [p] := fun q hq => List.mem_append_left _ hq
  have hp : Reach (ps ++ [p]) p.1 p.2 := .one (List.mem_append_right _ (by simp))
  constructor
  · intro h
    induction h with
    | one h =>
      rcases List.mem_append.1 h with h | h
      · exact .inl (.one h)
      · obtain rfl := List.mem_singleton.1 h
        exact .inr ⟨.inl rfl, .inl rfl⟩
    | more h _ ih =>
      rcases List.mem_append.1 h with h | h
      · rcases ih with ih | ⟨ih1, ih2⟩
        · exact .inl (.more h ih)
        · refine .inr ⟨.inr ?_, ih2⟩
          rcases ih1 with rfl | ih1
          · exact .one h
          · exact .more h ih1
      · obtain rfl := List.mem_singleton.1 h
        rcases ih with ih | ⟨_, ih2⟩
        · exact .inr ⟨.inl rfl, .inr ih⟩
        · exact .inr ⟨.inl rfl, ih2⟩
  · rintro (h | ⟨h1, h2⟩)
    · exact h.mono hm
    · have h3 : Reach (ps ++ [p]) a p.2 := by
        rcases h1 with rfl | h1
        · exact hp
        · exact (h1.mono hm).trans hp
      rcases h2 with rfl | h2
      · exact h3
      · exact h3.trans (h2.mono hm)
theorem Reach.ends {ps : List (Int × Int)} {a b : Int} (h : Reach ps a b) : (∃ y, (a, y) ∈ ps) ∧ ∃ x, (x, b) ∈ ps := by
  induction h with
  | one h => exact ⟨⟨_, h⟩, _, h⟩
  | more h _ ih => exact ⟨⟨_, h⟩, ih.2⟩
/-- The last step. -/
theorem Reach.last {ps : List (Int × Int)} {a b : Int} (h : Reach ps a b) : ∃ x, (x, b) ∈ ps ∧ (x = a ∨ Reach ps a x) := by
  induction h with
  | one h => exact ⟨_, h, .inl rfl⟩
  | more h _ ih =>
    obtain ⟨x, hx, hr⟩ := ih
    refine ⟨x, hx, .inr ?_⟩
    rcases hr with rfl | hr
    · exact .one h
    · exact .more h hr

/-- Reach, reckoned. -/
def stepR (R : Int → Int → Bool) (p : Int × Int) : Int → Int → Bool := fun a v => R a v || ((a == p.1 || R a p.1) && (v == p.2 || R p.2 v))
def rb (ps : List (Int × Int)) : Int → Int → Bool := ps.foldl stepR (fun _ _ => false)
theorem rb_nil (a b : Int) : rb [] a b = false := rfl
theorem rb_snoc (ps : List (Int × Int)) (p : Int × Int) (a v : Int) : rb (ps ++ [p]) a v = (rb ps a v || ((a == p.1 || rb ps a p.1) && (v == p.2 || rb ps p.2 v))) := by
  unfold rb
  rw [List.foldl_append]
  rfl
theorem list_snoc_ind {α : Type} {P : List α → Prop} (h0 : P []) (hs : ∀ l a, P l → P (l ++ [a])) : ∀ l, P l := by
  intro l
  rw [← List.reverse_reverse l]
  induction l.reverse with
  | nil => exact h0
  | cons a r ih => rw [List.reverse_cons]; exact hs _ _ ih
theorem rb_iff (ps : List (Int × Int)) : ∀ a b, rb ps a b = true ↔ Reach ps a b := by
  induction ps using list_snoc_ind with
  | h0 => exact fun a b => ⟨fun h => by simp [rb_nil] at h, fun h => h.nil.elim⟩
  | hs l p ih =>
    intro a b
    rw [rb_snoc, Reach.snoc]
    simp [ih]
theorem rb_false {ps : List (Int × Int)} {a b : Int} (h : ¬ Reach ps a b) : rb ps a b = false := by
  cases e : rb ps a b
  · rfl
  · exact (h ((rb_iff _ _ _).1 e)).elim

def InR (v : Int) : Prop := 0 ≤ v ∧ v ≤ 9
/-- Values in range, no circle. -/
structure Good (ps : List (Int × Int)) : Prop where
  rng : ∀ p, p ∈ ps → InR p.1 ∧ InR p.2
  acy : ∀ v, ¬ Reach ps v v
theorem Good.nil : Good [] := ⟨fun p h => by simp at h, fun v h => h.nil⟩
theorem Good.rb_self {ps : List (Int × Int)} (h : Good ps) (v : Int) : rb ps v v = false := rb_false (h.acy v)
theorem reach_rng {ps : List (Int × Int)} (h : ∀ p, p ∈ ps → InR p.1 ∧ InR p.2) {a b : Int} (r : Reach ps a b) : InR a ∧ InR b := by
  obtain ⟨⟨y, hy⟩, x, hx⟩ := r.ends
  exact ⟨(h _ hy).1, (h _ hx).2⟩
theorem good_snoc {ps : List (Int × Int)} {p : Int × Int} : Good (ps ++ [p]) ↔ Good ps ∧ InR p.1 ∧ InR p.2 ∧ p.1 ≠ p.2 ∧ rb ps p.2 p.1 = false := by
  constructor
  · intro h
    refine ⟨⟨fun q hq => h.rng q (List.mem_append_left _ hq), fun v r => h.acy v (Reach.snoc.2 (.inl r))⟩, (h.rng p (by simp)).1, (h.rng p (by simp)).2, fun e => ?_, rb_false fun r => ?_⟩
    · exact h.acy p.1 (Reach.snoc.2 (.inr ⟨.inl rfl, .inl e⟩))
    · exact h.acy p.1 (Reach.snoc.2 (.inr ⟨.inl rfl, .inr r⟩))
  · rintro ⟨h, h1, h2, hne, hr⟩
    refine ⟨fun q hq => ?_, fun v r => ?_⟩
    · rcases List.mem_append.1 hq with hq | hq
      · exact h.rng q hq
      · obtain rfl := List.mem_singleton.1 hq
        exact ⟨h1, h2⟩
    · have hn : ¬ Reach ps p.2 p.1 := fun r => by rw [(rb_iff _ _ _).2 r] at hr; cases hr
      rcases Reach.snoc.1 r with r | ⟨r1, r2⟩
      · exact h.acy v r
      · rcases r1 with rfl | r1
        · rcases r2 with e | r2
          · exact hne e
          · exact hn r2
        · rcases r2 with rfl | r2
          · exact hn r1
          · exact hn (r2.trans r1)
theorem good_take {ps : List (Int × Int)} (h : Good ps) (k : Nat) : Good (ps.take k) :=
  ⟨fun p hp => h.rng p (List.mem_of_mem_take hp), fun v r => h.acy v (r.mono fun q hq => List.mem_of_mem_take hq)⟩

/-! ### the ten values -/
def vals : List Int := (List.range 10).map fun k : Nat => (k : Int)
theorem mem_vals {v : Int} : v ∈ vals ↔ InR v := by
  unfold vals InR
  rw [List.mem_map]
  constructor
  · rintro ⟨k, hk, rfl⟩
    have := List.mem_range.1 hk
    omega
  · rintro ⟨h1, h2⟩
    exact ⟨v.toNat, List.mem_range.2 (by omega), Int.toNat_of_nonneg h1⟩
theorem filter_lt {α : Type} {p q : α → Bool} : ∀ (l : List α), (∀ x, x ∈ l → p x = true → q x = true) → (∃ x, x ∈ l ∧ q x = true ∧ p x = false) → (l.filter p).length < (l.filter q).length
  | [], _, h => by obtain ⟨x, hx, _⟩ := h; cases hx
  | a :: r, h1, h2 => by
    have hle : ∀ (l : List α), (∀ x, x ∈ l → p x = true → q x = true) → (l.filter p).length ≤ (l.filter q).length := by
      intro l
      induction l with
      | nil => intro _; exact Nat.le_refl _
      | cons b s ih =>
        intro h
        have := ih fun x hx => h x (List.mem_cons_of_mem _ hx)
        cases hp : p b
        · cases hq : q b <;> simp [hp, hq] <;> omega
        · simp [hp, h b (by simp) hp]; omega
    obtain ⟨x, hx, hq, hp⟩ := h2
    rcases List.mem_cons.1 hx with rfl | hx
    · have := hle r fun y hy => h1 y (List.mem_cons_of_mem _ hy)
      simp [hp, hq]
      omega
    · have ih := filter_lt r (fun y hy => h1 y (List.mem_cons_of_mem _ hy)) ⟨x, hx, hq, hp⟩
      cases hpa : p a
      · cases hqa : q a <;> simp [hpa, hqa] <;> omega
      · simp [hpa, h1 a (by simp) hpa]; omega
/-- How many stand above. -/
def upN (ps : List (Int × Int)) (v : Int) : Nat := (vals.filter fun a => rb ps a v).length
theorem upN_le (ps : List (Int × Int)) (v : Int) : upN ps v ≤ 10 := by
  have := List.length_filter_le (fun a => rb ps a v) vals
  have h : vals.length = 10 := rfl
  unfold upN; omega
theorem upN_lt {ps : List (Int × Int)} (h : Good ps) {a v : Int} (r : Reach ps a v) : upN ps a < upN ps v := by
  refine filter_lt vals (fun x _ hx => (rb_iff _ _ _).2 (((rb_iff _ _ _).1 hx).trans r)) ⟨a, mem_vals.2 (reach_rng h.rng r).1, (rb_iff _ _ _).2 r, h.rb_self a⟩

/-! ### heights -/
/-- The longest way to v, of at most k steps. -/
def hgt (ps : List (Int × Int)) : Nat → Int → Nat
  | 0, _ => 0
  | k + 1, v => ps.foldl (fun n p => if p.2 = v then max n (hgt ps k p.1 + 1) else n) 0
/-- .. over the pairs of a list. -/
def hstep (ps : List (Int × Int)) (k : Nat) (v : Int) (l : List (Int × Int)) : Nat := l.foldl (fun n p => if p.2 = v then max n (hgt ps k p.1 + 1) else n) 0
theorem hgt_succ (ps : List (Int × Int)) (k : Nat) (v : Int) : hgt ps (k + 1) v = hstep ps k v ps := rfl
theorem hstep_nil (ps : List (Int × Int)) (k : Nat) (v : Int) : hstep ps k v [] = 0 := rfl
theorem hstep_snoc (ps : List (Int × Int)) (k : Nat) (v : Int) (l : List (Int × Int)) (p : Int × Int) : hstep ps k v (l ++ [p]) = if p.2 = v then max (hstep ps k v l) (hgt ps k p.1 + 1) else hstep ps k v l := by
  unfold hstep
  rw [List.foldl_append]
  rfl
theorem hstep_le {ps : List (Int × Int)} {k : Nat} (v : Int) (l : List (Int × Int)) {m : Nat} (h : ∀ p, p ∈ l → p.2 = v → hgt ps k p.1 + 1 ≤ m) : hstep ps k v l ≤ m := by
  induction l using list_snoc_ind with
  | h0 => exact Nat.zero_le _
  | hs l p ih =>
    rw [hstep_snoc]
    have := ih fun q hq => h q (List.mem_append_left _ hq)
    split
    · exact Nat.max_le.2 ⟨this, h p (by simp) (by assumption)⟩
    · exact this
theorem hstep_ge {ps : List (Int × Int)} {k : Nat} (v : Int) (l : List (Int × Int)) (p : Int × Int) (hp : p ∈ l) (hv : p.2 = v) : hgt ps k p.1 + 1 ≤ hstep ps k v l := by
  induction l using list_snoc_ind with
  | h0 => simp at hp
  | hs l q ih =>
    rw [hstep_snoc]
    rcases List.mem_append.1 hp with hp | hp
    · have := ih hp
      split
      · exact Nat.le_trans this (Nat.le_max_left _ _)
      · exact this
    · obtain rfl := List.mem_singleton.1 hp
      rw [if_pos hv]
      exact Nat.le_max_right _ _
theorem hgt_le (ps : List (Int × Int)) : ∀ (k : Nat) (v : Int), hgt ps k v ≤ k
  | 0, _ => Nat.le_refl _
  | k + 1, v => by
    rw [hgt_succ]
    exact hstep_le v ps fun p _ _ => by have := hgt_le ps k p.1; omega
/-- Enough steps are enough. -/
theorem hgt_enough {ps : List (Int × Int)} (h : Good ps) : ∀ (k : Nat) (v : Int), upN ps v < k → hgt ps (k + 1) v = hgt ps k v
  | 0, _, hk => by omega
  | k + 1, v, hk => by
    have hl : ∀ l : List (Int × Int), (∀ p, p ∈ l → p ∈ ps) → hstep ps (k + 1) v l = hstep ps k v l := by
      intro l
      induction l using list_snoc_ind with
      | h0 => intro _; rfl
      | hs l p ih =>
        intro hm
        rw [hstep_snoc, hstep_snoc, ih fun q hq => hm q (List.mem_append_left _ hq)]
        split
        · rename_i e
          have hr : Reach ps p.1 v := .one (by rw [← e]; exact hm p (by simp))
          have := upN_lt h hr
          rw [hgt_enough h k p.1 (by omega)]
        · rfl
    rw [hgt_succ, hgt_succ ps k]
    exact hl ps fun p hp => hp
def height (ps : List (Int × Int)) (v : Int) : Nat := hgt ps 11 v
theorem hgt_eq {ps : List (Int × Int)} (h : Good ps) (k : Nat) (v : Int) (hk : upN ps v < k) (hk' : k ≤ 11) : hgt ps k v = height ps v := by
  have : ∀ d, k + d ≤ 11 → hgt ps (k + d) v = hgt ps k v := by
    intro d
    induction d with
    | zero => intro _; rfl
    | succ d ih => intro hd; rw [← Nat.add_assoc, hgt_enough h (k + d) v (by omega), ih (by omega)]
  have := this (11 - k) (by omega)
  rw [show k + (11 - k) = 11 by omega] at this
  exact this.symm
theorem height_edge {ps : List (Int × Int)} (h : Good ps) {a b : Int} (hab : (a, b) ∈ ps) : height ps a < height ps b := by
  have hr : Reach ps a b := .one hab
  have h1 := upN_lt h hr
  have h2 := upN_le ps b
  have h3 : hgt ps 10 a + 1 ≤ hgt ps 11 b := by
    show hgt ps 10 a + 1 ≤ hstep ps 10 b ps
    exact hstep_ge (k := 10) b ps (a, b) hab rfl
  rw [hgt_eq h 10 a (by omega) (by omega)] at h3
  exact h3
theorem height_reach {ps : List (Int × Int)} (h : Good ps) {a b : Int} (r : Reach ps a b) : height ps a < height ps b := by
  induction r with
  | one e => exact height_edge h e
  | more e _ ih => exact Nat.lt_trans (height_edge h e) ih

/-! ### a linear order -/
theorem length_le_of_subset {α : Type} [DecidableEq α] : ∀ (l m : List α), l.Nodup → (∀ x, x ∈ l → x ∈ m) → l.length ≤ m.length
  | [], _, _, _ => Nat.zero_le _
  | a :: r, m, hn, hs => by
    obtain ⟨h1, h2⟩ := List.nodup_cons.1 hn
    have ha := hs a (by simp)
    have := length_le_of_subset r (m.erase a) h2 fun x hx => (List.mem_erase_of_ne (fun e => h1 (by rw [← e]; exact hx))).2 (hs x (List.mem_cons_of_mem _ hx))
    have hl := List.length_erase_of_mem ha
    have hp := List.length_pos_of_mem ha
    rw [List.length_cons]
    omega
def freeB (ps : List (Int × Int)) (out : List Int) (v : Int) : Bool := !out.contains v && vals.all fun a => !rb ps a v || out.contains a
theorem freeB_iff {ps : List (Int × Int)} (h : Good ps) {out : List Int} {v : Int} : freeB ps out v = true ↔ v ∉ out ∧ ∀ a, Reach ps a v → a ∈ out := by
  unfold freeB
  simp only [Bool.and_eq_true, Bool.not_eq_true', List.all_eq_true, Bool.or_eq_true]
  constructor
  · rintro ⟨h1, h2⟩
    refine ⟨by simpa using h1, fun a r => ?_⟩
    rcases h2 a (mem_vals.2 (reach_rng h.rng r).1) with e | e
    · rw [(rb_iff _ _ _).2 r] at e; cases e
    · simpa using e
  · rintro ⟨h1, h2⟩
    refine ⟨by simpa using h1, fun a _ => ?_⟩
    cases e : rb ps a v
    · exact .inl rfl
    · exact .inr (by simpa using h2 a ((rb_iff _ _ _).1 e))
/-- What is laid down is closed upwards. -/
structure UpSet (ps : List (Int × Int)) (out : List Int) : Prop where
  nodup : out.Nodup
  rng : ∀ v, v ∈ out → InR v
  up : ∀ v a, v ∈ out → Reach ps a v → a ∈ out
theorem UpSet.nil (ps : List (Int × Int)) : UpSet ps [] := ⟨List.nodup_nil, fun v h => by simp at h, fun v a h => by simp at h⟩
theorem UpSet.snoc {ps : List (Int × Int)} (h : Good ps) {out : List Int} (u : UpSet ps out) {v : Int} (hv : InR v) (hf : freeB ps out v = true) : UpSet ps (out ++ [v]) := by
  obtain ⟨h1, h2⟩ := (freeB_iff h).1 hf
  refine ⟨?_, fun x hx => ?_, fun x a hx r => ?_⟩
  · rw [List.nodup_append]
    exact ⟨u.nodup, by simp, fun a ha b hb e => h1 (by rw [← List.mem_singleton.1 hb, ← e]; exact ha)⟩
  · rcases List.mem_append.1 hx with hx | hx
    · exact u.rng x hx
    · rw [List.mem_singleton.1 hx]; exact hv
  · rcases List.mem_append.1 hx with hx | hx
    · exact List.mem_append_left _ (u.up x a hx r)
    · rw [List.mem_singleton.1 hx] at r
      exact List.mem_append_left _ (h2 a r)
theorem UpSet.le {ps : List (Int × Int)} {out : List Int} (u : UpSet ps out) : out.length ≤ 10 :=
  length_le_of_subset out vals u.nodup fun x hx => mem_vals.2 (u.rng x hx)
/-- In an upward closed set it is enough to look at the pairs. -/
theorem freeB_pairs {ps : List (Int × Int)} (h : Good ps) {out : List Int} (u : UpSet ps out) {v : Int} : freeB ps out v = true ↔ v ∉ out ∧ ∀ p, p ∈ ps → p.2 = v → p.1 ∈ out := by
  rw [freeB_iff h]
  constructor
  · rintro ⟨h1, h2⟩
    exact ⟨h1, fun p hp e => h2 p.1 (.one (by rw [← e]; exact hp))⟩
  · rintro ⟨h1, h2⟩
    refine ⟨h1, fun a r => ?_⟩
    obtain ⟨x, hx, hr⟩ := r.last
    have := h2 (x, v) hx rfl
    rcases hr with rfl | hr
    · exact this
    · exact u.up x a this hr
theorem free_some {ps : List (Int × Int)} (h : Good ps) {out : List Int} (u : UpSet ps out) (hl : out.length < 10) : ∃ v, InR v ∧ freeB ps out v = true := by
  have h0 : ∃ v, v ∈ vals ∧ v ∉ out := by
    refine Classical.byContradiction fun hn => ?_
    have := length_le_of_subset vals out (by decide) fun x hx => Classical.byContradiction fun hx' => hn ⟨x, hx, hx'⟩
    have h10 : vals.length = 10 := rfl
    omega
  obtain ⟨v0, hv0, hn0⟩ := h0
  have key : ∀ (n : Nat) (v : Int), upN ps v ≤ n → InR v → v ∉ out → ∃ v, InR v ∧ freeB ps out v = true := by
    intro n
    induction n with
    | zero =>
      intro v hn hv ho
      refine ⟨v, hv, (freeB_iff h).2 ⟨ho, fun a r => ?_⟩⟩
      have := upN_lt h r
      omega
    | succ n ih =>
      intro v hn hv ho
      by_cases hf : freeB ps out v = true
      · exact ⟨v, hv, hf⟩
      · have : ∃ a, Reach ps a v ∧ a ∉ out := by
          refine Classical.byContradiction fun hx => hf ((freeB_iff h).2 ⟨ho, fun a r => Classical.byContradiction fun ha => hx ⟨a, r, ha⟩⟩)
        obtain ⟨a, r, ha⟩ := this
        have := upN_lt h r
        exact ih a (by omega) (reach_rng h.rng r).1 ha
  exact key _ v0 (Nat.le_refl _) (mem_vals.1 hv0) hn0
/-- v is the smallest that is free. -/
def NextV (ps : List (Int × Int)) (out : List Int) (v : Int) : Prop := InR v ∧ freeB ps out v = true ∧ ∀ u, InR u → freeB ps out u = true → v ≤ u
theorem next_some {ps : List (Int × Int)} (h : Good ps) {out : List Int} (u : UpSet ps out) (hl : out.length < 10) : ∃ v, NextV ps out v := by
  obtain ⟨v, hv, hf⟩ := free_some h u hl
  have key : ∀ (n : Nat) (v : Int), v ≤ n → InR v → freeB ps out v = true → ∃ v, NextV ps out v := by
    intro n
    induction n with
    | zero =>
      intro v hn hv hf
      exact ⟨v, hv, hf, fun x hx _ => by unfold InR at *; omega⟩
    | succ n ih =>
      intro v hn hv hf
      by_cases hx : ∃ x, InR x ∧ freeB ps out x = true ∧ x < v
      · obtain ⟨x, hx, hxf, hlt⟩ := hx
        exact ih x (by omega) hx hxf
      · exact ⟨v, hv, hf, fun x hx' hxf => Classical.byContradiction fun hlt => hx ⟨x, hx', hxf, by omega⟩⟩
  exact key v.toNat v (by unfold InR at hv; omega) hv hf
theorem NextV.one {ps : List (Int × Int)} {out : List Int} {v v' : Int} (h : NextV ps out v) (h' : NextV ps out v') : v = v' := by
  have h1 := h.2.2 v' h'.1 h'.2.1
  have h2 := h'.2.2 v h.1 h.2.1
  omega
/-- The list that stands behind k choices. -/
inductive Lin (ps : List (Int × Int)) : Nat → List Int → Prop
  | nil : Lin ps 0 []
  | snoc {k : Nat} {out : List Int} {v : Int} (h : Lin ps k out) (hv : NextV ps out v) : Lin ps (k + 1) (out ++ [v])
theorem Lin.up {ps : List (Int × Int)} (hg : Good ps) {k : Nat} {out : List Int} (h : Lin ps k out) : UpSet ps out ∧ out.length = k := by
  induction h with
  | nil => exact ⟨.nil _, rfl⟩
  | snoc _ hv ih => exact ⟨ih.1.snoc hg hv.1 hv.2.1, by simp [ih.2]⟩
theorem Lin.one {ps : List (Int × Int)} : ∀ {k : Nat} {o o' : List Int}, Lin ps k o → Lin ps k o' → o = o'
  | 0, _, _, .nil, .nil => rfl
  | _ + 1, _, _, .snoc h hv, .snoc h' hv' => by
    obtain rfl := h.one h'
    rw [hv.one hv']
theorem Lin.next {ps : List (Int × Int)} (hg : Good ps) {k : Nat} {out : List Int} (h : Lin ps k out) (hk : k < 10) : ∃ v, NextV ps out v := by
  obtain ⟨u, hl⟩ := h.up hg
  exact next_some hg u (by omega)
/-- Nobody stands behind one that is below it. -/
theorem Lin.order {ps : List (Int × Int)} (hg : Good ps) {k : Nat} {out : List Int} (h : Lin ps k out) : ∀ (i j : Nat) (x y : Int), i < j → out[i]? = some x → out[j]? = some y → x ≠ y ∧ ¬ Reach ps y x := by
  induction h with
  | nil => intro i j x y _ hx; simp at hx
  | @snoc k out v h hv ih =>
    intro i j x y hij hx hy
    have hf := (freeB_iff hg).1 hv.2.1
    have hj : j < (out ++ [v]).length := by
      rcases Nat.lt_or_ge j (out ++ [v]).length with h' | h'
      · exact h'
      · rw [List.getElem?_eq_none h'] at hy; cases hy
    have hi : i < out.length := by simp at hj; omega
    rw [List.getElem?_append_left hi] at hx
    have hxm := List.mem_of_getElem? hx
    rcases Nat.lt_or_ge j out.length with h' | h'
    · rw [List.getElem?_append_left h'] at hy
      exact ih i j x y hij hx hy
    · have hjl : j = out.length := by simp at hj; omega
      subst hjl
      rw [List.getElem?_append_right (Nat.le_refl _)] at hy
      simp at hy
      subst hy
      refine ⟨fun e => hf.1 (e ▸ hxm), fun r => hf.1 ((h.up hg).1.up x v hxm r)⟩

/-! ### the closure -/
def rowsOf (ps : List (Int × Int)) (l : List (Int × Int)) : List (Int × Int) := l.filter fun p => rb ps p.1 p.2
/-- All couples of values, in order. -/
def grid : List (Int × Int) := (List.range 100).map fun k => (((k / 10 : Nat) : Int), ((k % 10 : Nat) : Int))
/-- The closure's first part: those of the first k couples. -/
def clo (ps : List (Int × Int)) (k : Nat) : List (Int × Int) := rowsOf ps (grid.take k)
theorem grid_at {a b : Nat} (ha : a < 10) (hb : b < 10) : grid[a * 10 + b]? = some ((a : Int), (b : Int)) := by
  unfold grid
  rw [List.getElem?_map, List.getElem?_range (by omega)]
  simp only [Option.map_some]
  rw [show (a * 10 + b) / 10 = a by omega, show (a * 10 + b) % 10 = b by omega]
theorem clo_zero (ps : List (Int × Int)) : clo ps 0 = [] := rfl
theorem clo_succ (ps : List (Int × Int)) {a b : Nat} (ha : a < 10) (hb : b < 10) : clo ps (a * 10 + (b + 1)) = if rb ps a b = true then clo ps (a * 10 + b) ++ [((a : Int), (b : Int))] else clo ps (a * 10 + b) := by
  unfold clo rowsOf
  rw [← Nat.add_assoc, List.take_add_one, grid_at ha hb, List.filter_append]
  cases h : rb ps a b <;> simp [h]
theorem clo_len (ps : List (Int × Int)) (k : Nat) : (clo ps k).length ≤ 100 := by
  unfold clo rowsOf
  have h1 := List.length_filter_le (fun p : Int × Int => rb ps p.1 p.2) (grid.take k)
  have h2 : (grid.take k).length ≤ 100 := by
    rw [List.length_take]
    have : grid.length = 100 := by unfold grid; simp
    omega
  omega
theorem clo_mem {ps : List (Int × Int)} (h : Good ps) {p : Int × Int} : p ∈ clo ps 100 ↔ Reach ps p.1 p.2 := by
  have hl : grid.length = 100 := by unfold grid; simp
  unfold clo rowsOf
  rw [List.take_of_length_le (by omega), List.mem_filter, rb_iff]
  constructor
  · exact fun h => h.2
  · intro r
    refine ⟨?_, r⟩
    obtain ⟨h1, h2⟩ := reach_rng h.rng r
    unfold InR at h1 h2
    have := grid_at (a := p.1.toNat) (b := p.2.toNat) (by omega) (by omega)
    have hm := List.mem_of_getElem? this
    rw [show ((p.1.toNat : Nat) : Int) = p.1 by omega, show ((p.2.toNat : Nat) : Int) = p.2 by omega] at hm
    exact hm
end Go.Proofs.Ytalgfiefadfmnaa.num
namespace Go.Proofs.Ytalgfiefadfmnaa.num
open Go.RowKit
set_option linter.unusedVariables false

/-- A slice of pairs that reads as ps, below block B. -/
def Pairs (w : World) (B : Nat) (A : Option Addr) (n : Nat) (ps : List (Int × Int)) : Prop :=
  ps.length = n ∧ ∀ k p, ps[k]? = some p → ∃ b off : Nat, A = some ⟨b, off, none⟩ ∧ b < B ∧ w.cell? ⟨b, off + k * 2, none⟩ = some (.int .i64 p.1) ∧ w.cell? ⟨b, off + k * 2 + 1, none⟩ = some (.int .i64 p.2)
theorem Pairs.below {w w' : World} {B : Nat} {A : Option Addr} {n : Nat} {ps : List (Int × Int)} (h : Pairs w B A n ps) (hb : Below B w w') : Pairs w' B A n ps :=
  ⟨h.1, fun k p hk => by
    obtain ⟨b, off, ha, hB, h1, h2⟩ := h.2 k p hk
    exact ⟨b, off, ha, hB, (hb.cell (p := ⟨b, off + k * 2, none⟩) hB).trans h1, (hb.cell (p := ⟨b, off + k * 2 + 1, none⟩) hB).trans h2⟩⟩
theorem Pairs.more {w : World} {B B' : Nat} {A : Option Addr} {n : Nat} {ps : List (Int × Int)} (h : Pairs w B A n ps) (hB : B ≤ B') : Pairs w B' A n ps :=
  ⟨h.1, fun k p hk => by
    obtain ⟨b, off, ha, hb, hc⟩ := h.2 k p hk
    exact ⟨b, off, ha, by omega, hc⟩⟩
theorem Pairs.at {w : World} {B : Nat} {A : Option Addr} {n : Nat} {ps : List (Int × Int)} (h : Pairs w B A n ps) (k : Nat) (hk : k < n) :
    ∃ (b off : Nat) (x y : Int), A = some ⟨b, off, none⟩ ∧ b < B ∧ ps[k]? = some (x, y) ∧ w.cell? ⟨b, off + k * 2, none⟩ = some (.int .i64 x) ∧ w.cell? ⟨b, off + k * 2 + 1, none⟩ = some (.int .i64 y) := by
  have hl := h.1
  have hg : ps[k]? = some (ps[k]'(by omega)) := List.getElem?_eq_getElem _
  obtain ⟨b, off, h1, h2, h3, h4⟩ := h.2 k _ hg
  exact ⟨b, off, _, _, h1, h2, hg, h3, h4⟩

/-- Cell j of the block of a slice of pairs; behind the last: zero. -/
def pairCell (ps : List (Int × Int)) (j : Nat) : Value :=
  match ps[j / 2]? with
  | some p => if j % 2 = 0 then .int .i64 p.1 else .int .i64 p.2
  | none => .int .i64 0
theorem pairCell_even {ps : List (Int × Int)} {k : Nat} {p : Int × Int} (h : ps[k]? = some p) : pairCell ps (k * 2) = .int .i64 p.1 := by
  unfold pairCell
  rw [Nat.mul_div_cancel _ (by decide), h]
  simp
theorem pairCell_odd {ps : List (Int × Int)} {k : Nat} {p : Int × Int} (h : ps[k]? = some p) : pairCell ps (k * 2 + 1) = .int .i64 p.2 := by
  unfold pairCell
  rw [show (k * 2 + 1) / 2 = k by omega, h]
  simp only
  rw [if_neg (by omega)]
theorem pairCell_none {ps : List (Int × Int)} {j : Nat} (h : ps.length ≤ j / 2) : pairCell ps j = .int .i64 0 := by
  unfold pairCell
  rw [List.getElem?_eq_none h]
theorem pairCell_snoc {ps : List (Int × Int)} {k : Nat} (h : ps.length = k) (p : Int × Int) (j : Nat) :
    (if j = k * 2 + 1 then .int .i64 p.2 else if j = k * 2 then .int .i64 p.1 else pairCell ps j) = pairCell (ps ++ [p]) j := by
  have hk : (ps ++ [p])[k]? = some p := by rw [List.getElem?_append_right (by omega)]; simp [h]
  by_cases h1 : j = k * 2 + 1
  · subst h1
    rw [if_pos rfl, pairCell_odd hk]
  · by_cases h2 : j = k * 2
    · subst h2
      rw [if_neg h1, if_pos rfl, pairCell_even hk]
    · rw [if_neg h1, if_neg h2]
      have hj : j / 2 ≠ k := by omega
      unfold pairCell
      rcases Nat.lt_or_ge (j / 2) k with h3 | h3
      · rw [List.getElem?_append_left (by omega)]
      · rw [List.getElem?_eq_none (by omega), List.getElem?_eq_none (by simp; omega)]
/-- Block b is a row of pairs of the call's own. -/
def PairRow (w : World) (b : Nat) (ps : List (Int × Int)) : Prop := w.rowIs b 102 (ps.length * 2) (pairCell ps)
theorem PairRow.lt {w : World} {b : Nat} {ps : List (Int × Int)} (h : PairRow w b ps) : b < w.heap.size := World.rowIs.lt h
theorem PairRow.below {w w' : World} {b B : Nat} {ps : List (Int × Int)} (h : PairRow w b ps) (hb : Below B w w') (hB : b < B) : PairRow w' b ps := World.rowIs.of_block h (hb.block b hB)
theorem PairRow.pairs {w : World} {b B : Nat} {ps : List (Int × Int)} (h : PairRow w b ps) (hB : b < B) : Pairs w B (some ⟨b, 0, none⟩) ps.length ps :=
  ⟨rfl, fun k p hk => by
    have hlt : k < ps.length := by
      rcases Nat.lt_or_ge k ps.length with h' | h'
      · exact h'
      · rw [List.getElem?_eq_none h'] at hk; cases hk
    refine ⟨b, 0, rfl, hB, ?_, ?_⟩
    · rw [Nat.zero_add, World.rowIs.cell h (by omega), pairCell_even hk]
    · rw [Nat.zero_add, World.rowIs.cell h (by omega), pairCell_odd hk]⟩
theorem ptake_at {α : Type} {l : List α} {k : Nat} {t : α} (h : l[k]? = some t) : l.take (k + 1) = l.take k ++ [t] := by
  rw [List.take_add_one, h]; rfl
theorem ptake_all {α : Type} {l : List α} {n : Nat} (h : l.length = n) : l.take n = l := List.take_of_length_le (by omega)
theorem info_pair : (Try.prog.info? 102).map (fun i => (i.zero, i.size, i.bytes)) = some (some (.agg #[.int .i64 0, .int .i64 0]), 2, 16) := by kernel_rfl
theorem make_pairs (n : Nat) (hn : n ≤ 1048576) (w : World) :
    (Instr.makeSlice 25 (.int .i64 (n : Int)) (.int .i64 (n : Int))).run Try.prog w = .ok (.slice (some ⟨w.heap.size, 0, none⟩) n n) (w.alloc (.cells (madeCells #[.int .i64 0, .int .i64 0] (n * 2)) 102)) := by
  obtain ⟨i, hi, hzz⟩ := Option.map_eq_some_iff.1 info_pair
  simp only [Prod.mk.injEq] at hzz
  obtain ⟨hz, hs, hb⟩ := hzz
  have hr := run_make (P := Try.prog) w _ _ i _ Try.underlying25 hi hz .i64 .i64 n n (by omega) (Int.le_refl _) (by rw [hb]; omega) (by omega)
  rw [hs] at hr
  simp only [Int.toNat_natCast] at hr
  exact hr
theorem made_pairs (w : World) (n : Nat) : (w.alloc (.cells (madeCells #[.int .i64 0, .int .i64 0] (n * 2)) 102)).rowIs w.heap.size 102 (n * 2) (pairCell []) :=
  ⟨_, heap_alloc_new w _, size_madeCells _ _, fun i hi => by
    have h : (madeCells #[.int .i64 0, .int .i64 0] (n * 2))[i]? = some (#[(.int .i64 0 : Value), .int .i64 0][i % 2]!) := by simp [madeCells, hi]
    rw [h]
    unfold pairCell
    rcases Nat.mod_two_eq_zero_or_one i with h1 | h1 <;> rw [h1] <;> rfl⟩

theorem szPairs (A : Option Addr) (n c : Nat) (left : Int) (hn : n ≤ 9223372036854775807) (h0 : 0 ≤ left) (h1 : left ≤ 1048576) (w : World) :
    Calls Try.prog 43 #[.slice A n c, .int .i64 left] w fun e w' => (∃ r : Int, e = .returned (.int .i64 r) ∧ (r = -1 ∨ (0 ≤ r ∧ r ≤ left ∧ (n : Int) ≤ left))) ∧ w = w' := by
  by_cases hle : (n : Int) ≤ left
  · go_enter Try.func43, Try.ntmps43
    go_wp2
    go_ret
    exact ⟨⟨_, rfl, .inr ⟨by omega, by omega, hle⟩⟩, rfl⟩
  · go_enter Try.func43, Try.ntmps43
    go_wp2
    go_ret
    exact ⟨⟨_, rfl, .inl rfl⟩, rfl⟩
theorem pheap_mid (w : World) (o1 o2 o3 : Obj) : (((w.alloc o1).alloc o2).alloc o3).heap[w.heap.size + 1]? = some o2 := by
  rw [Below.heap_alloc _ _ _ (by simp)]
  exact heap_alloc2_new w o1 o2
theorem toPair_c (w : World) (x y : Int) :
    Calls Try.prog 61 #[.agg #[.int .i64 x, .int .i64 y]] w fun e w' => e = .returned (.agg #[.int .i64 x, .int .i64 y]) ∧ Below w.heap.size w w' := by
  go_enter Try.func61, Try.ntmps61
  go_wp2
  refine bodyPost_ret_by (results_cell_row rfl _ _ (w.heap.size + 1) 102 _ (0, 0) _ rfl (pheap_mid _ _ _ _) Try.underlying102 rfl (by kernel_rfl)) rfl ?_
  exact ⟨rfl, (((Below.refl _ w).alloc (Nat.le_refl _) _).alloc (by simp) _).alloc (by simp; omega) _⟩
theorem toPairs (w : World) (B : Nat) (A : Option Addr) (n c : Nat) (ps : List (Int × Int)) (hi : Pairs w B A n ps) (hB : B ≤ w.heap.size) (hn : n ≤ 1048576) :
    Calls Try.prog 45 #[.slice A n c] w fun e w' => e = .returned (.slice (some ⟨w.heap.size, 0, none⟩) n n) ∧ PairRow w' w.heap.size ps ∧ Below w.heap.size w w' := by
  have HX := Lib.hid hi
  have hmk := make_pairs n hn
  clear hi
  go_enter Try.func45, Try.ntmps45
  go_wp2
  clear hmk
  go_loopw [4] (fun i wr => ∃ k : Nat, k ≤ n ∧ i = .int .i64 k ∧ wr.rowIs w.heap.size 102 (n * 2) (pairCell (ps.take k)) ∧ Below w.heap.size w wr) (fun i _ => n - (intOf i).toNat)
  case atStart => exact ⟨0, Nat.zero_le _, rfl, made_pairs w n, (Below.refl _ _).alloc (Nat.le_refl _) _⟩
  case round =>
    obtain ⟨k, hk, rfl, hrow, hbel⟩ := hrel
    have HR := Lib.hid hrow
    have HB := Lib.hid hbel
    by_cases hlt : k < n
    · obtain ⟨b, off, x, y, rfl, hb, hat, hc1, hc2⟩ := HX.out.at k hlt
      have g1 := (hbel.cell (p := ⟨b, off + k * 2, none⟩) (by exact Nat.lt_of_lt_of_le hb hB)).trans hc1
      have g2 := (hbel.cell (p := ⟨b, off + k * 2 + 1, none⟩) (by exact Nat.lt_of_lt_of_le hb hB)).trans hc2
      have HT := Lib.hid hat
      have hlk : Hid ((ps.take k).length = k) := Lib.hid (by rw [List.length_take, HX.out.1]; omega)
      clear hat hc1 hc2 hbel hrow
      go_wp2_with fail
      refine (toPair_c wr x y).mono ?_
      rintro e w1 ⟨rfl, hb1⟩
      have hrow1 := World.rowIs.of_block HR.out (hb1.block _ (World.rowIs.lt HR.out))
      have q1 : w1.cell? ⟨w.heap.size, k * 2, none⟩ = some (.int .i64 0) := by rw [World.rowIs.cell hrow1 (by omega), pairCell_none (by rw [hlk.out]; omega)]
      have q2 : w1.cell? ⟨w.heap.size, k * 2 + 1, none⟩ = some (.int .i64 0) := by rw [World.rowIs.cell hrow1 (by omega), pairCell_none (by rw [hlk.out]; omega)]
      have q3 := World.rowIs.frozen hrow1 (k * 2)
      have q4 := World.rowIs.frozen hrow1 (k * 2 + 1)
      have HR1 := Lib.hid hrow1
      have HB1 := Lib.hid (HB.out.trans (hb1.mono HB.out.size))
      clear hrow1 hb1 g1 g2
      go_wp2
      go_roundw
      case rel =>
        refine ⟨k + 1, by omega, by go_num, ?_, (HB1.out.setCell (Nat.le_refl _) _).setCell (Nat.le_refl _) _⟩
        rw [ptake_at HT.out]
        exact (World.rowIs.set (World.rowIs.set HR1.out (k * 2) (.int .i64 x)) (k * 2 + 1) (.int .i64 y)).congr (fun j _ => pairCell_snoc hlk.out (x, y) j)
      case measure => simp [intOf]; omega
    · obtain rfl : k = n := by omega
      clear hrow hbel
      go_wp2
      go_ret
      refine ⟨rfl, ?_, HB.out⟩
      have h := HR.out
      rw [ptake_all HX.out.1] at h
      unfold PairRow
      rw [HX.out.1]; exact h
end Go.Proofs.Ytalgfiefadfmnaa.num
namespace Go.Proofs.Ytalgfiefadfmnaa.num
open Go.RowKit

/-- A copy of the items its at block b, of the call's own, each slice short. -/
structure Copy (w : World) (b : Nat) (n : Nat) (its its' : List It) : Prop where
  fresh : Fresh w b its'
  dat : its'.map It.dat = its.map It.dat
  len : its'.length = n
  small : ∀ t ∈ its', t.n ≤ 1048576
theorem copy_of {w w0 : World} {B : Nat} {A : Option Addr} {b n : Nat} {its its' : List It} (_hn : n ≤ 1048576) (hN : ∀ t ∈ its, t.n ≤ 1048576) (hi : Items w0 B A n its) (hd : its'.map It.dat = its.map It.dat) (hf : Fresh w b its') : Copy w b n its its' :=
  ⟨hf, hd, by have := congrArg List.length hd; simpa [hi.1] using this, fun t ht => by
    obtain ⟨bk, _, _, h3, _, _⟩ := hf.own t ht
    have hm : t.dat ∈ its.map It.dat := hd ▸ List.mem_map.2 ⟨t, ht, rfl⟩
    obtain ⟨u, hu, he⟩ := List.mem_map.1 hm
    have hux : u.xs = t.xs := congrArg Prod.snd he
    obtain ⟨k, hk, rfl⟩ := List.getElem_of_mem hu
    obtain ⟨_, _, _, _, _, _, h5⟩ := hi.2 k hk
    rw [h3, ← hux, h5.1]
    exact hN _ hu⟩
theorem Copy.below {w w' : World} {b n : Nat} {its its' : List It} (h : Copy w b n its its') (hb : Below w.heap.size w w') : Copy w' b n its its' := ⟨h.fresh.below hb, h.dat, h.len, h.small⟩
theorem Copy.items {w : World} {b n : Nat} {its its' : List It} (h : Copy w b n its its') : Items w w.heap.size (some ⟨b, 0, none⟩) n its' := h.len ▸ h.fresh.items (Nat.le_refl _)
theorem bool_of (p : Prop) : ∃ b : Bool, b = true ↔ p := by
  by_cases h : p
  · exact ⟨true, by simp [h]⟩
  · exact ⟨false, by simp [h]⟩
theorem ne_len {α β : Type} {f : α → β} {l l' : List α} (h : l.length ≠ l'.length) : l.map f ≠ l'.map f := fun e => h (by simpa using congrArg List.length e)
theorem ne_dat {l l' : List It} {k : Nat} {t t' : It} (h1 : l[k]? = some t) (h2 : l'[k]? = some t') (h : t.dat ≠ t'.dat) : l.map It.dat ≠ l'.map It.dat := fun e => h (by
  have := congrArg (·[k]?) e
  simpa [h1, h2] using this)

end Go.Proofs.Ytalgfiefadfmnaa.num
namespace Go.Proofs.Ytalgfiefadfmnaa.num
open Go.RowKit

/-- What makes an item: three values from 0 to 9, a number from 0 to 99. -/
def IsP (d : Int × List Int) : Prop := (∀ v ∈ d.2, 0 ≤ v ∧ v ≤ 9) ∧ (0 ≤ d.1 ∧ d.1 ≤ 99) ∧ d.2.length = 3

theorem in_of (x lo hi : Int) (b : Bool) (hb : b = true ↔ lo ≤ x ∧ x ≤ hi) (w : World) :
    Calls Try.prog 34 #[.int .i64 x, .int .i64 lo, .int .i64 hi] w fun e w' => e = .returned (.bool b) ∧ w = w' := by
  obtain rfl : b = (decide (lo ≤ x) && decide (x ≤ hi)) := by rw [Bool.eq_iff_iff]; simpa using hb
  clear hb
  by_cases h1 : lo ≤ x
  · go_enter Try.func34, Try.ntmps34
    go_wp2
    go_ret
    exact ⟨by simp [h1], rfl⟩
  · go_enter Try.func34, Try.ntmps34
    go_wp2
    go_ret
    exact ⟨by simp; omega, rfl⟩

theorem sIsItem (w : World) (B : Nat) (t : It) (hi : Ints w B t.A t.n t.xs) (hB : B ≤ w.heap.size) (hn : t.n ≤ 1048576) (b : Bool) (hb : b = true ↔ IsP t.dat) :
    Calls Try.prog 41 #[t.val] w fun e w' => e = .returned (.bool b) ∧ Below w.heap.size w w' := by
  obtain ⟨id, A, n, c, xs⟩ := t
  unfold It.val
  simp only [It.dat, IsP] at hi hn hb ⊢
  have HX := Lib.hid hi
  have HBo := Lib.hid hb
  clear hi hb
  go_enter Try.func41, Try.ntmps41
  go_wp2
  go_loopw [3] (fun i wr => ∃ k : Nat, k ≤ n ∧ i = .int .i64 k ∧ (∀ v ∈ xs.take k, 0 ≤ v ∧ v ≤ 9) ∧ wr = w.alloc (.cells #[.int .i64 id, .slice A n c] 36)) (fun i _ => n - (intOf i).toNat)
  case atStart => exact ⟨0, Nat.zero_le _, rfl, by simp, rfl⟩
  case round =>
    obtain ⟨k, hk, rfl, hall, rfl⟩ := hrel
    have HA := Lib.hid hall
    clear hall
    by_cases hlt : k < n
    · obtain ⟨b1, off, rfl, hb1, hc⟩ := HX.out.2 k hlt
      have hc' := (World.cell?_alloc_past (w := w) (.cells #[.int .i64 id, .slice (some ⟨b1, off, none⟩) n c] 36) b1 (off + k) (by omega)).trans hc
      obtain ⟨v, hv⟩ : ∃ v, xs.getD k 0 = v := ⟨_, rfl⟩
      rw [hv] at hc'
      have HV := Lib.hid hv
      obtain ⟨q, hq⟩ := bool_of (0 ≤ v ∧ v ≤ 9)
      have HQ := Lib.hid hq
      clear hc hv hq
      go_wp2_with fail
      refine (in_of v 0 9 q HQ.out _).mono ?_
      rintro e w1 ⟨rfl, rfl⟩
      cases q
      · obtain rfl : b = false := by
          cases b
          · rfl
          · refine absurd ((HBo.out.1 rfl).1 v ?_) (fun h => by have := HQ.out.2 h; cases this)
            rw [← HV.out, List.getD_eq_getElem?_getD, List.getElem?_eq_getElem (by rw [HX.out.1]; exact hlt)]
            exact List.getElem_mem _
        go_wp2
        go_ret
        exact ⟨rfl, (Below.refl _ _).alloc (Nat.le_refl _) _⟩
      · have HD := Lib.hid (HQ.out.1 rfl)
        go_wp2
        go_roundw
        case rel =>
          refine ⟨k + 1, by omega, by go_num, ?_, by first | rfl | trivial⟩
          rw [take_snoc_getD HX.out.1 hlt, HV.out]
          intro u hu
          rcases List.mem_append.1 hu with h | h
          · exact HA.out u h
          · obtain rfl := List.mem_singleton.1 h
            exact HD.out
        case measure => simp [intOf]; omega
    · obtain rfl : k = n := by omega
      obtain ⟨q, hq⟩ := bool_of (0 ≤ id ∧ id ≤ 99)
      have HQ := Lib.hid hq
      clear hq
      obtain ⟨q3, hq3⟩ := bool_of (k = 3)
      have HQ3 := Lib.hid hq3
      clear hq3
      have HE : Hid (b = (q && q3)) := by
        show _ = _
        have h1 := HA.out
        rw [take_all HX.out.1] at h1
        rw [Bool.eq_iff_iff, HBo.out, Bool.and_eq_true, HQ.out, HQ3.out, HX.out.1]
        exact ⟨fun h => h.2, fun h => ⟨h1, h⟩⟩
      go_wp2_with fail
      refine (in_of id 0 99 q HQ.out _).mono ?_
      rintro e w1 ⟨rfl, rfl⟩
      cases q
      · go_wp2
        go_ret
        exact ⟨by rw [HE.out]; rfl, (Below.refl _ _).alloc (Nat.le_refl _) _⟩
      · cases q3
        · have h3 : ((k : Int) == 3) = false := by
            have := HQ3.out
            simp at this
            simp; omega
          go_wp2
          go_ret
          exact ⟨by rw [HE.out]; rfl, (Below.refl _ _).alloc (Nat.le_refl _) _⟩
        · obtain rfl := HQ3.out.1 rfl
          go_wp2
          go_ret
          exact ⟨by rw [HE.out]; rfl, (Below.refl _ _).alloc (Nat.le_refl _) _⟩
end Go.Proofs.Ytalgfiefadfmnaa.num
namespace Go.Proofs.Ytalgfiefadfmnaa.num
open Go.RowKit

/-- Every block but b, and every block from the end on, is as it was. -/
def marks (k : Nat) (n : Nat) : List Int := (List.range n).map fun j => ((k + j : Nat) : Int)
theorem marks_len (k n : Nat) : (marks k n).length = n := by simp [marks]
theorem marks_get {k n j : Nat} (h : j < n) : (marks k n).getD j 0 = ((k + j : Nat) : Int) := by
  rw [List.getD_eq_getElem?_getD]
  simp [marks, h]
/-- w' is w but for block b. -/
structure Only (b : Nat) (w w' : World) : Prop where
  os : w'.os = w.os
  tape : w'.tape = w.tape
  output : w'.output = w.output
  size : w'.heap.size = w.heap.size
  block : ∀ k, k ≠ b → w'.heap[k]? = w.heap[k]?
theorem Only.refl (b : Nat) (w : World) : Only b w w := ⟨rfl, rfl, rfl, rfl, fun _ _ => rfl⟩
theorem Only.set {b : Nat} {w w' : World} (h : Only b w w') (j : Nat) (v : Value) : Only b w (w'.setCell ⟨b, j, none⟩ v) :=
  ⟨h.os, h.tape, h.output, by simpa [World.setCell] using h.size, fun k hk => (Below.heap_setCell w' ⟨b, j, none⟩ v k hk).trans (h.block k hk)⟩
theorem Only.below {b B : Nat} {w w' : World} (h : Only b w w') (hB : B ≤ b) : Below B w w' :=
  ⟨h.os, h.tape, h.output, by rw [h.size]; exact Nat.le_refl _, fun k hk => h.block k (by omega)⟩

/-- Below bx and from S on as it was. -/
structure Mid (bx S : Nat) (w w' : World) : Prop where
  os : w'.os = w.os
  tape : w'.tape = w.tape
  output : w'.output = w.output
  size : w'.heap.size = w.heap.size
  block : ∀ k, k < bx ∨ S ≤ k → w'.heap[k]? = w.heap[k]?
theorem Mid.refl (bx S : Nat) (w : World) : Mid bx S w w := ⟨rfl, rfl, rfl, rfl, fun _ _ => rfl⟩
theorem Mid.only {bx S b : Nat} {w w' w'' : World} (h : Mid bx S w w') (g : Only b w' w'') (h1 : bx ≤ b) (h2 : b < S) : Mid bx S w w'' :=
  ⟨g.os.trans h.os, g.tape.trans h.tape, g.output.trans h.output, g.size.trans h.size, fun k hk => (g.block k (by omega)).trans (h.block k hk)⟩
theorem Mid.below {bx S : Nat} {w w' : World} (h : Mid bx S w w') : Below bx w w' :=
  ⟨h.os, h.tape, h.output, by rw [h.size]; exact Nat.le_refl _, fun k hk => h.block k (.inl hk)⟩
/-- A row of ints behind a call that marked one. -/
def Slot (w : World) (bx S : Nat) (t : It) : Prop := ∃ bk ys, t.A = some ⟨bk, 0, none⟩ ∧ bx < bk ∧ bk < S ∧ ys.length = t.n ∧ IntRow w bk ys
theorem row_len {w : World} {b n m : Nat} {t s : TypeId} {f g : Nat → Value} (h : w.rowIs b t n f) (k : w.rowIs b s m g) : n = m := by
  obtain ⟨c, h1, h2, _⟩ := h
  obtain ⟨d, k1, k2, _⟩ := k
  rw [h1] at k1
  injection k1 with k1
  injection k1 with k1
  rw [← h2, ← k2, k1]
theorem Slot.only {w w' : World} {bx S b k0 n : Nat} {t : It} {xs : List Int} (h : Slot w bx S t) (h0 : IntRow w b xs) (hl : xs.length = n) (h1 : IntRow w' b (marks k0 n)) (g : Only b w w') : Slot w' bx S t := by
  obtain ⟨bk, ys, a1, a2, a3, a4, a5⟩ := h
  by_cases e : bk = b
  · subst e
    have := row_len a5 h0
    exact ⟨bk, marks k0 n, a1, a2, a3, by rw [marks_len]; omega, h1⟩
  · exact ⟨bk, ys, a1, a2, a3, a4, World.rowIs.of_block a5 (g.block bk e)⟩
theorem Slot.set {w : World} {bx S : Nat} {t : It} (h : Slot w bx S t) (j : Nat) (v : Value) : Slot (w.setCell ⟨bx, j, none⟩ v) bx S t := by
  obtain ⟨bk, ys, a1, a2, a3, a4, a5⟩ := h
  exact ⟨bk, ys, a1, a2, a3, a4, World.rowIs.setOther a5 (by show bk ≠ bx; omega) v⟩
/-- What stays of the row of items while it is marked. -/
def MarkRow (w : World) (bx n : Nat) (its : List It) : Prop := ∃ f, w.rowIs bx 36 (n * 2) f ∧ ∀ j t, its[j]? = some t → f (j * 2 + 1) = .slice t.A t.n t.c ∧ ∃ z, f (j * 2) = .int .i64 z
theorem MarkRow.set {w : World} {bx n k : Nat} {its : List It} (h : MarkRow w bx n its) (z : Int) : MarkRow (w.setCell ⟨bx, k * 2, none⟩ (.int .i64 z)) bx n its := by
  obtain ⟨f, h1, h2⟩ := h
  refine ⟨_, World.rowIs.set h1 _ _, fun j t ht => ?_⟩
  obtain ⟨a, z', b⟩ := h2 j t ht
  refine ⟨by rw [if_neg (by omega)]; exact a, ?_⟩
  by_cases e : j = k
  · exact ⟨z, by rw [if_pos (by omega)]⟩
  · exact ⟨z', by rw [if_neg (by omega)]; exact b⟩
theorem MarkRow.only {w w' : World} {bx n b : Nat} {its : List It} (h : MarkRow w bx n its) (g : Only b w w') (hb : bx ≠ b) : MarkRow w' bx n its := by
  obtain ⟨f, h1, h2⟩ := h
  exact ⟨f, World.rowIs.of_block h1 (g.block bx hb), h2⟩
theorem mark_start {w : World} {bx n : Nat} {its its0 : List It} (h : Copy w bx n its0 its) : MarkRow w bx n its :=
  ⟨_, by have := h.fresh.row; rw [h.len] at this; exact this, fun j t ht => ⟨itemCell_odd ht, _, itemCell_even ht⟩⟩
theorem slot_start {w : World} {bx n : Nat} {its its0 : List It} (h : Copy w bx n its0 its) : ∀ t ∈ its, Slot w bx w.heap.size t := fun t ht => by
  obtain ⟨bk, a1, a2, a3, _, a5⟩ := h.fresh.own t ht
  exact ⟨bk, t.xs, a1, a2, a5.lt, a3.symm, a5⟩

theorem Slot.below {w w' : World} {bx S : Nat} {t : It} (h : Slot w bx S t) (hb : Below S w w') : Slot w' bx S t := by
  obtain ⟨bk, ys, a1, a2, a3, a4, a5⟩ := h
  exact ⟨bk, ys, a1, a2, a3, a4, a5.below hb a3⟩
theorem Mid.row {w w' : World} {bx S b : Nat} {xs : List Int} (h : Mid bx S w w') (hx : IntRow w b xs) (hS : S ≤ b) : IntRow w' b xs := World.rowIs.of_block hx (h.block b (.inr hS))
/-- eqIntS, the world behind it told as 'Below'. -/
theorem eqInts_b (w : World) (B : Nat) (A A' : Option Addr) (n n' c c' : Nat) (xs ys : List Int) (hx : Ints w B A n xs) (hy : Ints w B A' n' ys) (hn : n ≤ 1048576) (b : Bool) (hb : b = true ↔ xs = ys) :
    Calls Try.prog 46 #[.slice A n c, .slice A' n' c'] w fun e w' => e = .returned (.bool b) ∧ Below w.heap.size w w' :=
  (eqInts w B A A' n n' c c' xs ys hx hy hn b hb).mono fun _ _ ⟨he, m, hm⟩ => ⟨he, hm ▸ below_drewN (Below.refl _ _) m⟩
end Go.Proofs.Ytalgfiefadfmnaa.num
namespace Go.Proofs.Ytalgfiefadfmnaa.num
open Go.RowKit

def OwnI (w : World) (B : Nat) (v : Value) (l : List Int) : Prop := w.ownsRow B 3 1 v l.length (l.map (Value.int .i64))
theorem OwnI.empty (w : World) (B : Nat) (hB : B ≤ w.heap.size) : OwnI (w.alloc (.cells #[] 3)) B (.slice (some ⟨w.heap.size, 0, none⟩) 0 0) [] :=
  World.ownsRow_made w #[] 0 hB (Nat.zero_le _) (by simp)
theorem OwnI.ints {w : World} {B : Nat} {v : Value} {l : List Int} (h : OwnI w B v l) : ∃ A n c, v = .slice A n c ∧ Ints w w.heap.size A n l := by
  have h0 := h
  rcases h.2 with ⟨rfl, hl⟩ | ⟨g, cap, cur, rfl, _, hg, _⟩
  · obtain rfl : l = [] := List.eq_nil_of_length_eq_zero hl
    exact ⟨none, 0, 0, rfl, rfl, fun k hk => by omega⟩
  · refine ⟨some ⟨g, 0, none⟩, l.length, cap, rfl, rfl, fun k hk => ⟨g, 0, rfl, lt_of_block hg, ?_⟩⟩
    rw [Nat.zero_add, World.ownsRow.cellAt h0 k (by omega), List.getElem?_map, List.getD_eq_getElem?_getD, List.getElem?_eq_getElem hk]; rfl
/-- append of ints that the statement itself lists. -/
theorem wp_appI {ops : Array Oper} {rest : List Oper} {o : Oper} {a : Act} {Q : Exit → Act → World → Prop} (w : World) (hgd : o.guard = none) (s x : Operand)
    (ho : o.op = .call { callee := .builtin .append, args := #[s, x], argTypes := #[24, 24] })
    (B : Nat) (v : Value) (l : List Int) (hs : a.eval s = v) (hown : OwnI w B v l) (cs : Array Value) (new : List Int) (hcs : cs = (new.map (Value.int .i64)).toArray) (n c : Nat) (hn : n = new.length)
    (hx : a.eval x = .slice (some ⟨w.heap.size, 0, none⟩) n c) (hlen : (l.length + new.length) * 8 ≤ 140737488355328) (hB : B ≤ w.heap.size)
    (h : ∀ v' w', OwnI w' B v' (l ++ new) → Below B w w' → wpList Try.prog ops Q rest (a.put o.dst v') w') :
    wpList Try.prog ops Q (o :: rest) a (w.alloc (.cells cs 3)) := by
  obtain ⟨i0, hi, hz0, hz1, hz2⟩ := info_parts info_int
  subst hcs hn
  refine wpList_append_own _ hgd s x 24 ho B 3 i0 (.int .i64 0) 1 8 Try.underlying24 hi hz0 hz1 hz2 rfl (by decide) v l.length (l.map (Value.int .i64)) hs (World.ownsRow.alloc hown _) ⟨w.heap.size, 0, none⟩ new.length c (new.map (Value.int .i64)) hx (by simp) ?_ ?_ (by unfold maxLen; omega) (by omega) (by simp; omega) ?_
  · intro j u hj
    have e : (⟨w.heap.size, 0, none⟩ : Addr).add j = ⟨w.heap.size, j, none⟩ := by unfold Addr.add; split <;> simp_all
    rw [e, World.cell?_alloc_at _ _ _ _ rfl]
    simpa using hj
  · intro u hu
    obtain ⟨b, _, rfl⟩ := List.mem_map.1 hu
    rfl
  · intro v' w' hown' hg _
    refine h v' w' ?_ (((Below.refl B w).alloc hB _).grown hg (by simp; omega) (fun k hk => ?_))
    · have e : (l ++ new).length = l.length + new.length := by simp
      unfold OwnI
      rw [e, List.map_append]
      exact hown'
    · exact (World.ownsRow.lt hown k hk).1

def idL (its : List It) : List Int := its.map It.id
theorem idL_dat {its its' : List It} (h : its.map It.dat = its'.map It.dat) : idL its = idL its' := by
  have := congrArg (List.map Prod.fst) h
  simpa [idL, It.dat, Function.comp_def] using this
theorem idL_take {its : List It} {k : Nat} {t : It} (h : its[k]? = some t) : idL (its.take (k + 1)) = idL (its.take k) ++ [t.id] := by rw [take_at h]; simp [idL]
theorem idL_len (its : List It) : (idL its).length = its.length := by simp [idL]
theorem idL_get {its : List It} {k : Nat} {t : It} (h : its[k]? = some t) : (idL its).getD k 0 = t.id := by simp [idL, List.getD_eq_getElem?_getD, h]

end Go.Proofs.Ytalgfiefadfmnaa.num
namespace Go.Proofs.Ytalgfiefadfmnaa.num
open Go.RowKit
set_option linter.unusedVariables false

theorem Ints.at {w : World} {B : Nat} {A : Option Addr} {n : Nat} {xs : List Int} (h : Ints w B A n xs) (k : Nat) (hk : k < n) :
    ∃ (b off : Nat) (x : Int), A = some ⟨b, off, none⟩ ∧ b < B ∧ xs[k]? = some x ∧ w.cell? ⟨b, off + k, none⟩ = some (.int .i64 x) := by
  obtain ⟨b, off, h1, h2, h3⟩ := h.2 k hk
  have hl := h.1
  refine ⟨b, off, xs[k]'(by omega), h1, h2, List.getElem?_eq_getElem _, ?_⟩
  rw [h3, List.getD_eq_getElem?_getD, List.getElem?_eq_getElem (by omega)]
  rfl

/-- l2Has. -/
theorem has_of (w : World) (B : Nat) (A : Option Addr) (n c : Nat) (xs : List Int) (hi : Ints w B A n xs) (hn : n ≤ 2000000) (x : Int) (b : Bool) (hb : b = true ↔ x ∈ xs) :
    Calls Try.prog 57 #[.slice A n c, .int .i64 x] w fun e w' => e = .returned (.bool b) ∧ w = w' := by
  have HX := Lib.hid hi
  have HB := Lib.hid hb
  clear hi hb
  go_enter Try.func57, Try.ntmps57
  go_wp2
  go_loopw [5] (fun i wr => ∃ k : Nat, k ≤ n ∧ i = .int .i64 k ∧ (∀ y ∈ xs.take k, y ≠ x) ∧ wr = w) (fun i _ => n - (intOf i).toNat)
  case atStart => exact ⟨0, Nat.zero_le _, rfl, by simp, rfl⟩
  case round =>
    obtain ⟨k, hk, rfl, hne, rfl⟩ := hrel
    have HN := Lib.hid hne
    clear hne
    by_cases hlt : k < n
    · obtain ⟨b1, off, y, rfl, hb1, hat, hc⟩ := HX.out.at k hlt
      have HT := Lib.hid hat
      clear hat
      by_cases he : y = x
      · subst he
        obtain rfl : b = true := HB.out.2 (List.mem_of_getElem? HT.out)
        go_wp2
        go_ret
        exact ⟨rfl, rfl⟩
      · have he1 : (y == x) = false := by simpa using he
        have HE := Lib.hid he
        clear he
        go_wp2
        go_roundw
        case rel =>
          refine ⟨k + 1, by omega, by go_num, ?_, by first | rfl | trivial⟩
          rw [ptake_at HT.out]
          intro z hz
          rcases List.mem_append.1 hz with hz | hz
          · exact HN.out z hz
          · rw [List.mem_singleton.1 hz]; exact HE.out
        case measure => simp [intOf]; omega
    · obtain rfl : k = n := by omega
      obtain rfl : b = false := by
        cases b
        · rfl
        · have h := HN.out
          rw [ptake_all HX.out.1] at h
          exact absurd rfl (h x (HB.out.1 rfl))
      go_wp2
      go_ret
      exact ⟨rfl, rfl⟩

def ValidP (ps : List (Int × Int)) : Prop := (∀ p, p ∈ ps → InR p.1 ∧ InR p.2) ∧ ps.length ≤ 8
/-- l3Valid. -/
theorem valid_of (w : World) (B : Nat) (A : Option Addr) (n c : Nat) (ps : List (Int × Int)) (hi : Pairs w B A n ps) (hn : n ≤ 1048576) (b : Bool) (hb : b = true ↔ ValidP ps) :
    Calls Try.prog 55 #[.slice A n c] w fun e w' => e = .returned (.bool b) ∧ w = w' := by
  have HX := Lib.hid hi
  have HB := Lib.hid hb
  clear hi hb
  go_enter Try.func55, Try.ntmps55
  go_wp2
  go_loopw [3] (fun i wr => ∃ k : Nat, k ≤ n ∧ i = .int .i64 k ∧ (∀ p ∈ ps.take k, InR p.1 ∧ InR p.2) ∧ wr = w) (fun i _ => n - (intOf i).toNat)
  case atStart => exact ⟨0, Nat.zero_le _, rfl, by simp, rfl⟩
  case round =>
    obtain ⟨k, hk, rfl, hne, rfl⟩ := hrel
    have HN := Lib.hid hne
    clear hne
    by_cases hlt : k < n
    · obtain ⟨b1, off, x, y, rfl, hb1, hat, hc1, hc2⟩ := HX.out.at k hlt
      have HT := Lib.hid hat
      obtain ⟨q1, hq1⟩ := bool_of (0 ≤ x ∧ x ≤ 9)
      obtain ⟨q2, hq2⟩ := bool_of (0 ≤ y ∧ y ≤ 9)
      have HQ1 := Lib.hid hq1
      have HQ2 := Lib.hid hq2
      clear hat hq1 hq2
      have hbad : (q1 && q2) = false → b = false := fun hq => by
        cases b
        · rfl
        · have h := (HB.out.1 rfl).1 (x, y) (List.mem_of_getElem? HT.out)
          rw [HQ1.out.2 h.1, HQ2.out.2 h.2] at hq
          cases hq
      have HBad := Lib.hid hbad
      clear hbad
      go_wp2_with fail
      refine (in_of x 0 9 q1 HQ1.out _).mono ?_
      rintro e w1 ⟨rfl, rfl⟩
      cases q1
      · obtain rfl : b = false := HBad.out rfl
        go_wp2
        go_ret
        exact ⟨rfl, rfl⟩
      · go_wp2_with fail
        refine (in_of y 0 9 q2 HQ2.out _).mono ?_
        rintro e w1 ⟨rfl, rfl⟩
        cases q2
        · obtain rfl : b = false := HBad.out rfl
          go_wp2
          go_ret
          exact ⟨rfl, rfl⟩
        · go_wp2
          go_roundw
          case rel =>
            refine ⟨k + 1, by omega, by go_num, ?_, by first | rfl | trivial⟩
            rw [ptake_at HT.out]
            intro z hz
            rcases List.mem_append.1 hz with hz | hz
            · exact HN.out z hz
            · rw [List.mem_singleton.1 hz]; exact ⟨HQ1.out.1 (by first | rfl | trivial), HQ2.out.1 (by first | rfl | trivial)⟩
          case measure => simp [intOf]; omega
    · obtain rfl : k = n := by omega
      have h := HN.out
      rw [ptake_all HX.out.1] at h
      have HH := Lib.hid h
      clear h
      by_cases h8 : (k : Int) ≤ 8
      · obtain rfl : b = true := HB.out.2 ⟨HH.out, by rw [HX.out.1]; omega⟩
        go_wp2
        go_ret
        exact ⟨by simp, rfl⟩
      · obtain rfl : b = false := by
          cases b
          · rfl
          · have := (HB.out.1 rfl).2
            rw [HX.out.1] at this
            omega
        go_wp2
        go_ret
        exact ⟨by simp, rfl⟩

/-! ### a search -/
/-- What has been seen from a on: those before place i wholly looked at, the one at place i as far as the k-th pair. -/
structure Seen (ps : List (Int × Int)) (a b : Int) (S : List Int) (i k : Nat) : Prop where
  nodup : S.Nodup
  first : a ∈ S
  src : ∀ s, s ∈ S → s = a ∨ Reach ps a s
  sub : ∀ s, s ∈ S → s = a ∨ s ∈ ps.map Prod.snd
  done : ∀ (j : Nat) (s : Int), j < i → S[j]? = some s → ∀ p, p ∈ ps → p.1 = s → p.2 ≠ b ∧ p.2 ∈ S
  part : ∀ s : Int, S[i]? = some s → ∀ p, p ∈ ps.take k → p.1 = s → p.2 ≠ b ∧ p.2 ∈ S
theorem Seen.start (ps : List (Int × Int)) (a b : Int) : Seen ps a b [a] 0 0 :=
  ⟨by simp, by simp, fun s hs => .inl (by simpa using hs), fun s hs => .inl (by simpa using hs), fun j s hj => by omega, fun s _ p hp => by simp at hp⟩
theorem Seen.len {ps : List (Int × Int)} {a b : Int} {S : List Int} {i k : Nat} (h : Seen ps a b S i k) : S.length ≤ ps.length + 1 := by
  have := length_le_of_subset S (a :: ps.map Prod.snd) h.nodup fun s hs => by
    rcases h.sub s hs with rfl | hs
    · simp
    · exact List.mem_cons_of_mem _ hs
  simpa using this
theorem Seen.skip {ps : List (Int × Int)} {a b s : Int} {S : List Int} {i k : Nat} {p : Int × Int} (h : Seen ps a b S i k) (hs : S[i]? = some s) (hp : ps[k]? = some p) (hne : p.1 ≠ s) : Seen ps a b S i (k + 1) :=
  ⟨h.nodup, h.first, h.src, h.sub, h.done, fun s' hs' q hq e => by
    rw [ptake_at hp] at hq
    rcases List.mem_append.1 hq with hq | hq
    · exact h.part s' hs' q hq e
    · obtain rfl := List.mem_singleton.1 hq
      rw [hs] at hs'
      exact absurd (e.trans (Option.some.inj hs').symm) hne⟩
theorem Seen.hit {ps : List (Int × Int)} {a b : Int} {S : List Int} {i k : Nat} {p : Int × Int} (h : Seen ps a b S i k) (hs : S[i]? = some p.1) (hp : ps[k]? = some p) (hb : p.2 = b) : Reach ps a b := by
  have hm : (p.1, b) ∈ ps := by rw [← hb]; exact List.mem_of_getElem? hp
  rcases h.src _ (List.mem_of_getElem? hs) with e | r
  · exact .one (by rw [← e]; exact hm)
  · exact r.trans (.one hm)
theorem Seen.old {ps : List (Int × Int)} {a b : Int} {S : List Int} {i k : Nat} {p : Int × Int} (h : Seen ps a b S i k) (hs : S[i]? = some p.1) (hp : ps[k]? = some p) (hb : p.2 ≠ b) (hm : p.2 ∈ S) : Seen ps a b S i (k + 1) :=
  ⟨h.nodup, h.first, h.src, h.sub, h.done, fun s' hs' q hq e => by
    rw [ptake_at hp] at hq
    rcases List.mem_append.1 hq with hq | hq
    · exact h.part s' hs' q hq e
    · obtain rfl := List.mem_singleton.1 hq
      exact ⟨hb, hm⟩⟩
theorem Seen.more {ps : List (Int × Int)} {a b : Int} {S : List Int} {i k : Nat} {p : Int × Int} (h : Seen ps a b S i k) (hs : S[i]? = some p.1) (hp : ps[k]? = some p) (hb : p.2 ≠ b) (hm : p.2 ∉ S) : Seen ps a b (S ++ [p.2]) i (k + 1) := by
  have hpm := List.mem_of_getElem? hp
  have hi : i < S.length := by
    rcases Nat.lt_or_ge i S.length with h' | h'
    · exact h'
    · rw [List.getElem?_eq_none h'] at hs; cases hs
  refine ⟨?_, List.mem_append_left _ h.first, fun s hs' => ?_, fun s hs' => ?_, fun j s hj hs' q hq e => ?_, fun s' hs' q hq e => ?_⟩
  · rw [List.nodup_append]
    exact ⟨h.nodup, by simp, fun x hx y hy e => hm (by rw [← List.mem_singleton.1 hy, ← e]; exact hx)⟩
  · rcases List.mem_append.1 hs' with hs' | hs'
    · exact h.src s hs'
    · rw [List.mem_singleton.1 hs']
      rcases h.src _ (List.mem_of_getElem? hs) with e | r
      · exact .inr (.one (by rw [← e]; exact hpm))
      · exact .inr (r.trans (.one hpm))
  · rcases List.mem_append.1 hs' with hs' | hs'
    · exact h.sub s hs'
    · rw [List.mem_singleton.1 hs']
      exact .inr (List.mem_map.2 ⟨p, hpm, rfl⟩)
  · rw [List.getElem?_append_left (by omega)] at hs'
    obtain ⟨h1, h2⟩ := h.done j s hj hs' q hq e
    exact ⟨h1, List.mem_append_left _ h2⟩
  · rw [List.getElem?_append_left hi] at hs'
    rw [ptake_at hp] at hq
    rcases List.mem_append.1 hq with hq | hq
    · obtain ⟨h1, h2⟩ := h.part s' hs' q hq e
      exact ⟨h1, List.mem_append_left _ h2⟩
    · obtain rfl := List.mem_singleton.1 hq
      exact ⟨hb, List.mem_append_right _ (by simp)⟩
theorem Seen.next {ps : List (Int × Int)} {a b : Int} {S : List Int} {i k : Nat} (h : Seen ps a b S i k) (hk : k = ps.length) : Seen ps a b S (i + 1) 0 :=
  ⟨h.nodup, h.first, h.src, h.sub, fun j s hj hs q hq e => by
    rcases Nat.lt_or_ge j i with h' | h'
    · exact h.done j s h' hs q hq e
    · obtain rfl : j = i := by omega
      exact h.part s hs q (by rw [hk, List.take_length]; exact hq) e, fun s _ q hq => by simp at hq⟩
theorem Seen.fin {ps : List (Int × Int)} {a b : Int} {S : List Int} {i k : Nat} (h : Seen ps a b S i k) (hi : S.length ≤ i) : ¬ Reach ps a b := by
  have step : ∀ s, s ∈ S → ∀ p, p ∈ ps → p.1 = s → p.2 ≠ b ∧ p.2 ∈ S := fun s hs p hp e => by
    obtain ⟨j, hj, hjs⟩ := List.getElem_of_mem hs
    exact h.done j s (by omega) (by rw [List.getElem?_eq_getElem hj, hjs]) p hp e
  have key : ∀ x y, Reach ps x y → x ∈ S → y ≠ b := by
    intro x y r
    induction r with
    | one hm => exact fun hx => (step _ hx _ hm rfl).1
    | more hm _ ih => exact fun hx => ih (step _ hx _ hm rfl).2
  exact fun r => key a b r h.first rfl
end Go.Proofs.Ytalgfiefadfmnaa.num
namespace Go.Proofs.Ytalgfiefadfmnaa.num
open Go.RowKit
set_option linter.unusedVariables false

theorem ownI_one (w : World) (B : Nat) (x : Int) (hB : B ≤ w.heap.size) : OwnI (w.alloc (.cells #[.int .i64 x] 3)) B (.slice (some ⟨w.heap.size, 0, none⟩) 1 1) [x] :=
  ⟨rfl, .inr ⟨w.heap.size, 1, #[.int .i64 x], rfl, hB, heap_alloc_new w _, Nat.le_refl _, by decide, rfl, rfl⟩⟩
theorem ownI_below {w w' : World} {B : Nat} {v : Value} {l : List Int} (h : OwnI w B v l) (hb : Below w.heap.size w w') : OwnI w' B v l := by
  obtain ⟨h1, h2⟩ := h
  refine ⟨h1, ?_⟩
  rcases h2 with h2 | ⟨g, cap, cur, h3, h4, h5, h6⟩
  · exact .inl h2
  · exact .inr ⟨g, cap, cur, h3, h4, (hb.block g (lt_of_block h5)).trans h5, h6⟩

/-- The relation of the search's loops. -/
def SeenRel (ps : List (Int × Int)) (a b : Int) (B : Nat) (w : World) (S : List Int) (i k : Nat) (v : Value) (wr : World) : Prop := Seen ps a b S i k ∧ OwnI wr B v S ∧ Below B w wr

theorem reach_of (w : World) (B : Nat) (A : Option Addr) (n c : Nat) (ps : List (Int × Int)) (hi : Pairs w B A n ps) (hB : B ≤ w.heap.size) (h8 : n ≤ 1048576) (a b : Int) (q : Bool) (hq : q = true ↔ Reach ps a b) :
    Calls Try.prog 54 #[.slice A n c, .int .i64 a, .int .i64 b] w fun e w' => e = .returned (.bool q) ∧ Below w.heap.size w w' := by
  have HX := Lib.hid hi
  have HQ := Lib.hid hq
  clear hi hq
  go_enter Try.func54, Try.ntmps54
  go_wp2
  go_loopw [7, 8] (fun v i wr => ∃ (S : List Int) (j : Nat), j ≤ S.length ∧ i = .int .i64 j ∧ SeenRel ps a b w.heap.size w S j 0 v wr) (fun _ i _ => n + 1 - (intOf i).toNat)
  case atStart => exact ⟨[a], 0, Nat.zero_le _, rfl, Seen.start ps a b, ownI_one w _ a (Nat.le_refl _), (Below.refl _ _).alloc (Nat.le_refl _) _⟩
  case round =>
    obtain ⟨S, j, hj, rfl, hS, hown, hbel⟩ := hrel
    have HS := Lib.hid hS
    have HO := Lib.hid hown
    have HB := Lib.hid hbel
    obtain ⟨A1, n1, c1, rfl, hints⟩ := hown.ints
    have HI := Lib.hid hints
    have hn1 : n1 = S.length := hints.1.symm
    have hlen : n1 ≤ n + 1 := by rw [hn1]; have := hS.len; rw [HX.out.1] at this; exact this
    clear hown hS hbel hints
    by_cases hlt : j < n1
    · clear HI
      have HN1 := Lib.hid hn1
      clear hn1
      obtain ⟨wo, hwo⟩ : ∃ wo : World, wo = wr := ⟨_, rfl⟩
      subst hwo
      go_wp2
      go_loopw [7, 9] (fun v i wr => ∃ (S : List Int) (k : Nat), k ≤ n ∧ j < S.length ∧ i = .int .i64 k ∧ SeenRel ps a b w.heap.size w S j k v wr) (fun _ i _ => n - (intOf i).toNat)
      case atStart => exact ⟨S, 0, Nat.zero_le _, by rw [← HN1.out]; exact hlt, rfl, HS.out, HO.out, HB.out⟩
      case round =>
        clear HS HO HB HN1 hj
        obtain ⟨S, k, hk, hjS, rfl, hS, hown, hbel⟩ := hrel
        have HS := Lib.hid hS
        have HO := Lib.hid hown
        have HB := Lib.hid hbel
        obtain ⟨A1, n1, c1, rfl, hints⟩ := hown.ints
        have hn1 : n1 = S.length := hints.1.symm
        have hlen : n1 ≤ n + 1 := by rw [hn1]; have := hS.len; rw [HX.out.1] at this; exact this
        obtain ⟨b2, off2, s, rfl, hb2, hat2, hd1⟩ := hints.at j (by omega)
        have hjn : (j : Int) < (n1 : Int) := by omega
        have HT2 := Lib.hid hat2
        have HI := Lib.hid hints
        have HN1 := Lib.hid hn1
        clear hown hS hat2 hints hn1
        by_cases hlt : k < n
        · obtain ⟨b1, off, x, y, rfl, hb1, hat, hc1, hc2⟩ := HX.out.at k hlt
          have f1 := (hbel.cell (p := ⟨b1, off + k * 2, none⟩) (by exact Nat.lt_of_lt_of_le hb1 hB)).trans hc1
          have f2 := (hbel.cell (p := ⟨b1, off + k * 2 + 1, none⟩) (by exact Nat.lt_of_lt_of_le hb1 hB)).trans hc2
          have HT := Lib.hid hat
          have hkn : (k : Int) < (n : Int) := by omega
          clear hc1 hc2 hat hbel
          by_cases he : x = s
          · subst he
            by_cases hyb : y = b
            · subst hyb
              obtain rfl : q = true := HQ.out.2 (HS.out.hit HT2.out HT.out rfl)
              go_wp2
              go_quiet (fail)
              go_wp2
              go_ret
              exact ⟨rfl, below_drewN HB.out _⟩
            · obtain ⟨m, hm⟩ := bool_of (y ∈ S)
              have HM := Lib.hid hm
              have hyb1 : (y == b) = false := by simpa using hyb
              have HYB := Lib.hid hyb
              clear hm hyb
              go_wp2
              go_quiet (fail)
              go_wp2_with fail
              refine (has_of _ _ _ _ _ S (by have h := HI.out; exact ⟨h.1, h.2⟩) (by omega) y m HM.out).mono ?_
              rintro e w1 ⟨rfl, rfl⟩
              cases m
              · have H4 : Hid ((S.length + [y].length) * 8 ≤ 140737488355328) := Lib.hid (by
                  rw [← HN1.out]
                  simp only [List.length_cons, List.length_nil]
                  omega)
                have HOq := Lib.hid (show OwnI (wr.drewN nq) w.heap.size _ S from HO.out)
                go_wp2_with (at_builtin; refine wp_appI _ (by rfl) (.tmp 49) (.tmp 55) (by rfl) w.heap.size _ S (by rfl) HOq.out _ [y] (by rfl) 1 1 rfl (by rfl) H4.out (below_drewN HB.out _).size ?_)
                intro v1 w2 hown2 hb2
                have HO2 := Lib.hid hown2
                have HB2 := Lib.hid ((below_drewN HB.out _).trans hb2)
                clear hown2 hb2
                go_wp2
                go_roundw
                case rel => exact ⟨S ++ [y], k + 1, by omega, by simp; omega, by go_num, HS.out.more HT2.out HT.out HYB.out (fun h => by have := HM.out.2 h; cases this), HO2.out, HB2.out⟩
                case measure => simp [intOf]; omega
              · go_wp2
                go_roundw
                case rel => exact ⟨S, k + 1, by omega, hjS, by go_num, HS.out.old HT2.out HT.out HYB.out (HM.out.1 (by first | rfl | trivial)), HO.out, below_drewN HB.out _⟩
                case measure => simp [intOf]; omega
          · have hne : (x != s) = true := by simpa using he
            have HE := Lib.hid he
            clear he
            go_wp2
            go_quiet (fail)
            go_wp2
            go_roundw
            case rel => exact ⟨S, k + 1, by omega, hjS, by go_num, HS.out.skip HT2.out HT.out HE.out, HO.out, below_drewN HB.out _⟩
            case measure => simp [intOf]; omega
        · obtain rfl : k = n := by omega
          clear hbel
          go_wp2
          go_roundw
          case rel => exact ⟨S, j + 1, by omega, by go_num, HS.out.next HX.out.1.symm, HO.out, HB.out⟩
          case measure => simp [intOf]; omega
    · have hno := HS.out.fin (by omega)
      obtain rfl : q = false := by
        cases q
        · rfl
        · exact absurd (HQ.out.1 rfl) hno
      clear hno hn1
      go_wp2
      go_ret
      exact ⟨rfl, HB.out⟩
end Go.Proofs.Ytalgfiefadfmnaa.num
namespace Go.Proofs.Ytalgfiefadfmnaa.num
open Go.RowKit
set_option linter.unusedVariables false

/-- What makes a list of pairs valid. -/
def OkP (ps : List (Int × Int)) : Prop := Good ps ∧ ps.length ≤ 8
theorem OkP.valid {ps : List (Int × Int)} (h : OkP ps) : ValidP ps := ⟨h.1.rng, h.2⟩
theorem okP_of {ps : List (Int × Int)} (h : ValidP ps) (hn : ∀ v : Int, 0 ≤ v → v ≤ 9 → ¬ Reach ps v v) : OkP ps :=
  ⟨⟨h.1, fun v r => hn v (reach_rng h.1 r).1.1 (reach_rng h.1 r).1.2 r⟩, h.2⟩

theorem sArePairs (w : World) (B : Nat) (A : Option Addr) (n c : Nat) (ps : List (Int × Int)) (hi : Pairs w B A n ps) (hB : B ≤ w.heap.size) (hn : n ≤ 1048576) (q : Bool) (hq : q = true ↔ OkP ps) :
    Calls Try.prog 37 #[.slice A n c] w fun e w' => e = .returned (.bool q) ∧ Below w.heap.size w w' := by
  have HX := Lib.hid hi
  have HQ := Lib.hid hq
  obtain ⟨m, hm⟩ := bool_of (ValidP ps)
  have HM := Lib.hid hm
  clear hi hq hm
  go_enter Try.func37, Try.ntmps37
  go_wp2_with fail
  refine (valid_of w B A n c ps HX.out hn m HM.out).mono ?_
  rintro e w1 ⟨rfl, rfl⟩
  cases m
  · obtain rfl : q = false := by
      cases q
      · rfl
      · have := HM.out.2 (HQ.out.1 rfl).valid; cases this
    go_wp2
    go_ret
    exact ⟨rfl, Below.refl _ _⟩
  · have HV := Lib.hid (HM.out.1 (by first | rfl | trivial))
    clear HM
    go_wp2
    go_loopw [3] (fun i wr => ∃ k : Nat, k ≤ 10 ∧ i = .int .i64 k ∧ (∀ v : Int, 0 ≤ v → v < k → ¬ Reach ps v v) ∧ Below w.heap.size w wr) (fun i _ => 10 - (intOf i).toNat)
    case atStart => exact ⟨0, by decide, rfl, fun v h1 h2 => by omega, Below.refl _ _⟩
    case round =>
      obtain ⟨k, hk, rfl, hne, hbel⟩ := hrel
      have HN := Lib.hid hne
      have HBe := Lib.hid hbel
      clear hne hbel
      by_cases hlt : k < 10
      · obtain ⟨r, hr⟩ := bool_of (Reach ps k k)
        have HR := Lib.hid hr
        clear hr
        go_wp2_with fail
        refine (reach_of wr B A n c ps (HX.out.below (HBe.out.mono hB)) (Nat.le_trans hB HBe.out.size) hn k k r HR.out).mono ?_
        rintro e w1 ⟨rfl, hb1⟩
        have HB1 := Lib.hid (HBe.out.trans (hb1.mono HBe.out.size))
        clear hb1
        cases r
        · go_wp2
          go_roundw
          case rel =>
            refine ⟨k + 1, by omega, by go_num, fun v h1 h2 => ?_, HB1.out⟩
            by_cases e : v = k
            · subst e
              exact fun r => by have := HR.out.2 r; cases this
            · exact HN.out v h1 (by omega)
          case measure => simp [intOf]; omega
        · obtain rfl : q = false := by
            cases q
            · rfl
            · exact absurd (HR.out.1 (by first | rfl | trivial)) ((HQ.out.1 rfl).1.acy _)
          go_wp2
          go_ret
          exact ⟨rfl, HB1.out⟩
      · obtain rfl : k = 10 := by omega
        obtain rfl : q = true := HQ.out.2 (okP_of HV.out fun v h1 h2 => HN.out v h1 (by omega))
        go_wp2
        go_ret
        exact ⟨rfl, HBe.out⟩

/-- What HeightOf answers. -/
def htOf (ps : List (Int × Int)) (v : Int) (ok : Bool) : Int := if ok then ((height ps v : Nat) : Int) else -1
end Go.Proofs.Ytalgfiefadfmnaa.num
namespace Go.Proofs.Ytalgfiefadfmnaa.num
open Go.RowKit
set_option linter.unusedVariables false

/-- The cells of a list of pairs. -/
def flat : List (Int × Int) → List Value
  | [] => []
  | p :: r => .int .i64 p.1 :: .int .i64 p.2 :: flat r
theorem flat_len : ∀ l : List (Int × Int), (flat l).length = l.length * 2
  | [] => rfl
  | p :: r => by simp [flat, flat_len r]; omega
theorem flat_app : ∀ l m : List (Int × Int), flat (l ++ m) = flat l ++ flat m
  | [], m => rfl
  | p :: r, m => by simp [flat, flat_app r m]
theorem flat_even : ∀ (l : List (Int × Int)) (k : Nat) (p : Int × Int), l[k]? = some p → (flat l)[k * 2]? = some (.int .i64 p.1)
  | [], k, p, h => by simp at h
  | q :: r, 0, p, h => by simp at h; subst h; rfl
  | q :: r, k + 1, p, h => by
    rw [show (k + 1) * 2 = k * 2 + 1 + 1 by omega]
    simp only [flat, List.getElem?_cons_succ]
    exact flat_even r k p (by simpa using h)
theorem flat_odd : ∀ (l : List (Int × Int)) (k : Nat) (p : Int × Int), l[k]? = some p → (flat l)[k * 2 + 1]? = some (.int .i64 p.2)
  | [], k, p, h => by simp at h
  | q :: r, 0, p, h => by simp at h; subst h; rfl
  | q :: r, k + 1, p, h => by
    rw [show (k + 1) * 2 + 1 = k * 2 + 1 + 1 + 1 by omega]
    simp only [flat, List.getElem?_cons_succ]
    exact flat_odd r k p (by simpa using h)
theorem flat_one (l : List (Int × Int)) : ∀ u ∈ flat l, u.oneCell' = true := by
  induction l with
  | nil => intro u hu; simp [flat] at hu
  | cons p r ih =>
    intro u hu
    simp only [flat, List.mem_cons] at hu
    rcases hu with rfl | rfl | hu
    · rfl
    · rfl
    · exact ih u hu

def OwnP (w : World) (B : Nat) (v : Value) (l : List (Int × Int)) : Prop := w.ownsRow B 102 2 v l.length (flat l)
theorem OwnP.empty (w : World) (B : Nat) (hB : B ≤ w.heap.size) : OwnP (w.alloc (.cells #[] 102)) B (.slice (some ⟨w.heap.size, 0, none⟩) 0 0) [] :=
  World.ownsRow_made w #[] 0 hB (Nat.zero_le _) (by simp)
theorem OwnP.nil (w : World) (B : Nat) : OwnP w B (.slice none 0 0) [] := ⟨rfl, .inl ⟨rfl, rfl⟩⟩
theorem OwnP.below {w w' : World} {B : Nat} {v : Value} {l : List (Int × Int)} (h : OwnP w B v l) (hb : Below w.heap.size w w') : OwnP w' B v l := by
  obtain ⟨h1, h2⟩ := h
  refine ⟨h1, ?_⟩
  rcases h2 with h2 | ⟨g, cap, cur, h3, h4, h5, h6⟩
  · exact .inl h2
  · exact .inr ⟨g, cap, cur, h3, h4, (hb.block g (lt_of_block h5)).trans h5, h6⟩
/-- What is owned reads as its pairs; and where it lies. -/
theorem OwnP.pairs {w : World} {B : Nat} {v : Value} {l : List (Int × Int)} (h : OwnP w B v l) : ∃ A n c, v = .slice A n c ∧ Pairs w w.heap.size A n l := by
  have h0 := h
  rcases h.2 with ⟨rfl, hl⟩ | ⟨g, cap, cur, rfl, _, hg, _⟩
  · obtain rfl : l = [] := List.eq_nil_of_length_eq_zero hl
    exact ⟨none, 0, 0, rfl, rfl, fun k p hk => by simp at hk⟩
  · refine ⟨some ⟨g, 0, none⟩, l.length, cap, rfl, rfl, fun k p hk => ⟨g, 0, rfl, lt_of_block hg, ?_, ?_⟩⟩
    · have hlt : k < l.length := by
        rcases Nat.lt_or_ge k l.length with h' | h'
        · exact h'
        · rw [List.getElem?_eq_none h'] at hk; cases hk
      rw [Nat.zero_add, World.ownsRow.cellAt h0 _ (by omega), flat_even l k p hk]
    · have hlt : k < l.length := by
        rcases Nat.lt_or_ge k l.length with h' | h'
        · exact h'
        · rw [List.getElem?_eq_none h'] at hk; cases hk
      rw [Nat.zero_add, World.ownsRow.cellAt h0 _ (by omega), flat_odd l k p hk]
/-- append of pairs that the statement itself lists. -/
theorem wp_appP {ops : Array Oper} {rest : List Oper} {o : Oper} {a : Act} {Q : Exit → Act → World → Prop} (w : World) (hgd : o.guard = none) (s x : Operand)
    (ho : o.op = .call { callee := .builtin .append, args := #[s, x], argTypes := #[25, 25] })
    (B : Nat) (v : Value) (l : List (Int × Int)) (hs : a.eval s = v) (hown : OwnP w B v l) (cs : Array Value) (new : List (Int × Int)) (hcs : cs = (flat new).toArray) (n c : Nat) (hn : n = new.length)
    (hx : a.eval x = .slice (some ⟨w.heap.size, 0, none⟩) n c) (hlen : (l.length + new.length) * 16 ≤ 140737488355328) (hB : B ≤ w.heap.size)
    (h : ∀ v' w', OwnP w' B v' (l ++ new) → Below B w w' → wpList Try.prog ops Q rest (a.put o.dst v') w') :
    wpList Try.prog ops Q (o :: rest) a (w.alloc (.cells cs 102)) := by
  obtain ⟨i0, hi, hz0, hz1, hz2⟩ := info_parts info_pair
  subst hcs hn
  refine wpList_append_own _ hgd s x 25 ho B 102 i0 (.agg #[.int .i64 0, .int .i64 0]) 2 16 Try.underlying25 hi hz0 hz1 hz2 rfl (by decide) v l.length (flat l) hs (World.ownsRow.alloc hown _) ⟨w.heap.size, 0, none⟩ new.length c (flat new) hx (flat_len new) ?_ (flat_one new) (by unfold maxLen; omega) (by omega) (by simp; omega) ?_
  · intro j u hj
    have e : (⟨w.heap.size, 0, none⟩ : Addr).add j = ⟨w.heap.size, j, none⟩ := by unfold Addr.add; split <;> simp_all
    rw [e, World.cell?_alloc_at _ _ _ _ rfl]
    simpa using hj
  · intro v' w' hown' hg _
    refine h v' w' ?_ (((Below.refl B w).alloc hB _).grown hg (by simp; omega) (fun k hk => ?_))
    · have e : (l ++ new).length = l.length + new.length := by simp
      unfold OwnP
      rw [e, flat_app]
      exact hown'
    · exact (World.ownsRow.lt hown k hk).1

/-- What ClosureOf answers. -/
def cloOf (ps : List (Int × Int)) (ok : Bool) : List (Int × Int) := if ok then clo ps 100 else []
end Go.Proofs.Ytalgfiefadfmnaa.num
namespace Go.Proofs.Ytalgfiefadfmnaa.num
open Go.RowKit
set_option linter.unusedVariables false

/-- w' is w but for the block that the slice v lies in. -/
structure OnlyV (v : Value) (w w' : World) : Prop where
  os : w'.os = w.os
  tape : w'.tape = w.tape
  output : w'.output = w.output
  size : w'.heap.size = w.heap.size
  block : ∀ k, v.ownBlock ≠ some k → w'.heap[k]? = w.heap[k]?
theorem OnlyV.refl (v : Value) (w : World) : OnlyV v w w := ⟨rfl, rfl, rfl, rfl, fun _ _ => rfl⟩
theorem OnlyV.set {g n cap : Nat} {w w' : World} (h : OnlyV (.slice (some ⟨g, 0, none⟩) n cap) w w') (j : Nat) (u : Value) : OnlyV (.slice (some ⟨g, 0, none⟩) n cap) w (w'.setCell ⟨g, j, none⟩ u) :=
  ⟨h.os, h.tape, h.output, by simpa [World.setCell] using h.size, fun k hk => (Below.heap_setCell w' ⟨g, j, none⟩ u k (fun e => hk (by rw [e]; rfl))).trans (h.block k hk)⟩
theorem OnlyV.below {v : Value} {B : Nat} {w w' : World} (h : OnlyV v w w') (hB : ∀ k, v.ownBlock = some k → B ≤ k) : Below B w w' :=
  ⟨h.os, h.tape, h.output, by rw [h.size]; exact Nat.le_refl _, fun k hk => h.block k (fun e => by have := hB k e; omega)⟩
theorem OnlyV.high {v : Value} {B : Nat} {w w' : World} (h : OnlyV v w w') (hB : ∀ k, v.ownBlock = some k → k < B) (k : Nat) (hk : B ≤ k) : w'.heap[k]? = w.heap[k]? :=
  h.block k (fun e => by have := hB k e; omega)

section
variable {w w' : World} {B : Nat} {v : Value}
theorem OwnP.lows {l : List (Int × Int)} (h : OwnP w B v l) : ∀ k, v.ownBlock = some k → B ≤ k := fun k hk => (World.ownsRow.lt h k hk).1
theorem OwnP.tops {l : List (Int × Int)} (h : OwnP w B v l) : ∀ k, v.ownBlock = some k → k < w.heap.size := fun k hk => (World.ownsRow.lt h k hk).2
theorem ownI_lows {l : List Int} (h : OwnI w B v l) : ∀ k, v.ownBlock = some k → B ≤ k := fun k hk => (World.ownsRow.lt h k hk).1
theorem ownI_tops {l : List Int} (h : OwnI w B v l) : ∀ k, v.ownBlock = some k → k < w.heap.size := fun k hk => (World.ownsRow.lt h k hk).2
theorem OwnP.blocks {l : List (Int × Int)} (h : OwnP w B v l) (hb : ∀ k, v.ownBlock = some k → w'.heap[k]? = w.heap[k]?) : OwnP w' B v l := by
  obtain ⟨h1, h2⟩ := h
  refine ⟨h1, ?_⟩
  rcases h2 with h2 | ⟨g, cap, cur, rfl, h4, h5, h6⟩
  · exact .inl h2
  · exact .inr ⟨g, cap, cur, rfl, h4, (hb g rfl).trans h5, h6⟩
theorem ownI_blocks {l : List Int} (h : OwnI w B v l) (hb : ∀ k, v.ownBlock = some k → w'.heap[k]? = w.heap[k]?) : OwnI w' B v l := by
  obtain ⟨h1, h2⟩ := h
  refine ⟨h1, ?_⟩
  rcases h2 with h2 | ⟨g, cap, cur, rfl, h4, h5, h6⟩
  · exact .inl h2
  · exact .inr ⟨g, cap, cur, rfl, h4, (hb g rfl).trans h5, h6⟩
theorem OwnP.row {l : List (Int × Int)} (h : OwnP w B v l) : (v = .slice none 0 0 ∧ l = []) ∨
    ∃ g cap f, v = .slice (some ⟨g, 0, none⟩) l.length cap ∧ B ≤ g ∧ l.length ≤ cap ∧ cap ≤ maxLen ∧ w.rowIs g 102 (cap * 2) f ∧ ∀ j, j < l.length * 2 → (flat l)[j]? = some (f j) := by
  rcases h.2 with ⟨rfl, hl⟩ | ⟨g, cap, cur, rfl, hB, hg, h1, h2, h3, h4⟩
  · exact .inl ⟨rfl, List.eq_nil_of_length_eq_zero hl⟩
  · refine .inr ⟨g, cap, fun j => (cur[j]?).getD undef, rfl, hB, h1, h2, ⟨cur, hg, h3, fun i hi => ?_⟩, fun j hj => ?_⟩
    · show cur[i]? = some ((cur[i]?).getD undef)
      rw [Array.getElem?_eq_getElem (by omega)]; rfl
    · show _ = some ((cur[j]?).getD undef)
      rw [← h4, List.getElem?_take_of_lt hj, Array.getElem?_toList, Array.getElem?_eq_getElem (by rw [h3]; omega)]; rfl
theorem OwnP.of_row {l : List (Int × Int)} {g n cap : Nat} {f : Nat → Value} (hB : B ≤ g) (hl : l.length = n) (hn : n ≤ cap) (hc : cap ≤ maxLen) (hr : w.rowIs g 102 (cap * 2) f) (hf : ∀ j, j < n * 2 → (flat l)[j]? = some (f j)) :
    OwnP w B (.slice (some ⟨g, 0, none⟩) n cap) l := by
  subst hl
  obtain ⟨cur, hg, hs, hcur⟩ := hr
  refine ⟨flat_len l, .inr ⟨g, cap, cur, rfl, hB, hg, hn, hc, hs, ?_⟩⟩
  apply List.ext_getElem?
  intro j
  rcases Nat.lt_or_ge j (l.length * 2) with h | h
  · rw [List.getElem?_take_of_lt h, Array.getElem?_toList, hcur j (by omega), hf j h]
  · rw [List.getElem?_eq_none (by rw [List.length_take]; omega), List.getElem?_eq_none (by rw [flat_len]; exact h)]
theorem ownI_row {l : List Int} (h : OwnI w B v l) : (v = .slice none 0 0 ∧ l = []) ∨
    ∃ g cap f, v = .slice (some ⟨g, 0, none⟩) l.length cap ∧ B ≤ g ∧ l.length ≤ cap ∧ cap ≤ maxLen ∧ w.rowIs g 3 cap f ∧ ∀ j, j < l.length → (l.map (Value.int .i64))[j]? = some (f j) := by
  rcases h.2 with ⟨rfl, hl⟩ | ⟨g, cap, cur, rfl, hB, hg, h1, h2, h3, h4⟩
  · exact .inl ⟨rfl, List.eq_nil_of_length_eq_zero hl⟩
  · refine .inr ⟨g, cap, fun j => (cur[j]?).getD undef, rfl, hB, h1, h2, ⟨cur, hg, by omega, fun i hi => ?_⟩, fun j hj => ?_⟩
    · show cur[i]? = some ((cur[i]?).getD undef)
      rw [Array.getElem?_eq_getElem (by omega)]; rfl
    · show _ = some ((cur[j]?).getD undef)
      rw [← h4, List.getElem?_take_of_lt (by omega), Array.getElem?_toList, Array.getElem?_eq_getElem (by rw [h3]; omega)]; rfl
theorem ownI_of_row {l : List Int} {g n cap : Nat} {f : Nat → Value} (hB : B ≤ g) (hl : l.length = n) (hn : n ≤ cap) (hc : cap ≤ maxLen) (hr : w.rowIs g 3 cap f) (hf : ∀ j, j < n → (l.map (Value.int .i64))[j]? = some (f j)) :
    OwnI w B (.slice (some ⟨g, 0, none⟩) n cap) l := by
  subst hl
  obtain ⟨cur, hg, hs, hcur⟩ := hr
  refine ⟨by simp, .inr ⟨g, cap, cur, rfl, hB, hg, hn, hc, by omega, ?_⟩⟩
  apply List.ext_getElem?
  intro j
  rcases Nat.lt_or_ge j l.length with h | h
  · rw [List.getElem?_take_of_lt (by omega), Array.getElem?_toList, hcur j (by omega), hf j h]
  · rw [List.getElem?_eq_none (by rw [List.length_take]; omega), List.getElem?_eq_none (by simpa using h)]
theorem PairRow.own {b n : Nat} {ps : List (Int × Int)} (h : PairRow w b ps) (hB : B ≤ b) (hl : ps.length = n) (hn : n ≤ 1048576) : OwnP w B (.slice (some ⟨b, 0, none⟩) n n) ps := by
  subst hl
  refine OwnP.of_row hB rfl (Nat.le_refl _) (by unfold maxLen; omega) h fun j hj => ?_
  have hk : j / 2 < ps.length := by omega
  have hat : ps[j / 2]? = some ps[j / 2] := List.getElem?_eq_getElem hk
  rcases Nat.mod_two_eq_zero_or_one j with h1 | h1
  · have e : j = j / 2 * 2 := by omega
    rw [e, flat_even _ _ _ hat, pairCell_even hat]
  · have e : j = j / 2 * 2 + 1 := by omega
    rw [e, flat_odd _ _ _ hat, pairCell_odd hat]
end

/-- The pairs that the marks make. -/
def pmarks (k n : Nat) : List (Int × Int) := (List.range n).map fun j => (((k + 2 * j : Nat) : Int), ((k + 2 * j + 1 : Nat) : Int))
theorem pmarks_len (k n : Nat) : (pmarks k n).length = n := by simp [pmarks]
theorem pmarks_flat {k n j : Nat} (h : j < n * 2) : (flat (pmarks k n))[j]? = some (.int .i64 ((k + j : Nat) : Int)) := by
  have hk : j / 2 < n := by omega
  have hat : (pmarks k n)[j / 2]? = some (((k + 2 * (j / 2) : Nat) : Int), ((k + 2 * (j / 2) + 1 : Nat) : Int)) := by simp [pmarks, hk]
  rcases Nat.mod_two_eq_zero_or_one j with h1 | h1
  · have e : j = j / 2 * 2 := by omega
    have e2 : k + 2 * (j / 2) = k + j := by omega
    have := flat_even _ _ _ hat
    rw [← e, e2] at this
    exact this
  · have e : j = j / 2 * 2 + 1 := by omega
    have e2 : k + 2 * (j / 2) + 1 = k + j := by omega
    have := flat_odd _ _ _ hat
    rw [← e, e2] at this
    exact this
end Go.Proofs.Ytalgfiefadfmnaa.num
namespace Go.Proofs.Ytalgfiefadfmnaa.num
open Go.RowKit
set_option linter.unusedVariables false

def OutBool (w : World) (g : Nat) (a : Option Addr) (len cap : Nat) (e : Ending) (w' : World) : Prop :=
  ∃ b : Bool, e = .returned (.bool b) ∧ Cur w' g a len cap ∧ w.grownBy w' (some g)
theorem once_any (n : Int) (hn : n ≤ 2147483648) (w : World) (g : Nat) (a : Option Addr) (len cap : Nat) (hlen : len ≤ 1048576) (hc : Cur w g a len cap) (B : Nat) (hB : B ≤ g) (hrow : Row w B a len) :
    Calls Try.prog 66 #[.pointer (some ⟨g, 0, none⟩), .int .i64 n] w (OutBool w g a len cap) := by
  go_enter Try.func66, Try.ntmps66
  go_wp2_with fail
  refine (below_any n hn _ g a len cap hlen hc B hB hrow).mono ?_
  rintro e w1 ⟨x, rfl, _, hc1, hg1⟩
  clear hc hrow
  by_cases h0 : x = 0
  · go_wp2
    go_ret
    exact ⟨_, rfl, hc1, hg1⟩
  · go_wp2
    go_ret
    exact ⟨_, rfl, hc1, hg1⟩

theorem OwnP.keptg {w w' : World} {B g : Nat} {v : Value} {l : List (Int × Int)} (h : OwnP w B v l) (hg : w.grownBy w' (some g)) (hB : g < B) : OwnP w' B v l :=
  h.blocks fun k hk => hg.block k (h.tops k hk) fun e => by have := h.lows k hk; have := Option.some.inj e; omega
theorem grown_tail {a b c : World} {r : Option Nat} (h : a.grownBy b r) (k : Below a.heap.size b c) : a.grownBy c r :=
  ⟨k.os.trans h.os, k.tape.trans h.tape, k.output.trans h.output, Nat.le_trans h.size k.size, fun i hi hne => (k.block i hi).trans (h.block i hi hne)⟩
/-- Pairs of the call's own, n of them at most; the cursor has moved on. -/
def OutPairs (n : Nat) (w : World) (g : Nat) (a : Option Addr) (len cap : Nat) (e : Ending) (w' : World) : Prop :=
  ∃ v ps, e = .returned v ∧ OwnP w' w.heap.size v ps ∧ ps.length ≤ n ∧ Cur w' g a len cap ∧ w.grownBy w' (some g)
set_option maxHeartbeats 1000000 in
theorem pairs_any (w : World) (g : Nat) (a : Option Addr) (len cap : Nat) (hlen : len ≤ 1048576) (hc : Cur w g a len cap) (B : Nat) (hB : B ≤ g) (hrow : Row w B a len) :
    Calls Try.prog 63 #[.pointer (some ⟨g, 0, none⟩)] w (OutPairs 4 w g a len cap) := by
  have HC := Lib.hid hc
  have HR := Lib.hid hrow
  have hgl := hc.lt
  have HC1 := Lib.hid (hc.kept (w' := w.alloc (.cells #[] 102)) (Below.heap_alloc _ _ _ hc.lt))
  have HG1 : Hid (w.grownBy (w.alloc (.cells #[] 102)) (some g)) := Lib.hid (World.grownBy_alloc w _ _)
  have HO1 := Lib.hid (OwnP.empty w w.heap.size (Nat.le_refl _))
  clear hc hrow
  go_enter Try.func63, Try.ntmps63
  go_wp2_with fail
  refine (below_any 5 (by omega) _ g a len cap hlen HC1.out B hB (HR.out.below (grown_below HG1.out hB (by omega)))).mono ?_
  rintro e w2 ⟨x, rfl, hx, hc2, hg2⟩
  obtain ⟨hx0, hx5⟩ := hx.2 (by omega)
  obtain ⟨k0, rfl⟩ := Int.eq_ofNat_of_zero_le hx0
  have HC2 := Lib.hid hc2
  have HG2 := Lib.hid (HG1.out.trans hg2)
  have HO2 := Lib.hid (HO1.out.keptg hg2 hgl)
  have hk5 : k0 < 5 := by omega
  clear hx hc2 hg2 hx0 hx5 HO1 HG1 HC1
  go_wp2
  go_loopw [3, 4] (fun v n wr => ∃ (k : Nat) (ps : List (Int × Int)), ps.length + k ≤ 4 ∧ n = .int .i64 k ∧ OwnP wr w.heap.size v ps ∧ Cur wr g a len cap ∧ w.grownBy wr (some g)) (fun _ n _ => (intOf n).toNat)
  case atStart => exact ⟨k0, [], by simp; omega, rfl, HO2.out, HC2.out, HG2.out⟩
  case round =>
    clear HO2 HC2 HG2 hk5
    obtain ⟨k, ps, hk, rfl, hown, hcur, hgw⟩ := hrel
    have HO := Lib.hid hown
    have HCu := Lib.hid hcur
    have HG := Lib.hid hgw
    clear hown hcur hgw
    by_cases hk0 : k = 0
    · subst hk0
      have hd : decide (((0 : Nat) : Int) > 0) = false := by simp
      go_wp2
      go_ret
      exact ⟨_, ps, rfl, HO.out, by omega, HCu.out, HG.out⟩
    · have hkp : (0 : Int) < k := by omega
      go_wp2_with fail
      refine (below_any 4 (by omega) _ g a len cap hlen HCu.out B hB (HR.out.below (grown_below HG.out hB (by omega)))).mono ?_
      rintro e w3 ⟨x, rfl, hx, hc3, hg3⟩
      obtain ⟨hx0, hx4⟩ := hx.2 (by omega)
      have HC3 := Lib.hid hc3
      have HG3 := Lib.hid (HG.out.trans hg3)
      have HO3 := Lib.hid (HO.out.keptg hg3 hgl)
      clear hx hc3 hg3 HO HCu HG
      go_wp2_with fail
      refine (below_any 3 (by omega) _ g a len cap hlen HC3.out B hB (HR.out.below (grown_below HG3.out hB (by omega)))).mono ?_
      rintro e w4 ⟨y, rfl, hy, hc4, hg4⟩
      obtain ⟨hy0, hy3⟩ := hy.2 (by omega)
      have HC4 := Lib.hid hc4
      have HG4 := Lib.hid (HG3.out.trans hg4)
      have HO4 := Lib.hid (HO3.out.keptg hg4 hgl)
      clear hy hc4 hg4 HO3 HC3 HG3
      go_wp2_with fail
      refine (once_any 3 (by omega) _ g a len cap hlen HC4.out B hB (HR.out.below (grown_below HG4.out hB (by omega)))).mono ?_
      rintro e w5 ⟨t, rfl, hc5, hg5⟩
      have HC5 := Lib.hid hc5
      have HG5 := Lib.hid (HG4.out.trans hg5)
      have HO5 := Lib.hid (HO4.out.keptg hg5 hgl)
      have hwl : Hid (w.heap.size ≤ w5.heap.size) := Lib.hid HG5.out.size
      have H4 : ∀ p : Int × Int, (ps.length + [p].length) * 16 ≤ 140737488355328 := fun p => by
        simp only [List.length_cons, List.length_nil]; omega
      have H4' := Lib.hid H4
      clear hc5 hg5 HO4 HC4 HG4 H4
      cases t
      · go_wp2_with (at_builtin; refine wp_appP _ (by rfl) (.tmp 30) (.tmp 34) (by rfl) w.heap.size _ _ (by rfl) HO5.out _ [(x, x + 1 + y)] (by rfl) 1 1 rfl (by rfl) (H4'.out _) hwl.out ?_)
        intro v1 w6 hown6 hb6
        have HO6 := Lib.hid hown6
        have HG6 := Lib.hid (grown_tail HG5.out hb6)
        have HC6 := Lib.hid (HC5.out.kept (hb6.block g hgl))
        clear hown6 hb6
        go_wp2
        go_roundw
        case rel => exact ⟨k - 1, ps ++ [(x, x + 1 + y)], by simp; omega, by first | rfl | (congr 1; omega), HO6.out, HC6.out, HG6.out⟩
        case measure => simp [intOf]; omega
      · go_wp2_with (at_builtin; refine wp_appP _ (by rfl) (.tmp 23) (.tmp 28) (by rfl) w.heap.size _ _ (by rfl) HO5.out _ [(x + 1 + y, x + 1 + y + 1)] (by rfl) 1 1 rfl (by rfl) (H4'.out _) hwl.out ?_)
        intro v1 w6 hown6 hb6
        have HO6 := Lib.hid hown6
        have HG6 := Lib.hid (grown_tail HG5.out hb6)
        have HC6 := Lib.hid (HC5.out.kept (hb6.block g hgl))
        clear hown6 hb6
        go_wp2
        go_roundw
        case rel => exact ⟨k - 1, ps ++ [(x + 1 + y, x + 1 + y + 1)], by simp; omega, by first | rfl | (congr 1; omega), HO6.out, HC6.out, HG6.out⟩
        case measure => simp [intOf]; omega

theorem OwnP.lowD {w : World} {B B' : Nat} {v : Value} {l : List (Int × Int)} (h : OwnP w B v l) (hB : B' ≤ B) : OwnP w B' v l :=
  ⟨h.1, h.2.imp id fun ⟨g, cap, cur, h1, h2, h3⟩ => ⟨g, cap, cur, h1, Nat.le_trans hB h2, h3⟩⟩
/-- Pairs that came of a draw. -/
def Drawn (w w' : World) (v : Value) (ps : List (Int × Int)) : Prop := OwnP w' w.heap.size v ps ∧ ps.length ≤ 5 ∧ Below w.heap.size w w'
end Go.Proofs.Ytalgfiefadfmnaa.num
namespace Go.Proofs.Ytalgfiefadfmnaa.num
open Go.RowKit Go.ChangeShapes Go.WideShapes Go.Deep Go.Joins

section
variable {H : Type} {enc : TypeId × Value → H} {W : World}
set_option maxRecDepth 20000 in
theorem open_pairs {b0 : Nat} {v : Value} {d : DataW H} {p : List MemPlace} (hv : Value.okWide Try.prog W .any b0 42 v) (h : DataW.Trod enc Try.prog W 0 (fun _ => true) true 42 v d p) :
    ∃ A n c ps, v = .slice A n c ∧ n ≤ 9223372036854775807 ∧ Pairs W W.heap.size A n ps := by
  obtain ⟨A, n, c, rfl⟩ := okWide_slice Try.underlying42 hv
  obtain ⟨fuel, hf⟩ := h
  rcases open_slice_pairs Try.underlying42 Try.underlying104 (by kernel_rfl) rfl rfl (by kernel_rfl) (by kernel_rfl) hf with ⟨hc, _⟩ | ⟨a, len, cap, m, k, V0, V1, D0, D1, P0, P1, hc, _, hl, hm, hmm, _, hx⟩
  · have hs : Value.slice A n c = .slice none 0 0 := by simpa [Value.cells] using hc
    injection hs with h1 h2 h3
    subst h1 h2 h3
    exact ⟨none, 0, 0, [], rfl, by omega, rfl, fun k p hk => by simp at hk⟩
  · have hs : Value.slice A n c = .slice (some a) len cap := by simpa [Value.cells] using hc
    injection hs with h1 h2 h3
    subst h1 h2 h3
    have hmc : m = c := by simpa using hmm
    obtain ⟨ps, hlen, hp⟩ := list_of (n := n) (p := fun i (t : Int × Int) => ∃ b off : Nat, some a = some ⟨b, off, none⟩ ∧ b < W.heap.size ∧ W.cell? ⟨b, off + i * 2, none⟩ = some (.int .i64 t.1) ∧ W.cell? ⟨b, off + i * 2 + 1, none⟩ = some (.int .i64 t.2)) (fun i hi => by
      obtain ⟨g0, g1, t0, t1⟩ := hx i (by omega)
      obtain ⟨gz, _, _, _⟩ := hx 0 (by omega)
      obtain ⟨x, hx0, _, _⟩ := DataW.trod_int Try.underlying3 t0
      obtain ⟨y, hy0, _, _⟩ := DataW.trod_int Try.underlying3 t1
      have hx' : V0 i = .int .i64 x := by simpa using hx0
      have hy' : V1 i = .int .i64 y := by simpa using hy0
      obtain ⟨b, off, rfl, hb, q0⟩ := add_flat gz g0
      obtain ⟨b', off', he, hb', q1⟩ := add_flat gz g1
      injection he with e1 e2
      subst e1 e2
      exact ⟨(x, y), b, off, rfl, hb, q0.trans (by rw [hx']), q1.trans (by rw [hy'])⟩)
    refine ⟨some a, n, c, ps, rfl, by unfold maxLen at hm; omega, hlen, fun i t hi => ?_⟩
    have hlt : i < ps.length := by
      rcases Nat.lt_or_ge i ps.length with h' | h'
      · exact h'
      · rw [List.getElem?_eq_none h'] at hi; cases hi
    rw [List.getElem?_eq_getElem hlt] at hi
    cases hi
    exact hp i hlt
end
end Go.Proofs.Ytalgfiefadfmnaa.num
namespace Go.Proofs.Ytalgfiefadfmnaa.num
open Go.RowKit
set_option linter.unusedVariables false

set_option maxRecDepth 20000 in
theorem eqPair_c (w : World) (x y x' y' : Int) (b : Bool) (hb : b = true ↔ (x, y) = (x', y')) :
    Calls Try.prog 62 #[.agg #[.int .i64 x, .int .i64 y], .agg #[.int .i64 x', .int .i64 y']] w fun e w' => e = .returned (.bool b) ∧ Below w.heap.size w w' := by
  have HB := Lib.hid hb
  clear hb
  by_cases h1 : x = x'
  · subst h1
    by_cases h2 : y = y'
    · subst h2
      obtain rfl : b = true := HB.out.2 rfl
      go_enter Try.func62, Try.ntmps62
      go_wp2
      go_ret
      exact ⟨rfl, ((Below.refl _ w).alloc (Nat.le_refl _) _).alloc (by simp) _⟩
    · obtain rfl : b = false := by
        cases b
        · rfl
        · exact absurd (Prod.mk.inj (HB.out.1 rfl)).2 h2
      have hne : (y != y') = true := by simpa using h2
      clear h2
      go_enter Try.func62, Try.ntmps62
      go_wp2
      go_ret
      exact ⟨rfl, ((Below.refl _ w).alloc (Nat.le_refl _) _).alloc (by simp) _⟩
  · obtain rfl : b = false := by
      cases b
      · rfl
      · exact absurd (Prod.mk.inj (HB.out.1 rfl)).1 h1
    have hne : (x != x') = true := by simpa using h1
    clear h1
    go_enter Try.func62, Try.ntmps62
    go_wp2
    go_ret
    exact ⟨rfl, ((Below.refl _ w).alloc (Nat.le_refl _) _).alloc (by simp) _⟩

theorem ne_atP {ps qs : List (Int × Int)} {k : Nat} {p q : Int × Int} (h1 : ps[k]? = some p) (h2 : qs[k]? = some q) (h : p ≠ q) : ps ≠ qs := fun e => by
  rw [e, h2] at h1
  exact h (Option.some.inj h1).symm

set_option maxRecDepth 20000 in
theorem eqPairs (w : World) (B : Nat) (A A' : Option Addr) (n n' c c' : Nat) (ps qs : List (Int × Int)) (h1 : Pairs w B A n ps) (h2 : Pairs w B A' n' qs) (hB : B ≤ w.heap.size) (hn : n ≤ 1048576) (b : Bool) (hb : b = true ↔ ps = qs) :
    Calls Try.prog 47 #[.slice A n c, .slice A' n' c'] w fun e w' => e = .returned (.bool b) ∧ Below w.heap.size w w' := by
  have HX := Lib.hid h1
  have HY := Lib.hid h2
  by_cases hl : n = n'
  · subst hl
    have HBo := Lib.hid hb
    clear h1 h2 hb
    go_enter Try.func47, Try.ntmps47
    go_wp2
    go_loopw [5] (fun i wr => ∃ k : Nat, k ≤ n ∧ i = .int .i64 k ∧ ps.take k = qs.take k ∧ Below w.heap.size w wr) (fun i _ => n - (intOf i).toNat)
    case atStart => exact ⟨0, Nat.zero_le _, rfl, rfl, Below.refl _ _⟩
    case round =>
      obtain ⟨k, hk, rfl, htake, hbel⟩ := hrel
      have HT := Lib.hid htake
      have HB := Lib.hid hbel
      clear htake
      by_cases hlt : k < n
      · obtain ⟨b1, off1, x1, y1, rfl, hb1, hat1, hc1, hd1⟩ := HX.out.at k hlt
        obtain ⟨b2, off2, x2, y2, rfl, hb2, hat2, hc2, hd2⟩ := HY.out.at k hlt
        have f1 := (hbel.cell (p := ⟨b1, off1 + k * 2, none⟩) (by exact Nat.lt_of_lt_of_le hb1 hB)).trans hc1
        have f2 := (hbel.cell (p := ⟨b1, off1 + k * 2 + 1, none⟩) (by exact Nat.lt_of_lt_of_le hb1 hB)).trans hd1
        have f3 := (hbel.cell (p := ⟨b2, off2 + k * 2, none⟩) (by exact Nat.lt_of_lt_of_le hb2 hB)).trans hc2
        have f4 := (hbel.cell (p := ⟨b2, off2 + k * 2 + 1, none⟩) (by exact Nat.lt_of_lt_of_le hb2 hB)).trans hd2
        have HA1 := Lib.hid hat1
        have HA2 := Lib.hid hat2
        have hsz := Lib.hid hbel.size
        have hlt' : (k : Int) < (n : Int) := by omega
        obtain ⟨q, hq⟩ : ∃ q : Bool, q = true ↔ (x1, y1) = (x2, y2) := bool_of _
        have HQ := Lib.hid hq
        clear hc1 hd1 hc2 hd2 hat1 hat2 hbel hq
        have HB' : Hid (Below w.heap.size w wr.drew) := Lib.hid HB.out.drew
        have hsz' : Hid (w.heap.size ≤ wr.drew.heap.size) := hsz
        clear HB hsz
        go_wp2
        go_still_tail 8, (by kernel_rfl)
        change wpList _ _ _ _ _ wr.drew
        generalize wr.drew = w2 at *
        clear f1 f2 f3 f4
        go_wp2_with fail
        refine (eqPair_c w2 x1 y1 x2 y2 q HQ.out).mono ?_
        rintro e w3 ⟨rfl, hb3⟩
        have HB3 := Lib.hid (HB'.out.trans (hb3.mono hsz'.out))
        clear hb3
        cases q
        · have HF := Lib.hid (ne_atP HA1.out HA2.out (fun e => by have := HQ.out.2 e; cases this))
          obtain rfl : b = false := by
            cases b
            · rfl
            · exact absurd (HBo.out.1 rfl) HF.out
          go_wp2
          go_ret
          exact ⟨rfl, HB3.out⟩
        · have HD := Lib.hid (HQ.out.1 (by first | rfl | trivial))
          go_wp2
          go_roundw
          case rel => exact ⟨k + 1, by omega, by go_num, by rw [ptake_at HA1.out, ptake_at HA2.out, HT.out, HD.out], HB3.out⟩
          case measure => simp [intOf]; omega
      · obtain rfl : k = n := by omega
        obtain rfl : b = true := HBo.out.2 (by have := HT.out; rwa [ptake_all HX.out.1, ptake_all HY.out.1] at this)
        clear hbel
        go_wp2
        go_ret
        exact ⟨rfl, HB.out⟩
  · obtain rfl : b = false := by
      cases b
      · rfl
      · exact absurd (by rw [← h1.1, hb.1 rfl, h2.1]) hl
    clear h1 h2 hb
    go_enter Try.func47, Try.ntmps47
    go_wp2
    go_ret
    exact ⟨rfl, Below.refl _ _⟩
end Go.Proofs.Ytalgfiefadfmnaa.num
namespace Go.Proofs.Ytalgfiefadfmnaa.num
open Go.RowKit
set_option linter.unusedVariables false

theorem marks_at {k n j : Nat} (h : j < n) : ((marks k n).map (Value.int .i64))[j]? = some (.int .i64 ((k + j : Nat) : Int)) := by simp [marks, h]
theorem ownI_nil (w : World) (B : Nat) : OwnI w B (.slice none 0 0) [] := ⟨rfl, .inl ⟨rfl, rfl⟩⟩
end Go.Proofs.Ytalgfiefadfmnaa.num
namespace Go.Proofs.Ytalgfiefadfmnaa.num
open Go.RowKit
set_option linter.unusedVariables false

theorem Lin.len {ps : List (Int × Int)} {k : Nat} {out : List Int} (h : Lin ps k out) : out.length = k := by
  induction h with
  | nil => rfl
  | snoc _ _ ih => simp [ih]
/-- What Linearize answers. -/
def LinP (ps : List (Int × Int)) (ok : Bool) (out : List Int) : Prop := (ok = true → Lin ps 10 out) ∧ (ok = false → out = [])
theorem LinP.one {ps : List (Int × Int)} {ok : Bool} {o o' : List Int} (h : LinP ps ok o) (h' : LinP ps ok o') : o = o' := by
  cases ok
  · rw [h.2 rfl, h'.2 rfl]
  · exact (h.1 rfl).one (h'.1 rfl)
def FreeUp (ps : List (Int × Int)) (out : List Int) (v : Int) (m : Nat) (f : Bool) : Prop := f = true ↔ v ∉ out ∧ ∀ p, p ∈ ps.take m → p.2 = v → p.1 ∈ out
theorem FreeUp.step {ps : List (Int × Int)} {out : List Int} {v : Int} {m : Nat} {f : Bool} {p : Int × Int} (h : FreeUp ps out v m f) (hp : ps[m]? = some p) {g : Bool} (hg : g = true ↔ f = true ∧ (p.2 = v → p.1 ∈ out)) : FreeUp ps out v (m + 1) g := by
  unfold FreeUp at h ⊢
  rw [hg, h, ptake_at hp]
  constructor
  · rintro ⟨⟨h1, h2⟩, h3⟩
    refine ⟨h1, fun q hq e => ?_⟩
    rcases List.mem_append.1 hq with hq | hq
    · exact h2 q hq e
    · obtain rfl := List.mem_singleton.1 hq
      exact h3 e
  · rintro ⟨h1, h2⟩
    exact ⟨⟨h1, fun q hq e => h2 q (List.mem_append_left _ hq) e⟩, fun e => h2 p (List.mem_append_right _ (by simp)) e⟩

end Go.Proofs.Ytalgfiefadfmnaa.num
namespace Go.Proofs.Ytalgfiefadfmnaa.num
open Go.RowKit
set_option linter.unusedVariables false

theorem PairRow.pairsN {w : World} {b B n : Nat} {ps : List (Int × Int)} (h : PairRow w b ps) (hB : b < B) (hl : ps.length = n) : Pairs w B (some ⟨b, 0, none⟩) n ps := hl ▸ h.pairs hB
theorem OwnP.at {w : World} {B : Nat} {A : Option Addr} {n c : Nat} {l : List (Int × Int)} (h : OwnP w B (.slice A n c) l) : Pairs w w.heap.size A n l := by
  obtain ⟨A', n', c', e, hp⟩ := h.pairs
  injection e with e1 e2 e3
  subst e1 e2 e3
  exact hp
theorem ownI_at {w : World} {B : Nat} {A : Option Addr} {n c : Nat} {l : List Int} (h : OwnI w B (.slice A n c) l) : Ints w w.heap.size A n l := by
  obtain ⟨A', n', c', e, hp⟩ := h.ints
  injection e with e1 e2 e3
  subst e1 e2 e3
  exact hp
theorem cloOf_len (ps : List (Int × Int)) (q : Bool) : (cloOf ps q).length ≤ 1048576 := by
  unfold cloOf
  split
  · have := clo_len ps 100; omega
  · simp
theorem LinP.small {ps : List (Int × Int)} {q : Bool} {out : List Int} (h : LinP ps q out) : out.length ≤ 1048576 := by
  cases q
  · rw [h.2 rfl]; simp
  · rw [(h.1 rfl).len]; decide
end Go.Proofs.Ytalgfiefadfmnaa.num
namespace Go.Proofs.Ytalgfiefadfmnaa.num
open Go.RowKit
set_option linter.unusedVariables false

/-- What a wish says. -/
structure WD where
  kind : Int
  field : Int
  value : Int
  ls : List Int
  ps : List (Int × Int)
/-- A wish's value: its numbers, and its two slices with what they read as. -/
structure Wi where
  kind : Int
  field : Int
  value : Int
  LA : Option Addr
  Ln : Nat
  Lc : Nat
  ls : List Int
  PA : Option Addr
  Pn : Nat
  Pc : Nat
  ps : List (Int × Int)
def Wi.val (t : Wi) : Value := .agg #[.int .i64 t.kind, .int .i64 t.field, .int .i64 t.value, .slice t.LA t.Ln t.Lc, .slice t.PA t.Pn t.Pc]
def Wi.dat (t : Wi) : WD := ⟨t.kind, t.field, t.value, t.ls, t.ps⟩
/-- The wish's slices read as said, below block B; its numbers are ints. -/
structure WiIn (w : World) (B : Nat) (t : Wi) : Prop where
  k : (Lit.int .i64 t.kind).wf = true
  f : (Lit.int .i64 t.field).wf = true
  v : (Lit.int .i64 t.value).wf = true
  l : Ints w B t.LA t.Ln t.ls
  p : Pairs w B t.PA t.Pn t.ps
theorem WiIn.below {w w' : World} {B : Nat} {t : Wi} (h : WiIn w B t) (hb : Below B w w') : WiIn w' B t := ⟨h.k, h.f, h.v, h.l.below hb, h.p.below hb⟩
theorem WiIn.more {w : World} {B B' : Nat} {t : Wi} (h : WiIn w B t) (hB : B ≤ B') : WiIn w B' t := ⟨h.k, h.f, h.v, h.l.more hB, h.p.more hB⟩
/-- A wish whose slices are short. -/
def Wi.Short (t : Wi) : Prop := t.Ln ≤ 1048576 ∧ t.Pn ≤ 1048576

theorem szWish_c (t : Wi) (left : Int) (hl : t.Ln ≤ 9223372036854775807) (hp : t.Pn ≤ 9223372036854775807) (h0 : 0 ≤ left) (h1 : left ≤ 1048576) (w : World) :
    Calls Try.prog 22 #[t.val, .int .i64 left] w fun e w' => (∃ r : Int, e = .returned (.int .i64 r) ∧ (r = -1 ∨ (0 ≤ r ∧ r ≤ left ∧ (t.Ln : Int) ≤ left ∧ (t.Pn : Int) ≤ left))) ∧ Below w.heap.size w w' := by
  obtain ⟨k, f, v, LA, Ln, Lc, ls, PA, Pn, Pc, ps⟩ := t
  unfold Wi.val
  simp only [] at hl hp ⊢
  by_cases hle : (Ln : Int) ≤ left
  · go_enter Try.func22, Try.ntmps22
    go_wp2_with fail
    refine (szInts_yes _ _ _ _ hl hle h1 _).mono ?_
    rintro e w1 ⟨rfl, rfl⟩
    go_wp2_with fail
    refine (szPairs _ _ _ _ hp (by omega) (by omega) _).mono ?_
    rintro e w2 ⟨⟨r, rfl, hr⟩, rfl⟩
    rcases hr with rfl | ⟨r0, r1, r2⟩
    · go_wp2
      go_ret
      exact ⟨⟨_, rfl, .inl rfl⟩, (Below.refl _ _).alloc (Nat.le_refl _) _⟩
    · go_wp2
      go_ret
      exact ⟨⟨r, rfl, .inr ⟨r0, by omega, hle, by omega⟩⟩, (Below.refl _ _).alloc (Nat.le_refl _) _⟩
  · go_enter Try.func22, Try.ntmps22
    go_wp2_with fail
    refine (szInts_no _ _ _ _ hl (by omega) h0 _).mono ?_
    rintro e w1 ⟨rfl, rfl⟩
    go_wp2
    go_ret
    exact ⟨⟨_, rfl, .inl rfl⟩, (Below.refl _ _).alloc (Nat.le_refl _) _⟩
theorem below4 {w : World} {B : Nat} (hB : B ≤ w.heap.size) (o1 o2 o3 o4 : Obj) : Below B w ((((w.alloc o1).alloc o2).alloc o3).alloc o4) := (below3 hB o1 o2 o3).alloc (by simp; omega) _
theorem heap_mid2 (w : World) (o1 o2 o3 o4 : Obj) : ((((w.alloc o1).alloc o2).alloc o3).alloc o4).heap[w.heap.size + 2]? = some o3 := by
  rw [Below.heap_alloc _ _ _ (by simp)]
  have h := heap_alloc_new ((w.alloc o1).alloc o2) o3
  have e : ((w.alloc o1).alloc o2).heap.size = w.heap.size + 2 := by simp
  rwa [e] at h
theorem five_set {w : World} {g : Nat} {t : TypeId} {u0 u1 u2 u3 u4 v0 v1 v2 v3 v4 : Value} (h : w.heap[g]? = some (.cells #[u0, u1, u2, u3, u4] t (0, 0))) :
    (((((w.setCell ⟨g, 0, none⟩ v0).setCell ⟨g, 1, none⟩ v1).setCell ⟨g, 2, none⟩ v2).setCell ⟨g, 3, none⟩ v3).setCell ⟨g, 4, none⟩ v4).heap[g]? = some (.cells #[v0, v1, v2, v3, v4] t (0, 0)) := by
  have h := heap_setCell_same _ g 4 _ _ v4 (heap_setCell_same _ g 3 _ _ v3 (heap_setCell_same _ g 2 _ _ v2 (heap_setCell_same _ g 1 _ _ v1 (heap_setCell_same w g 0 _ _ v0 h))))
  simpa using h
set_option maxRecDepth 20000 in
theorem toWish_c (w : World) (B : Nat) (t : Wi) (hi : WiIn w B t) (hB : B ≤ w.heap.size) (hn : t.Short) :
    Calls Try.prog 23 #[t.val] w fun e w' => ∃ t' : Wi, e = .returned t'.val ∧ t'.dat = t.dat ∧ t'.Short ∧ WiIn w' w'.heap.size t' ∧ Below w.heap.size w w' := by
  obtain ⟨k, f, v, LA, Ln, Lc, ls, PA, Pn, Pc, ps⟩ := t
  obtain ⟨hk, hf, hv, hl, hp⟩ := hi
  unfold Wi.val
  simp only [Wi.Short] at hk hf hv hl hp hn ⊢
  have HL := Lib.hid hl
  have HP := Lib.hid hp
  have HK := Lib.hid hk
  have HF := Lib.hid hf
  have HV := Lib.hid hv
  have HN := Lib.hid hn
  clear hl hp hk hf hv hn
  go_enter Try.func23, Try.ntmps23
  go_wp2_with fail
  refine (toInts _ B LA Ln Lc ls (HL.out.below (below3 hB _ _ _)) (by simp; omega) HN.out.1).mono ?_
  rintro e w1 ⟨rfl, rfl⟩
  go_wp2_with fail
  refine (toPairs _ B PA Pn Pc ps (HP.out.below (below4 hB _ _ _ _)) (by simp; omega) HN.out.2).mono ?_
  rintro e w2 ⟨rfl, hrow, hb2⟩
  have hr1 : w2.heap[w.heap.size + 1]? = some (.cells #[.int .i64 0, .int .i64 0, .int .i64 0, .slice none 0 0, .slice none 0 0] 27 (0, 0)) := (hb2.block _ (by simp <;> omega)).trans (heap_mid _ _ _ _ _)
  have hr2 : w2.heap[w.heap.size + 1 + 1]? = some (.cells #[.int .i64 k, .int .i64 f, .int .i64 v, .slice (some ⟨w.heap.size + 1 + 1 + 1, 0, none⟩) Ln Ln, .slice none 0 0] 27 (0, 0)) := (hb2.block _ (by simp <;> omega)).trans (heap_mid2 _ _ _ _ _)
  have hr3 : IntRow w2 (w.heap.size + 1 + 1 + 1) ls := (IntRow.made _ ls _ (by simp)).below hb2 (by simp)
  have hbel : Below w.heap.size w w2 := (below4 (Nat.le_refl _) _ _ _ _).trans (hb2.mono (by simp; omega))
  have hsz : w.heap.size + 1 + 1 + 1 + 1 < w2.heap.size := by have := hrow.lt; simp at this ⊢; omega
  have HRow := Lib.hid hrow
  have HR3 := Lib.hid hr3
  have HB2 := Lib.hid hbel
  have HS := Lib.hid hsz
  have d0 : w2.cell? ⟨w.heap.size + 1, 0, none⟩ = some (.int .i64 0) := cell_of_row w2 _ 0 _ _ (0, 0) hr1
  have d1 : w2.cell? ⟨w.heap.size + 1, 1, none⟩ = some (.int .i64 0) := cell_of_row w2 _ 1 _ _ (0, 0) hr1
  have d2 : w2.cell? ⟨w.heap.size + 1, 2, none⟩ = some (.int .i64 0) := cell_of_row w2 _ 2 _ _ (0, 0) hr1
  have d3 : w2.cell? ⟨w.heap.size + 1, 3, none⟩ = some (.slice none 0 0) := cell_of_row w2 _ 3 _ _ (0, 0) hr1
  have d4 : w2.cell? ⟨w.heap.size + 1, 4, none⟩ = some (.slice none 0 0) := cell_of_row w2 _ 4 _ _ (0, 0) hr1
  have g0 : w2.frozen? ⟨w.heap.size + 1, 0, none⟩ = false := frozen_of_row w2 _ 0 _ _ hr1
  have g1 : w2.frozen? ⟨w.heap.size + 1, 1, none⟩ = false := frozen_of_row w2 _ 1 _ _ hr1
  have g2 : w2.frozen? ⟨w.heap.size + 1, 2, none⟩ = false := frozen_of_row w2 _ 2 _ _ hr1
  have g3 : w2.frozen? ⟨w.heap.size + 1, 3, none⟩ = false := frozen_of_row w2 _ 3 _ _ hr1
  have g4 : w2.frozen? ⟨w.heap.size + 1, 4, none⟩ = false := frozen_of_row w2 _ 4 _ _ hr1
  have c0 : w2.cell? ⟨w.heap.size + 1 + 1, 0, none⟩ = some (.int .i64 k) := cell_of_row w2 _ 0 _ _ (0, 0) hr2
  have c1 : w2.cell? ⟨w.heap.size + 1 + 1, 1, none⟩ = some (.int .i64 f) := cell_of_row w2 _ 1 _ _ (0, 0) hr2
  have c2 : w2.cell? ⟨w.heap.size + 1 + 1, 2, none⟩ = some (.int .i64 v) := cell_of_row w2 _ 2 _ _ (0, 0) hr2
  have c3 : w2.cell? ⟨w.heap.size + 1 + 1, 3, none⟩ = some (.slice (some ⟨w.heap.size + 1 + 1 + 1, 0, none⟩) Ln Ln) := cell_of_row w2 _ 3 _ _ (0, 0) hr2
  have c4 : w2.cell? ⟨w.heap.size + 1 + 1, 4, none⟩ = some (.slice none 0 0) := cell_of_row w2 _ 4 _ _ (0, 0) hr2
  have e4 : w2.frozen? ⟨w.heap.size + 1 + 1, 4, none⟩ = false := frozen_of_row w2 _ 4 _ _ hr2
  have HR1 := Lib.hid hr1
  clear hr1 hr2 hr3 hrow hbel hsz hb2
  go_wp2
  refine bodyPost_ret_by (results_cell_row rfl _ _ (w.heap.size + 1) 27 _ (0, 0) _ rfl (five_set ((heap_setCell_other _ _ _ _ (by simp)).trans HR1.out)) Try.underlying27 rfl (by kernel_rfl)) rfl ?_
  have hk2 : ∀ b, w.heap.size + 1 + 1 < b → ∀ v1 v2 v3 v4 v5 v6, ((((((w2.setCell ⟨w.heap.size + 1 + 1, 4, none⟩ v1).setCell ⟨w.heap.size + 1, 0, none⟩ v2).setCell ⟨w.heap.size + 1, 1, none⟩ v3).setCell ⟨w.heap.size + 1, 2, none⟩ v4).setCell ⟨w.heap.size + 1, 3, none⟩ v5).setCell ⟨w.heap.size + 1, 4, none⟩ v6).heap[b]? = w2.heap[b]? := fun b hb v1 v2 v3 v4 v5 v6 => by
    rw [heap_setCell_other _ _ _ _ (by simp; omega), heap_setCell_other _ _ _ _ (by simp; omega), heap_setCell_other _ _ _ _ (by simp; omega), heap_setCell_other _ _ _ _ (by simp; omega), heap_setCell_other _ _ _ _ (by simp; omega), heap_setCell_other _ _ _ _ (by simp; omega)]
  refine ⟨⟨k, f, v, some ⟨w.heap.size + 1 + 1 + 1, 0, none⟩, Ln, Ln, ls, some ⟨w.heap.size + 1 + 1 + 1 + 1, 0, none⟩, Pn, Pn, ps⟩, rfl, rfl, HN.out, ⟨HK.out, HF.out, HV.out, ints_row HL.out (World.rowIs.of_block HR3.out (hk2 _ (by omega) _ _ _ _ _ _)), ?_⟩, ?_⟩
  · have hp0 : PairRow w2 (w.heap.size + 1 + 1 + 1 + 1) ps := by have := HRow.out; simp at this; exact this
    refine PairRow.pairsN (World.rowIs.of_block hp0 (hk2 _ (by omega) _ _ _ _ _ _)) ?_ HP.out.1
    have := HS.out
    simpa using this
  · exact (((((HB2.out.setCell (by show _ ≤ w.heap.size + 1 + 1; omega) _).setCell (by show _ ≤ w.heap.size + 1; omega) _).setCell (by show _ ≤ w.heap.size + 1; omega) _).setCell (by show _ ≤ w.heap.size + 1; omega) _).setCell (by show _ ≤ w.heap.size + 1; omega) _).setCell (by show _ ≤ w.heap.size + 1; omega) _

set_option maxRecDepth 20000 in
theorem eqWish_c (w : World) (B : Nat) (t t' : Wi) (h1 : WiIn w B t) (h2 : WiIn w B t') (hB : B ≤ w.heap.size) (hn : t.Short) (b : Bool) (hb : b = true ↔ t.dat = t'.dat) :
    Calls Try.prog 24 #[t.val, t'.val] w fun e w' => e = .returned (.bool b) ∧ Below w.heap.size w w' := by
  obtain ⟨k, f, v, LA, Ln, Lc, ls, PA, Pn, Pc, ps⟩ := t
  obtain ⟨k', f', v', LA', Ln', Lc', ls', PA', Pn', Pc', ps'⟩ := t'
  obtain ⟨-, -, -, hl, hp⟩ := h1
  obtain ⟨-, -, -, hl', hp'⟩ := h2
  unfold Wi.val
  simp only [Wi.dat, WD.mk.injEq, Wi.Short] at hl hp hl' hp' hn hb ⊢
  have HL := Lib.hid hl
  have HP := Lib.hid hp
  have HL' := Lib.hid hl'
  have HP' := Lib.hid hp'
  have HB := Lib.hid hb
  have HN := Lib.hid hn
  have hB2 : ∀ o1 o2 : Obj, Below B w ((w.alloc o1).alloc o2) := fun o1 o2 => ((Below.refl B w).alloc hB _).alloc (by simp; omega) _
  have hW2 : ∀ o1 o2 : Obj, Below w.heap.size w ((w.alloc o1).alloc o2) := fun o1 o2 => ((Below.refl _ w).alloc (Nat.le_refl _) _).alloc (by simp) _
  have HB2 := Lib.hid hB2
  have HW2 := Lib.hid hW2
  clear hl hp hl' hp' hb hn hB2 hW2
  have hno : ¬ (k = k' ∧ f = f' ∧ v = v' ∧ ls = ls' ∧ ps = ps') → b = false := fun h => by
    cases b
    · rfl
    · exact absurd (HB.out.1 rfl) h
  have HNo := Lib.hid hno
  clear hno
  by_cases e1 : k = k'
  · subst e1
    by_cases e2 : f = f'
    · subst e2
      by_cases e3 : v = v'
      · subst e3
        obtain ⟨q1, hq1⟩ := bool_of (ls = ls')
        obtain ⟨q2, hq2⟩ := bool_of (ps = ps')
        have HQ1 := Lib.hid hq1
        have HQ2 := Lib.hid hq2
        clear hq1 hq2
        go_enter Try.func24, Try.ntmps24
        go_wp2_with fail
        refine (eqInts_b _ B LA LA' Ln Ln' Lc Lc' ls ls' (HL.out.below (HB2.out _ _)) (HL'.out.below (HB2.out _ _)) HN.out.1 q1 HQ1.out).mono ?_
        rintro e w1 ⟨rfl, hb1⟩
        have HB1 := Lib.hid (And.intro (((HB2.out _ _).trans (hb1.mono (by simp <;> omega)))) ((HW2.out _ _).trans (hb1.mono (by simp <;> omega))))
        have c1 : w1.cell? ⟨w.heap.size, 4, none⟩ = some (.slice PA Pn Pc) := (hb1.cell (p := ⟨w.heap.size, 4, none⟩) (by simp; omega)).trans (by rw [World.cell?_alloc_past _ _ _ (by simp), World.cell?_alloc_at _ _ _ _ rfl]; rfl)
        have c2 : w1.cell? ⟨w.heap.size + 1, 4, none⟩ = some (.slice PA' Pn' Pc') := (hb1.cell (p := ⟨w.heap.size + 1, 4, none⟩) (by simp)).trans (by rw [World.cell?_alloc_at _ _ _ _ (by simp)]; rfl)
        clear hb1
        cases q1
        · obtain rfl := HNo.out (fun h => by have := HQ1.out.2 h.2.2.2.1; cases this)
          go_wp2
          go_ret
          exact ⟨rfl, HB1.out.2⟩
        · go_wp2_with fail
          refine (eqPairs w1 B PA PA' Pn Pn' Pc Pc' ps ps' (HP.out.below HB1.out.1) (HP'.out.below HB1.out.1) (Nat.le_trans hB HB1.out.2.size) HN.out.2 q2 HQ2.out).mono ?_
          rintro e w2 ⟨rfl, hb2⟩
          have HBB := Lib.hid (HB1.out.2.trans (hb2.mono HB1.out.2.size))
          clear hb2 c1 c2
          cases q2
          · obtain rfl := HNo.out (fun h => by have := HQ2.out.2 h.2.2.2.2; cases this)
            go_wp2
            go_ret
            exact ⟨rfl, HBB.out⟩
          · obtain rfl := HB.out.2 ⟨(by first | rfl | trivial), (by first | rfl | trivial), (by first | rfl | trivial), HQ1.out.1 (by first | rfl | trivial), HQ2.out.1 (by first | rfl | trivial)⟩
            go_wp2
            go_ret
            exact ⟨rfl, HBB.out⟩
      · obtain rfl := HNo.out (fun h => e3 h.2.2.1)
        have hne : (v != v') = true := by simpa using e3
        clear e3
        go_enter Try.func24, Try.ntmps24
        go_wp2
        go_ret
        exact ⟨rfl, HW2.out _ _⟩
    · obtain rfl := HNo.out (fun h => e2 h.2.1)
      have hne : (f != f') = true := by simpa using e2
      clear e2
      go_enter Try.func24, Try.ntmps24
      go_wp2
      go_ret
      exact ⟨rfl, HW2.out _ _⟩
  · obtain rfl := HNo.out (fun h => e1 h.1)
    have hne : (k != k') = true := by simpa using e1
    clear e1
    go_enter Try.func24, Try.ntmps24
    go_wp2
    go_ret
    exact ⟨rfl, HW2.out _ _⟩
end Go.Proofs.Ytalgfiefadfmnaa.num
namespace Go.Proofs.Ytalgfiefadfmnaa.num
open Go.RowKit Go.ChangeShapes Go.WideShapes Go.Deep Go.Joins

theorem array5 {α : Type} {cs : Array α} (h : cs.size = 5) : ∃ c0 c1 c2 c3 c4, cs = #[c0, c1, c2, c3, c4] := by
  obtain ⟨l⟩ := cs
  match l, h with
  | [c0, c1, c2, c3, c4], _ => exact ⟨c0, c1, c2, c3, c4, rfl⟩
section
variable {H : Type} {enc : TypeId × Value → H} {W : World}
theorem open_struct5 {P : Program} {w : World} {base : Nat} {spare : Nat → Bool} {held : Bool} {r : Go.Reach} {b0 : Nat} {t : TypeId} {f0 f1 f2 f3 f4 : Field} {v : Value} {d : DataW H} {p : List MemPlace} (hs : P.underlying t = some (.struct #[f0, f1, f2, f3, f4])) (hone : oneCellFields P #[f0, f1, f2, f3, f4] = true) (hC : P.cellsOf t = 5)
    (hv : Value.okWide P w r b0 t v) (h : DataW.Trod enc P w base spare held t v d p) :
    ∃ (v0 v1 v2 v3 v4 : Value) (y0 y1 y2 y3 y4 : DataW H × List MemPlace) (n : Nat), v = .agg #[v0, v1, v2, v3, v4] ∧
      DataW.trod enc P w base spare held n f0.type [v0] = some y0 ∧ DataW.trod enc P w base spare held n f1.type [v1] = some y1 ∧ DataW.trod enc P w base spare held n f2.type [v2] = some y2 ∧ DataW.trod enc P w base spare held n f3.type [v3] = some y3 ∧ DataW.trod enc P w base spare held n f4.type [v4] = some y4 := by
  obtain ⟨cs, rfl, hsz⟩ := okWide_struct hs hv
  obtain ⟨c0, c1, c2, c3, c4, rfl⟩ := array5 (hsz.trans hC)
  obtain ⟨fuel, hf⟩ := h
  obtain ⟨xs, n, _, _, _, hlen, hx⟩ := DataW.trod_struct hs hf
  obtain ⟨o0, k0⟩ := hone_of hone 0 f0 rfl
  obtain ⟨o1, k1⟩ := hone_of hone 1 f1 rfl
  obtain ⟨o2, k2⟩ := hone_of hone 2 f2 rfl
  obtain ⟨o3, k3⟩ := hone_of hone 3 f3 rfl
  obtain ⟨o4, k4⟩ := hone_of hone 4 f4 rfl
  match xs, hlen with
  | [y0, y1, y2, y3, y4], _ =>
    exact ⟨c0, c1, c2, c3, c4, y0, y1, y2, y3, y4, n, rfl, by simpa [Value.cells, o0, k0] using hx 0 f0 rfl, by simpa [Value.cells, o1, k1] using hx 1 f1 rfl, by simpa [Value.cells, o2, k2] using hx 2 f2 rfl, by simpa [Value.cells, o3, k3] using hx 3 f3 rfl, by simpa [Value.cells, o4, k4] using hx 4 f4 rfl⟩
set_option maxRecDepth 20000 in
theorem open_pairrow {fuel : Nat} {v : Value} {x : DataW H × List MemPlace} (hf : DataW.trod enc Try.prog W 0 (fun _ => true) true fuel 42 [v] = some x) :
    ∃ A n c ps, v = .slice A n c ∧ n ≤ 9223372036854775807 ∧ Pairs W W.heap.size A n ps := by
  rcases open_slice_pairs Try.underlying42 Try.underlying104 (by kernel_rfl) rfl rfl (by kernel_rfl) (by kernel_rfl) hf with ⟨hc, _⟩ | ⟨a, len, cap, m, k, V0, V1, D0, D1, P0, P1, hc, _, hl, hm, hmm, _, hx⟩
  · obtain rfl : v = .slice none 0 0 := by simpa using hc
    exact ⟨none, 0, 0, [], rfl, by omega, rfl, fun k p hk => by simp at hk⟩
  · obtain rfl : v = .slice (some a) len cap := by simpa using hc
    have hmc : m = cap := by simpa using hmm
    obtain ⟨ps, hlen, hp⟩ := list_of (n := len) (p := fun i (t : Int × Int) => ∃ b off : Nat, some a = some ⟨b, off, none⟩ ∧ b < W.heap.size ∧ W.cell? ⟨b, off + i * 2, none⟩ = some (.int .i64 t.1) ∧ W.cell? ⟨b, off + i * 2 + 1, none⟩ = some (.int .i64 t.2)) (fun i hi => by
      obtain ⟨g0, g1, t0, t1⟩ := hx i (by omega)
      obtain ⟨gz, _, _, _⟩ := hx 0 (by omega)
      obtain ⟨x, hx0, _, _⟩ := DataW.trod_int Try.underlying3 t0
      obtain ⟨y, hy0, _, _⟩ := DataW.trod_int Try.underlying3 t1
      have hx' : V0 i = .int .i64 x := by simpa using hx0
      have hy' : V1 i = .int .i64 y := by simpa using hy0
      obtain ⟨b, off, rfl, hb, q0⟩ := add_flat gz g0
      obtain ⟨b', off', he, hb', q1⟩ := add_flat gz g1
      injection he with e1 e2
      subst e1 e2
      exact ⟨(x, y), b, off, rfl, hb, q0.trans (by rw [hx']), q1.trans (by rw [hy'])⟩)
    refine ⟨some a, len, cap, ps, rfl, by unfold maxLen at hm; omega, hlen, fun i t hi => ?_⟩
    have hlt : i < ps.length := by
      rcases Nat.lt_or_ge i ps.length with h' | h'
      · exact h'
      · rw [List.getElem?_eq_none h'] at hi; cases hi
    rw [List.getElem?_eq_getElem hlt] at hi
    cases hi
    exact hp i hlt
set_option maxRecDepth 20000 in
theorem open_wish {b0 : Nat} {v : Value} {d : DataW H} {p : List MemPlace} (hv : Value.okWide Try.prog W .any b0 44 v) (h : DataW.Trod enc Try.prog W 0 (fun _ => true) true 44 v d p) :
    ∃ t : Wi, v = t.val ∧ t.Ln ≤ 9223372036854775807 ∧ t.Pn ≤ 9223372036854775807 ∧ WiIn W W.heap.size t := by
  obtain ⟨v0, v1, v2, v3, v4, y0, y1, y2, y3, y4, n, rfl, h0, h1, h2, h3, h4⟩ := open_struct5 Try.underlying44 (by kernel_rfl) (by kernel_rfl) hv h
  obtain ⟨k, hk, _, wk⟩ := DataW.trod_int Try.underlying3 h0
  obtain ⟨f, hf, _, wf⟩ := DataW.trod_int Try.underlying3 h1
  obtain ⟨x, hx, _, wx⟩ := DataW.trod_int Try.underlying3 h2
  obtain ⟨A, m, c, xs, rfl, hm, hxs⟩ := open_introw h3
  obtain ⟨A', m', c', ps, rfl, hm', hps⟩ := open_pairrow h4
  obtain rfl : v0 = .int .i64 k := by simpa using hk
  obtain rfl : v1 = .int .i64 f := by simpa using hf
  obtain rfl : v2 = .int .i64 x := by simpa using hx
  exact ⟨⟨k, f, x, A, m, c, xs, A', m', c', ps⟩, rfl, hm, hm', wk, wf, wx, hxs, hps⟩
end
end Go.Proofs.Ytalgfiefadfmnaa.num
namespace Go.Proofs.Ytalgfiefadfmnaa.num
open Go.RowKit

section
variable {P : Program} {ops : Array Oper} {Q : Exit → Act → World → Prop} {md : Region.Mode} {S : World → Prop}
/-- Operation i, wanted, yields v in every world that meets S. -/
theorem takeY (d : Tmp) {i : Nat} {oi : Oper} {v : Value} {fuel : Nat} {listed : Array Bool} {a : Act} {w : World} (hi : ops[i]? = some oi) (hd : oi.dst = some d)
    (hs : Region.noSelect ops = true) (hf : Region.free md ops listed i = true) (hr : (Region.ready md ops listed).contains i = true)
    (hQ : ∀ c a w, Q (.panic c) (a.put oi.dst v) w → Q (.panic c) a w) (hw : Region.wanted oi (yielded ops a.tmps) = true) (hy : ∀ w, S w → (execOp a.eval oi).run P w = .ok (.value v) w) (hS : S w)
    (h : wpAnyH P md ops Q S fuel (listed.setIfInBounds i true) (a.put (some d) v) w) : wpAnyH P md ops Q S (fuel + 1) listed a w :=
  wpAnyH_take hi hs hf hr hQ (Or.inl ⟨hw, hy⟩) hS (hd ▸ h)
/-- Operation i, not wanted. -/
theorem takeU (d : Tmp) {i : Nat} {oi : Oper} {fuel : Nat} {listed : Array Bool} {a : Act} {w : World} (hi : ops[i]? = some oi) (hd : oi.dst = some d)
    (hs : Region.noSelect ops = true) (hf : Region.free md ops listed i = true) (hr : (Region.ready md ops listed).contains i = true)
    (hQ : ∀ c a w, Q (.panic c) (a.put oi.dst undef) w → Q (.panic c) a w) (hw : Region.wanted oi (yielded ops a.tmps) = false) (hS : S w)
    (h : wpAnyH P md ops Q S fuel (listed.setIfInBounds i true) (a.put (some d) undef) w) : wpAnyH P md ops Q S (fuel + 1) listed a w :=
  wpAnyH_take hi hs hf hr hQ (Or.inr ⟨hw, rfl⟩) hS (hd ▸ h)
end
end Go.Proofs.Ytalgfiefadfmnaa.num
namespace Go.Proofs.Ytalgfiefadfmnaa.num
open Go.RowKit
set_option linter.unusedVariables false

/-- Block g holds the wish t. -/
def Box5 (w : World) (g : Nat) (t : Wi) : Prop :=
  g < w.heap.size ∧ w.cell? ⟨g, 0, none⟩ = some (.int .i64 t.kind) ∧ w.cell? ⟨g, 1, none⟩ = some (.int .i64 t.field) ∧ w.cell? ⟨g, 2, none⟩ = some (.int .i64 t.value) ∧ w.cell? ⟨g, 3, none⟩ = some (.slice t.LA t.Ln t.Lc) ∧ w.cell? ⟨g, 4, none⟩ = some (.slice t.PA t.Pn t.Pc)
theorem Box5.below {w w' : World} {g : Nat} {t : Wi} (h : Box5 w g t) (hb : Below w.heap.size w w') : Box5 w' g t :=
  ⟨Nat.lt_of_lt_of_le h.1 hb.size, (hb.cell (p := ⟨g, 0, none⟩) h.1).trans h.2.1, (hb.cell (p := ⟨g, 1, none⟩) h.1).trans h.2.2.1, (hb.cell (p := ⟨g, 2, none⟩) h.1).trans h.2.2.2.1, (hb.cell (p := ⟨g, 3, none⟩) h.1).trans h.2.2.2.2.1, (hb.cell (p := ⟨g, 4, none⟩) h.1).trans h.2.2.2.2.2⟩
theorem Box5.alloc {w : World} {g : Nat} {t : Wi} (h : Box5 w g t) (o : Obj) : Box5 (w.alloc o) g t := h.below ((Below.refl _ w).alloc (Nat.le_refl _) _)
theorem Box5.new (w : World) (t : Wi) (T : TypeId) : Box5 (w.alloc (.cells #[.int .i64 t.kind, .int .i64 t.field, .int .i64 t.value, .slice t.LA t.Ln t.Lc, .slice t.PA t.Pn t.Pc] T)) w.heap.size t :=
  ⟨by simp, World.cell?_alloc_at _ _ _ _ rfl, World.cell?_alloc_at _ _ _ _ rfl, World.cell?_alloc_at _ _ _ _ rfl, World.cell?_alloc_at _ _ _ _ rfl, World.cell?_alloc_at _ _ _ _ rfl⟩
/-- Block g holds the item t. -/
def Box2 (w : World) (g : Nat) (t : It) : Prop :=
  g < w.heap.size ∧ w.cell? ⟨g, 0, none⟩ = some (.int .i64 t.id) ∧ w.cell? ⟨g, 1, none⟩ = some (.slice t.A t.n t.c)
theorem Box2.below {w w' : World} {g : Nat} {t : It} (h : Box2 w g t) (hb : Below w.heap.size w w') : Box2 w' g t :=
  ⟨Nat.lt_of_lt_of_le h.1 hb.size, (hb.cell (p := ⟨g, 0, none⟩) h.1).trans h.2.1, (hb.cell (p := ⟨g, 1, none⟩) h.1).trans h.2.2⟩
theorem Box2.alloc {w : World} {g : Nat} {t : It} (h : Box2 w g t) (o : Obj) : Box2 (w.alloc o) g t := h.below ((Below.refl _ w).alloc (Nat.le_refl _) _)
theorem Box2.new (w : World) (t : It) (T : TypeId) : Box2 (w.alloc (.cells #[.int .i64 t.id, .slice t.A t.n t.c] T)) w.heap.size t :=
  ⟨by simp, World.cell?_alloc_at _ _ _ _ rfl, World.cell?_alloc_at _ _ _ _ rfl⟩
theorem WiIn.step {w w' : World} {t : Wi} (h : WiIn w w.heap.size t) (hb : Below w.heap.size w w') : WiIn w' w'.heap.size t := (h.below hb).more hb.size
theorem Ints.step {w w' : World} {A : Option Addr} {n : Nat} {xs : List Int} (h : Ints w w.heap.size A n xs) (hb : Below w.heap.size w w') : Ints w' w'.heap.size A n xs := (h.below hb).more hb.size
theorem below_on {w w1 w2 : World} (h : Below w.heap.size w w1) (h2 : Below w1.heap.size w1 w2) : Below w.heap.size w w2 := h.trans (h2.mono h.size)
theorem kind_dat (t : Wi) : t.kind = t.dat.kind := rfl
/-- A copy of the wish t. -/
structure CopyW (w : World) (t t' : Wi) : Prop where
  dat : t'.dat = t.dat
  short : t'.Short
  at' : WiIn w w.heap.size t'
theorem CopyW.step {w w' : World} {t t' : Wi} (h : CopyW w t t') (hb : Below w.heap.size w w') : CopyW w' t t' := ⟨h.dat, h.short, h.at'.step hb⟩
theorem toWish_w (w : World) (B : Nat) (t : Wi) (hi : WiIn w B t) (hB : B ≤ w.heap.size) (hn : t.Short) :
    Calls Try.prog 23 #[t.val] w fun e w' => ∃ t' : Wi, e = .returned t'.val ∧ CopyW w' t t' ∧ Below w.heap.size w w' :=
  (toWish_c w B t hi hB hn).mono fun _ _ ⟨t', h1, h2, h3, h4, h5⟩ => ⟨t', h1, ⟨h2, h3, h4⟩, h5⟩
theorem eqWish_w (w : World) (t t1 t2 : Wi) (h1 : CopyW w t t1) (h2 : CopyW w t t2) :
    Calls Try.prog 24 #[t1.val, t2.val] w fun e w' => e = .returned (.bool true) ∧ Below w.heap.size w w' :=
  eqWish_c w w.heap.size t1 t2 h1.at' h2.at' (Nat.le_refl _) h1.short true (by rw [h1.dat, h2.dat]; simp)
structure CopyI (w : World) (t t' : It) : Prop where
  dat : t'.dat = t.dat
  short : t'.n ≤ 1048576
  at' : Ints w w.heap.size t'.A t'.n t'.xs
theorem CopyI.step {w w' : World} {t t' : It} (h : CopyI w t t') (hb : Below w.heap.size w w') : CopyI w' t t' := ⟨h.dat, h.short, h.at'.step hb⟩
theorem toItem_w (w : World) (B : Nat) (t : It) (hi : Ints w B t.A t.n t.xs) (hB : B ≤ w.heap.size) (hn : t.n ≤ 1048576) :
    Calls Try.prog 26 #[t.val] w fun e w' => ∃ t' : It, e = .returned t'.val ∧ CopyI w' t t' ∧ Below w.heap.size w w' :=
  (toItem_c w B t hi hB hn).mono fun _ _ ⟨b, h1, _, h3, h4⟩ => ⟨_, h1, ⟨rfl, hn, ints_row hi h3⟩, h4⟩
theorem eqItem_w (w : World) (t t1 t2 : It) (h1 : CopyI w t t1) (h2 : CopyI w t t2) :
    Calls Try.prog 27 #[t1.val, t2.val] w fun e w' => e = .returned (.bool true) ∧ Below w.heap.size w w' :=
  eqItem_c w w.heap.size t1 t2 h1.at' h2.at' (Nat.le_refl _) h1.short true (by rw [h1.dat, h2.dat]; simp)
end Go.Proofs.Ytalgfiefadfmnaa.num
namespace Go.Proofs.Ytalgfiefadfmnaa.num
open Go.RowKit
set_option linter.unusedVariables false
set_option linter.unusedSimpArgs false

theorem i64_small {n : Int} (h0 : 0 ≤ n) (h1 : n ≤ 100) : I64 n := ⟨by omega, by omega⟩
/-- A wish whose slices are the call's own, and short. -/
structure WiOwn (w : World) (B : Nat) (t : Wi) : Prop where
  l : OwnI w B (.slice t.LA t.Ln t.Lc) t.ls
  p : OwnP w B (.slice t.PA t.Pn t.Pc) t.ps
  k : I64 t.kind
  f : I64 t.field
  v : I64 t.value
  nl : t.ls.length ≤ 5
  np : t.ps.length ≤ 4
theorem wf_I64 {n : Int} (h : I64 n) : (Lit.int .i64 n).wf = true := WalkArith.wf_i64 h
theorem WiOwn.wi {w : World} {B : Nat} {t : Wi} (h : WiOwn w B t) : WiIn w w.heap.size t := ⟨wf_I64 h.k, wf_I64 h.f, wf_I64 h.v, ownI_at h.l, h.p.at⟩
theorem WiOwn.short {w : World} {B : Nat} {t : Wi} (h : WiOwn w B t) : t.Short := ⟨by have := (ownI_at h.l).1; have := h.nl; omega, by have := h.p.at.1; have := h.np; omega⟩
theorem WiOwn.blocks {w w' : World} {B : Nat} {t : Wi} (h : WiOwn w B t) (hb : ∀ b, B ≤ b → b < w.heap.size → w'.heap[b]? = w.heap[b]?) : WiOwn w' B t :=
  ⟨ownI_blocks h.l fun k hk => hb k (ownI_lows h.l k hk) (ownI_tops h.l k hk), h.p.blocks fun k hk => hb k (h.p.lows k hk) (h.p.tops k hk), h.k, h.f, h.v, h.nl, h.np⟩
theorem ownI_lowD {w : World} {B B' : Nat} {v : Value} {l : List Int} (h : OwnI w B v l) (hB : B' ≤ B) : OwnI w B' v l :=
  ⟨h.1, h.2.imp id fun ⟨g, cap, cur, h1, h2, h3⟩ => ⟨g, cap, cur, h1, Nat.le_trans hB h2, h3⟩⟩
theorem WiOwn.low {w : World} {B B' : Nat} {t : Wi} (h : WiOwn w B t) (hB : B' ≤ B) : WiOwn w B' t := ⟨ownI_lowD h.l hB, h.p.lowD hB, h.k, h.f, h.v, h.nl, h.np⟩
theorem row_kept {a b : World} {g X : Nat} {o : Obj} (hg : a.grownBy b (some g)) (h : a.heap[X]? = some o) (hX : X ≠ g) : b.heap[X]? = some o :=
  (hg.block X (Array.getElem?_eq_some_iff.1 h).1 (fun e => hX (Option.some.inj e))).trans h
theorem row_below {a b : World} {B X : Nat} {o : Obj} (hb : Below B a b) (h : a.heap[X]? = some o) (hX : X < B) : b.heap[X]? = some o := (hb.block X hX).trans h
theorem ownI_keptg {w w' : World} {B g : Nat} {v : Value} {l : List Int} (h : OwnI w B v l) (hg : w.grownBy w' (some g)) (hB : g < B) : OwnI w' B v l :=
  ownI_blocks h fun k hk => hg.block k (ownI_tops h k hk) fun e => by have := ownI_lows h k hk; have := Option.some.inj e; omega
/-- Five cells stored at block X. -/
def set5 (w : World) (X : Nat) (v0 v1 v2 v3 v4 : Value) : World := ((((w.setCell ⟨X, 0, none⟩ v0).setCell ⟨X, 1, none⟩ v1).setCell ⟨X, 2, none⟩ v2).setCell ⟨X, 3, none⟩ v3).setCell ⟨X, 4, none⟩ v4
theorem set5_other (w : World) (X b : Nat) (v0 v1 v2 v3 v4 : Value) (h : b ≠ X) : (set5 w X v0 v1 v2 v3 v4).heap[b]? = w.heap[b]? := by
  unfold set5
  rw [heap_setCell_other _ _ _ _ h, heap_setCell_other _ _ _ _ h, heap_setCell_other _ _ _ _ h, heap_setCell_other _ _ _ _ h, heap_setCell_other _ _ _ _ h]
theorem set5_below (w : World) (X B : Nat) (v0 v1 v2 v3 v4 : Value) (h : B ≤ X) : Below B w (set5 w X v0 v1 v2 v3 v4) := by
  unfold set5
  exact (((((Below.refl B w).setCell h _).setCell h _).setCell h _).setCell h _).setCell h _
def OutWish (N : Nat) (w : World) (g : Nat) (a : Option Addr) (len cap : Nat) (e : Ending) (w' : World) : Prop :=
  ∃ t : Wi, e = .returned t.val ∧ WiOwn w' w.heap.size t ∧ t.ls.length ≤ N ∧ Cur w' g a len cap ∧ w.grownBy w' (some g)
/-- What is handed out at the end, the result's block written. -/
theorem out_wish {w wr : World} {g : Nat} {a : Option Addr} {len cap : Nat} {t : Wi} {Y : Nat} (hgl : g < w.heap.size) (hY : w.heap.size < Y) (ho : WiOwn wr Y t) (hc : Cur wr g a len cap) (hg : w.grownBy wr (some g)) (v0 v1 v2 v3 v4 : Value) :
    WiOwn (set5 wr w.heap.size v0 v1 v2 v3 v4) w.heap.size t ∧ Cur (set5 wr w.heap.size v0 v1 v2 v3 v4) g a len cap ∧ w.grownBy (set5 wr w.heap.size v0 v1 v2 v3 v4) (some g) :=
  ⟨(ho.blocks fun b hb _ => set5_other _ _ _ _ _ _ _ _ (by omega)).low (by omega), hc.kept (set5_other _ _ _ _ _ _ _ _ (by omega)), grown_tail hg (set5_below _ _ _ _ _ _ _ _ (Nat.le_refl _))⟩

set_option maxRecDepth 20000 in
set_option maxHeartbeats 3200000 in
theorem wish_any (w : World) (g : Nat) (a : Option Addr) (len cap : Nat) (hlen : len ≤ 1048576) (hc : Cur w g a len cap) (B : Nat) (hB : B ≤ g) (hrow : Row w B a len) :
    Calls Try.prog 48 #[.pointer (some ⟨g, 0, none⟩)] w (OutWish 4 w g a len cap) := by
  have HR := Lib.hid hrow
  have hgl := hc.lt
  have HC1 := Lib.hid (hc.kept (w' := w.alloc (.cells #[.int .i64 0, .int .i64 0, .int .i64 0, .slice none 0 0, .slice none 0 0] 27)) (Below.heap_alloc _ _ _ hc.lt))
  have HG1 : Hid (w.grownBy (w.alloc (.cells #[.int .i64 0, .int .i64 0, .int .i64 0, .slice none 0 0, .slice none 0 0] 27)) (some g)) := Lib.hid (World.grownBy_alloc w _ _)
  have HX1 := Lib.hid (heap_alloc_new w (.cells #[.int .i64 0, .int .i64 0, .int .i64 0, .slice none 0 0, .slice none 0 0] 27))
  clear hc hrow
  go_enter Try.func48, Try.ntmps48
  go_wp2_with fail
  refine (below_any 5 (by omega) _ g a len cap hlen HC1.out B hB (HR.out.below (grown_below HG1.out hB (by omega)))).mono ?_
  rintro e w2 ⟨k, rfl, hk, hc2, hg2⟩
  obtain ⟨hk0, hk5⟩ := hk.2 (by omega)
  have HC2 := Lib.hid hc2
  have HG2 := Lib.hid (HG1.out.trans hg2)
  have HX2 := Lib.hid (row_kept hg2 HX1.out (by omega))
  clear hk hc2 hg2 HC1 HG1 HX1
  go_wp2_with fail
  refine (below_any 3 (by omega) _ g a len cap hlen HC2.out B hB (HR.out.below (grown_below HG2.out hB (by omega)))).mono ?_
  rintro e w3 ⟨f, rfl, hf, hc3, hg3⟩
  obtain ⟨hf0, hf3⟩ := hf.2 (by omega)
  have HC3 := Lib.hid hc3
  have HG3 := Lib.hid (HG2.out.trans hg3)
  have HX3 := Lib.hid (row_kept hg3 HX2.out (by omega))
  clear hf hc3 hg3 HC2 HG2 HX2
  have hX3 : w.heap.size < w3.heap.size := lt_of_block HX3.out
  rcases (show k = 0 ∨ k = 1 ∨ k = 2 ∨ k = 3 ∨ k = 4 by omega) with rfl | rfl | rfl | rfl | rfl
  · have x0 : w3.cell? ⟨w.heap.size, 0, none⟩ = some (.int .i64 0) := cell_of_row w3 _ 0 _ _ (0, 0) HX3.out
    have z0 : w3.frozen? ⟨w.heap.size, 0, none⟩ = false := frozen_of_row w3 _ 0 _ _ HX3.out
    have x1 : w3.cell? ⟨w.heap.size, 1, none⟩ = some (.int .i64 0) := cell_of_row w3 _ 1 _ _ (0, 0) HX3.out
    have z1 : w3.frozen? ⟨w.heap.size, 1, none⟩ = false := frozen_of_row w3 _ 1 _ _ HX3.out
    have x2 : w3.cell? ⟨w.heap.size, 2, none⟩ = some (.int .i64 0) := cell_of_row w3 _ 2 _ _ (0, 0) HX3.out
    have z2 : w3.frozen? ⟨w.heap.size, 2, none⟩ = false := frozen_of_row w3 _ 2 _ _ HX3.out
    have x3 : w3.cell? ⟨w.heap.size, 3, none⟩ = some (.slice none 0 0) := cell_of_row w3 _ 3 _ _ (0, 0) HX3.out
    have z3 : w3.frozen? ⟨w.heap.size, 3, none⟩ = false := frozen_of_row w3 _ 3 _ _ HX3.out
    have x4 : w3.cell? ⟨w.heap.size, 4, none⟩ = some (.slice none 0 0) := cell_of_row w3 _ 4 _ _ (0, 0) HX3.out
    have z4 : w3.frozen? ⟨w.heap.size, 4, none⟩ = false := frozen_of_row w3 _ 4 _ _ HX3.out
    go_wp2
    refine bodyPost_ret_by (results_cell_row rfl _ _ w.heap.size 27 _ (0, 0) _ rfl ((Below.heap_alloc _ _ _ (by simp; omega)).trans (five_set HX3.out)) Try.underlying27 rfl (by kernel_rfl)) rfl ?_
    refine ⟨⟨0, f, 0, none, 0, 0, [], none, 0, 0, []⟩, rfl, ⟨ownI_nil _ _, OwnP.nil _ _, i64_small (n := 0) (by decide) (by decide), i64_small (n := f) (by omega) (by omega), i64_small (n := 0) (by decide) (by decide), by simp, by simp⟩, by simp, (HC3.out.kept ?_).kept (Below.heap_alloc _ _ _ (by simp; omega)), grown_alloc (grown_tail HG3.out ?_) _⟩
    · exact set5_other w3 w.heap.size g _ _ _ _ _ (by omega)
    · exact set5_below w3 w.heap.size w.heap.size _ _ _ _ _ (Nat.le_refl _)
  · have x0 : w3.cell? ⟨w.heap.size, 0, none⟩ = some (.int .i64 0) := cell_of_row w3 _ 0 _ _ (0, 0) HX3.out
    have z0 : w3.frozen? ⟨w.heap.size, 0, none⟩ = false := frozen_of_row w3 _ 0 _ _ HX3.out
    have x1 : w3.cell? ⟨w.heap.size, 1, none⟩ = some (.int .i64 0) := cell_of_row w3 _ 1 _ _ (0, 0) HX3.out
    have z1 : w3.frozen? ⟨w.heap.size, 1, none⟩ = false := frozen_of_row w3 _ 1 _ _ HX3.out
    have x2 : w3.cell? ⟨w.heap.size, 2, none⟩ = some (.int .i64 0) := cell_of_row w3 _ 2 _ _ (0, 0) HX3.out
    have z2 : w3.frozen? ⟨w.heap.size, 2, none⟩ = false := frozen_of_row w3 _ 2 _ _ HX3.out
    have x3 : w3.cell? ⟨w.heap.size, 3, none⟩ = some (.slice none 0 0) := cell_of_row w3 _ 3 _ _ (0, 0) HX3.out
    have z3 : w3.frozen? ⟨w.heap.size, 3, none⟩ = false := frozen_of_row w3 _ 3 _ _ HX3.out
    have x4 : w3.cell? ⟨w.heap.size, 4, none⟩ = some (.slice none 0 0) := cell_of_row w3 _ 4 _ _ (0, 0) HX3.out
    have z4 : w3.frozen? ⟨w.heap.size, 4, none⟩ = false := frozen_of_row w3 _ 4 _ _ HX3.out
    go_wp2
    refine bodyPost_ret_by (results_cell_row rfl _ _ w.heap.size 27 _ (0, 0) _ rfl ((Below.heap_alloc _ _ _ (by simp; omega)).trans (five_set HX3.out)) Try.underlying27 rfl (by kernel_rfl)) rfl ?_
    refine ⟨⟨1, f, 0, none, 0, 0, [], none, 0, 0, []⟩, rfl, ⟨ownI_nil _ _, OwnP.nil _ _, i64_small (n := 1) (by decide) (by decide), i64_small (n := f) (by omega) (by omega), i64_small (n := 0) (by decide) (by decide), by simp, by simp⟩, by simp, (HC3.out.kept ?_).kept (Below.heap_alloc _ _ _ (by simp; omega)), grown_alloc (grown_tail HG3.out ?_) _⟩
    · exact set5_other w3 w.heap.size g _ _ _ _ _ (by omega)
    · exact set5_below w3 w.heap.size w.heap.size _ _ _ _ _ (Nat.le_refl _)
  · have HC4 := Lib.hid (HC3.out.kept (Below.heap_alloc w3 (.cells #[.int .i64 2, .int .i64 f, .int .i64 0, .slice none 0 0, .slice none 0 0] 27) _ (Nat.lt_trans hgl hX3)))
    have HG4 := Lib.hid (grown_alloc HG3.out (.cells #[.int .i64 2, .int .i64 f, .int .i64 0, .slice none 0 0, .slice none 0 0] 27))
    have HX4 := Lib.hid ((Below.heap_alloc w3 (.cells #[.int .i64 2, .int .i64 f, .int .i64 0, .slice none 0 0, .slice none 0 0] 27) _ hX3).trans HX3.out)
    have HY4 := Lib.hid (heap_alloc_new w3 (.cells #[.int .i64 2, .int .i64 f, .int .i64 0, .slice none 0 0, .slice none 0 0] 27))
    clear HC3 HG3 HX3
    go_wp2_with fail
    refine (below_any 5 (by omega) _ g a len cap hlen HC4.out B hB (HR.out.below (grown_below HG4.out hB (by omega)))).mono ?_
    rintro e w4 ⟨z, rfl, hz, hc4, hg4⟩
    obtain ⟨hz0, hz5⟩ := hz.2 (by omega)
    have HC5 := Lib.hid hc4
    have HG5 := Lib.hid (HG4.out.trans hg4)
    have HXX := Lib.hid (row_kept hg4 HX4.out (by omega))
    have HYY := Lib.hid (row_kept hg4 HY4.out (by omega))
    clear hz hc4 hg4 HC4 HG4 HX4 HY4
    have x0 : w4.cell? ⟨w.heap.size, 0, none⟩ = some (.int .i64 0) := cell_of_row w4 _ 0 _ _ (0, 0) HXX.out
    have z0 : w4.frozen? ⟨w.heap.size, 0, none⟩ = false := frozen_of_row w4 _ 0 _ _ HXX.out
    have x1 : w4.cell? ⟨w.heap.size, 1, none⟩ = some (.int .i64 0) := cell_of_row w4 _ 1 _ _ (0, 0) HXX.out
    have z1 : w4.frozen? ⟨w.heap.size, 1, none⟩ = false := frozen_of_row w4 _ 1 _ _ HXX.out
    have x2 : w4.cell? ⟨w.heap.size, 2, none⟩ = some (.int .i64 0) := cell_of_row w4 _ 2 _ _ (0, 0) HXX.out
    have z2 : w4.frozen? ⟨w.heap.size, 2, none⟩ = false := frozen_of_row w4 _ 2 _ _ HXX.out
    have x3 : w4.cell? ⟨w.heap.size, 3, none⟩ = some (.slice none 0 0) := cell_of_row w4 _ 3 _ _ (0, 0) HXX.out
    have z3 : w4.frozen? ⟨w.heap.size, 3, none⟩ = false := frozen_of_row w4 _ 3 _ _ HXX.out
    have x4 : w4.cell? ⟨w.heap.size, 4, none⟩ = some (.slice none 0 0) := cell_of_row w4 _ 4 _ _ (0, 0) HXX.out
    have z4 : w4.frozen? ⟨w.heap.size, 4, none⟩ = false := frozen_of_row w4 _ 4 _ _ HXX.out
    have y0 : w4.cell? ⟨w3.heap.size, 0, none⟩ = some (.int .i64 2) := cell_of_row w4 _ 0 _ _ (0, 0) HYY.out
    have y1 : w4.cell? ⟨w3.heap.size, 1, none⟩ = some (.int .i64 f) := cell_of_row w4 _ 1 _ _ (0, 0) HYY.out
    have y2 : w4.cell? ⟨w3.heap.size, 2, none⟩ = some (.int .i64 0) := cell_of_row w4 _ 2 _ _ (0, 0) HYY.out
    have y3 : w4.cell? ⟨w3.heap.size, 3, none⟩ = some (.slice none 0 0) := cell_of_row w4 _ 3 _ _ (0, 0) HYY.out
    have y4 : w4.cell? ⟨w3.heap.size, 4, none⟩ = some (.slice none 0 0) := cell_of_row w4 _ 4 _ _ (0, 0) HYY.out
    have u2 : w4.frozen? ⟨w3.heap.size, 2, none⟩ = false := frozen_of_row w4 _ 2 _ _ HYY.out
    go_wp2
    refine bodyPost_ret_by (results_cell_row rfl _ _ w.heap.size 27 _ (0, 0) _ rfl (five_set ((heap_setCell_other _ _ _ _ (by simp; omega)).trans HXX.out)) Try.underlying27 rfl (by kernel_rfl)) rfl ?_
    obtain ⟨h1, h2, h3⟩ := out_wish (t := ⟨2, f, z, none, 0, 0, [], none, 0, 0, []⟩) (Y := w3.heap.size) hgl hX3 (wr := w4.setCell ⟨w3.heap.size, 2, none⟩ (.int .i64 z)) ⟨ownI_nil _ _, OwnP.nil _ _, i64_small (n := 2) (by decide) (by decide), i64_small (n := f) (by omega) (by omega), i64_small (n := z) (by omega) (by omega), by simp, by simp⟩ (HC5.out.kept (heap_setCell_other _ _ _ _ (by simp; omega))) (grown_tail HG5.out ((Below.refl _ _).setCell (by show w.heap.size ≤ w3.heap.size; omega) _)) (.int .i64 2) (.int .i64 f) (.int .i64 z) (.slice none 0 0) (.slice none 0 0)
    exact ⟨_, rfl, h1, by simp, h2, h3⟩
  · have HC4 := Lib.hid (HC3.out.kept (Below.heap_alloc w3 (.cells #[.int .i64 3, .int .i64 f, .int .i64 0, .slice none 0 0, .slice none 0 0] 27) _ (Nat.lt_trans hgl hX3)))
    have HG4 := Lib.hid (grown_alloc HG3.out (.cells #[.int .i64 3, .int .i64 f, .int .i64 0, .slice none 0 0, .slice none 0 0] 27))
    have HX4 := Lib.hid ((Below.heap_alloc w3 (.cells #[.int .i64 3, .int .i64 f, .int .i64 0, .slice none 0 0, .slice none 0 0] 27) _ hX3).trans HX3.out)
    have HY4 := Lib.hid (heap_alloc_new w3 (.cells #[.int .i64 3, .int .i64 f, .int .i64 0, .slice none 0 0, .slice none 0 0] 27))
    clear HC3 HG3 HX3
    go_wp2_with fail
    refine (below_any 2 (by omega) _ g a len cap hlen HC4.out B hB (HR.out.below (grown_below HG4.out hB (by omega)))).mono ?_
    rintro e w4 ⟨x, rfl, hx, hc4, hg4⟩
    obtain ⟨hx0, hx2⟩ := hx.2 (by omega)
    have HC5 := Lib.hid hc4
    have HG5 := Lib.hid (HG4.out.trans hg4)
    have HX5 := Lib.hid (row_kept hg4 HX4.out (by omega))
    have HY5 := Lib.hid (row_kept hg4 HY4.out (by omega))
    clear hx hc4 hg4 HC4 HG4 HX4 HY4
    go_wp2_with fail
    refine (below_any 3 (by omega) _ g a len cap hlen HC5.out B hB (HR.out.below (grown_below HG5.out hB (by omega)))).mono ?_
    rintro e w5 ⟨m, rfl, hm, hc5, hg5⟩
    obtain ⟨hm0, hm3⟩ := hm.2 (by omega)
    obtain ⟨m, rfl⟩ := Int.eq_ofNat_of_zero_le hm0
    have HC6 := Lib.hid hc5
    have HG6 := Lib.hid (HG5.out.trans hg5)
    have HX6 := Lib.hid (row_kept hg5 HX5.out (by omega))
    have HY6 := Lib.hid (row_kept hg5 HY5.out (by omega))
    clear hm hc5 hg5 HC5 HG5 HX5 HY5
    go_wp2
    go_loopw [4, 5] (fun xv nv wr => ∃ (j : Nat) (x : Int) (LA : Option Addr) (Ln Lc : Nat) (ls : List Int), j ≤ 3 ∧ nv = .int .i64 j ∧ xv = .int .i64 x ∧ 0 ≤ x ∧ x + 2 * j ≤ 7 ∧ ls.length + j ≤ 3 ∧ wr.heap[w3.heap.size]? = some (.cells #[.int .i64 3, .int .i64 f, .int .i64 0, .slice LA Ln Lc, .slice none 0 0] 27 (0, 0)) ∧ OwnI wr (w3.heap.size + 1) (.slice LA Ln Lc) ls ∧ wr.heap[w.heap.size]? = some (.cells #[.int .i64 0, .int .i64 0, .int .i64 0, .slice none 0 0, .slice none 0 0] 27 (0, 0)) ∧ Cur wr g a len cap ∧ w.grownBy wr (some g) ∧ w3.heap.size + 1 ≤ wr.heap.size) (fun _ nv _ => (intOf nv).toNat)
    case atStart => exact ⟨m + 1, x, none, 0, 0, [], by omega, by first | rfl | (congr 1; omega), rfl, hx0, by omega, by simp; omega, HY6.out, ownI_nil _ _, HX6.out, HC6.out, HG6.out, lt_of_block HY6.out⟩
    case round =>
      clear HX6 HY6 HC6 HG6 hx0 hx2 hm0 hm3
      obtain ⟨j, x, LA, Ln, Lc, ls, hj, rfl, rfl, hx0, hx7, hls, hy, hown, hxx, hcur, hgw, hsz⟩ := hrel
      have HYY := Lib.hid hy
      have HXX := Lib.hid hxx
      have HO := Lib.hid hown
      have HCu := Lib.hid hcur
      have HG := Lib.hid hgw
      clear hy hown hxx hcur hgw
      by_cases hj0 : j = 0
      · subst hj0
        have hd : decide (((0 : Nat) : Int) > 0) = false := by simp
        have x0 : wr.cell? ⟨w.heap.size, 0, none⟩ = some (.int .i64 0) := cell_of_row wr _ 0 _ _ (0, 0) HXX.out
        have z0 : wr.frozen? ⟨w.heap.size, 0, none⟩ = false := frozen_of_row wr _ 0 _ _ HXX.out
        have x1 : wr.cell? ⟨w.heap.size, 1, none⟩ = some (.int .i64 0) := cell_of_row wr _ 1 _ _ (0, 0) HXX.out
        have z1 : wr.frozen? ⟨w.heap.size, 1, none⟩ = false := frozen_of_row wr _ 1 _ _ HXX.out
        have x2 : wr.cell? ⟨w.heap.size, 2, none⟩ = some (.int .i64 0) := cell_of_row wr _ 2 _ _ (0, 0) HXX.out
        have z2 : wr.frozen? ⟨w.heap.size, 2, none⟩ = false := frozen_of_row wr _ 2 _ _ HXX.out
        have x3 : wr.cell? ⟨w.heap.size, 3, none⟩ = some (.slice none 0 0) := cell_of_row wr _ 3 _ _ (0, 0) HXX.out
        have z3 : wr.frozen? ⟨w.heap.size, 3, none⟩ = false := frozen_of_row wr _ 3 _ _ HXX.out
        have x4 : wr.cell? ⟨w.heap.size, 4, none⟩ = some (.slice none 0 0) := cell_of_row wr _ 4 _ _ (0, 0) HXX.out
        have z4 : wr.frozen? ⟨w.heap.size, 4, none⟩ = false := frozen_of_row wr _ 4 _ _ HXX.out
        have y0 : wr.cell? ⟨w3.heap.size, 0, none⟩ = some (.int .i64 3) := cell_of_row wr _ 0 _ _ (0, 0) HYY.out
        have y1 : wr.cell? ⟨w3.heap.size, 1, none⟩ = some (.int .i64 f) := cell_of_row wr _ 1 _ _ (0, 0) HYY.out
        have y2 : wr.cell? ⟨w3.heap.size, 2, none⟩ = some (.int .i64 0) := cell_of_row wr _ 2 _ _ (0, 0) HYY.out
        have y3 : wr.cell? ⟨w3.heap.size, 3, none⟩ = some (.slice LA Ln Lc) := cell_of_row wr _ 3 _ _ (0, 0) HYY.out
        have y4 : wr.cell? ⟨w3.heap.size, 4, none⟩ = some (.slice none 0 0) := cell_of_row wr _ 4 _ _ (0, 0) HYY.out
        go_wp2
        refine bodyPost_ret_by (results_cell_row rfl _ _ w.heap.size 27 _ (0, 0) _ rfl (five_set HXX.out) Try.underlying27 rfl (by kernel_rfl)) rfl ?_
        obtain ⟨h1, h2, h3⟩ := out_wish (t := ⟨3, f, 0, LA, Ln, Lc, ls, none, 0, 0, []⟩) (Y := w3.heap.size + 1) hgl (by omega) (wr := wr) ⟨HO.out, OwnP.nil _ _, i64_small (n := 3) (by decide) (by decide), i64_small (n := f) (by omega) (by omega), i64_small (n := 0) (by decide) (by decide), by show ls.length ≤ 5; omega, by simp⟩ HCu.out HG.out (.int .i64 3) (.int .i64 f) (.int .i64 0) (.slice LA Ln Lc) (.slice none 0 0)
        exact ⟨_, rfl, h1, by show ls.length ≤ 4; omega, h2, h3⟩
      · have hjp : (0 : Int) < j := by omega
        have H4 : Hid ((ls.length + [x].length) * 8 ≤ 140737488355328) := Lib.hid (by simp only [List.length_cons, List.length_nil]; omega)
        have y3 : wr.cell? ⟨w3.heap.size, 3, none⟩ = some (.slice LA Ln Lc) := cell_of_row wr _ 3 _ _ (0, 0) HYY.out
        go_wp2_with (at_builtin; refine wp_appI _ (by rfl) (.tmp 30) (.tmp 32) (by rfl) (w3.heap.size + 1) _ _ (by rfl) HO.out _ [x] (by rfl) 1 1 rfl (by rfl) H4.out hsz ?_)
        intro v1 w6 hown6 hb6
        obtain ⟨LA', Ln', Lc', rfl, _⟩ := hown6.ints
        have HO6 := Lib.hid hown6
        have HY6 := Lib.hid (row_below hb6 HYY.out (by omega))
        have HX6 := Lib.hid (row_below hb6 HXX.out (by omega))
        have HC6 := Lib.hid (HCu.out.kept (hb6.block g (by omega)))
        have HG6 := Lib.hid (grown_tail HG.out (hb6.mono (by omega)))
        have hs6 := Lib.hid (Nat.le_trans hsz hb6.size)
        have y3 : w6.cell? ⟨w3.heap.size, 3, none⟩ = some (.slice LA Ln Lc) := cell_of_row w6 _ 3 _ _ (0, 0) HY6.out
        have u3 : w6.frozen? ⟨w3.heap.size, 3, none⟩ = false := frozen_of_row w6 _ 3 _ _ HY6.out
        clear hown6 hb6 HO HYY HXX HCu HG H4
        have HY7 : Hid ((w6.setCell ⟨w3.heap.size, 3, none⟩ (.slice LA' Ln' Lc')).heap[w3.heap.size]? = some (.cells #[.int .i64 3, .int .i64 f, .int .i64 0, .slice LA' Ln' Lc', .slice none 0 0] 27 (0, 0))) := Lib.hid (by have h := heap_setCell_same w6 w3.heap.size 3 _ _ (.slice LA' Ln' Lc') HY6.out; simpa using h)
        have HX7 := Lib.hid ((heap_setCell_other w6 ⟨w3.heap.size, 3, none⟩ w.heap.size (.slice LA' Ln' Lc') (by simp; omega)).trans HX6.out)
        have HC7 := Lib.hid (HC6.out.kept (heap_setCell_other w6 ⟨w3.heap.size, 3, none⟩ g (.slice LA' Ln' Lc') (by simp; omega)))
        have HG7 : Hid (w.grownBy (w6.setCell ⟨w3.heap.size, 3, none⟩ (.slice LA' Ln' Lc')) (some g)) := Lib.hid (grown_tail HG6.out ((Below.refl _ _).setCell (by show w.heap.size ≤ w3.heap.size; omega) _))
        have HO7 : Hid (OwnI (w6.setCell ⟨w3.heap.size, 3, none⟩ (.slice LA' Ln' Lc')) (w3.heap.size + 1) (.slice LA' Ln' Lc') (ls ++ [x])) := Lib.hid (ownI_blocks HO6.out fun k hk => heap_setCell_other _ _ _ _ (by have := ownI_lows HO6.out k hk; simp; omega))
        have hs7 : Hid (w3.heap.size + 1 ≤ (w6.setCell ⟨w3.heap.size, 3, none⟩ (.slice LA' Ln' Lc')).heap.size) := Lib.hid (by have := hs6.out; simp; omega)
        clear HY6 HX6 HC6 HG6 HO6 hs6
        go_wp2_with fail
        refine (below_any 2 (by omega) _ g a len cap hlen HC7.out B hB (HR.out.below (grown_below HG7.out hB (by omega)))).mono ?_
        rintro e w8 ⟨y, rfl, hyr, hc8, hg8⟩
        obtain ⟨hy0, hy2⟩ := hyr.2 (by omega)
        have HC8 := Lib.hid hc8
        have HG8 := Lib.hid (HG7.out.trans hg8)
        have HX8 := Lib.hid (row_kept hg8 HX7.out (by omega))
        have HY8 := Lib.hid (row_kept hg8 HY7.out (by omega))
        have HO8 := Lib.hid (ownI_keptg HO7.out hg8 (by omega))
        have hs8 := Lib.hid (Nat.le_trans hs7.out hg8.size)
        clear hyr hc8 hg8 y3 u3 HY7 HX7 HC7 HG7 HO7 hs7
        go_wp2
        go_roundw
        case rel => exact ⟨j - 1, x + 1 + y, LA', Ln', Lc', ls ++ [x], by omega, by first | rfl | (congr 1; omega), by first | rfl | (congr 1; omega), by omega, by omega, by simp; omega, HY8.out, HO8.out, HX8.out, HC8.out, HG8.out, hs8.out⟩
        case measure => simp [intOf]; omega
  · have HC4 := Lib.hid (HC3.out.kept (Below.heap_alloc w3 (.cells #[.int .i64 4, .int .i64 f, .int .i64 0, .slice none 0 0, .slice none 0 0] 27) _ (Nat.lt_trans hgl hX3)))
    have HG4 := Lib.hid (grown_alloc HG3.out (.cells #[.int .i64 4, .int .i64 f, .int .i64 0, .slice none 0 0, .slice none 0 0] 27))
    have HX4 := Lib.hid ((Below.heap_alloc w3 (.cells #[.int .i64 4, .int .i64 f, .int .i64 0, .slice none 0 0, .slice none 0 0] 27) _ hX3).trans HX3.out)
    have HY4 := Lib.hid (heap_alloc_new w3 (.cells #[.int .i64 4, .int .i64 f, .int .i64 0, .slice none 0 0, .slice none 0 0] 27))
    clear HC3 HG3 HX3
    go_wp2_with fail
    refine (pairs_any _ g a len cap hlen HC4.out B hB (HR.out.below (grown_below HG4.out hB (by omega)))).mono ?_
    rintro e w4 ⟨v, ps, rfl, hown, hps, hc4, hg4⟩
    obtain ⟨PA, Pn, Pc, rfl, _⟩ := hown.pairs
    have HO := Lib.hid hown
    have HC5 := Lib.hid hc4
    have HG5 := Lib.hid (HG4.out.trans hg4)
    have HXX := Lib.hid (row_kept hg4 HX4.out (by omega))
    have HYY := Lib.hid (row_kept hg4 HY4.out (by omega))
    clear hown hc4 hg4 HC4 HG4 HX4 HY4
    have x0 : w4.cell? ⟨w.heap.size, 0, none⟩ = some (.int .i64 0) := cell_of_row w4 _ 0 _ _ (0, 0) HXX.out
    have z0 : w4.frozen? ⟨w.heap.size, 0, none⟩ = false := frozen_of_row w4 _ 0 _ _ HXX.out
    have x1 : w4.cell? ⟨w.heap.size, 1, none⟩ = some (.int .i64 0) := cell_of_row w4 _ 1 _ _ (0, 0) HXX.out
    have z1 : w4.frozen? ⟨w.heap.size, 1, none⟩ = false := frozen_of_row w4 _ 1 _ _ HXX.out
    have x2 : w4.cell? ⟨w.heap.size, 2, none⟩ = some (.int .i64 0) := cell_of_row w4 _ 2 _ _ (0, 0) HXX.out
    have z2 : w4.frozen? ⟨w.heap.size, 2, none⟩ = false := frozen_of_row w4 _ 2 _ _ HXX.out
    have x3 : w4.cell? ⟨w.heap.size, 3, none⟩ = some (.slice none 0 0) := cell_of_row w4 _ 3 _ _ (0, 0) HXX.out
    have z3 : w4.frozen? ⟨w.heap.size, 3, none⟩ = false := frozen_of_row w4 _ 3 _ _ HXX.out
    have x4 : w4.cell? ⟨w.heap.size, 4, none⟩ = some (.slice none 0 0) := cell_of_row w4 _ 4 _ _ (0, 0) HXX.out
    have z4 : w4.frozen? ⟨w.heap.size, 4, none⟩ = false := frozen_of_row w4 _ 4 _ _ HXX.out
    have y0 : w4.cell? ⟨w3.heap.size, 0, none⟩ = some (.int .i64 4) := cell_of_row w4 _ 0 _ _ (0, 0) HYY.out
    have y1 : w4.cell? ⟨w3.heap.size, 1, none⟩ = some (.int .i64 f) := cell_of_row w4 _ 1 _ _ (0, 0) HYY.out
    have y2 : w4.cell? ⟨w3.heap.size, 2, none⟩ = some (.int .i64 0) := cell_of_row w4 _ 2 _ _ (0, 0) HYY.out
    have y3 : w4.cell? ⟨w3.heap.size, 3, none⟩ = some (.slice none 0 0) := cell_of_row w4 _ 3 _ _ (0, 0) HYY.out
    have y4 : w4.cell? ⟨w3.heap.size, 4, none⟩ = some (.slice none 0 0) := cell_of_row w4 _ 4 _ _ (0, 0) HYY.out
    have u4 : w4.frozen? ⟨w3.heap.size, 4, none⟩ = false := frozen_of_row w4 _ 4 _ _ HYY.out
    go_wp2
    refine bodyPost_ret_by (results_cell_row rfl _ _ w.heap.size 27 _ (0, 0) _ rfl (five_set ((heap_setCell_other _ _ _ _ (by simp; omega)).trans HXX.out)) Try.underlying27 rfl (by kernel_rfl)) rfl ?_
    have hO2 : OwnP (w4.setCell ⟨w3.heap.size, 4, none⟩ (.slice PA Pn Pc)) (w3.heap.size + 1) (.slice PA Pn Pc) ps := OwnP.blocks (by have := HO.out; simp at this; exact this) fun k hk => heap_setCell_other _ _ _ _ (by have := HO.out.lows k hk; simp at this; simp; omega)
    obtain ⟨h1, h2, h3⟩ := out_wish (t := ⟨4, f, 0, none, 0, 0, [], PA, Pn, Pc, ps⟩) (Y := w3.heap.size + 1) hgl (by omega) (wr := w4.setCell ⟨w3.heap.size, 4, none⟩ (.slice PA Pn Pc)) ⟨ownI_nil _ _, hO2, i64_small (n := 4) (by decide) (by decide), i64_small (n := f) (by omega) (by omega), i64_small (n := 0) (by decide) (by decide), by simp, hps⟩ (HC5.out.kept (heap_setCell_other _ _ _ _ (by simp; omega))) (grown_tail HG5.out ((Below.refl _ _).setCell (by show w.heap.size ≤ w3.heap.size; omega) _)) (.int .i64 4) (.int .i64 f) (.int .i64 0) (.slice none 0 0) (.slice PA Pn Pc)
    exact ⟨_, rfl, h1, by simp, h2, h3⟩
end Go.Proofs.Ytalgfiefadfmnaa.num
namespace Go.Proofs.Ytalgfiefadfmnaa.num
open Go.RowKit Go.Maps
set_option linter.unusedVariables false
set_option linter.unusedSimpArgs false

theorem step_appD {ops : Array Oper} {o : Oper} {a : Act} {K : Act → World → Prop} {Q : Exit → Act → World → Prop} {E : Prop} (w : World) (hgd : o.guard = none) (s x : Operand)
    (ho : o.op = .call { callee := .builtin .append, args := #[s, x], argTypes := #[24, 24] })
    (B : Nat) (v : Value) (l : List Int) (hs : a.eval s = v) (hown : OwnI w B v l) (cs : Array Value) (new : List Int) (hcs : cs = (new.map (Value.int .i64)).toArray) (n c : Nat) (hn : n = new.length)
    (hx : a.eval x = .slice (some ⟨w.heap.size, 0, none⟩) n c) (hlen : (l.length + new.length) * 8 ≤ 140737488355328) (hB : B ≤ w.heap.size)
    (h : ∀ v' w', OwnI w' B v' (l ++ new) → (w.alloc (.cells cs 3)).grownBy w' v.ownBlock → (v'.ownBlock = v.ownBlock ∨ v'.ownBlock = some (w.alloc (.cells cs 3)).heap.size) → K (a.put o.dst v') w') :
    if Region.wanted o (yielded ops a.tmps) = true then Oper.wp Try.prog o a (w.alloc (.cells cs 3)) K Q else E := by
  have hw : Region.wanted o (yielded ops a.tmps) = true := by simp [Region.wanted, hgd]
  rw [if_pos hw]
  obtain ⟨i0, hi, hz0, hz1, hz2⟩ := info_parts info_int
  subst hcs hn
  obtain ⟨v', w', hr, h2, h3, h4, h5⟩ := run_append_own_at (P := Try.prog) (w.alloc (.cells (new.map (Value.int .i64)).toArray 3)) B 24 o.type 3 i0 (.int .i64 0) 1 8 Try.underlying24 hi hz0 hz1 hz2 rfl (by decide) v l.length (l.map (Value.int .i64)) (World.ownsRow.alloc hown _) ⟨w.heap.size, 0, none⟩ new.length c (new.map (Value.int .i64)) (by simp) (fun j u hj => by
    have e : (⟨w.heap.size, 0, none⟩ : Addr).add j = ⟨w.heap.size, j, none⟩ := by unfold Addr.add; split <;> simp_all
    rw [e, World.cell?_alloc_at _ _ _ _ rfl]
    simpa using hj) (fun u hu => by obtain ⟨b, _, rfl⟩ := List.mem_map.1 hu; rfl) (by unfold maxLen; omega) (by omega) (by simp; omega)
  unfold Oper.wp execOp
  simp only [ho, resolve, invoke, builtin, Sem.run_bind, Sem.run_pure, Result.andThen_ok, List.map_toArray, List.map_cons, List.map_nil, hs, hx, hr]
  refine h v' w' ?_ h3 h5
  have e : (l ++ new).length = l.length + new.length := by simp
  unfold OwnI
  rw [e, List.map_append]
  exact h2

theorem nums2 (w : World) (x y : Int) (hx : I64 x) (hy : I64 y) : Nums (w.alloc (.cells #[.int .i64 x, .int .i64 y] 3)) w.heap.size 2 := fun k hk => by
  rcases (show k = 0 ∨ k = 1 by omega) with rfl | rfl
  · exact ⟨x, World.cell?_alloc_at _ _ _ _ rfl, hx⟩
  · exact ⟨y, World.cell?_alloc_at _ _ _ _ rfl, hy⟩
theorem nums3 (w : World) (x y z : Int) (hx : I64 x) (hy : I64 y) (hz : I64 z) : Nums (w.alloc (.cells #[.int .i64 x, .int .i64 y, .int .i64 z] 3)) w.heap.size 3 := fun k hk => by
  rcases (show k = 0 ∨ k = 1 ∨ k = 2 by omega) with rfl | rfl | rfl
  · exact ⟨x, World.cell?_alloc_at _ _ _ _ rfl, hx⟩
  · exact ⟨y, World.cell?_alloc_at _ _ _ _ rfl, hy⟩
  · exact ⟨z, World.cell?_alloc_at _ _ _ _ rfl, hz⟩
/-- Where any wish's draw stands: the result's block still zero, the wish in block Y. -/
structure AnySt (w : World) (g : Nat) (a : Option Addr) (len cap : Nat) (Y : Nat) (t : Wi) (wr : World) : Prop where
  x : wr.heap[w.heap.size]? = some (.cells #[.int .i64 0, .int .i64 0, .int .i64 0, .slice none 0 0, .slice none 0 0] 27 (0, 0))
  y : wr.heap[Y]? = some (.cells #[.int .i64 t.kind, .int .i64 t.field, .int .i64 t.value, .slice t.LA t.Ln t.Lc, .slice t.PA t.Pn t.Pc] 27 (0, 0))
  o : WiOwn wr (w.heap.size + 1) t
  far : (∀ k, (Value.slice t.LA t.Ln t.Lc).ownBlock = some k → k < Y) ∧ (∀ k, (Value.slice t.PA t.Pn t.Pc).ownBlock = some k → k < Y)
  c : Cur wr g a len cap
  g : w.grownBy wr (some g)
theorem AnySt.kept {w wr w' : World} {g : Nat} {a : Option Addr} {len cap Y : Nat} {t : Wi} (h : AnySt w g a len cap Y t wr) (hgl : g < w.heap.size) (hY : w.heap.size < Y) (hg : wr.grownBy w' (some g)) (hc : Cur w' g a len cap) : AnySt w g a len cap Y t w' :=
  ⟨row_kept hg h.x (by omega), row_kept hg h.y (by omega), h.o.blocks fun b hb hlt => hg.block b hlt (fun e => by injection e; omega), h.far, hc, h.g.trans hg⟩
theorem AnySt.alloc {w wr : World} {g : Nat} {a : Option Addr} {len cap Y : Nat} {t : Wi} (h : AnySt w g a len cap Y t wr) (ob : Obj) : AnySt w g a len cap Y t (wr.alloc ob) :=
  ⟨(Below.heap_alloc _ _ _ (lt_of_block h.x)).trans h.x, (Below.heap_alloc _ _ _ (lt_of_block h.y)).trans h.y, h.o.blocks fun b _ hb => Below.heap_alloc _ _ _ hb, h.far, h.c.kept (Below.heap_alloc _ _ _ h.c.lt), grown_alloc h.g ob⟩
/-- What is handed out at the end, from block Y, which may have been written. -/
theorem AnySt.out {w wr w' : World} {g : Nat} {a : Option Addr} {len cap Y : Nat} {t : Wi} (h : AnySt w g a len cap Y t wr) (hgl : g < w.heap.size) (hY : w.heap.size < Y) (hb : ∀ b, b ≠ Y → b ≠ w.heap.size → w'.heap[b]? = wr.heap[b]?) (hg : Below w.heap.size wr w') {k f v : Int} (hk : I64 k) (hf : I64 f) (hv : I64 v) :
    WiOwn w' w.heap.size ⟨k, f, v, t.LA, t.Ln, t.Lc, t.ls, t.PA, t.Pn, t.Pc, t.ps⟩ ∧ Cur w' g a len cap ∧ w.grownBy w' (some g) :=
  ⟨⟨ownI_lowD (ownI_blocks h.o.l fun b e => hb b (by have := h.far.1 b e; omega) (by have := ownI_lows h.o.l b e; omega)) (by omega), (h.o.p.blocks fun b e => hb b (by have := h.far.2 b e; omega) (by have := h.o.p.lows b e; omega)).lowD (by omega), hk, hf, hv, h.o.nl, h.o.np⟩, h.c.kept (hb g (by omega) (by omega)), grown_tail h.g hg⟩

theorem apart_of {w : World} {B B' : Nat} {v v' : Value} {l : List Int} {m : List (Int × Int)} (h : OwnI w B v l) (h' : OwnP w B' v' m) : ∀ k, v.ownBlock = some k → v'.ownBlock ≠ some k := fun k hk hk' => by
  rcases h.2 with ⟨rfl, _⟩ | ⟨g, _, _, rfl, _, hg, _⟩
  · cases hk
  · rcases h'.2 with ⟨rfl, _⟩ | ⟨g', _, _, rfl, _, hg', _⟩
    · cases hk'
    · obtain rfl : g = k := Option.some.inj hk
      obtain rfl : g' = g := Option.some.inj hk'
      rw [hg] at hg'
      injection hg' with e
      injection e with e1 e2 e3
      exact absurd e2 (by decide)
set_option maxRecDepth 20000 in
set_option maxHeartbeats 6400000 in
theorem any_wish (w : World) (g : Nat) (a : Option Addr) (len cap : Nat) (hlen : len ≤ 1048576) (hc : Cur w g a len cap) (B : Nat) (hB : B ≤ g) (hrow : Row w B a len) :
    Calls Try.prog 30 #[.pointer (some ⟨g, 0, none⟩)] w (OutWish 5 w g a len cap) := by
  have HR := Lib.hid hrow
  have hgl := hc.lt
  have HC1 := Lib.hid (hc.kept (w' := w.alloc (.cells #[.int .i64 0, .int .i64 0, .int .i64 0, .slice none 0 0, .slice none 0 0] 27)) (Below.heap_alloc _ _ _ hc.lt))
  have HG1 : Hid (w.grownBy (w.alloc (.cells #[.int .i64 0, .int .i64 0, .int .i64 0, .slice none 0 0, .slice none 0 0] 27)) (some g)) := Lib.hid (World.grownBy_alloc w _ _)
  have HX1 := Lib.hid (heap_alloc_new w (.cells #[.int .i64 0, .int .i64 0, .int .i64 0, .slice none 0 0, .slice none 0 0] 27))
  clear hc hrow
  go_enter Try.func30, Try.ntmps30
  go_wp2_with fail
  refine (wish_any _ g a len cap hlen HC1.out B hB (HR.out.below (grown_below HG1.out hB (by omega)))).mono ?_
  rintro e w2 ⟨t, rfl, ho, hn4, hc2, hg2⟩
  have hsz2 : w.heap.size + 1 ≤ w2.heap.size := by have := hg2.size; simp at this; omega
  have HS2 : Hid (AnySt w g a len cap w2.heap.size t (w2.alloc (.cells #[.int .i64 t.kind, .int .i64 t.field, .int .i64 t.value, .slice t.LA t.Ln t.Lc, .slice t.PA t.Pn t.Pc] 27))) := Lib.hid (by
    have ho' : WiOwn w2 (w.heap.size + 1) t := ho.low (by simp)
    exact ⟨(Below.heap_alloc _ _ _ (by omega)).trans (row_kept hg2 HX1.out (by omega)), heap_alloc_new w2 _, ho'.blocks fun b _ hb => Below.heap_alloc _ _ _ hb, ⟨fun k e => ownI_tops ho'.l k e, fun k e => ho'.p.tops k e⟩, hc2.kept (Below.heap_alloc _ _ _ hc2.lt), grown_alloc (HG1.out.trans hg2) _⟩)
  have hY : w.heap.size < w2.heap.size := by omega
  have HNl := Lib.hid ho.nl
  have HKf := Lib.hid (And.intro ho.k (And.intro ho.f ho.v))
  clear ho hc2 hg2 HC1 HG1 HX1
  unfold Wi.val
  go_wp2_with fail
  refine (below_any 10 (by omega) _ g a len cap hlen HS2.out.c B hB (HR.out.below (grown_below HS2.out.g hB (by omega)))).mono ?_
  rintro e w3 ⟨z, rfl, hz, hc3, hg3⟩
  obtain ⟨hz0, hz10⟩ := hz.2 (by omega)
  have HS := Lib.hid (HS2.out.kept hgl hY hg3 hc3)
  clear hz hc3 hg3 HS2
  have hY3 : w2.heap.size < w3.heap.size := lt_of_block HS.out.y
  by_cases z0 : z = 0
  · subst z0
    go_wp2_with fail
    refine (below_any 7 (by omega) _ g a len cap hlen HS.out.c B hB (HR.out.below (grown_below HS.out.g hB (by omega)))).mono ?_
    rintro e w4 ⟨u, rfl, hu, hc4, hg4⟩
    obtain ⟨hu0, hu7⟩ := hu.2 (by omega)
    have HS4 := Lib.hid (HS.out.kept hgl hY hg4 hc4)
    clear hu hc4 hg4 HS
    have x0 : w4.cell? ⟨w.heap.size, 0, none⟩ = some (.int .i64 0) := cell_of_row w4 _ 0 _ _ (0, 0) HS4.out.x
    have z0 : w4.frozen? ⟨w.heap.size, 0, none⟩ = false := frozen_of_row w4 _ 0 _ _ HS4.out.x
    have x1 : w4.cell? ⟨w.heap.size, 1, none⟩ = some (.int .i64 0) := cell_of_row w4 _ 1 _ _ (0, 0) HS4.out.x
    have z1 : w4.frozen? ⟨w.heap.size, 1, none⟩ = false := frozen_of_row w4 _ 1 _ _ HS4.out.x
    have x2 : w4.cell? ⟨w.heap.size, 2, none⟩ = some (.int .i64 0) := cell_of_row w4 _ 2 _ _ (0, 0) HS4.out.x
    have z2 : w4.frozen? ⟨w.heap.size, 2, none⟩ = false := frozen_of_row w4 _ 2 _ _ HS4.out.x
    have x3 : w4.cell? ⟨w.heap.size, 3, none⟩ = some (.slice none 0 0) := cell_of_row w4 _ 3 _ _ (0, 0) HS4.out.x
    have z3 : w4.frozen? ⟨w.heap.size, 3, none⟩ = false := frozen_of_row w4 _ 3 _ _ HS4.out.x
    have x4 : w4.cell? ⟨w.heap.size, 4, none⟩ = some (.slice none 0 0) := cell_of_row w4 _ 4 _ _ (0, 0) HS4.out.x
    have z4 : w4.frozen? ⟨w.heap.size, 4, none⟩ = false := frozen_of_row w4 _ 4 _ _ HS4.out.x
    have y0 : w4.cell? ⟨w2.heap.size, 0, none⟩ = some (.int .i64 t.kind) := cell_of_row w4 _ 0 _ _ (0, 0) HS4.out.y
    have y1 : w4.cell? ⟨w2.heap.size, 1, none⟩ = some (.int .i64 t.field) := cell_of_row w4 _ 1 _ _ (0, 0) HS4.out.y
    have y2 : w4.cell? ⟨w2.heap.size, 2, none⟩ = some (.int .i64 t.value) := cell_of_row w4 _ 2 _ _ (0, 0) HS4.out.y
    have y3 : w4.cell? ⟨w2.heap.size, 3, none⟩ = some (.slice t.LA t.Ln t.Lc) := cell_of_row w4 _ 3 _ _ (0, 0) HS4.out.y
    have y4 : w4.cell? ⟨w2.heap.size, 4, none⟩ = some (.slice t.PA t.Pn t.Pc) := cell_of_row w4 _ 4 _ _ (0, 0) HS4.out.y
    have u0 : w4.frozen? ⟨w2.heap.size, 0, none⟩ = false := frozen_of_row w4 _ 0 _ _ HS4.out.y
    go_wp2
    refine bodyPost_ret_by (results_cell_row rfl _ _ w.heap.size 27 _ (0, 0) _ rfl (five_set ((heap_setCell_other _ _ _ _ (by simp; omega)).trans HS4.out.x)) Try.underlying27 rfl (by kernel_rfl)) rfl ?_
    obtain ⟨h1, h2, h3⟩ := HS4.out.out hgl hY (w' := set5 (w4.setCell ⟨w2.heap.size, 0, none⟩ (.int .i64 (u - 1))) w.heap.size (.int .i64 (u - 1)) (.int .i64 t.field) (.int .i64 t.value) (.slice t.LA t.Ln t.Lc) (.slice t.PA t.Pn t.Pc)) (fun b h1 h2 => (set5_other _ _ _ _ _ _ _ _ h2).trans (heap_setCell_other _ _ _ _ (by simp; omega))) (((Below.refl _ _).setCell (by show w.heap.size ≤ w2.heap.size; omega) _).trans (set5_below _ _ _ _ _ _ _ _ (Nat.le_refl _))) (k := u - 1) (f := t.field) (v := t.value) ⟨by omega, by omega⟩ HKf.out.2.1 HKf.out.2.2
    exact ⟨_, rfl, h1, by show t.ls.length ≤ 5; omega, h2, h3⟩
  by_cases z1 : z = 1
  · subst z1
    clear z0
    have HA := Lib.hid (HS.out.alloc (.cells #[.int .i64 (-1), .int .i64 3] 3))
    go_wp2_with fail
    refine (pick_any w3.heap.size 2 (by decide) (by decide) _ g a len cap hlen HA.out.c B hB (HR.out.below (grown_below HA.out.g hB (by omega))) (nums2 w3 (-1) (3) ⟨by decide, by decide⟩ ⟨by decide, by decide⟩) (by omega)).mono ?_
    rintro e w4 ⟨u, rfl, hu, hc4, hg4⟩
    have HU := Lib.hid hu
    have HS4 := Lib.hid (HA.out.kept hgl hY hg4 hc4)
    clear hu hc4 hg4 HS HA
    have x0 : w4.cell? ⟨w.heap.size, 0, none⟩ = some (.int .i64 0) := cell_of_row w4 _ 0 _ _ (0, 0) HS4.out.x
    have z0 : w4.frozen? ⟨w.heap.size, 0, none⟩ = false := frozen_of_row w4 _ 0 _ _ HS4.out.x
    have x1 : w4.cell? ⟨w.heap.size, 1, none⟩ = some (.int .i64 0) := cell_of_row w4 _ 1 _ _ (0, 0) HS4.out.x
    have z1 : w4.frozen? ⟨w.heap.size, 1, none⟩ = false := frozen_of_row w4 _ 1 _ _ HS4.out.x
    have x2 : w4.cell? ⟨w.heap.size, 2, none⟩ = some (.int .i64 0) := cell_of_row w4 _ 2 _ _ (0, 0) HS4.out.x
    have z2 : w4.frozen? ⟨w.heap.size, 2, none⟩ = false := frozen_of_row w4 _ 2 _ _ HS4.out.x
    have x3 : w4.cell? ⟨w.heap.size, 3, none⟩ = some (.slice none 0 0) := cell_of_row w4 _ 3 _ _ (0, 0) HS4.out.x
    have z3 : w4.frozen? ⟨w.heap.size, 3, none⟩ = false := frozen_of_row w4 _ 3 _ _ HS4.out.x
    have x4 : w4.cell? ⟨w.heap.size, 4, none⟩ = some (.slice none 0 0) := cell_of_row w4 _ 4 _ _ (0, 0) HS4.out.x
    have z4 : w4.frozen? ⟨w.heap.size, 4, none⟩ = false := frozen_of_row w4 _ 4 _ _ HS4.out.x
    have y0 : w4.cell? ⟨w2.heap.size, 0, none⟩ = some (.int .i64 t.kind) := cell_of_row w4 _ 0 _ _ (0, 0) HS4.out.y
    have y1 : w4.cell? ⟨w2.heap.size, 1, none⟩ = some (.int .i64 t.field) := cell_of_row w4 _ 1 _ _ (0, 0) HS4.out.y
    have y2 : w4.cell? ⟨w2.heap.size, 2, none⟩ = some (.int .i64 t.value) := cell_of_row w4 _ 2 _ _ (0, 0) HS4.out.y
    have y3 : w4.cell? ⟨w2.heap.size, 3, none⟩ = some (.slice t.LA t.Ln t.Lc) := cell_of_row w4 _ 3 _ _ (0, 0) HS4.out.y
    have y4 : w4.cell? ⟨w2.heap.size, 4, none⟩ = some (.slice t.PA t.Pn t.Pc) := cell_of_row w4 _ 4 _ _ (0, 0) HS4.out.y
    have u1 : w4.frozen? ⟨w2.heap.size, 1, none⟩ = false := frozen_of_row w4 _ 1 _ _ HS4.out.y
    go_wp2
    refine bodyPost_ret_by (results_cell_row rfl _ _ w.heap.size 27 _ (0, 0) _ rfl (five_set ((heap_setCell_other _ _ _ _ (by simp; omega)).trans HS4.out.x)) Try.underlying27 rfl (by kernel_rfl)) rfl ?_
    obtain ⟨h1, h2, h3⟩ := HS4.out.out hgl hY (w' := set5 (w4.setCell ⟨w2.heap.size, 1, none⟩ (.int .i64 u)) w.heap.size (.int .i64 t.kind) (.int .i64 u) (.int .i64 t.value) (.slice t.LA t.Ln t.Lc) (.slice t.PA t.Pn t.Pc)) (fun b h1 h2 => (set5_other _ _ _ _ _ _ _ _ h2).trans (heap_setCell_other _ _ _ _ (by simp; omega))) (((Below.refl _ _).setCell (by show w.heap.size ≤ w2.heap.size; omega) _).trans (set5_below _ _ _ _ _ _ _ _ (Nat.le_refl _))) (k := t.kind) (f := u) (v := t.value) HKf.out.1 HU.out HKf.out.2.2
    exact ⟨_, rfl, h1, by show t.ls.length ≤ 5; omega, h2, h3⟩
  by_cases z2 : z = 2
  · subst z2
    clear z0 z1
    have HA := Lib.hid (HS.out.alloc (.cells #[.int .i64 (-1), .int .i64 9, .int .i64 10] 3))
    go_wp2_with fail
    refine (pick_any w3.heap.size 3 (by decide) (by decide) _ g a len cap hlen HA.out.c B hB (HR.out.below (grown_below HA.out.g hB (by omega))) (nums3 w3 (-1) (9) (10) ⟨by decide, by decide⟩ ⟨by decide, by decide⟩ ⟨by decide, by decide⟩) (by omega)).mono ?_
    rintro e w4 ⟨u, rfl, hu, hc4, hg4⟩
    have HU := Lib.hid hu
    have HS4 := Lib.hid (HA.out.kept hgl hY hg4 hc4)
    clear hu hc4 hg4 HS HA
    have x0 : w4.cell? ⟨w.heap.size, 0, none⟩ = some (.int .i64 0) := cell_of_row w4 _ 0 _ _ (0, 0) HS4.out.x
    have z0 : w4.frozen? ⟨w.heap.size, 0, none⟩ = false := frozen_of_row w4 _ 0 _ _ HS4.out.x
    have x1 : w4.cell? ⟨w.heap.size, 1, none⟩ = some (.int .i64 0) := cell_of_row w4 _ 1 _ _ (0, 0) HS4.out.x
    have z1 : w4.frozen? ⟨w.heap.size, 1, none⟩ = false := frozen_of_row w4 _ 1 _ _ HS4.out.x
    have x2 : w4.cell? ⟨w.heap.size, 2, none⟩ = some (.int .i64 0) := cell_of_row w4 _ 2 _ _ (0, 0) HS4.out.x
    have z2 : w4.frozen? ⟨w.heap.size, 2, none⟩ = false := frozen_of_row w4 _ 2 _ _ HS4.out.x
    have x3 : w4.cell? ⟨w.heap.size, 3, none⟩ = some (.slice none 0 0) := cell_of_row w4 _ 3 _ _ (0, 0) HS4.out.x
    have z3 : w4.frozen? ⟨w.heap.size, 3, none⟩ = false := frozen_of_row w4 _ 3 _ _ HS4.out.x
    have x4 : w4.cell? ⟨w.heap.size, 4, none⟩ = some (.slice none 0 0) := cell_of_row w4 _ 4 _ _ (0, 0) HS4.out.x
    have z4 : w4.frozen? ⟨w.heap.size, 4, none⟩ = false := frozen_of_row w4 _ 4 _ _ HS4.out.x
    have y0 : w4.cell? ⟨w2.heap.size, 0, none⟩ = some (.int .i64 t.kind) := cell_of_row w4 _ 0 _ _ (0, 0) HS4.out.y
    have y1 : w4.cell? ⟨w2.heap.size, 1, none⟩ = some (.int .i64 t.field) := cell_of_row w4 _ 1 _ _ (0, 0) HS4.out.y
    have y2 : w4.cell? ⟨w2.heap.size, 2, none⟩ = some (.int .i64 t.value) := cell_of_row w4 _ 2 _ _ (0, 0) HS4.out.y
    have y3 : w4.cell? ⟨w2.heap.size, 3, none⟩ = some (.slice t.LA t.Ln t.Lc) := cell_of_row w4 _ 3 _ _ (0, 0) HS4.out.y
    have y4 : w4.cell? ⟨w2.heap.size, 4, none⟩ = some (.slice t.PA t.Pn t.Pc) := cell_of_row w4 _ 4 _ _ (0, 0) HS4.out.y
    have u2 : w4.frozen? ⟨w2.heap.size, 2, none⟩ = false := frozen_of_row w4 _ 2 _ _ HS4.out.y
    go_wp2
    refine bodyPost_ret_by (results_cell_row rfl _ _ w.heap.size 27 _ (0, 0) _ rfl (five_set ((heap_setCell_other _ _ _ _ (by simp; omega)).trans HS4.out.x)) Try.underlying27 rfl (by kernel_rfl)) rfl ?_
    obtain ⟨h1, h2, h3⟩ := HS4.out.out hgl hY (w' := set5 (w4.setCell ⟨w2.heap.size, 2, none⟩ (.int .i64 u)) w.heap.size (.int .i64 t.kind) (.int .i64 t.field) (.int .i64 u) (.slice t.LA t.Ln t.Lc) (.slice t.PA t.Pn t.Pc)) (fun b h1 h2 => (set5_other _ _ _ _ _ _ _ _ h2).trans (heap_setCell_other _ _ _ _ (by simp; omega))) (((Below.refl _ _).setCell (by show w.heap.size ≤ w2.heap.size; omega) _).trans (set5_below _ _ _ _ _ _ _ _ (Nat.le_refl _))) (k := t.kind) (f := t.field) (v := u) HKf.out.1 HKf.out.2.1 HU.out
    exact ⟨_, rfl, h1, by show t.ls.length ≤ 5; omega, h2, h3⟩
  by_cases z3 : z = 3
  · subst z3
    clear z0 z1 z2
    have hln := HS.out.o.nl
    have HAd : Hid (AnySt w g a len cap w2.heap.size t (w3.alloc (.cells #[.int .i64 0, .int .i64 9, .int .i64 10] 3)).drew) := Lib.hid (by
      have h := HS.out.alloc (.cells #[.int .i64 0, .int .i64 9, .int .i64 10] 3)
      exact ⟨h.x, h.y, h.o.blocks fun b _ _ => rfl, h.far, h.c, grown_drew h.g⟩)
    have H4 : ∀ u : Int, (t.ls.length + [u].length) * 8 ≤ 140737488355328 := fun u => by simp only [List.length_cons, List.length_nil]; omega
    have H4' := Lib.hid H4
    clear H4
    have y0 : w3.cell? ⟨w2.heap.size, 0, none⟩ = some (.int .i64 t.kind) := cell_of_row w3 _ 0 _ _ (0, 0) HS.out.y
    have y1 : w3.cell? ⟨w2.heap.size, 1, none⟩ = some (.int .i64 t.field) := cell_of_row w3 _ 1 _ _ (0, 0) HS.out.y
    have y2 : w3.cell? ⟨w2.heap.size, 2, none⟩ = some (.int .i64 t.value) := cell_of_row w3 _ 2 _ _ (0, 0) HS.out.y
    have y3 : w3.cell? ⟨w2.heap.size, 3, none⟩ = some (.slice t.LA t.Ln t.Lc) := cell_of_row w3 _ 3 _ _ (0, 0) HS.out.y
    have y4 : w3.cell? ⟨w2.heap.size, 4, none⟩ = some (.slice t.PA t.Pn t.Pc) := cell_of_row w3 _ 4 _ _ (0, 0) HS.out.y
    go_wp2
    go_region_law (first
      | (refine step_appD wn (by rfl) (.tmp 29) (.tmp 33) (by rfl) (w.heap.size + 1) _ t.ls (by rfl) HSn.out.o.l _ [u] (by rfl) 1 1 rfl (by rfl) (H4'.out u) hBn ?_; intro v' w5 hown5 hg5 hv5; obtain ⟨LA', Ln', Lc', rfl, _⟩ := hown5.ints; have HO5 := Lib.hid hown5; have HV5 := Lib.hid hv5; have HB5 : Hid (Below (w.heap.size + 1) wn w5) := Lib.hid (((Below.refl (w.heap.size + 1) wn).alloc hBn _).grown hg5 (by simp; omega) (fun k hk => ownI_lows HSn.out.o.l k hk)); have HXX : Hid (w5.heap[w.heap.size]? = some (.cells #[.int .i64 0, .int .i64 0, .int .i64 0, .slice none 0 0, .slice none 0 0] 27 (0, 0))) := Lib.hid (row_below HB5.out HSn.out.x (by omega)); have HYY : Hid (w5.heap[w2.heap.size]? = some (.cells #[.int .i64 t.kind, .int .i64 t.field, .int .i64 t.value, .slice t.LA t.Ln t.Lc, .slice t.PA t.Pn t.Pc] 27 (0, 0))) := Lib.hid ((hg5.block _ (by have := lt_of_block HSn.out.y; simp; omega) (fun e => by have := HSn.out.far.1 _ e.symm; omega)).trans ((Below.heap_alloc _ _ _ (lt_of_block HSn.out.y)).trans HSn.out.y)); have HPP : Hid (OwnP w5 (w.heap.size + 1) (.slice t.PA t.Pn t.Pc) t.ps) := Lib.hid (HSn.out.o.p.blocks fun k hk => (hg5.block k (by have := HSn.out.o.p.tops k hk; simp; omega) (fun e => apart_of HSn.out.o.l HSn.out.o.p k e.symm hk)).trans (Below.heap_alloc _ _ _ (HSn.out.o.p.tops k hk))); have y3 : w5.cell? ⟨w2.heap.size, 3, none⟩ = some (.slice t.LA t.Ln t.Lc) := cell_of_row w5 _ 3 _ _ (0, 0) HYY.out; have u3 : w5.frozen? ⟨w2.heap.size, 3, none⟩ = false := frozen_of_row w5 _ 3 _ _ HYY.out; clear hown5 hg5 hv5)
      | (go_simp; go_at_call 49; refine (pick_any w3.heap.size 3 (by decide) (by decide) _ g a len cap hlen HAd.out.c B hB (HR.out.below (grown_below HAd.out.g hB (by omega))) (nums3 w3 0 9 10 ⟨by decide, by decide⟩ ⟨by decide, by decide⟩ ⟨by decide, by decide⟩) (by omega)).mono ?_; rintro e wn ⟨u, rfl, hu, hcn, hgn⟩; have HSn := Lib.hid (HAd.out.kept hgl hY hgn hcn); have hBn : w.heap.size + 1 ≤ wn.heap.size := (by have := lt_of_block HSn.out.y; omega); have y3 : wn.cell? ⟨w2.heap.size, 3, none⟩ = some (.slice t.LA t.Ln t.Lc) := cell_of_row wn _ 3 _ _ (0, 0) HSn.out.y; have hYn : w2.heap.size < wn.heap.size := lt_of_block HSn.out.y; clear hu hcn hgn))
    all_goals
      have x0 : w5.cell? ⟨w.heap.size, 0, none⟩ = some (.int .i64 0) := cell_of_row w5 _ 0 _ _ (0, 0) HXX.out
      have z0 : w5.frozen? ⟨w.heap.size, 0, none⟩ = false := frozen_of_row w5 _ 0 _ _ HXX.out
      have x1 : w5.cell? ⟨w.heap.size, 1, none⟩ = some (.int .i64 0) := cell_of_row w5 _ 1 _ _ (0, 0) HXX.out
      have z1 : w5.frozen? ⟨w.heap.size, 1, none⟩ = false := frozen_of_row w5 _ 1 _ _ HXX.out
      have x2 : w5.cell? ⟨w.heap.size, 2, none⟩ = some (.int .i64 0) := cell_of_row w5 _ 2 _ _ (0, 0) HXX.out
      have z2 : w5.frozen? ⟨w.heap.size, 2, none⟩ = false := frozen_of_row w5 _ 2 _ _ HXX.out
      have x3 : w5.cell? ⟨w.heap.size, 3, none⟩ = some (.slice none 0 0) := cell_of_row w5 _ 3 _ _ (0, 0) HXX.out
      have z3 : w5.frozen? ⟨w.heap.size, 3, none⟩ = false := frozen_of_row w5 _ 3 _ _ HXX.out
      have x4 : w5.cell? ⟨w.heap.size, 4, none⟩ = some (.slice none 0 0) := cell_of_row w5 _ 4 _ _ (0, 0) HXX.out
      have z4 : w5.frozen? ⟨w.heap.size, 4, none⟩ = false := frozen_of_row w5 _ 4 _ _ HXX.out
      have y0 : w5.cell? ⟨w2.heap.size, 0, none⟩ = some (.int .i64 t.kind) := cell_of_row w5 _ 0 _ _ (0, 0) HYY.out
      have y1 : w5.cell? ⟨w2.heap.size, 1, none⟩ = some (.int .i64 t.field) := cell_of_row w5 _ 1 _ _ (0, 0) HYY.out
      have y2 : w5.cell? ⟨w2.heap.size, 2, none⟩ = some (.int .i64 t.value) := cell_of_row w5 _ 2 _ _ (0, 0) HYY.out
      have y3 : w5.cell? ⟨w2.heap.size, 3, none⟩ = some (.slice t.LA t.Ln t.Lc) := cell_of_row w5 _ 3 _ _ (0, 0) HYY.out
      have y4 : w5.cell? ⟨w2.heap.size, 4, none⟩ = some (.slice t.PA t.Pn t.Pc) := cell_of_row w5 _ 4 _ _ (0, 0) HYY.out
      go_wp2
      refine bodyPost_ret_by (results_cell_row rfl _ _ w.heap.size 27 _ (0, 0) _ rfl (five_set ((heap_setCell_other _ _ _ _ (by simp; omega)).trans HXX.out)) Try.underlying27 rfl (by kernel_rfl)) rfl ?_
      have hfar : ∀ k, (Value.slice LA' Ln' Lc').ownBlock = some k → k ≠ w2.heap.size ∧ k ≠ w.heap.size := fun k hk => by
        have h1 := ownI_lows HO5.out k hk
        refine ⟨fun e => ?_, by omega⟩
        rcases HV5.out with h | h
        · rw [h] at hk
          have := HSn.out.far.1 k hk
          omega
        · rw [h] at hk
          have h2 := Option.some.inj hk
          have h3 := lt_of_block HSn.out.y
          simp only [World.size_alloc] at h2
          omega
      refine ⟨⟨t.kind, t.field, t.value, LA', Ln', Lc', t.ls ++ [u], t.PA, t.Pn, t.Pc, t.ps⟩, rfl, ⟨ownI_lowD (ownI_blocks HO5.out fun k hk => ?_) (by omega), (HPP.out.blocks fun k hk => ?_).lowD (by omega), HKf.out.1, HKf.out.2.1, HKf.out.2.2, by simp; omega, HSn.out.o.np⟩, by simp; omega, (HSn.out.c.kept ?_), grown_tail HSn.out.g ?_⟩
      · exact (set5_other _ _ _ _ _ _ _ _ (hfar k hk).2).trans (heap_setCell_other _ _ _ _ (hfar k hk).1)
      · exact (set5_other _ _ _ _ _ _ _ _ (by have := HPP.out.lows k hk; omega)).trans (heap_setCell_other _ _ _ _ (by have := HSn.out.far.2 k hk; simp; omega))
      · exact (set5_other _ _ _ _ _ _ _ _ (by omega)).trans ((heap_setCell_other _ _ _ _ (by simp; omega)).trans (HB5.out.block g (by omega)))
      · exact ((HB5.out.mono (by omega)).setCell (by show w.heap.size ≤ w2.heap.size; omega) _).trans (set5_below _ _ _ _ _ _ _ _ (Nat.le_refl _))
  have f0 : (z == 0) = false := by simpa using z0
  have f1 : (z == 1) = false := by simpa using z1
  have f2 : (z == 2) = false := by simpa using z2
  have f3 : (z == 3) = false := by simpa using z3
  clear z0 z1 z2 z3
  have x0 : w3.cell? ⟨w.heap.size, 0, none⟩ = some (.int .i64 0) := cell_of_row w3 _ 0 _ _ (0, 0) HS.out.x
  have z0 : w3.frozen? ⟨w.heap.size, 0, none⟩ = false := frozen_of_row w3 _ 0 _ _ HS.out.x
  have x1 : w3.cell? ⟨w.heap.size, 1, none⟩ = some (.int .i64 0) := cell_of_row w3 _ 1 _ _ (0, 0) HS.out.x
  have z1 : w3.frozen? ⟨w.heap.size, 1, none⟩ = false := frozen_of_row w3 _ 1 _ _ HS.out.x
  have x2 : w3.cell? ⟨w.heap.size, 2, none⟩ = some (.int .i64 0) := cell_of_row w3 _ 2 _ _ (0, 0) HS.out.x
  have z2 : w3.frozen? ⟨w.heap.size, 2, none⟩ = false := frozen_of_row w3 _ 2 _ _ HS.out.x
  have x3 : w3.cell? ⟨w.heap.size, 3, none⟩ = some (.slice none 0 0) := cell_of_row w3 _ 3 _ _ (0, 0) HS.out.x
  have z3 : w3.frozen? ⟨w.heap.size, 3, none⟩ = false := frozen_of_row w3 _ 3 _ _ HS.out.x
  have x4 : w3.cell? ⟨w.heap.size, 4, none⟩ = some (.slice none 0 0) := cell_of_row w3 _ 4 _ _ (0, 0) HS.out.x
  have z4 : w3.frozen? ⟨w.heap.size, 4, none⟩ = false := frozen_of_row w3 _ 4 _ _ HS.out.x
  have y0 : w3.cell? ⟨w2.heap.size, 0, none⟩ = some (.int .i64 t.kind) := cell_of_row w3 _ 0 _ _ (0, 0) HS.out.y
  have y1 : w3.cell? ⟨w2.heap.size, 1, none⟩ = some (.int .i64 t.field) := cell_of_row w3 _ 1 _ _ (0, 0) HS.out.y
  have y2 : w3.cell? ⟨w2.heap.size, 2, none⟩ = some (.int .i64 t.value) := cell_of_row w3 _ 2 _ _ (0, 0) HS.out.y
  have y3 : w3.cell? ⟨w2.heap.size, 3, none⟩ = some (.slice t.LA t.Ln t.Lc) := cell_of_row w3 _ 3 _ _ (0, 0) HS.out.y
  have y4 : w3.cell? ⟨w2.heap.size, 4, none⟩ = some (.slice t.PA t.Pn t.Pc) := cell_of_row w3 _ 4 _ _ (0, 0) HS.out.y
  go_wp2
  refine bodyPost_ret_by (results_cell_row rfl _ _ w.heap.size 27 _ (0, 0) _ rfl (five_set HS.out.x) Try.underlying27 rfl (by kernel_rfl)) rfl ?_
  obtain ⟨h1, h2, h3⟩ := HS.out.out hgl hY (w' := set5 w3 w.heap.size (.int .i64 t.kind) (.int .i64 t.field) (.int .i64 t.value) (.slice t.LA t.Ln t.Lc) (.slice t.PA t.Pn t.Pc)) (fun b _ h2 => set5_other _ _ _ _ _ _ _ _ h2) (set5_below _ _ _ _ _ _ _ _ (Nat.le_refl _)) (k := t.kind) (f := t.field) (v := t.value) HKf.out.1 HKf.out.2.1 HKf.out.2.2
  exact ⟨_, rfl, h1, by show t.ls.length ≤ 5; omega, h2, h3⟩
end Go.Proofs.Ytalgfiefadfmnaa.num
namespace Go.Proofs.Ytalgfiefadfmnaa.num
open Go.RowKit Go.Maps
set_option linter.unusedVariables false
set_option linter.unusedSimpArgs false

/-- Two cells stored at block X. -/
def set2 (w : World) (X : Nat) (v0 v1 : Value) : World := (w.setCell ⟨X, 0, none⟩ v0).setCell ⟨X, 1, none⟩ v1
theorem set2_other (w : World) (X b : Nat) (v0 v1 : Value) (h : b ≠ X) : (set2 w X v0 v1).heap[b]? = w.heap[b]? := by
  unfold set2
  rw [heap_setCell_other _ _ _ _ h, heap_setCell_other _ _ _ _ h]
theorem set2_below (w : World) (X B : Nat) (v0 v1 : Value) (h : B ≤ X) : Below B w (set2 w X v0 v1) := by
  unfold set2
  exact ((Below.refl B w).setCell h _).setCell h _
theorem two_setD {w : World} {g : Nat} {t : TypeId} {u0 u1 v0 v1 : Value} (h : w.heap[g]? = some (.cells #[u0, u1] t (0, 0))) : ((w.setCell ⟨g, 0, none⟩ v0).setCell ⟨g, 1, none⟩ v1).heap[g]? = some (.cells #[v0, v1] t (0, 0)) := by
  have h := heap_setCell_same _ g 1 _ _ v1 (heap_setCell_same w g 0 _ _ v0 h)
  simpa using h
def OutItem (N : Nat) (w : World) (g : Nat) (a : Option Addr) (len cap : Nat) (e : Ending) (w' : World) : Prop :=
  ∃ t : It, e = .returned t.val ∧ OwnI w' w.heap.size (.slice t.A t.n t.c) t.xs ∧ 3 ≤ t.xs.length ∧ t.xs.length ≤ N ∧ Cur w' g a len cap ∧ w.grownBy w' (some g)

set_option maxRecDepth 20000 in
set_option maxHeartbeats 3200000 in
theorem item_any (id : Int) (wide : Int) (hw0 : 0 < wide) (hw1 : wide ≤ 1000) (w : World) (g : Nat) (a : Option Addr) (len cap : Nat) (hlen : len ≤ 1048576) (hc : Cur w g a len cap) (B : Nat) (hB : B ≤ g) (hrow : Row w B a len) :
    Calls Try.prog 56 #[.pointer (some ⟨g, 0, none⟩), .int .i64 id, .int .i64 wide] w (OutItem 3 w g a len cap) := by
  have HR := Lib.hid hrow
  have hgl := hc.lt
  have HC1 := Lib.hid ((hc.kept (w' := w.alloc (.cells #[.int .i64 0, .slice none 0 0] 36)) (Below.heap_alloc _ _ _ hc.lt)).kept (w' := (w.alloc (.cells #[.int .i64 0, .slice none 0 0] 36)).alloc (.cells #[.int .i64 id, .slice none 0 0] 36)) (Below.heap_alloc _ _ _ (by simp; have := hc.lt; omega)))
  have HG1 : Hid (w.grownBy ((w.alloc (.cells #[.int .i64 0, .slice none 0 0] 36)).alloc (.cells #[.int .i64 id, .slice none 0 0] 36)) (some g)) := Lib.hid (grown_alloc (World.grownBy_alloc w _ _) _)
  have HY1 := Lib.hid (heap_alloc2_new w (.cells #[.int .i64 0, .slice none 0 0] 36) (.cells #[.int .i64 id, .slice none 0 0] 36))
  have HX0 : Hid (((w.alloc (.cells #[.int .i64 0, .slice none 0 0] 36)).alloc (.cells #[.int .i64 id, .slice none 0 0] 36)).heap[w.heap.size]? = some (.cells #[.int .i64 0, .slice none 0 0] 36 (0, 0))) := Lib.hid ((Below.heap_alloc _ _ _ (by simp)).trans (heap_alloc_new w _))
  clear hc hrow
  go_enter Try.func56, Try.ntmps56
  go_wp2
  go_loopw [8, 9] (fun iv _ wr => ∃ (j : Nat) (A : Option Addr) (n c : Nat) (xs : List Int), j ≤ 3 ∧ iv = .int .i64 j ∧ xs.length = j ∧ wr.heap[w.heap.size + 1]? = some (.cells #[.int .i64 id, .slice A n c] 36 (0, 0)) ∧ OwnI wr (w.heap.size + 2) (.slice A n c) xs ∧ wr.heap[w.heap.size]? = some (.cells #[.int .i64 0, .slice none 0 0] 36 (0, 0)) ∧ Cur wr g a len cap ∧ w.grownBy wr (some g) ∧ w.heap.size + 2 ≤ wr.heap.size) (fun iv _ _ => 3 - (intOf iv).toNat)
  case atStart => exact ⟨0, none, 0, 0, [], by decide, rfl, rfl, HY1.out, ownI_nil _ _, HX0.out, HC1.out, HG1.out, by simp⟩
  case round =>
    clear HX0 HY1 HC1 HG1
    obtain ⟨j, A, n, c, xs, hj, rfl, hxs, hy, hown, hxx, hcur, hgw, hsz⟩ := hrel
    have HYY := Lib.hid hy
    have HXX := Lib.hid hxx
    have HO := Lib.hid hown
    have HCu := Lib.hid hcur
    have HG := Lib.hid hgw
    clear hy hown hxx hcur hgw
    by_cases hj3 : j = 3
    · have hd : decide ((j : Int) < 3) = false := by simp; omega
      have x0 : wr.cell? ⟨w.heap.size, 0, none⟩ = some (.int .i64 0) := cell_of_row wr _ 0 _ _ (0, 0) HXX.out
      have z0 : wr.frozen? ⟨w.heap.size, 0, none⟩ = false := frozen_of_row wr _ 0 _ _ HXX.out
      have x1 : wr.cell? ⟨w.heap.size, 1, none⟩ = some (.slice none 0 0) := cell_of_row wr _ 1 _ _ (0, 0) HXX.out
      have z1 : wr.frozen? ⟨w.heap.size, 1, none⟩ = false := frozen_of_row wr _ 1 _ _ HXX.out
      have y0 : wr.cell? ⟨w.heap.size + 1, 0, none⟩ = some (.int .i64 id) := cell_of_row wr _ 0 _ _ (0, 0) HYY.out
      have y1 : wr.cell? ⟨w.heap.size + 1, 1, none⟩ = some (.slice A n c) := cell_of_row wr _ 1 _ _ (0, 0) HYY.out
      go_wp2
      refine bodyPost_ret_by (results_cell_row rfl _ _ w.heap.size 36 _ (0, 0) _ rfl (two_setD HXX.out) Try.underlying36 rfl (by kernel_rfl)) rfl ?_
      refine ⟨⟨id, A, n, c, xs⟩, rfl, ownI_lowD (ownI_blocks HO.out fun k hk => ?_) (by omega), by show 3 ≤ xs.length; omega, by show xs.length ≤ 3; omega, HCu.out.kept ?_, grown_tail HG.out (set2_below wr w.heap.size w.heap.size (.int .i64 id) (.slice A n c) (Nat.le_refl _))⟩
      · exact set2_other wr w.heap.size k _ _ (by have := ownI_lows HO.out k hk; omega)
      · exact set2_other wr w.heap.size g _ _ (by omega)
    · have hd : decide ((j : Int) < 3) = true := by simp; omega
      go_wp2_with fail
      refine (below_any wide (by omega) _ g a len cap hlen HCu.out B hB (HR.out.below (grown_below HG.out hB (by omega)))).mono ?_
      rintro e w4 ⟨x, rfl, hx, hc4, hg4⟩
      have HC4 := Lib.hid hc4
      have HG4 := Lib.hid (HG.out.trans hg4)
      have HX4 := Lib.hid (row_kept hg4 HXX.out (by omega))
      have HY4 := Lib.hid (row_kept hg4 HYY.out (by omega))
      have HO4 := Lib.hid (ownI_keptg HO.out hg4 (by omega))
      have hs4 : w.heap.size + 2 ≤ w4.heap.size := Nat.le_trans hsz hg4.size
      have H4 : Hid ((xs.length + [x].length) * 8 ≤ 140737488355328) := Lib.hid (by simp only [List.length_cons, List.length_nil]; omega)
      have y1 : w4.cell? ⟨w.heap.size + 1, 1, none⟩ = some (.slice A n c) := cell_of_row w4 _ 1 _ _ (0, 0) HY4.out
      clear hx hc4 hg4 HCu HG HXX HYY HO
      go_wp2_with (at_builtin; refine wp_appI _ (by rfl) (.tmp 20) (.tmp 22) (by rfl) (w.heap.size + 2) _ _ (by rfl) HO4.out _ [x] (by rfl) 1 1 rfl (by rfl) H4.out hs4 ?_)
      intro v1 w6 hown6 hb6
      obtain ⟨A', n', c', rfl, _⟩ := hown6.ints
      have HO6 := Lib.hid hown6
      have HY6 := Lib.hid (row_below hb6 HY4.out (by omega))
      have HX6 := Lib.hid (row_below hb6 HX4.out (by omega))
      have HC6 := Lib.hid (HC4.out.kept (hb6.block g (by omega)))
      have HG6 := Lib.hid (grown_tail HG4.out (hb6.mono (by omega)))
      have hs6 := Lib.hid (Nat.le_trans hs4 hb6.size)
      have y1 : w6.cell? ⟨w.heap.size + 1, 1, none⟩ = some (.slice A n c) := cell_of_row w6 _ 1 _ _ (0, 0) HY6.out
      have u1 : w6.frozen? ⟨w.heap.size + 1, 1, none⟩ = false := frozen_of_row w6 _ 1 _ _ HY6.out
      clear hown6 hb6 HO4 HY4 HX4 HC4 HG4 H4
      go_wp2
      go_roundw
      case rel =>
        refine ⟨j + 1, A', n', c', xs ++ [x], by omega, by first | rfl | (congr 1; omega), by simp; omega, ?_, ownI_blocks HO6.out fun k hk => heap_setCell_other _ _ _ _ (by have := ownI_lows HO6.out k hk; simp; omega), (heap_setCell_other _ _ _ _ (by simp)).trans HX6.out, HC6.out.kept (heap_setCell_other _ _ _ _ (by simp; omega)), grown_tail HG6.out ((Below.refl _ _).setCell (by show w.heap.size ≤ w.heap.size + 1; omega) _), by have := hs6.out; simp; omega⟩
        have h := heap_setCell_same w6 (w.heap.size + 1) 1 _ _ (.slice A' n' c') HY6.out
        simpa using h
      case measure => simp [intOf]; omega

/-- Where any item's draw stands: the result's block still zero, the item in block Y. -/
structure ItSt (w : World) (g : Nat) (a : Option Addr) (len cap : Nat) (Y : Nat) (t : It) (wr : World) : Prop where
  x : wr.heap[w.heap.size]? = some (.cells #[.int .i64 0, .slice none 0 0] 36 (0, 0))
  y : wr.heap[Y]? = some (.cells #[.int .i64 t.id, .slice t.A t.n t.c] 36 (0, 0))
  o : OwnI wr (w.heap.size + 1) (.slice t.A t.n t.c) t.xs
  far : ∀ k, (Value.slice t.A t.n t.c).ownBlock = some k → k < Y
  c : Cur wr g a len cap
  g : w.grownBy wr (some g)
theorem ItSt.kept {w wr w' : World} {g : Nat} {a : Option Addr} {len cap Y : Nat} {t : It} (h : ItSt w g a len cap Y t wr) (hgl : g < w.heap.size) (hY : w.heap.size < Y) (hg : wr.grownBy w' (some g)) (hc : Cur w' g a len cap) : ItSt w g a len cap Y t w' :=
  ⟨row_kept hg h.x (by omega), row_kept hg h.y (by omega), ownI_keptg h.o hg (by omega), h.far, hc, h.g.trans hg⟩
theorem ItSt.alloc {w wr : World} {g : Nat} {a : Option Addr} {len cap Y : Nat} {t : It} (h : ItSt w g a len cap Y t wr) (ob : Obj) : ItSt w g a len cap Y t (wr.alloc ob) :=
  ⟨(Below.heap_alloc _ _ _ (lt_of_block h.x)).trans h.x, (Below.heap_alloc _ _ _ (lt_of_block h.y)).trans h.y, ownI_blocks h.o fun k hk => Below.heap_alloc _ _ _ (ownI_tops h.o k hk), h.far, h.c.kept (Below.heap_alloc _ _ _ h.c.lt), grown_alloc h.g ob⟩
theorem ItSt.drew {w wr : World} {g : Nat} {a : Option Addr} {len cap Y : Nat} {t : It} (h : ItSt w g a len cap Y t wr) : ItSt w g a len cap Y t wr.drew :=
  ⟨h.x, h.y, ownI_blocks h.o fun _ _ => rfl, h.far, h.c, grown_drew h.g⟩
theorem own_set0 {w : World} {B : Nat} {b n c : Nat} {xs : List Int} (h : OwnI w B (.slice (some ⟨b, 0, none⟩) n c) xs) (z : Int) : OwnI (w.setCell ⟨b, 0, none⟩ (.int .i64 z)) B (.slice (some ⟨b, 0, none⟩) n c) (xs.set 0 z) := by
  rcases h.2 with ⟨hv, _⟩ | ⟨g, cp, cur, hv, hgB, hg, h1, h2, h3, h4⟩
  · cases hv
  · injection hv with e1 e2 e3
    injection e1 with e1
    injection e1 with e1
    subst e1
    refine ⟨by simp, .inr ⟨b, c, cur.setIfInBounds 0 (.int .i64 z), by rw [List.length_set, e2], hgB, heap_setCell_same w b 0 _ _ _ hg, by rw [List.length_set]; omega, by omega, by simpa [e3] using h3, ?_⟩⟩
    rw [List.length_set, Array.toList_setIfInBounds, List.take_set, h4, List.map_set]
theorem own_row0 {w : World} {B : Nat} {b n c : Nat} {xs : List Int} (h : OwnI w B (.slice (some ⟨b, 0, none⟩) n c) xs) : ∃ cur, w.heap[b]? = some (.cells cur 3 (0, 0)) ∧ (0 < n → w.cell? ⟨b, 0, none⟩ = some (.int .i64 (xs.getD 0 0))) := by
  have hi := ownI_at h
  rcases h.2 with ⟨hv, _⟩ | ⟨g, cp, cur, hv, hgB, hg, _⟩
  · cases hv
  · injection hv with e1
    injection e1 with e1
    injection e1 with e1
    subst e1
    refine ⟨cur, hg, fun h0 => ?_⟩
    obtain ⟨b', off, e, _, h1⟩ := hi.2 0 h0
    injection e with e
    injection e with e2 e3
    subst e2 e3
    exact h1
theorem wp_appD {ops : Array Oper} {rest : List Oper} {o : Oper} {a : Act} {Q : Exit → Act → World → Prop} (w : World) (hgd : o.guard = none) (s x : Operand)
    (ho : o.op = .call { callee := .builtin .append, args := #[s, x], argTypes := #[24, 24] })
    (B : Nat) (v : Value) (l : List Int) (hs : a.eval s = v) (hown : OwnI w B v l) (cs : Array Value) (new : List Int) (hcs : cs = (new.map (Value.int .i64)).toArray) (n c : Nat) (hn : n = new.length)
    (hx : a.eval x = .slice (some ⟨w.heap.size, 0, none⟩) n c) (hlen : (l.length + new.length) * 8 ≤ 140737488355328) (hB : B ≤ w.heap.size)
    (h : ∀ v' w', OwnI w' B v' (l ++ new) → (w.alloc (.cells cs 3)).grownBy w' v.ownBlock → (v'.ownBlock = v.ownBlock ∨ v'.ownBlock = some (w.alloc (.cells cs 3)).heap.size) → wpList Try.prog ops Q rest (a.put o.dst v') w') :
    wpList Try.prog ops Q (o :: rest) a (w.alloc (.cells cs 3)) := by
  obtain ⟨i0, hi, hz0, hz1, hz2⟩ := info_parts info_int
  subst hcs hn
  refine wpList_append_own_at _ hgd s x 24 ho B 3 i0 (.int .i64 0) 1 8 Try.underlying24 hi hz0 hz1 hz2 rfl (by decide) v l.length (l.map (Value.int .i64)) hs (World.ownsRow.alloc hown _) ⟨w.heap.size, 0, none⟩ new.length c (new.map (Value.int .i64)) hx (by simp) (fun j u hj => ?_) (fun u hu => ?_) (by unfold maxLen; omega) (by omega) (by simp; omega) (fun v' w' h2 h3 _ h5 => h v' w' ?_ h3 h5)
  · have e : (⟨w.heap.size, 0, none⟩ : Addr).add j = ⟨w.heap.size, j, none⟩ := by unfold Addr.add; split <;> simp_all
    rw [e, World.cell?_alloc_at _ _ _ _ rfl]
    simpa using hj
  · obtain ⟨b, _, rfl⟩ := List.mem_map.1 hu
    rfl
  · have e : (l ++ new).length = l.length + new.length := by simp
    unfold OwnI
    rw [e, List.map_append]
    exact h2
set_option maxRecDepth 20000 in
set_option maxHeartbeats 6400000 in
theorem any_item (w : World) (g : Nat) (a : Option Addr) (len cap : Nat) (hlen : len ≤ 1048576) (hc : Cur w g a len cap) (B : Nat) (hB : B ≤ g) (hrow : Row w B a len) :
    Calls Try.prog 38 #[.pointer (some ⟨g, 0, none⟩)] w (OutItem 4 w g a len cap) := by
  have HR := Lib.hid hrow
  have hgl := hc.lt
  have HC1 := Lib.hid (hc.kept (w' := w.alloc (.cells #[.int .i64 0, .slice none 0 0] 36)) (Below.heap_alloc _ _ _ hc.lt))
  have HG1 : Hid (w.grownBy (w.alloc (.cells #[.int .i64 0, .slice none 0 0] 36)) (some g)) := Lib.hid (World.grownBy_alloc w _ _)
  have HX1 := Lib.hid (heap_alloc_new w (.cells #[.int .i64 0, .slice none 0 0] 36))
  clear hc hrow
  go_enter Try.func38, Try.ntmps38
  go_wp2_with fail
  refine (below_any 6 (by omega) _ g a len cap hlen HC1.out B hB (HR.out.below (grown_below HG1.out hB (by omega)))).mono ?_
  rintro e w1 ⟨id, rfl, hid, hc1, hg1⟩
  have HC2 := Lib.hid hc1
  have HG2 := Lib.hid (HG1.out.trans hg1)
  have HX2 := Lib.hid (row_kept hg1 HX1.out (by omega))
  have hs1 : w.heap.size + 1 ≤ w1.heap.size := lt_of_block HX2.out
  clear hid hc1 hg1 HC1 HG1 HX1
  go_wp2_with fail
  refine (item_any id 10 (by decide) (by decide) _ g a len cap hlen HC2.out B hB (HR.out.below (grown_below HG2.out hB (by omega)))).mono ?_
  rintro e w2 ⟨t, rfl, ho, hl3, hl3', hc2, hg2⟩
  have hY : w.heap.size < w2.heap.size := by have := hg2.size; omega
  have HS2 : Hid (ItSt w g a len cap w2.heap.size t (w2.alloc (.cells #[.int .i64 t.id, .slice t.A t.n t.c] 36))) := Lib.hid (by
    have ho' : OwnI w2 (w.heap.size + 1) (.slice t.A t.n t.c) t.xs := ownI_lowD ho hs1
    exact ⟨(Below.heap_alloc _ _ _ (by omega)).trans (row_kept hg2 HX2.out (by omega)), heap_alloc_new w2 _, ownI_blocks ho' fun k hk => Below.heap_alloc _ _ _ (ownI_tops ho' k hk), fun k e => ownI_tops ho' k e, hc2.kept (Below.heap_alloc _ _ _ hc2.lt), grown_alloc (HG2.out.trans hg2) _⟩)
  have HN3 : Hid (t.n = t.xs.length) := Lib.hid (ownI_at ho).1.symm
  clear ho hc2 hg2 HC2 HG2 HX2
  unfold It.val
  go_wp2_with fail
  refine (below_any 8 (by omega) _ g a len cap hlen HS2.out.c B hB (HR.out.below (grown_below HS2.out.g hB (by omega)))).mono ?_
  rintro e w3 ⟨z, rfl, hz, hc3, hg3⟩
  obtain ⟨hz0, hz8⟩ := hz.2 (by omega)
  have HS := Lib.hid (HS2.out.kept hgl hY hg3 hc3)
  clear hz hc3 hg3 HS2
  have hY3 : w2.heap.size < w3.heap.size := lt_of_block HS.out.y
  by_cases z0 : z = 0
  · subst z0
    have HA := Lib.hid (HS.out.alloc (.cells #[.int .i64 (-1), .int .i64 99, .int .i64 100] 3))
    go_wp2_with fail
    refine (pick_any w3.heap.size 3 (by decide) (by decide) _ g a len cap hlen HA.out.c B hB (HR.out.below (grown_below HA.out.g hB (by omega))) (nums3 w3 (-1) (99) (100) ⟨by decide, by decide⟩ ⟨by decide, by decide⟩ ⟨by decide, by decide⟩) (by omega)).mono ?_
    rintro e w4 ⟨u, rfl, hu, hc4, hg4⟩
    have HS4 := Lib.hid (HA.out.kept hgl hY hg4 hc4)
    clear hu hc4 hg4 HS HA
    have x0 : w4.cell? ⟨w.heap.size, 0, none⟩ = some (.int .i64 0) := cell_of_row w4 _ 0 _ _ (0, 0) HS4.out.x
    have z0 : w4.frozen? ⟨w.heap.size, 0, none⟩ = false := frozen_of_row w4 _ 0 _ _ HS4.out.x
    have x1 : w4.cell? ⟨w.heap.size, 1, none⟩ = some (.slice none 0 0) := cell_of_row w4 _ 1 _ _ (0, 0) HS4.out.x
    have z1 : w4.frozen? ⟨w.heap.size, 1, none⟩ = false := frozen_of_row w4 _ 1 _ _ HS4.out.x
    have y0 : w4.cell? ⟨w2.heap.size, 0, none⟩ = some (.int .i64 t.id) := cell_of_row w4 _ 0 _ _ (0, 0) HS4.out.y
    have y1 : w4.cell? ⟨w2.heap.size, 1, none⟩ = some (.slice t.A t.n t.c) := cell_of_row w4 _ 1 _ _ (0, 0) HS4.out.y
    have u0 : w4.frozen? ⟨w2.heap.size, 0, none⟩ = false := frozen_of_row w4 _ 0 _ _ HS4.out.y
    go_wp2
    refine bodyPost_ret_by (results_cell_row rfl _ _ w.heap.size 36 _ (0, 0) _ rfl (two_setD ((heap_setCell_other _ _ _ _ (by simp; omega)).trans HS4.out.x)) Try.underlying36 rfl (by kernel_rfl)) rfl ?_
    refine ⟨⟨u, t.A, t.n, t.c, t.xs⟩, rfl, ownI_lowD (ownI_blocks HS4.out.o fun k hk => ?_) (by omega), by show 3 ≤ t.xs.length; omega, by show t.xs.length ≤ 4; omega, HS4.out.c.kept ?_, grown_tail HS4.out.g ?_⟩
    · exact (set2_other _ w.heap.size k _ _ (by have := ownI_lows HS4.out.o k hk; omega)).trans (heap_setCell_other _ _ _ _ (by have := HS4.out.far k hk; simp; omega))
    · exact (set2_other _ w.heap.size g _ _ (by omega)).trans (heap_setCell_other _ _ _ _ (by simp; omega))
    · exact ((Below.refl _ _).setCell (by show w.heap.size ≤ w2.heap.size; omega) _).trans (set2_below _ w.heap.size w.heap.size _ _ (Nat.le_refl _))
  by_cases z1 : z = 1
  · subst z1
    clear z0
    have hA0 : ∃ b, t.A = some ⟨b, 0, none⟩ ∧ w.heap.size + 1 ≤ b ∧ b < w2.heap.size := by
      rcases HS.out.o.2 with ⟨hv, h0⟩ | ⟨b, cp, cur, hv, hb, _⟩
      · omega
      · injection hv with e1
        exact ⟨b, e1, hb, HS.out.far b (by rw [e1]; rfl)⟩
    obtain ⟨b, hAb, hb0, hb1⟩ := hA0
    have hn0 : 0 < t.n := by have := HN3.out; omega
    have hn1 : (0 : Int) < (t.n : Int) := by omega
    have HAd := Lib.hid (HS.out.alloc (.cells #[.int .i64 (-1), .int .i64 9, .int .i64 10] 3)).drew
    have y0 : w3.cell? ⟨w2.heap.size, 0, none⟩ = some (.int .i64 t.id) := cell_of_row w3 _ 0 _ _ (0, 0) HS.out.y
    have y1 : w3.cell? ⟨w2.heap.size, 1, none⟩ = some (.slice t.A t.n t.c) := cell_of_row w3 _ 1 _ _ (0, 0) HS.out.y
    rw [hAb] at y1
    go_wp2
    go_region_law (go_simp; go_at_call 49; refine (pick_any w3.heap.size 3 (by decide) (by decide) _ g a len cap hlen HAd.out.c B hB (HR.out.below (grown_below HAd.out.g hB (by omega))) (nums3 w3 (-1) 9 10 ⟨by decide, by decide⟩ ⟨by decide, by decide⟩ ⟨by decide, by decide⟩) (by omega)).mono ?_; rintro e wn ⟨u, rfl, hu, hcn, hgn⟩; have HSn := Lib.hid (HAd.out.kept hgl hY hgn hcn); have y1 : wn.cell? ⟨w2.heap.size, 1, none⟩ = some (.slice (some ⟨b, 0, none⟩) t.n t.c) := (cell_of_row wn _ 1 _ _ (0, 0) HSn.out.y).trans (by rw [hAb]; rfl); have hYn : w2.heap.size < wn.heap.size := lt_of_block HSn.out.y; have hOn : OwnI wn (w.heap.size + 1) (.slice (some ⟨b, 0, none⟩) t.n t.c) t.xs := (by have h := HSn.out.o; rw [hAb] at h; exact h); obtain ⟨cur, hcur, hcs⟩ := own_row0 hOn; have f1 : wn.cell? ⟨b, 0, none⟩ = some (.int .i64 (t.xs.getD 0 0)) := hcs (by have := HN3.out; omega); have f2 : wn.frozen? ⟨b, 0, none⟩ = false := frozen_of_row wn _ 0 _ _ hcur; have HOn := Lib.hid hOn; have HCr := Lib.hid hcur; clear hu hcn hgn hOn hcur hcs)
    all_goals
      have x0 : wn.cell? ⟨w.heap.size, 0, none⟩ = some (.int .i64 0) := cell_of_row wn _ 0 _ _ (0, 0) HSn.out.x
      have z0 : wn.frozen? ⟨w.heap.size, 0, none⟩ = false := frozen_of_row wn _ 0 _ _ HSn.out.x
      have x1 : wn.cell? ⟨w.heap.size, 1, none⟩ = some (.slice none 0 0) := cell_of_row wn _ 1 _ _ (0, 0) HSn.out.x
      have z1 : wn.frozen? ⟨w.heap.size, 1, none⟩ = false := frozen_of_row wn _ 1 _ _ HSn.out.x
      have y0 : wn.cell? ⟨w2.heap.size, 0, none⟩ = some (.int .i64 t.id) := cell_of_row wn _ 0 _ _ (0, 0) HSn.out.y
      go_wp2
      refine bodyPost_ret_by (results_cell_row rfl _ _ w.heap.size 36 _ (0, 0) _ rfl (two_setD ((heap_setCell_other _ _ _ _ (by simp; omega)).trans HSn.out.x)) Try.underlying36 rfl (by kernel_rfl)) rfl ?_
      refine ⟨⟨t.id, some ⟨b, 0, none⟩, t.n, t.c, t.xs.set 0 u⟩, rfl, ownI_lowD (ownI_blocks (own_set0 HOn.out u) fun k hk => ?_) (by omega), by simp; omega, by simp; omega, HSn.out.c.kept ?_, grown_tail HSn.out.g ?_⟩
      · exact set2_other _ w.heap.size k _ _ (by have := ownI_lows HOn.out k hk; omega)
      · exact (set2_other _ w.heap.size g _ _ (by omega)).trans (heap_setCell_other _ _ _ _ (by simp; omega))
      · exact ((Below.refl _ _).setCell (by show w.heap.size ≤ b; omega) _).trans (set2_below _ w.heap.size w.heap.size _ _ (Nat.le_refl _))
  by_cases z2 : z = 2
  · subst z2
    clear z0 z1
    have H4 : Hid ((t.xs.length + [(1 : Int)].length) * 8 ≤ 140737488355328) := Lib.hid (by simp only [List.length_cons, List.length_nil]; omega)
    have hB3 : w2.heap.size + 1 ≤ w3.heap.size := hY3
    have y0 : w3.cell? ⟨w2.heap.size, 0, none⟩ = some (.int .i64 t.id) := cell_of_row w3 _ 0 _ _ (0, 0) HS.out.y
    have y1 : w3.cell? ⟨w2.heap.size, 1, none⟩ = some (.slice t.A t.n t.c) := cell_of_row w3 _ 1 _ _ (0, 0) HS.out.y
    have HOy : Hid (w3.ownsRow (w.heap.size + 1) 3 1 (.slice t.A t.n t.c) t.xs.length (t.xs.map (Value.int .i64))) := Lib.hid HS.out.o
    go_wp2_with (at_builtin; refine wp_appD w3 (by rfl) (.tmp 27) (.tmp 28) (by rfl) (w.heap.size + 1) _ t.xs (by rfl) HS.out.o _ [1] (by rfl) 1 1 rfl (by rfl) H4.out (by omega) ?_)
    intro v' w5 hown5 hg5 hv5
    obtain ⟨A', n', c', rfl, _⟩ := hown5.ints
    have HO5 := Lib.hid hown5
    have HV5 := Lib.hid hv5
    have HB5 : Hid (Below (w.heap.size + 1) w3 w5) := Lib.hid (((Below.refl (w.heap.size + 1) w3).alloc (by omega) _).grown hg5 (by simp; omega) (fun k hk => ownI_lows HS.out.o k hk))
    have HXX : Hid (w5.heap[w.heap.size]? = some (.cells #[.int .i64 0, .slice none 0 0] 36 (0, 0))) := Lib.hid (row_below HB5.out HS.out.x (by omega))
    have HYY : Hid (w5.heap[w2.heap.size]? = some (.cells #[.int .i64 t.id, .slice t.A t.n t.c] 36 (0, 0))) := Lib.hid ((hg5.block _ (by simp; omega) (fun e => by have := HS.out.far _ e.symm; omega)).trans ((Below.heap_alloc _ _ _ hY3).trans HS.out.y))
    clear hown5 hg5 hv5
    have x0 : w5.cell? ⟨w.heap.size, 0, none⟩ = some (.int .i64 0) := cell_of_row w5 _ 0 _ _ (0, 0) HXX.out
    have z0 : w5.frozen? ⟨w.heap.size, 0, none⟩ = false := frozen_of_row w5 _ 0 _ _ HXX.out
    have x1 : w5.cell? ⟨w.heap.size, 1, none⟩ = some (.slice none 0 0) := cell_of_row w5 _ 1 _ _ (0, 0) HXX.out
    have z1 : w5.frozen? ⟨w.heap.size, 1, none⟩ = false := frozen_of_row w5 _ 1 _ _ HXX.out
    have y0 : w5.cell? ⟨w2.heap.size, 0, none⟩ = some (.int .i64 t.id) := cell_of_row w5 _ 0 _ _ (0, 0) HYY.out
    have y1 : w5.cell? ⟨w2.heap.size, 1, none⟩ = some (.slice t.A t.n t.c) := cell_of_row w5 _ 1 _ _ (0, 0) HYY.out
    have u1 : w5.frozen? ⟨w2.heap.size, 1, none⟩ = false := frozen_of_row w5 _ 1 _ _ HYY.out
    go_wp2
    refine bodyPost_ret_by (results_cell_row rfl _ _ w.heap.size 36 _ (0, 0) _ rfl (two_setD ((heap_setCell_other _ _ _ _ (by simp; omega)).trans HXX.out)) Try.underlying36 rfl (by kernel_rfl)) rfl ?_
    have hfar : ∀ k, (Value.slice A' n' c').ownBlock = some k → k ≠ w2.heap.size ∧ k ≠ w.heap.size := fun k hk => by
      have h1 := ownI_lows HO5.out k hk
      refine ⟨fun e => ?_, by omega⟩
      rcases HV5.out with h | h
      · rw [h] at hk
        have := HS.out.far k hk
        omega
      · rw [h] at hk
        have h2 := Option.some.inj hk
        try simp only [World.size_alloc] at h2
        omega
    refine ⟨⟨t.id, A', n', c', t.xs ++ [1]⟩, rfl, ownI_lowD (ownI_blocks HO5.out fun k hk => ?_) (by omega), by simp; omega, by simp; omega, HS.out.c.kept ?_, grown_tail HS.out.g ?_⟩
    · exact (set2_other _ w.heap.size k _ _ (hfar k hk).2).trans (heap_setCell_other _ _ _ _ (hfar k hk).1)
    · exact (set2_other _ w.heap.size g _ _ (by omega)).trans ((heap_setCell_other _ _ _ _ (by simp; omega)).trans (HB5.out.block g (by omega)))
    · exact ((HB5.out.mono (by omega)).setCell (by show w.heap.size ≤ w2.heap.size; omega) _).trans (set2_below _ w.heap.size w.heap.size _ _ (Nat.le_refl _))
  have f0 : (z == 0) = false := by simpa using z0
  have f1 : (z == 1) = false := by simpa using z1
  have f2 : (z == 2) = false := by simpa using z2
  clear z0 z1 z2
  have x0 : w3.cell? ⟨w.heap.size, 0, none⟩ = some (.int .i64 0) := cell_of_row w3 _ 0 _ _ (0, 0) HS.out.x
  have z0 : w3.frozen? ⟨w.heap.size, 0, none⟩ = false := frozen_of_row w3 _ 0 _ _ HS.out.x
  have x1 : w3.cell? ⟨w.heap.size, 1, none⟩ = some (.slice none 0 0) := cell_of_row w3 _ 1 _ _ (0, 0) HS.out.x
  have z1 : w3.frozen? ⟨w.heap.size, 1, none⟩ = false := frozen_of_row w3 _ 1 _ _ HS.out.x
  have y0 : w3.cell? ⟨w2.heap.size, 0, none⟩ = some (.int .i64 t.id) := cell_of_row w3 _ 0 _ _ (0, 0) HS.out.y
  have y1 : w3.cell? ⟨w2.heap.size, 1, none⟩ = some (.slice t.A t.n t.c) := cell_of_row w3 _ 1 _ _ (0, 0) HS.out.y
  go_wp2
  refine bodyPost_ret_by (results_cell_row rfl _ _ w.heap.size 36 _ (0, 0) _ rfl (two_setD HS.out.x) Try.underlying36 rfl (by kernel_rfl)) rfl ?_
  refine ⟨⟨t.id, t.A, t.n, t.c, t.xs⟩, rfl, ownI_lowD (ownI_blocks HS.out.o fun k hk => ?_) (by omega), by show 3 ≤ t.xs.length; omega, by show t.xs.length ≤ 4; omega, HS.out.c.kept ?_, grown_tail HS.out.g ?_⟩
  · exact (set2_other _ w.heap.size k _ _ (by have := ownI_lows HS.out.o k hk; omega))
  · exact (set2_other _ w.heap.size g _ _ (by omega))
  · exact set2_below _ w.heap.size w.heap.size _ _ (Nat.le_refl _)
end Go.Proofs.Ytalgfiefadfmnaa.num
