/-
  Rows of ints and of items that the call itself made; the laws' own helpers that measure a slice of items and copy what came in.
-/
import Derived.Test.YtceiocdemhkcdaaGreatItemMem
import Derived.Deep.OwnRows
import Derived.Deep.QuietTactic
import Derived.BigQuiet
namespace Go.Proofs.YtceiocdemhkcdaaGreat.num
set_option maxRecDepth 20000
open Go.RowKit

/-- Block b is a row of intCells xs of the call's own. -/
def IntRow (w : World) (b : Nat) (xs : List Int) : Prop := w.rowIs b 3 xs.length (fun i => .int .i64 (xs.getD i 0))
theorem rowIs_below {w w' : World} {b B : Nat} {t : TypeId} {n : Nat} {f : Nat → Value} (h : w.rowIs b t n f) (hb : Below B w w') (hB : b < B) : w'.rowIs b t n f := h.of_block (hb.block b hB)
theorem IntRow.below {w w' : World} {b B : Nat} {xs : List Int} (h : IntRow w b xs) (hb : Below B w w') (hB : b < B) : IntRow w' b xs := rowIs_below h hb hB
theorem IntRow.lt {w : World} {b : Nat} {xs : List Int} (h : IntRow w b xs) : b < w.heap.size := World.rowIs.lt h
theorem IntRow.ints {w : World} {b B : Nat} {xs : List Int} (h : IntRow w b xs) (hB : b < B) : Ints w B (some ⟨b, 0, none⟩) xs.length xs :=
  ⟨rfl, fun k hk => ⟨b, 0, rfl, hB, by rw [Nat.zero_add]; exact World.rowIs.cell h hk⟩⟩

theorem info_int : (Tryz.prog.info? 3).map (fun i => (i.zero, i.size, i.bytes)) = some (some (.int .i64 0), 1, 8) := by kernel_rfl

def intCells (xs : List Int) : Array Value := (xs.map (Value.int .i64)).toArray
theorem cells_get {xs : List Int} {k : Nat} (h : k < xs.length) : (intCells xs)[k]? = some (.int .i64 (xs.getD k 0)) := by
  unfold intCells
  rw [List.getElem?_toArray, List.getElem?_map, List.getD_eq_getElem?_getD, List.getElem?_eq_getElem h]; rfl
theorem cells_of {xs : List Int} {n : Nat} {cs : Array Value} (hl : xs.length = n) (hs : cs.size = n) (h : ∀ j, j < n → cs[j]? = some (.int .i64 (xs.getD j 0))) : cs = intCells xs := by
  apply Array.ext_getElem?
  intro j
  by_cases hj : j < n
  · rw [h j hj, cells_get (by omega)]
  · rw [Array.getElem?_eq_none (by omega), Array.getElem?_eq_none (by unfold intCells; simp; omega)]
theorem prefix_step {xs : List Int} {n k : Nat} {cs : Array Value} (hs : cs.size = n) (hk : k < n) (h : ∀ j, j < n → cs[j]? = some (if j < k then .int .i64 (xs.getD j 0) else .int .i64 0)) (v : Int) (hv : xs.getD k 0 = v) :
    (cs.setIfInBounds k (.int .i64 v)).size = n ∧ ∀ j, j < n → (cs.setIfInBounds k (.int .i64 v))[j]? = some (if j < k + 1 then .int .i64 (xs.getD j 0) else .int .i64 0) := by
  refine ⟨by simpa using hs, fun j hj => ?_⟩
  rw [Array.getElem?_setIfInBounds]
  by_cases e : k = j
  · subst e
    rw [if_pos rfl, if_pos (by omega), if_pos (by omega), hv]
  · rw [if_neg e, h j hj]
    by_cases h2 : j < k
    · rw [if_pos h2, if_pos (by omega)]
    · rw [if_neg h2, if_neg (by omega)]
theorem IntRow.made (w : World) (xs : List Int) (b : Nat) (hb : b = w.heap.size) : IntRow (w.alloc (.cells (intCells xs) 3)) b xs :=
  hb ▸ ⟨intCells xs, heap_alloc_new w _, by simp [intCells], fun _ hi => cells_get hi⟩

/-- toIntS: one new block, the ints. -/
theorem toInts (w : World) (B : Nat) (A : Option Addr) (n c : Nat) (xs : List Int) (hi : Ints w B A n xs) (hB : B ≤ w.heap.size) (hn : n ≤ 1048576) :
    Calls Tryz.prog 112 #[.slice A n c] w fun e w' => e = .returned (.slice (some ⟨w.heap.size, 0, none⟩) n n) ∧ w.alloc (.cells (intCells xs) 3) = w' := by
  have hmk := run_make_row' (P := Tryz.prog) 29 3 (.int .i64 0) 8 Tryz.underlying29 info_int rfl .i64 .i64 n (by omega) (by omega)
  have HX := Lib.hid hi
  clear hi
  go_enter Tryz.func112, Tryz.ntmps112
  go_wp2
  clear hmk
  go_loopw [4] (fun i wr => ∃ (k : Nat) (cs : Array Value), k ≤ n ∧ i = .int .i64 k ∧ wr = w.alloc (.cells cs 3) ∧ cs.size = n ∧ ∀ j, j < n → cs[j]? = some (if j < k then .int .i64 (xs.getD j 0) else .int .i64 0)) (fun i _ => n - (intOf i).toNat)
  case atStart =>
    refine ⟨0, _, Nat.zero_le _, rfl, rfl, by rw [size_madeCells], fun j hj => ?_⟩
    simp [madeCells, hj, Nat.mod_one]
  case round =>
    obtain ⟨k, cs, hk, rfl, rfl, hs, hcs⟩ := hrel
    by_cases hlt : k < n
    · obtain ⟨b, off, rfl, hb, hc⟩ := HX.out.2 k hlt
      have hc' : (w.alloc (.cells cs 3)).cell? ⟨b, off + k, none⟩ = some (.int .i64 (xs.getD k 0)) := (World.cell?_alloc_past _ _ _ (by omega)).trans hc
      generalize hv : xs.getD k 0 = v at *
      have HP := Lib.hid (prefix_step hs hlt hcs v hv)
      have g1 := hcs k hlt
      rw [if_neg (by omega)] at g1
      clear hcs hc hv
      go_wp2
      go_roundw
      case rel => exact ⟨k + 1, _, by omega, by go_num, rfl, HP.out.1, HP.out.2⟩
      case measure => simp [intOf]; omega
    · obtain rfl : k = n := by omega
      have HE := Lib.hid (cells_of HX.out.1 hs (fun j hj => by rw [hcs j hj, if_pos hj]))
      clear hcs hs
      go_wp2
      go_ret
      exact ⟨rfl, by rw [HE.out]⟩
theorem getD_prefix (xs : List Int) (k j : Nat) : (if j = k then (Value.int .i64 (xs.getD k 0)) else if j < k then .int .i64 (xs.getD j 0) else .int .i64 0) = (if j < k + 1 then Value.int .i64 (xs.getD j 0) else .int .i64 0) := by
  by_cases h1 : j = k
  · subst h1; simp
  · by_cases h2 : j < k
    · rw [if_neg h1, if_pos h2, if_pos (by omega)]
    · rw [if_neg h1, if_neg h2, if_neg (by omega)]
theorem ints_row {w w' : World} {B : Nat} {A : Option Addr} {n b : Nat} {xs : List Int} (hi : Ints w B A n xs) (h : IntRow w' b xs) : Ints w' w'.heap.size (some ⟨b, 0, none⟩) n xs := hi.1 ▸ h.ints h.lt
theorem below3 {w : World} {B : Nat} (hB : B ≤ w.heap.size) (o1 o2 o3 : Obj) : Below B w (((w.alloc o1).alloc o2).alloc o3) :=
  (((Below.refl B w).alloc hB _).alloc (by simp; omega) _).alloc (by simp; omega) _
theorem heap_mid (w : World) (o1 o2 o3 o4 : Obj) : ((((w.alloc o1).alloc o2).alloc o3).alloc o4).heap[w.heap.size + 1]? = some o2 := by
  rw [Below.heap_alloc _ _ _ (by simp), Below.heap_alloc _ _ _ (by simp)]
  exact heap_alloc2_new w o1 o2
theorem toItem_c (w : World) (B : Nat) (t : It) (hi : Ints w B t.A t.n t.xs) (hB : B ≤ w.heap.size) (hn : t.n ≤ 1048576) :
    Calls Tryz.prog 75 #[t.val] w fun e w' => ∃ b, e = .returned (It.val ⟨t.id, some ⟨b, 0, none⟩, t.n, t.n, t.xs⟩) ∧ w.heap.size ≤ b ∧ IntRow w' b t.xs ∧ Below w.heap.size w w' := by
  obtain ⟨id, A, n, c, xs⟩ := t
  unfold It.val
  simp only [] at hi hn ⊢
  have HX := Lib.hid hi
  clear hi
  go_enter Tryz.func75, Tryz.ntmps75
  go_wp2_with fail
  refine (toInts _ B A n c xs (HX.out.below (below3 hB _ _ _)) (by simp; omega) hn).mono ?_
  rintro e w1 ⟨rfl, rfl⟩
  go_wp2
  refine bodyPost_ret_by (results_cell_row rfl _ _ (w.heap.size + 1) 36 _ (0, 0) _ rfl (heap_mid _ _ _ _ _) Tryz.underlying36 rfl (by kernel_rfl)) rfl ?_
  exact ⟨_, rfl, by omega, IntRow.made _ xs _ (by simp), (below3 (Nat.le_refl _) _ _ _).alloc (by simp; omega) _⟩

theorem take_snoc_getD {xs : List Int} {k n : Nat} (hl : xs.length = n) (h : k < n) : xs.take (k + 1) = xs.take k ++ [xs.getD k 0] := by
  rw [List.take_add_one, List.getD_eq_getElem?_getD, List.getElem?_eq_getElem (by omega)]; rfl
theorem ne_at {xs ys : List Int} {k : Nat} (h : xs.getD k 0 ≠ ys.getD k 0) : xs ≠ ys := fun e => h (by rw [e])

theorem eqInts (w : World) (B : Nat) (A A' : Option Addr) (n n' c c' : Nat) (xs ys : List Int) (hx : Ints w B A n xs) (hy : Ints w B A' n' ys) (hn : n ≤ 1048576) (b : Bool) (hb : b = true ↔ xs = ys) :
    Calls Tryz.prog 41 #[.slice A n c, .slice A' n' c'] w fun e w' => e = .returned (.bool b) ∧ ∃ m, w' = w.drewN m := by
  have HX := Lib.hid hx
  have HY := Lib.hid hy
  by_cases hl : n = n'
  · subst hl
    have HB := Lib.hid hb
    clear hx hy hb
    go_enter Tryz.func41, Tryz.ntmps41
    go_wp2
    go_loopw [5] (fun i wr => ∃ k : Nat, k ≤ n ∧ i = .int .i64 k ∧ xs.take k = ys.take k ∧ ∃ m, wr = w.drewN m) (fun i _ => n - (intOf i).toNat)
    case atStart => exact ⟨0, Nat.zero_le _, rfl, rfl, 0, rfl⟩
    case round =>
      obtain ⟨k, hk, rfl, htake, m, rfl⟩ := hrel
      have HT := Lib.hid htake
      clear htake
      by_cases hlt : k < n
      · obtain ⟨b1, off1, rfl, hb1, hc1⟩ := HX.out.2 k hlt
        obtain ⟨b2, off2, rfl, hb2, hc2⟩ := HY.out.2 k hlt
        generalize hv1 : xs.getD k 0 = v1 at *
        generalize hv2 : ys.getD k 0 = v2 at *
        have HV1 := Lib.hid hv1
        have HV2 := Lib.hid hv2
        clear hv1 hv2
        have hlt' : (k : Int) < (n : Int) := by omega
        by_cases he : v1 = v2
        · subst he
          go_wp2
          go_quiet (fail)
          go_wp2
          go_roundw
          case rel => exact ⟨k + 1, by omega, by go_num, by rw [take_snoc_getD HX.out.1 hlt, take_snoc_getD HY.out.1 hlt, HT.out, HV1.out, HV2.out], _, rfl⟩
          case measure => simp [intOf]; omega
        · have hne : (v1 != v2) = true := by simpa using he
          have hxy : xs ≠ ys := ne_at (k := k) (by rw [HV1.out, HV2.out]; exact he)
          obtain rfl : b = false := by
            cases b
            · rfl
            · exact absurd (HB.out.1 rfl) hxy
          have HE := Lib.hid he
          clear he hxy
          go_wp2
          go_quiet (fail)
          go_wp2
          go_ret
          exact ⟨rfl, _, World.drewN_drewN _ _ _⟩
      · obtain rfl : k = n := by omega
        obtain rfl : b = true := HB.out.2 (by
          have h1 := HT.out
          rwa [List.take_of_length_le (by rw [HX.out.1]; exact Nat.le_refl _), List.take_of_length_le (by rw [HY.out.1]; exact Nat.le_refl _)] at h1)
        go_wp2
        go_ret
        exact ⟨rfl, _, rfl⟩
  · obtain rfl : b = false := by
      cases b
      · rfl
      · exact absurd (by rw [← hx.1, hb.1 rfl, hy.1]) hl
    clear hx hy hb
    go_enter Tryz.func41, Tryz.ntmps41
    go_wp2
    go_ret
    exact ⟨rfl, 0, rfl⟩
end Go.Proofs.YtceiocdemhkcdaaGreat.num
