/-
  Rows of ints and of items that the call itself made; the laws' own helpers that measure a slice of items and copy what came in.
-/
import Derived.Test.YtaijajajpnekbaaGreatItemMem
import Derived.Deep.OwnRows
import Derived.Deep.QuietTactic
import Derived.BigQuiet
namespace Go.Proofs.YtaijajajpnekbaaGreat.num
set_option maxRecDepth 20000
open Go.RowKit

/-- Block b is a row of intCells xs of the call's own. -/
def IntRow (w : World) (b : Nat) (xs : List Int) : Prop := w.rowIs b 3 xs.length (fun i => .int .i64 (xs.getD i 0))
theorem rowIs_below {w w' : World} {b B : Nat} {t : TypeId} {n : Nat} {f : Nat → Value} (h : w.rowIs b t n f) (hb : Below B w w') (hB : b < B) : w'.rowIs b t n f := h.of_block (hb.block b hB)
theorem IntRow.below {w w' : World} {b B : Nat} {xs : List Int} (h : IntRow w b xs) (hb : Below B w w') (hB : b < B) : IntRow w' b xs := rowIs_below h hb hB
theorem IntRow.lt {w : World} {b : Nat} {xs : List Int} (h : IntRow w b xs) : b < w.heap.size := World.rowIs.lt h
theorem IntRow.ints {w : World} {b B : Nat} {xs : List Int} (h : IntRow w b xs) (hB : b < B) : Ints w B (some ⟨b, 0, none⟩) xs.length xs :=
  ⟨rfl, fun k hk => ⟨b, 0, rfl, hB, by rw [Nat.zero_add]; exact World.rowIs.cell h hk⟩⟩

theorem info_int : (Tryz.prog.info? 3).map (fun i => (i.zero, i.size, i.bytes)) = some (some (.int .i64 0), 1, 8) := by kernel_rfl

def intCells (xs : List Int) : Array Value := (xs.map (Value.int .i64)).toArray
theorem cells_get {xs : List Int} {k : Nat} (h : k < xs.length) : (intCells xs)[k]? = some (.int .i64 (xs.getD k 0)) := by
  unfold intCells
  rw [List.getElem?_toArray, List.getElem?_map, List.getD_eq_getElem?_getD, List.getElem?_eq_getElem h]; rfl
theorem cells_of {xs : List Int} {n : Nat} {cs : Array Value} (hl : xs.length = n) (hs : cs.size = n) (h : ∀ j, j < n → cs[j]? = some (.int .i64 (xs.getD j 0))) : cs = intCells xs := by
  apply Array.ext_getElem?
  intro j
  by_cases hj : j < n
  · rw [h j hj, cells_get (by omega)]
  · rw [Array.getElem?_eq_none (by omega), Array.getElem?_eq_none (by unfold intCells; simp; omega)]
theorem prefix_step {xs : List Int} {n k : Nat} {cs : Array Value} (hs : cs.size = n) (hk : k < n) (h : ∀ j, j < n → cs[j]? = some (if j < k then .int .i64 (xs.getD j 0) else .int .i64 0)) (v : Int) (hv : xs.getD k 0 = v) :
    (cs.setIfInBounds k (.int .i64 v)).size = n ∧ ∀ j, j < n → (cs.setIfInBounds k (.int .i64 v))[j]? = some (if j < k + 1 then .int .i64 (xs.getD j 0) else .int .i64 0) := by
  refine ⟨by simpa using hs, fun j hj => ?_⟩
  rw [Array.getElem?_setIfInBounds]
  by_cases e : k = j
  · subst e
    rw [if_pos rfl, if_pos (by omega), if_pos (by omega), hv]
  · rw [if_neg e, h j hj]
    by_cases h2 : j < k
    · rw [if_pos h2, if_pos (by omega)]
    · rw [if_neg h2, if_neg (by omega)]
theorem IntRow.made (w : World) (xs : List Int) (b : Nat) (hb : b = w.heap.size) : IntRow (w.alloc (.cells (intCells xs) 3)) b xs :=
  hb ▸ ⟨intCells xs, heap_alloc_new w _, by simp [intCells], fun _ hi => cells_get hi⟩

theorem getD_prefix (xs : List Int) (k j : Nat) : (if j = k then (Value.int .i64 (xs.getD k 0)) else if j < k then .int .i64 (xs.getD j 0) else .int .i64 0) = (if j < k + 1 then Value.int .i64 (xs.getD j 0) else .int .i64 0) := by
  by_cases h1 : j = k
  · subst h1; simp
  · by_cases h2 : j < k
    · rw [if_neg h1, if_pos h2, if_pos (by omega)]
    · rw [if_neg h1, if_neg h2, if_neg (by omega)]
theorem ints_row {w w' : World} {B : Nat} {A : Option Addr} {n b : Nat} {xs : List Int} (hi : Ints w B A n xs) (h : IntRow w' b xs) : Ints w' w'.heap.size (some ⟨b, 0, none⟩) n xs := hi.1 ▸ h.ints h.lt
theorem below3 {w : World} {B : Nat} (hB : B ≤ w.heap.size) (o1 o2 o3 : Obj) : Below B w (((w.alloc o1).alloc o2).alloc o3) :=
  (((Below.refl B w).alloc hB _).alloc (by simp; omega) _).alloc (by simp; omega) _
theorem heap_mid (w : World) (o1 o2 o3 o4 : Obj) : ((((w.alloc o1).alloc o2).alloc o3).alloc o4).heap[w.heap.size + 1]? = some o2 := by
  rw [Below.heap_alloc _ _ _ (by simp), Below.heap_alloc _ _ _ (by simp)]
  exact heap_alloc2_new w o1 o2
theorem take_snoc_getD {xs : List Int} {k n : Nat} (hl : xs.length = n) (h : k < n) : xs.take (k + 1) = xs.take k ++ [xs.getD k 0] := by
  rw [List.take_add_one, List.getD_eq_getElem?_getD, List.getElem?_eq_getElem (by omega)]; rfl
theorem ne_at {xs ys : List Int} {k : Nat} (h : xs.getD k 0 ≠ ys.getD k 0) : xs ≠ ys := fun e => h (by rw [e])

end Go.Proofs.YtaijajajpnekbaaGreat.num
