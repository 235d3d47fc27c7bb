/-
  The program's functions on one item: contracts.
-/
import Derived.Test.YtghekfigfjhkeabGreatDoorItemSpec
import Derived.Laws.CopyOwn
import Derived.Test.YtghekfigfjhkeabGreatDoorRegion
namespace Go.Proofs.YtghekfigfjhkeabGreatDoor.num
open Go.RowKit
set_option linter.unusedSimpArgs false

/-- A record's value. -/
def recV (id a b c : Int) : Value := .agg #[.int .i64 id, .int .i64 a, .int .i64 b, .int .i64 c]

theorem heap_third (w : World) (o1 o2 o3 : Obj) : (((w.alloc o1).alloc o2).alloc o3).heap[w.heap.size + 2]? = some o3 := by
  have h := heap_alloc_new ((w.alloc o1).alloc o2) o3
  have e : ((w.alloc o1).alloc o2).heap.size = w.heap.size + 2 := by simp
  rwa [e] at h
theorem setRow_at {w : World} {g : Nat} {cs : Array Value} {t : TypeId} {fr : Nat × Nat} (h : w.heap[g]? = some (.cells cs t fr)) (cs' : Array Value) : (w.setRow g cs').heap[g]? = some (.cells cs' t fr) := by
  simp [World.setRow, Array.getElem?_modify, h]
theorem four_set {w : World} {g : Nat} {t : TypeId} {u0 u1 u2 u3 v0 v1 v2 v3 : Value} (h : w.heap[g]? = some (.cells #[u0, u1, u2, u3] t (0, 0))) :
    ((((w.setCell ⟨g, 0, none⟩ v0).setCell ⟨g, 1, none⟩ v1).setCell ⟨g, 2, none⟩ v2).setCell ⟨g, 3, none⟩ v3).heap[g]? = some (.cells #[v0, v1, v2, v3] t (0, 0)) := by
  have h := heap_setCell_same _ g 3 _ _ v3 (heap_setCell_same _ g 2 _ _ v2 (heap_setCell_same _ g 1 _ _ v1 (heap_setCell_same w g 0 _ _ v0 h)))
  simpa using h
theorem results_row_tmp {P : Program} {fn : Func} {p u : Tmp} {ty : TypeId} (h : fn.results = #[.cell p ty, .tmp u]) (tmps : Array Value) (w : World) (g : Nat) (t : TypeId) (cs : Array Value) (fr : Nat × Nat) (d : TypeDesc)
    (hp : tmps.getD p undef = .pointer (some ⟨g, 0, none⟩)) (hg : w.heap[g]? = some (.cells cs t fr))
    (hu : P.underlying ty = some d) (hd : (match d with | .struct _ | .array _ _ => true | _ => false) = true) (hi : (P.info? ty).map (·.size) = some cs.size) :
    (results fn tmps).run P w = .ok (.tuple #[.agg cs, tmps.getD u undef]) w := by
  rw [results_cell_tmp h]
  have hp' : tmps[p]?.getD undef = .pointer (some ⟨g, 0, none⟩) := by simpa using hp
  simp [hp', asAddr, Result.andThen, run_loadVar_row w g t ty cs fr d hg hu hd hi]

def clampI (v : Int) : Int := if 9 < (if v < 0 then 0 else v) then 9 else if v < 0 then 0 else v
/-- The array behind k rounds. -/
def clampA (a b c : Int) (k : Nat) : Array Value := #[.int .i64 (if 0 < k then clampI a else a), .int .i64 (if 1 < k then clampI b else b), .int .i64 (if 2 < k then clampI c else c)]
theorem clampI_eq (v : Int) : v = clampI v ↔ 0 ≤ v ∧ v ≤ 9 := by
  unfold clampI
  repeat' split
  all_goals omega
theorem three_of {xs : List Int} (h : xs.length = 3) : ∃ a b c, xs = [a, b, c] := by
  match xs, h with
  | [a, b, c], _ => exact ⟨a, b, c, rfl⟩

end Go.Proofs.YtghekfigfjhkeabGreatDoor.num
