/-
  Nodes of expressions as the laws of chapter 5 meet them: what a slice of nodes reads as, and the laws' own helpers that measure and copy them.
-/
import Derived.Test.YtceiocdemhkcdaaGreatRowG
import Derived.Test.YtceiocdemhkcdaaGreatWishOwn
import Derived.Test.YtceiocdemhkcdaaGreatExpMath
namespace Go.Proofs.YtceiocdemhkcdaaGreat.num
set_option maxRecDepth 20000
open Go.RowKit
set_option linter.unusedVariables false
set_option linter.unusedSimpArgs false

/-- A node's value: its operator, and its wish. -/
structure Nd where
  op : Int
  t : Wi
def Nd.val (x : Nd) : Value := .agg #[.int .i64 x.op, .int .i64 x.t.kind, .int .i64 x.t.field, .int .i64 x.t.value, .slice x.t.LA x.t.Ln x.t.Lc, .slice x.t.PA x.t.Pn x.t.Pc]
def nodeCells (x : Nd) : List Value := [.int .i64 x.op, .int .i64 x.t.kind, .int .i64 x.t.field, .int .i64 x.t.value, .slice x.t.LA x.t.Ln x.t.Lc, .slice x.t.PA x.t.Pn x.t.Pc]
theorem nodeCells_len (x : Nd) : (nodeCells x).length = 6 := rfl
theorem nodeCells_one (x : Nd) : ∀ u ∈ nodeCells x, u.oneCell' = true := by
  intro u hu
  simp only [nodeCells, List.mem_cons, List.not_mem_nil, or_false] at hu
  rcases hu with rfl | rfl | rfl | rfl | rfl | rfl <;> rfl
/-- A slice of nodes that reads as ns, below block B. -/
structure Nodes (w : World) (B : Nat) (A : Option Addr) (n : Nat) (ns : List Nd) : Prop where
  r : ReadG nodeCells 6 w B A n ns
  x : ∀ x ∈ ns, (Lit.int .i64 x.op).wf = true ∧ WiIn w B x.t
theorem Nodes.below {w w' : World} {B : Nat} {A : Option Addr} {n : Nat} {ns : List Nd} (h : Nodes w B A n ns) (hb : Below B w w') : Nodes w' B A n ns := ⟨h.r.below hb, fun x hx => ⟨(h.x x hx).1, (h.x x hx).2.below hb⟩⟩
theorem Nodes.more {w : World} {B B' : Nat} {A : Option Addr} {n : Nat} {ns : List Nd} (h : Nodes w B A n ns) (hB : B ≤ B') : Nodes w B' A n ns := ⟨h.r.more hB, fun x hx => ⟨(h.x x hx).1, (h.x x hx).2.more hB⟩⟩
theorem Nodes.step {w w' : World} {A : Option Addr} {n : Nat} {ns : List Nd} (h : Nodes w w.heap.size A n ns) (hb : Below w.heap.size w w') : Nodes w' w'.heap.size A n ns := (h.below hb).more hb.size
theorem Nodes.len {w : World} {B : Nat} {A : Option Addr} {n : Nat} {ns : List Nd} (h : Nodes w B A n ns) : ns.length = n := h.r.len
theorem Nodes.take {w : World} {B : Nat} {A : Option Addr} {n : Nat} {ns : List Nd} (h : Nodes w B A n ns) {k : Nat} (hk : k ≤ n) : Nodes w B A k (ns.take k) := ⟨h.r.take hk, fun x hx => h.x x (List.mem_of_mem_take hx)⟩
theorem Nodes.nil (w : World) (B : Nat) (A : Option Addr) : Nodes w B A 0 [] := ⟨.nil _ _ _, by simp⟩
theorem Nodes.at {w : World} {B : Nat} {A : Option Addr} {n : Nat} {ns : List Nd} (h : Nodes w B A n ns) (k : Nat) (hk : k < n) :
    ∃ (b off : Nat) (x : Nd), A = some ⟨b, off, none⟩ ∧ b < B ∧ ns[k]? = some x ∧ ((Lit.int .i64 x.op).wf = true ∧ WiIn w B x.t) ∧ w.cell? ⟨b, off + k * 6, none⟩ = some (.int .i64 x.op) ∧ w.cell? ⟨b, off + k * 6 + 1, none⟩ = some (.int .i64 x.t.kind) ∧ w.cell? ⟨b, off + k * 6 + 2, none⟩ = some (.int .i64 x.t.field) ∧
      w.cell? ⟨b, off + k * 6 + 3, none⟩ = some (.int .i64 x.t.value) ∧ w.cell? ⟨b, off + k * 6 + 4, none⟩ = some (.slice x.t.LA x.t.Ln x.t.Lc) ∧ w.cell? ⟨b, off + k * 6 + 5, none⟩ = some (.slice x.t.PA x.t.Pn x.t.Pc) := by
  obtain ⟨x, hx⟩ := h.r.get hk
  obtain ⟨b, off, h1, h2, h3⟩ := h.r.at' k x hx
  exact ⟨b, off, x, h1, h2, hx, h.x x (List.mem_of_getElem? hx), h3 0 _ rfl, h3 1 _ rfl, h3 2 _ rfl, h3 3 _ rfl, h3 4 _ rfl, h3 5 _ rfl⟩
def Nd.dat (x : Nd) : ND := ⟨x.op, x.t.dat⟩
/-- The lists of a node are short. -/
def ShortN (ns : List Nd) : Prop := ∀ x ∈ ns, x.t.Short

set_option maxRecDepth 20000 in
theorem szNode_c (x : Nd) (left : Int) (hl : x.t.Ln ≤ 9223372036854775807) (hp : x.t.Pn ≤ 9223372036854775807) (h0 : 0 ≤ left) (h1 : left ≤ 1048576) (w : World) :
    Calls Tryz.prog 111 #[x.val, .int .i64 left] w fun e w' => (∃ r : Int, e = .returned (.int .i64 r) ∧ (r = -1 ∨ (0 ≤ r ∧ r ≤ left ∧ x.t.Short))) ∧ Below w.heap.size w w' := by
  obtain ⟨op, t⟩ := x
  have HS : Hid (∀ w1, Calls Tryz.prog 141 #[t.val, .int .i64 left] w1 fun e w' => (∃ r : Int, e = .returned (.int .i64 r) ∧ (r = -1 ∨ (0 ≤ r ∧ r ≤ left ∧ (t.Ln : Int) ≤ left ∧ (t.Pn : Int) ≤ left))) ∧ Below w1.heap.size w1 w') := Lib.hid fun w1 => szWish_c t left hl hp h0 h1 w1
  have hval : (Nd.mk op t).val = .agg #[.int .i64 op, .int .i64 t.kind, .int .i64 t.field, .int .i64 t.value, .slice t.LA t.Ln t.Lc, .slice t.PA t.Pn t.Pc] := rfl
  have hvw : t.val = .agg #[.int .i64 t.kind, .int .i64 t.field, .int .i64 t.value, .slice t.LA t.Ln t.Lc, .slice t.PA t.Pn t.Pc] := rfl
  rw [hval]
  rw [hvw] at HS
  clear hval hvw hl hp
  go_enter Tryz.func111, Tryz.ntmps111
  go_wp2_with fail
  refine (HS.out _).mono ?_
  rintro e w1 ⟨⟨r, rfl, hr⟩, hb⟩
  have HB := Lib.hid (below_on ((Below.refl _ w).alloc (Nat.le_refl _) _) hb)
  clear hb
  rcases hr with rfl | ⟨r0, r1, r2, r3⟩
  · go_wp2
    go_ret
    exact ⟨⟨_, rfl, .inl rfl⟩, HB.out⟩
  · go_wp2
    go_ret
    exact ⟨⟨r, rfl, .inr ⟨r0, r1, by show t.Ln ≤ 1048576 ∧ t.Pn ≤ 1048576; omega⟩⟩, HB.out⟩
theorem six_set {w : World} {g : Nat} {T : TypeId} {u0 u1 u2 u3 u4 u5 v0 v1 v2 v3 v4 v5 : Value} (h : w.heap[g]? = some (.cells #[u0, u1, u2, u3, u4, u5] T (0, 0))) :
    ((((((w.setCell ⟨g, 0, none⟩ v0).setCell ⟨g, 1, none⟩ v1).setCell ⟨g, 2, none⟩ v2).setCell ⟨g, 3, none⟩ v3).setCell ⟨g, 4, none⟩ v4).setCell ⟨g, 5, none⟩ v5).heap[g]? = some (.cells #[v0, v1, v2, v3, v4, v5] T (0, 0)) := by
  have h := heap_setCell_same _ g 5 _ _ v5 (heap_setCell_same _ g 4 _ _ v4 (heap_setCell_same _ g 3 _ _ v3 (heap_setCell_same _ g 2 _ _ v2 (heap_setCell_same _ g 1 _ _ v1 (heap_setCell_same w g 0 _ _ v0 h)))))
  simpa using h
theorem five_high {w : World} {g : Nat} {T : TypeId} {u0 u1 u2 u3 u4 u5 v1 v2 v3 v4 v5 : Value} (h : w.heap[g]? = some (.cells #[u0, u1, u2, u3, u4, u5] T (0, 0))) :
    (((((w.setCell ⟨g, 1, none⟩ v1).setCell ⟨g, 2, none⟩ v2).setCell ⟨g, 3, none⟩ v3).setCell ⟨g, 4, none⟩ v4).setCell ⟨g, 5, none⟩ v5).heap[g]? = some (.cells #[u0, v1, v2, v3, v4, v5] T (0, 0)) := by
  have h := heap_setCell_same _ g 5 _ _ v5 (heap_setCell_same _ g 4 _ _ v4 (heap_setCell_same _ g 3 _ _ v3 (heap_setCell_same _ g 2 _ _ v2 (heap_setCell_same w g 1 _ _ v1 h))))
  simpa using h
def zeroN : Array Value := #[.int .i64 0, .int .i64 0, .int .i64 0, .int .i64 0, .slice none 0 0, .slice none 0 0]
def zN (j : Nat) : Value := zeroN[j % 6]!
def nodeCell (ns : List Nd) (j : Nat) : Value := cellG nodeCells zN ns j
theorem info_node : (Tryz.prog.info? 111).map (fun i => (i.zero, i.size, i.bytes)) = some (some (.agg #[.int .i64 0, .int .i64 0, .int .i64 0, .int .i64 0, .slice none 0 0, .slice none 0 0]), 6, 80) := by kernel_rfl
theorem make_nodes (n : Nat) (hn : n ≤ 1048576) (w : World) :
    (Instr.makeSlice 79 (.int .i64 (n : Int)) (.int .i64 (n : Int))).run Tryz.prog w = .ok (.slice (some ⟨w.heap.size, 0, none⟩) n n) (w.alloc (.cells (madeCells zeroN (n * 6)) 111)) := by
  obtain ⟨i, hi, hzz⟩ := Option.map_eq_some_iff.1 info_node
  simp only [Prod.mk.injEq] at hzz
  obtain ⟨hz, hs, hb⟩ := hzz
  have hr := run_make (P := Tryz.prog) w _ _ i _ Tryz.underlying79 hi hz .i64 .i64 n n (by omega) (Int.le_refl _) (by rw [hb]; omega) (by omega)
  rw [hs] at hr
  simp only [Int.toNat_natCast] at hr
  exact hr
theorem made_nodes (w : World) (n : Nat) : (w.alloc (.cells (madeCells zeroN (n * 6)) 111)).rowIs w.heap.size 111 (n * 6) (nodeCell []) :=
  ⟨_, heap_alloc_new w _, size_madeCells _ _, fun i hi => by simp [madeCells, hi, nodeCell, cellG, zN, zeroN]⟩
theorem nodeCell_snoc {ns : List Nd} {k : Nat} (h : ns.length = k) (x : Nd) (j : Nat) :
    (if j = k * 6 + 5 then .slice x.t.PA x.t.Pn x.t.Pc else if j = k * 6 + 4 then .slice x.t.LA x.t.Ln x.t.Lc else if j = k * 6 + 3 then .int .i64 x.t.value else if j = k * 6 + 2 then .int .i64 x.t.field else if j = k * 6 + 1 then .int .i64 x.t.kind else if j = k * 6 then .int .i64 x.op else nodeCell ns j) = nodeCell (ns ++ [x]) j := by
  have e : ∀ i v, (nodeCells x)[i]? = some v → nodeCell (ns ++ [x]) (k * 6 + i) = v := fun i v hv => cellG_last nodeCells_len zN h x hv
  by_cases h5 : j = k * 6 + 5
  · subst h5; rw [if_pos rfl, e 5 _ rfl]
  rw [if_neg h5]
  by_cases h4 : j = k * 6 + 4
  · subst h4; rw [if_pos rfl, e 4 _ rfl]
  rw [if_neg h4]
  by_cases h3 : j = k * 6 + 3
  · subst h3; rw [if_pos rfl, e 3 _ rfl]
  rw [if_neg h3]
  by_cases h2 : j = k * 6 + 2
  · subst h2; rw [if_pos rfl, e 2 _ rfl]
  rw [if_neg h2]
  by_cases h1 : j = k * 6 + 1
  · subst h1; rw [if_pos rfl, e 1 _ rfl]
  rw [if_neg h1]
  by_cases h0 : j = k * 6
  · subst h0; rw [if_pos rfl]; exact (e 0 _ rfl).symm
  rw [if_neg h0]
  exact (cellG_more nodeCells_len zN h x (by omega)).symm

set_option maxRecDepth 20000 in
theorem toNode_c (w : World) (B : Nat) (x : Nd) (hi : WiIn w B x.t) (hB : B ≤ w.heap.size) (hn : x.t.Short) :
    Calls Tryz.prog 113 #[x.val] w fun e w' => ∃ x' : Nd, e = .returned x'.val ∧ x'.dat = x.dat ∧ x'.t.Short ∧ WiO w' w.heap.size x'.t ∧ x'.op = x.op ∧ Below w.heap.size w w' := by
  obtain ⟨op, t⟩ := x
  have HS : Hid (∀ w1, Below B w w1 → w.heap.size ≤ w1.heap.size → Calls Tryz.prog 142 #[t.val] w1 fun e w' => ∃ t' : Wi, e = .returned t'.val ∧ t'.dat = t.dat ∧ t'.Short ∧ WiO w' w1.heap.size t' ∧ Below w1.heap.size w1 w') := Lib.hid fun w1 hb _ => toWish_o w1 B t (hi.below hb) (Nat.le_trans hB hb.size) hn
  have HB3 : Hid (∀ o1 o2 o3 : Obj, Below B w (((w.alloc o1).alloc o2).alloc o3)) := Lib.hid fun o1 o2 o3 => below3 hB o1 o2 o3
  have HW3 : Hid (∀ o1 o2 o3 : Obj, Below w.heap.size w (((w.alloc o1).alloc o2).alloc o3)) := Lib.hid fun o1 o2 o3 => below3 (Nat.le_refl _) o1 o2 o3
  have hval : (Nd.mk op t).val = .agg #[.int .i64 op, .int .i64 t.kind, .int .i64 t.field, .int .i64 t.value, .slice t.LA t.Ln t.Lc, .slice t.PA t.Pn t.Pc] := rfl
  have hvw : t.val = .agg #[.int .i64 t.kind, .int .i64 t.field, .int .i64 t.value, .slice t.LA t.Ln t.Lc, .slice t.PA t.Pn t.Pc] := rfl
  rw [hval]
  rw [hvw] at HS
  clear hval hvw hi
  go_enter Tryz.func113, Tryz.ntmps113
  go_wp2_with fail
  refine (HS.out _ (HB3.out _ _ _) (by simp <;> omega)).mono ?_
  rintro e w1 ⟨t', rfl, hd, hsh, ho, hb⟩
  have hr1 : w1.heap[w.heap.size + 1]? = some (.cells #[.int .i64 0, .int .i64 0, .int .i64 0, .int .i64 0, .slice none 0 0, .slice none 0 0] 111 (0, 0)) := (hb.block _ (by simp)).trans (by rw [Below.heap_alloc _ _ _ (by simp)]; exact heap_alloc2_new w _ _)
  have hr2 : w1.heap[w.heap.size + 1 + 1]? = some (.cells #[.int .i64 op, .int .i64 0, .int .i64 0, .int .i64 0, .slice none 0 0, .slice none 0 0] 111 (0, 0)) := (hb.block _ (by simp)).trans (by have h := heap_alloc_new ((w.alloc (.cells #[.int .i64 op, .int .i64 t.kind, .int .i64 t.field, .int .i64 t.value, .slice t.LA t.Ln t.Lc, .slice t.PA t.Pn t.Pc] 147)).alloc (.cells #[.int .i64 0, .int .i64 0, .int .i64 0, .int .i64 0, .slice none 0 0, .slice none 0 0] 111)) (.cells #[.int .i64 op, .int .i64 0, .int .i64 0, .int .i64 0, .slice none 0 0, .slice none 0 0] 111); simpa using h)
  have HR1 := Lib.hid hr1
  have HR2 := Lib.hid (five_high hr2 (v1 := .int .i64 t'.kind) (v2 := .int .i64 t'.field) (v3 := .int .i64 t'.value) (v4 := .slice t'.LA t'.Ln t'.Lc) (v5 := .slice t'.PA t'.Pn t'.Pc))
  have HD := Lib.hid hd
  have HSh := Lib.hid hsh
  have HO := Lib.hid ho
  have HB := Lib.hid (below_on (HW3.out _ _ _) hb)
  have h1 : ∀ j v, (#[.int .i64 0, .int .i64 0, .int .i64 0, .int .i64 0, .slice none 0 0, .slice none 0 0] : Array Value)[j]? = some v → w1.cell? ⟨w.heap.size + 1, j, none⟩ = some v := fun j v hv => (cell_of_row w1 _ j _ _ (0, 0) hr1).trans hv
  have d0 : w1.cell? ⟨w.heap.size + 1, 0, none⟩ = some (.int .i64 0) := cell_of_row w1 _ 0 _ _ (0, 0) hr1
  have d1 : w1.cell? ⟨w.heap.size + 1, 1, none⟩ = some (.int .i64 0) := cell_of_row w1 _ 1 _ _ (0, 0) hr1
  have d2 : w1.cell? ⟨w.heap.size + 1, 2, none⟩ = some (.int .i64 0) := cell_of_row w1 _ 2 _ _ (0, 0) hr1
  have d3 : w1.cell? ⟨w.heap.size + 1, 3, none⟩ = some (.int .i64 0) := cell_of_row w1 _ 3 _ _ (0, 0) hr1
  have d4 : w1.cell? ⟨w.heap.size + 1, 4, none⟩ = some (.slice none 0 0) := cell_of_row w1 _ 4 _ _ (0, 0) hr1
  have d5 : w1.cell? ⟨w.heap.size + 1, 5, none⟩ = some (.slice none 0 0) := cell_of_row w1 _ 5 _ _ (0, 0) hr1
  have g0 : w1.frozen? ⟨w.heap.size + 1, 0, none⟩ = false := frozen_of_row w1 _ 0 _ _ hr1
  have g1 : w1.frozen? ⟨w.heap.size + 1, 1, none⟩ = false := frozen_of_row w1 _ 1 _ _ hr1
  have g2 : w1.frozen? ⟨w.heap.size + 1, 2, none⟩ = false := frozen_of_row w1 _ 2 _ _ hr1
  have g3 : w1.frozen? ⟨w.heap.size + 1, 3, none⟩ = false := frozen_of_row w1 _ 3 _ _ hr1
  have g4 : w1.frozen? ⟨w.heap.size + 1, 4, none⟩ = false := frozen_of_row w1 _ 4 _ _ hr1
  have g5 : w1.frozen? ⟨w.heap.size + 1, 5, none⟩ = false := frozen_of_row w1 _ 5 _ _ hr1
  have c0 : w1.cell? ⟨w.heap.size + 1 + 1, 0, none⟩ = some (.int .i64 op) := cell_of_row w1 _ 0 _ _ (0, 0) hr2
  have c1 : w1.cell? ⟨w.heap.size + 1 + 1, 1, none⟩ = some (.int .i64 0) := cell_of_row w1 _ 1 _ _ (0, 0) hr2
  have c2 : w1.cell? ⟨w.heap.size + 1 + 1, 2, none⟩ = some (.int .i64 0) := cell_of_row w1 _ 2 _ _ (0, 0) hr2
  have c3 : w1.cell? ⟨w.heap.size + 1 + 1, 3, none⟩ = some (.int .i64 0) := cell_of_row w1 _ 3 _ _ (0, 0) hr2
  have c4 : w1.cell? ⟨w.heap.size + 1 + 1, 4, none⟩ = some (.slice none 0 0) := cell_of_row w1 _ 4 _ _ (0, 0) hr2
  have c5 : w1.cell? ⟨w.heap.size + 1 + 1, 5, none⟩ = some (.slice none 0 0) := cell_of_row w1 _ 5 _ _ (0, 0) hr2
  have f1 : w1.frozen? ⟨w.heap.size + 1 + 1, 1, none⟩ = false := frozen_of_row w1 _ 1 _ _ hr2
  have f2 : w1.frozen? ⟨w.heap.size + 1 + 1, 2, none⟩ = false := frozen_of_row w1 _ 2 _ _ hr2
  have f3 : w1.frozen? ⟨w.heap.size + 1 + 1, 3, none⟩ = false := frozen_of_row w1 _ 3 _ _ hr2
  have f4 : w1.frozen? ⟨w.heap.size + 1 + 1, 4, none⟩ = false := frozen_of_row w1 _ 4 _ _ hr2
  have f5 : w1.frozen? ⟨w.heap.size + 1 + 1, 5, none⟩ = false := frozen_of_row w1 _ 5 _ _ hr2
  clear hr1 hr2 hd hsh ho hb h1
  unfold Wi.val
  go_wp2
  refine bodyPost_ret_by (results_cell_row rfl _ _ (w.heap.size + 1) 111 _ (0, 0) _ rfl (six_set ((heap_setCell_other _ _ _ _ (by simp)).trans ((heap_setCell_other _ _ _ _ (by simp)).trans ((heap_setCell_other _ _ _ _ (by simp)).trans ((heap_setCell_other _ _ _ _ (by simp)).trans ((heap_setCell_other _ _ _ _ (by simp)).trans HR1.out)))))) Tryz.underlying111 rfl (by kernel_rfl)) rfl ?_
  have hk2 : ∀ b, w.heap.size + 1 + 1 < b → ∀ a1 a2 a3 a4 a5 v0 v1 v2 v3 v4 v5, (((((((((((w1.setCell ⟨w.heap.size + 1 + 1, 1, none⟩ a1).setCell ⟨w.heap.size + 1 + 1, 2, none⟩ a2).setCell ⟨w.heap.size + 1 + 1, 3, none⟩ a3).setCell ⟨w.heap.size + 1 + 1, 4, none⟩ a4).setCell ⟨w.heap.size + 1 + 1, 5, none⟩ a5).setCell ⟨w.heap.size + 1, 0, none⟩ v0).setCell ⟨w.heap.size + 1, 1, none⟩ v1).setCell ⟨w.heap.size + 1, 2, none⟩ v2).setCell ⟨w.heap.size + 1, 3, none⟩ v3).setCell ⟨w.heap.size + 1, 4, none⟩ v4).setCell ⟨w.heap.size + 1, 5, none⟩ v5).heap[b]? = w1.heap[b]? := fun b hb a1 a2 a3 a4 a5 v0 v1 v2 v3 v4 v5 => by
    repeat rw [heap_setCell_other _ _ _ _ (by simp; omega)]
  refine ⟨⟨op, t'⟩, rfl, by unfold Nd.dat; rw [HD.out], HSh.out, (WiO.blocks HO.out fun b hb => hk2 b ?_ _ _ _ _ _ _ _ _ _ _ _).low (by simp; omega), rfl, ?_⟩
  · have h := (HO.out.has_in hb).1
    simp at h
    omega
  · have p1 : w.heap.size ≤ w.heap.size + 1 := by omega
    have p2 : w.heap.size ≤ w.heap.size + 1 + 1 := by omega
    exact ((((((((((HB.out.setCell (by show _ ≤ w.heap.size + 1 + 1; omega) _).setCell (by show _ ≤ w.heap.size + 1 + 1; omega) _).setCell (by show _ ≤ w.heap.size + 1 + 1; omega) _).setCell (by show _ ≤ w.heap.size + 1 + 1; omega) _).setCell (by show _ ≤ w.heap.size + 1 + 1; omega) _).setCell (by show _ ≤ w.heap.size + 1; omega) _).setCell (by show _ ≤ w.heap.size + 1; omega) _).setCell (by show _ ≤ w.heap.size + 1; omega) _).setCell (by show _ ≤ w.heap.size + 1; omega) _).setCell (by show _ ≤ w.heap.size + 1; omega) _).setCell (by show _ ≤ w.heap.size + 1; omega) _

/-- The slice of nodes v and all that its nodes hold are the call's own, apart from one another. -/
structure OwnN (w : World) (B : Nat) (v : Value) (ns : List Nd) : Prop where
  r : OwnG 111 nodeCells 6 w B v ns
  x : ∀ (k : Nat) (x : Nd), ns[k]? = some x → (Lit.int .i64 x.op).wf = true ∧ WiO w B x.t
  a : ∀ (k : Nat) (x : Nd) (b : Nat), ns[k]? = some x → x.t.has b → v.ownBlock ≠ some b
  d : ∀ (i j : Nat) (x y : Nd) (b : Nat), i < j → ns[i]? = some x → ns[j]? = some y → x.t.has b → ¬ y.t.has b
/-- The blocks of the slice v and of its nodes. -/
def hasN (v : Value) (ns : List Nd) (b : Nat) : Prop := v.ownBlock = some b ∨ ∃ x ∈ ns, x.t.has b
theorem OwnN.has_in {w : World} {B : Nat} {v : Value} {ns : List Nd} (h : OwnN w B v ns) {b : Nat} (hb : hasN v ns b) : B ≤ b ∧ b < w.heap.size := by
  rcases hb with hb | ⟨x, hx, hb⟩
  · exact ⟨h.r.lows b hb, h.r.tops b hb⟩
  · obtain ⟨k, hk, rfl⟩ := List.getElem_of_mem hx
    exact (h.x k _ (List.getElem?_eq_getElem hk)).2.has_in hb
theorem OwnN.blocks {w w' : World} {B : Nat} {v : Value} {ns : List Nd} (h : OwnN w B v ns) (hb : ∀ b, hasN v ns b → w'.heap[b]? = w.heap[b]?) : OwnN w' B v ns :=
  ⟨h.r.blocks fun k hk => hb k (.inl hk), fun k x hk => ⟨(h.x k x hk).1, (h.x k x hk).2.blocks fun b hb' => hb b (.inr ⟨x, List.mem_of_getElem? hk, hb'⟩)⟩, h.a, h.d⟩
theorem OwnN.below {w w' : World} {B : Nat} {v : Value} {ns : List Nd} (h : OwnN w B v ns) (hb : Below w.heap.size w w') : OwnN w' B v ns := h.blocks fun b k => hb.block b (h.has_in k).2
theorem OwnN.low {w : World} {B B' : Nat} {v : Value} {ns : List Nd} (h : OwnN w B v ns) (hB : B' ≤ B) : OwnN w B' v ns := ⟨h.r.low hB, fun k x hk => ⟨(h.x k x hk).1, (h.x k x hk).2.low hB⟩, h.a, h.d⟩
theorem OwnN.nodes {w : World} {B : Nat} {A : Option Addr} {n c : Nat} {ns : List Nd} (h : OwnN w B (.slice A n c) ns) : Nodes w w.heap.size A n ns :=
  ⟨h.r.read nodeCells_len, fun x hx => by
    obtain ⟨k, hk, rfl⟩ := List.getElem_of_mem hx
    obtain ⟨h1, h2⟩ := h.x k _ (List.getElem?_eq_getElem hk)
    exact ⟨h1, h2.wi⟩⟩
theorem OwnN.nil (w : World) (B : Nat) : OwnN w B (.slice none 0 0) [] := ⟨.nil _ _, by simp, by simp, by simp⟩

theorem szNodes_n (w0 : World) (B : Nat) (A : Option Addr) (n c : Nat) (ns : List Nd) (hi : Nodes w0 B A n ns) (hB : B ≤ w0.heap.size) (hn : n ≤ 9223372036854775807) (hN : ∀ x ∈ ns, x.t.Ln ≤ 9223372036854775807 ∧ x.t.Pn ≤ 9223372036854775807) (left : Int) (h0 : 0 ≤ left) (h1 : left ≤ 1048576) :
    Calls Tryz.prog 74 #[.slice A n c, .int .i64 left] w0 fun e w' => (∃ r : Int, e = .returned (.int .i64 r) ∧ (r = -1 ∨ (0 ≤ r ∧ r + n ≤ left ∧ n ≤ 1048576 ∧ ShortN ns))) ∧ Below w0.heap.size w0 w' := by
  have HX := Lib.hid hi
  have HN := Lib.hid hN
  clear hi hN
  by_cases hle : (n : Int) ≤ left
  · go_enter Tryz.func74, Tryz.ntmps74
    go_wp2
    go_loopw [1, 5] (fun l i wr => ∃ (k : Nat) (r : Int), k ≤ n ∧ i = .int .i64 k ∧ l = .int .i64 r ∧ 0 ≤ r ∧ r + n ≤ left ∧ ShortN (ns.take k) ∧ Below w0.heap.size w0 wr) (fun _ i _ => n - (intOf i).toNat)
    case atStart => exact ⟨0, left - n, Nat.zero_le _, rfl, rfl, by omega, by omega, by simp [ShortN], Below.refl _ _⟩
    case round =>
      obtain ⟨k, r, hk, rfl, rfl, hr0, hr1, hsh, hbel⟩ := hrel
      have HS := Lib.hid hsh
      have HB := Lib.hid hbel
      clear hsh
      by_cases hlt : k < n
      · obtain ⟨b, off, x, rfl, hb, hat, _, g0, g1, g2, g3, g4, g5⟩ := HX.out.at k hlt
        have HT := Lib.hid hat
        have g0 := (hbel.cell (p := ⟨b, off + k * 6, none⟩) (Nat.lt_of_lt_of_le hb hB)).trans g0
        have g1 := (hbel.cell (p := ⟨b, off + k * 6 + 1, none⟩) (Nat.lt_of_lt_of_le hb hB)).trans g1
        have g2 := (hbel.cell (p := ⟨b, off + k * 6 + 2, none⟩) (Nat.lt_of_lt_of_le hb hB)).trans g2
        have g3 := (hbel.cell (p := ⟨b, off + k * 6 + 3, none⟩) (Nat.lt_of_lt_of_le hb hB)).trans g3
        have g4 := (hbel.cell (p := ⟨b, off + k * 6 + 4, none⟩) (Nat.lt_of_lt_of_le hb hB)).trans g4
        have g5 := (hbel.cell (p := ⟨b, off + k * 6 + 5, none⟩) (Nat.lt_of_lt_of_le hb hB)).trans g5
        have HC : Hid (∀ w1, Calls Tryz.prog 111 #[.agg #[.int .i64 x.op, .int .i64 x.t.kind, .int .i64 x.t.field, .int .i64 x.t.value, .slice x.t.LA x.t.Ln x.t.Lc, .slice x.t.PA x.t.Pn x.t.Pc], .int .i64 r] w1 fun e w' => (∃ r' : Int, e = .returned (.int .i64 r') ∧ (r' = -1 ∨ (0 ≤ r' ∧ r' ≤ r ∧ x.t.Short))) ∧ Below w1.heap.size w1 w') := Lib.hid fun w1 => by
          obtain ⟨m1, m2⟩ := HN.out x (List.mem_of_getElem? hat)
          exact szNode_c x r m1 m2 hr0 (by omega) w1
        clear hat hbel
        go_wp2_with fail
        refine (HC.out _).mono ?_
        rintro e w1 ⟨⟨r', rfl, hr'⟩, hb1⟩
        have HB1 := Lib.hid (below_on HB.out hb1)
        clear hb1 g0 g1 g2 g3 g4 g5
        rcases hr' with rfl | ⟨r0', r1', hs'⟩
        · go_wp2
          go_ret
          exact ⟨⟨_, rfl, .inl rfl⟩, HB1.out⟩
        · have HS1 : Hid (ShortN (ns.take (k + 1))) := Lib.hid fun y hy => by
            rw [ptake_at HT.out] at hy
            rcases List.mem_append.1 hy with h | h
            · exact HS.out y h
            · rw [List.mem_singleton.1 h]; exact hs'
          have hd : decide (r' < 0) = false := by simp; omega
          clear hs'
          go_wp2
          go_roundw
          case rel => exact ⟨k + 1, r', by omega, by go_num, rfl, r0', by omega, HS1.out, HB1.out⟩
          case measure => simp [intOf]; omega
      · obtain rfl : k = n := by omega
        have HS1 : Hid (ShortN ns) := Lib.hid (by have := HS.out; rwa [ptake_all HX.out.len] at this)
        clear hbel
        go_wp2
        go_ret
        exact ⟨⟨r, rfl, .inr ⟨hr0, hr1, by omega, HS1.out⟩⟩, HB.out⟩
  · go_enter Tryz.func74, Tryz.ntmps74
    go_wp2
    go_ret
    exact ⟨⟨_, rfl, .inl rfl⟩, Below.refl _ _⟩
theorem szNodes_c (w0 : World) (B : Nat) (A : Option Addr) (n c : Nat) (ns : List Nd) (hi : Nodes w0 B A n ns) (hB : B ≤ w0.heap.size) (hn : n ≤ 9223372036854775807) (hN : ∀ x ∈ ns, x.t.Ln ≤ 9223372036854775807 ∧ x.t.Pn ≤ 9223372036854775807) (left : Int) (h0 : 0 ≤ left) (h1 : left ≤ 1048576) :
    Calls Tryz.prog 74 #[.slice A n c, .int .i64 left] w0 fun e w' => (∃ r : Int, e = .returned (.int .i64 r) ∧ (r = -1 ∨ (0 ≤ r ∧ r ≤ left ∧ n ≤ 1048576 ∧ ShortN ns))) ∧ Below w0.heap.size w0 w' :=
  (szNodes_n w0 B A n c ns hi hB hn hN left h0 h1).mono fun _ _ ⟨⟨r, e, h⟩, hb⟩ => ⟨⟨r, e, h.imp id fun ⟨a, b, c, d⟩ => ⟨a, by omega, c, d⟩⟩, hb⟩
end Go.Proofs.YtceiocdemhkcdaaGreat.num
