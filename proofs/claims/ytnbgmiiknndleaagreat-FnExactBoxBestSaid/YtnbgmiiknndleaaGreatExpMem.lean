/-
  Nodes of expressions as the laws of chapter 5 meet them: what a slice of nodes reads as, and the laws' own helpers that measure and copy them.
-/
import Derived.Test.YtnbgmiiknndleaaGreatRowG
import Derived.Test.YtnbgmiiknndleaaGreatWishOwn
import Derived.Test.YtnbgmiiknndleaaGreatExpMath
namespace Go.Proofs.YtnbgmiiknndleaaGreat.num
set_option maxRecDepth 20000
open Go.RowKit
set_option linter.unusedVariables false
set_option linter.unusedSimpArgs false

/-- A node's value: its operator, and its wish. -/
structure Nd where
  op : Int
  t : Wi
def Nd.val (x : Nd) : Value := .agg #[.int .i64 x.op, .int .i64 x.t.kind, .int .i64 x.t.field, .int .i64 x.t.value, .slice x.t.LA x.t.Ln x.t.Lc, .slice x.t.PA x.t.Pn x.t.Pc]
def nodeCells (x : Nd) : List Value := [.int .i64 x.op, .int .i64 x.t.kind, .int .i64 x.t.field, .int .i64 x.t.value, .slice x.t.LA x.t.Ln x.t.Lc, .slice x.t.PA x.t.Pn x.t.Pc]
theorem nodeCells_len (x : Nd) : (nodeCells x).length = 6 := rfl
theorem nodeCells_one (x : Nd) : ∀ u ∈ nodeCells x, u.oneCell' = true := by
  intro u hu
  simp only [nodeCells, List.mem_cons, List.not_mem_nil, or_false] at hu
  rcases hu with rfl | rfl | rfl | rfl | rfl | rfl <;> rfl
/-- A slice of nodes that reads as ns, below block B. -/
structure Nodes (w : World) (B : Nat) (A : Option Addr) (n : Nat) (ns : List Nd) : Prop where
  r : ReadG nodeCells 6 w B A n ns
  x : ∀ x ∈ ns, (Lit.int .i64 x.op).wf = true ∧ WiIn w B x.t
theorem Nodes.below {w w' : World} {B : Nat} {A : Option Addr} {n : Nat} {ns : List Nd} (h : Nodes w B A n ns) (hb : Below B w w') : Nodes w' B A n ns := ⟨h.r.below hb, fun x hx => ⟨(h.x x hx).1, (h.x x hx).2.below hb⟩⟩
theorem Nodes.more {w : World} {B B' : Nat} {A : Option Addr} {n : Nat} {ns : List Nd} (h : Nodes w B A n ns) (hB : B ≤ B') : Nodes w B' A n ns := ⟨h.r.more hB, fun x hx => ⟨(h.x x hx).1, (h.x x hx).2.more hB⟩⟩
theorem Nodes.step {w w' : World} {A : Option Addr} {n : Nat} {ns : List Nd} (h : Nodes w w.heap.size A n ns) (hb : Below w.heap.size w w') : Nodes w' w'.heap.size A n ns := (h.below hb).more hb.size
theorem Nodes.len {w : World} {B : Nat} {A : Option Addr} {n : Nat} {ns : List Nd} (h : Nodes w B A n ns) : ns.length = n := h.r.len
theorem Nodes.take {w : World} {B : Nat} {A : Option Addr} {n : Nat} {ns : List Nd} (h : Nodes w B A n ns) {k : Nat} (hk : k ≤ n) : Nodes w B A k (ns.take k) := ⟨h.r.take hk, fun x hx => h.x x (List.mem_of_mem_take hx)⟩
theorem Nodes.nil (w : World) (B : Nat) (A : Option Addr) : Nodes w B A 0 [] := ⟨.nil _ _ _, by simp⟩
theorem Nodes.at {w : World} {B : Nat} {A : Option Addr} {n : Nat} {ns : List Nd} (h : Nodes w B A n ns) (k : Nat) (hk : k < n) :
    ∃ (b off : Nat) (x : Nd), A = some ⟨b, off, none⟩ ∧ b < B ∧ ns[k]? = some x ∧ ((Lit.int .i64 x.op).wf = true ∧ WiIn w B x.t) ∧ w.cell? ⟨b, off + k * 6, none⟩ = some (.int .i64 x.op) ∧ w.cell? ⟨b, off + k * 6 + 1, none⟩ = some (.int .i64 x.t.kind) ∧ w.cell? ⟨b, off + k * 6 + 2, none⟩ = some (.int .i64 x.t.field) ∧
      w.cell? ⟨b, off + k * 6 + 3, none⟩ = some (.int .i64 x.t.value) ∧ w.cell? ⟨b, off + k * 6 + 4, none⟩ = some (.slice x.t.LA x.t.Ln x.t.Lc) ∧ w.cell? ⟨b, off + k * 6 + 5, none⟩ = some (.slice x.t.PA x.t.Pn x.t.Pc) := by
  obtain ⟨x, hx⟩ := h.r.get hk
  obtain ⟨b, off, h1, h2, h3⟩ := h.r.at' k x hx
  exact ⟨b, off, x, h1, h2, hx, h.x x (List.mem_of_getElem? hx), h3 0 _ rfl, h3 1 _ rfl, h3 2 _ rfl, h3 3 _ rfl, h3 4 _ rfl, h3 5 _ rfl⟩
def Nd.dat (x : Nd) : ND := ⟨x.op, x.t.dat⟩
/-- The lists of a node are short. -/
def ShortN (ns : List Nd) : Prop := ∀ x ∈ ns, x.t.Short

theorem six_set {w : World} {g : Nat} {T : TypeId} {u0 u1 u2 u3 u4 u5 v0 v1 v2 v3 v4 v5 : Value} (h : w.heap[g]? = some (.cells #[u0, u1, u2, u3, u4, u5] T (0, 0))) :
    ((((((w.setCell ⟨g, 0, none⟩ v0).setCell ⟨g, 1, none⟩ v1).setCell ⟨g, 2, none⟩ v2).setCell ⟨g, 3, none⟩ v3).setCell ⟨g, 4, none⟩ v4).setCell ⟨g, 5, none⟩ v5).heap[g]? = some (.cells #[v0, v1, v2, v3, v4, v5] T (0, 0)) := by
  have h := heap_setCell_same _ g 5 _ _ v5 (heap_setCell_same _ g 4 _ _ v4 (heap_setCell_same _ g 3 _ _ v3 (heap_setCell_same _ g 2 _ _ v2 (heap_setCell_same _ g 1 _ _ v1 (heap_setCell_same w g 0 _ _ v0 h)))))
  simpa using h
theorem five_high {w : World} {g : Nat} {T : TypeId} {u0 u1 u2 u3 u4 u5 v1 v2 v3 v4 v5 : Value} (h : w.heap[g]? = some (.cells #[u0, u1, u2, u3, u4, u5] T (0, 0))) :
    (((((w.setCell ⟨g, 1, none⟩ v1).setCell ⟨g, 2, none⟩ v2).setCell ⟨g, 3, none⟩ v3).setCell ⟨g, 4, none⟩ v4).setCell ⟨g, 5, none⟩ v5).heap[g]? = some (.cells #[u0, v1, v2, v3, v4, v5] T (0, 0)) := by
  have h := heap_setCell_same _ g 5 _ _ v5 (heap_setCell_same _ g 4 _ _ v4 (heap_setCell_same _ g 3 _ _ v3 (heap_setCell_same _ g 2 _ _ v2 (heap_setCell_same w g 1 _ _ v1 h))))
  simpa using h
def zeroN : Array Value := #[.int .i64 0, .int .i64 0, .int .i64 0, .int .i64 0, .slice none 0 0, .slice none 0 0]
def zN (j : Nat) : Value := zeroN[j % 6]!
def nodeCell (ns : List Nd) (j : Nat) : Value := cellG nodeCells zN ns j
theorem info_node : (Tryz.prog.info? 82).map (fun i => (i.zero, i.size, i.bytes)) = some (some (.agg #[.int .i64 0, .int .i64 0, .int .i64 0, .int .i64 0, .slice none 0 0, .slice none 0 0]), 6, 80) := by kernel_rfl
theorem make_nodes (n : Nat) (hn : n ≤ 1048576) (w : World) :
    (Instr.makeSlice 65 (.int .i64 (n : Int)) (.int .i64 (n : Int))).run Tryz.prog w = .ok (.slice (some ⟨w.heap.size, 0, none⟩) n n) (w.alloc (.cells (madeCells zeroN (n * 6)) 82)) := by
  obtain ⟨i, hi, hzz⟩ := Option.map_eq_some_iff.1 info_node
  simp only [Prod.mk.injEq] at hzz
  obtain ⟨hz, hs, hb⟩ := hzz
  have hr := run_make (P := Tryz.prog) w _ _ i _ Tryz.underlying65 hi hz .i64 .i64 n n (by omega) (Int.le_refl _) (by rw [hb]; omega) (by omega)
  rw [hs] at hr
  simp only [Int.toNat_natCast] at hr
  exact hr
theorem made_nodes (w : World) (n : Nat) : (w.alloc (.cells (madeCells zeroN (n * 6)) 82)).rowIs w.heap.size 82 (n * 6) (nodeCell []) :=
  ⟨_, heap_alloc_new w _, size_madeCells _ _, fun i hi => by simp [madeCells, hi, nodeCell, cellG, zN, zeroN]⟩
theorem nodeCell_snoc {ns : List Nd} {k : Nat} (h : ns.length = k) (x : Nd) (j : Nat) :
    (if j = k * 6 + 5 then .slice x.t.PA x.t.Pn x.t.Pc else if j = k * 6 + 4 then .slice x.t.LA x.t.Ln x.t.Lc else if j = k * 6 + 3 then .int .i64 x.t.value else if j = k * 6 + 2 then .int .i64 x.t.field else if j = k * 6 + 1 then .int .i64 x.t.kind else if j = k * 6 then .int .i64 x.op else nodeCell ns j) = nodeCell (ns ++ [x]) j := by
  have e : ∀ i v, (nodeCells x)[i]? = some v → nodeCell (ns ++ [x]) (k * 6 + i) = v := fun i v hv => cellG_last nodeCells_len zN h x hv
  by_cases h5 : j = k * 6 + 5
  · subst h5; rw [if_pos rfl, e 5 _ rfl]
  rw [if_neg h5]
  by_cases h4 : j = k * 6 + 4
  · subst h4; rw [if_pos rfl, e 4 _ rfl]
  rw [if_neg h4]
  by_cases h3 : j = k * 6 + 3
  · subst h3; rw [if_pos rfl, e 3 _ rfl]
  rw [if_neg h3]
  by_cases h2 : j = k * 6 + 2
  · subst h2; rw [if_pos rfl, e 2 _ rfl]
  rw [if_neg h2]
  by_cases h1 : j = k * 6 + 1
  · subst h1; rw [if_pos rfl, e 1 _ rfl]
  rw [if_neg h1]
  by_cases h0 : j = k * 6
  · subst h0; rw [if_pos rfl]; exact (e 0 _ rfl).symm
  rw [if_neg h0]
  exact (cellG_more nodeCells_len zN h x (by omega)).symm

/-- The slice of nodes v and all that its nodes hold are the call's own, apart from one another. -/
structure OwnN (w : World) (B : Nat) (v : Value) (ns : List Nd) : Prop where
  r : OwnG 82 nodeCells 6 w B v ns
  x : ∀ (k : Nat) (x : Nd), ns[k]? = some x → (Lit.int .i64 x.op).wf = true ∧ WiO w B x.t
  a : ∀ (k : Nat) (x : Nd) (b : Nat), ns[k]? = some x → x.t.has b → v.ownBlock ≠ some b
  d : ∀ (i j : Nat) (x y : Nd) (b : Nat), i < j → ns[i]? = some x → ns[j]? = some y → x.t.has b → ¬ y.t.has b
/-- The blocks of the slice v and of its nodes. -/
def hasN (v : Value) (ns : List Nd) (b : Nat) : Prop := v.ownBlock = some b ∨ ∃ x ∈ ns, x.t.has b
theorem OwnN.has_in {w : World} {B : Nat} {v : Value} {ns : List Nd} (h : OwnN w B v ns) {b : Nat} (hb : hasN v ns b) : B ≤ b ∧ b < w.heap.size := by
  rcases hb with hb | ⟨x, hx, hb⟩
  · exact ⟨h.r.lows b hb, h.r.tops b hb⟩
  · obtain ⟨k, hk, rfl⟩ := List.getElem_of_mem hx
    exact (h.x k _ (List.getElem?_eq_getElem hk)).2.has_in hb
theorem OwnN.blocks {w w' : World} {B : Nat} {v : Value} {ns : List Nd} (h : OwnN w B v ns) (hb : ∀ b, hasN v ns b → w'.heap[b]? = w.heap[b]?) : OwnN w' B v ns :=
  ⟨h.r.blocks fun k hk => hb k (.inl hk), fun k x hk => ⟨(h.x k x hk).1, (h.x k x hk).2.blocks fun b hb' => hb b (.inr ⟨x, List.mem_of_getElem? hk, hb'⟩)⟩, h.a, h.d⟩
theorem OwnN.below {w w' : World} {B : Nat} {v : Value} {ns : List Nd} (h : OwnN w B v ns) (hb : Below w.heap.size w w') : OwnN w' B v ns := h.blocks fun b k => hb.block b (h.has_in k).2
theorem OwnN.low {w : World} {B B' : Nat} {v : Value} {ns : List Nd} (h : OwnN w B v ns) (hB : B' ≤ B) : OwnN w B' v ns := ⟨h.r.low hB, fun k x hk => ⟨(h.x k x hk).1, (h.x k x hk).2.low hB⟩, h.a, h.d⟩
theorem OwnN.nodes {w : World} {B : Nat} {A : Option Addr} {n c : Nat} {ns : List Nd} (h : OwnN w B (.slice A n c) ns) : Nodes w w.heap.size A n ns :=
  ⟨h.r.read nodeCells_len, fun x hx => by
    obtain ⟨k, hk, rfl⟩ := List.getElem_of_mem hx
    obtain ⟨h1, h2⟩ := h.x k _ (List.getElem?_eq_getElem hk)
    exact ⟨h1, h2.wi⟩⟩
theorem OwnN.nil (w : World) (B : Nat) : OwnN w B (.slice none 0 0) [] := ⟨.nil _ _, by simp, by simp, by simp⟩

end Go.Proofs.YtnbgmiiknndleaaGreat.num
