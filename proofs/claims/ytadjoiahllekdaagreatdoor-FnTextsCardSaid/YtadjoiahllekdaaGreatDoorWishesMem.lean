/-
  Slices of wishes: as they read, and as the call's own; the laws' comparison of two such; append of one wish.
-/
import Derived.Test.YtadjoiahllekdaaGreatDoorExpCopy
namespace Go.Proofs.YtadjoiahllekdaaGreatDoor.num
set_option maxRecDepth 20000
open Go.RowKit
set_option linter.unusedVariables false
set_option linter.unusedSimpArgs false

def wishCells (x : Wi) : List Value := [.int .i64 x.kind, .int .i64 x.field, .int .i64 x.value, .slice x.LA x.Ln x.Lc, .slice x.PA x.Pn x.Pc]
theorem wishCells_len (x : Wi) : (wishCells x).length = 5 := rfl
theorem wishCells_one (x : Wi) : ∀ u ∈ wishCells x, u.oneCell' = true := by
  intro u hu
  simp only [wishCells, List.mem_cons, List.not_mem_nil, or_false] at hu
  rcases hu with rfl | rfl | rfl | rfl | rfl <;> rfl
/-- A slice of wishes that reads as ns, below block B. -/
structure Wishes (w : World) (B : Nat) (A : Option Addr) (n : Nat) (ns : List Wi) : Prop where
  r : ReadG wishCells 5 w B A n ns
  x : ∀ x ∈ ns, WiIn w B x
theorem Wishes.below {w w' : World} {B : Nat} {A : Option Addr} {n : Nat} {ns : List Wi} (h : Wishes w B A n ns) (hb : Below B w w') : Wishes w' B A n ns := ⟨h.r.below hb, fun x hx => (h.x x hx).below hb⟩
theorem Wishes.more {w : World} {B B' : Nat} {A : Option Addr} {n : Nat} {ns : List Wi} (h : Wishes w B A n ns) (hB : B ≤ B') : Wishes w B' A n ns := ⟨h.r.more hB, fun x hx => (h.x x hx).more hB⟩
theorem Wishes.step {w w' : World} {A : Option Addr} {n : Nat} {ns : List Wi} (h : Wishes w w.heap.size A n ns) (hb : Below w.heap.size w w') : Wishes w' w'.heap.size A n ns := (h.below hb).more hb.size
theorem Wishes.len {w : World} {B : Nat} {A : Option Addr} {n : Nat} {ns : List Wi} (h : Wishes w B A n ns) : ns.length = n := h.r.len
theorem Wishes.nil (w : World) (B : Nat) (A : Option Addr) : Wishes w B A 0 [] := ⟨.nil _ _ _, by simp⟩
theorem Wishes.at {w : World} {B : Nat} {A : Option Addr} {n : Nat} {ns : List Wi} (h : Wishes w B A n ns) (k : Nat) (hk : k < n) :
    ∃ (b off : Nat) (x : Wi), A = some ⟨b, off, none⟩ ∧ b < B ∧ ns[k]? = some x ∧ WiIn w B x ∧ w.cell? ⟨b, off + k * 5, none⟩ = some (.int .i64 x.kind) ∧ w.cell? ⟨b, off + k * 5 + 1, none⟩ = some (.int .i64 x.field) ∧
      w.cell? ⟨b, off + k * 5 + 2, none⟩ = some (.int .i64 x.value) ∧ w.cell? ⟨b, off + k * 5 + 3, none⟩ = some (.slice x.LA x.Ln x.Lc) ∧ w.cell? ⟨b, off + k * 5 + 4, none⟩ = some (.slice x.PA x.Pn x.Pc) := by
  obtain ⟨x, hx⟩ := h.r.get hk
  obtain ⟨b, off, h1, h2, h3⟩ := h.r.at' k x hx
  exact ⟨b, off, x, h1, h2, hx, h.x x (List.mem_of_getElem? hx), h3 0 _ rfl, h3 1 _ rfl, h3 2 _ rfl, h3 3 _ rfl, h3 4 _ rfl⟩
def ShortWs (ns : List Wi) : Prop := ∀ x ∈ ns, x.Short
def datWs (ns : List Wi) : List WD := ns.map Wi.dat

/-- The slice of wishes v and all that its wishes hold are the call's own, apart from one another. -/
structure OwnWs (w : World) (B : Nat) (v : Value) (ns : List Wi) : Prop where
  r : OwnG 39 wishCells 5 w B v ns
  x : ∀ (k : Nat) (x : Wi), ns[k]? = some x → WiO w B x
  a : ∀ (k : Nat) (x : Wi) (b : Nat), ns[k]? = some x → x.has b → v.ownBlock ≠ some b
  d : ∀ (i j : Nat) (x y : Wi) (b : Nat), i < j → ns[i]? = some x → ns[j]? = some y → x.has b → ¬ y.has b
/-- The blocks of the slice v and of its wishes. -/
def hasWs (v : Value) (ns : List Wi) (b : Nat) : Prop := v.ownBlock = some b ∨ ∃ x ∈ ns, x.has b
theorem OwnWs.has_in {w : World} {B : Nat} {v : Value} {ns : List Wi} (h : OwnWs w B v ns) {b : Nat} (hb : hasWs v ns b) : B ≤ b ∧ b < w.heap.size := by
  rcases hb with hb | ⟨x, hx, hb⟩
  · exact ⟨h.r.lows b hb, h.r.tops b hb⟩
  · obtain ⟨k, hk, rfl⟩ := List.getElem_of_mem hx
    exact (h.x k _ (List.getElem?_eq_getElem hk)).has_in hb
theorem OwnWs.blocks {w w' : World} {B : Nat} {v : Value} {ns : List Wi} (h : OwnWs w B v ns) (hb : ∀ b, hasWs v ns b → w'.heap[b]? = w.heap[b]?) : OwnWs w' B v ns :=
  ⟨h.r.blocks fun k hk => hb k (.inl hk), fun k x hk => (h.x k x hk).blocks fun b hb' => hb b (.inr ⟨x, List.mem_of_getElem? hk, hb'⟩), h.a, h.d⟩
theorem OwnWs.below {w w' : World} {B : Nat} {v : Value} {ns : List Wi} (h : OwnWs w B v ns) (hb : Below w.heap.size w w') : OwnWs w' B v ns := h.blocks fun b k => hb.block b (h.has_in k).2
theorem OwnWs.low {w : World} {B B' : Nat} {v : Value} {ns : List Wi} (h : OwnWs w B v ns) (hB : B' ≤ B) : OwnWs w B' v ns := ⟨h.r.low hB, fun k x hk => (h.x k x hk).low hB, h.a, h.d⟩
theorem OwnWs.wishes {w : World} {B : Nat} {A : Option Addr} {n c : Nat} {ns : List Wi} (h : OwnWs w B (.slice A n c) ns) : Wishes w w.heap.size A n ns :=
  ⟨h.r.read wishCells_len, fun x hx => by
    obtain ⟨k, hk, rfl⟩ := List.getElem_of_mem hx
    exact (h.x k _ (List.getElem?_eq_getElem hk)).wi⟩
theorem OwnWs.nil (w : World) (B : Nat) : OwnWs w B (.slice none 0 0) [] := ⟨.nil _ _, by simp, by simp, by simp⟩

theorem ne_wi {l l' : List Wi} {k : Nat} {t t' : Wi} (h1 : l[k]? = some t) (h2 : l'[k]? = some t') (h : t.dat ≠ t'.dat) : l.map Wi.dat ≠ l'.map Wi.dat := fun e => h (by
  have := congrArg (·[k]?) e
  simpa [h1, h2] using this)
/-- append of one element to a slice of the call's own: the new slice lies in the old one's row or in a new block. -/
theorem wp_appG {α : Type} {f : α → List Value} {s : Nat} (hf : ∀ x, (f x).length = s) (h1 : ∀ x, ∀ u ∈ f x, u.oneCell' = true) {T tS : TypeId} {z : Value} {bytes : Nat} (ht : Tryz.prog.underlying tS = some (.slice T)) (hinf : (Tryz.prog.info? T).map (fun i => (i.zero, i.size, i.bytes)) = some (some z, s, bytes)) (hzs : z.cells.size = s) (hs0 : 0 < s)
    {ops : Array Oper} {rest : List Oper} {o : Oper} {a : Act} {Q : Exit → Act → World → Prop} (w : World) (hgd : o.guard = none) (sl x : Operand)
    (ho : o.op = .call { callee := .builtin .append, args := #[sl, x], argTypes := #[tS, tS] })
    (B : Nat) (v : Value) (l : List α) (hs : a.eval sl = v) (hown : OwnG T f s w B v l) (cs : Array Value) (y : α) (hcs : cs = (f y).toArray) (c : Nat)
    (N : Nat) (hNw : w.heap.size = N) (hx : a.eval x = .slice (some ⟨N, 0, none⟩) 1 c) (hlen : (l.length + 1) * bytes ≤ 140737488355328) (hbt : 0 < bytes) (hB : B ≤ w.heap.size)
    (h : ∀ v' w', OwnG T f s w' B v' (l ++ [y]) → w.grownBy w' v.ownBlock → (v'.ownBlock = v.ownBlock ∨ v'.ownBlock = some (w.heap.size + 1)) → wpList Tryz.prog ops Q rest (a.put o.dst v') w') :
    wpList Tryz.prog ops Q (o :: rest) a (w.alloc (.cells cs T)) := by
  obtain ⟨i0, hi, hz⟩ := Option.map_eq_some_iff.1 hinf
  simp only [Prod.mk.injEq] at hz
  obtain ⟨hz0, hz1, hz2⟩ := hz
  have hm : l.length + 1 ≤ 140737488355328 := Nat.le_trans (Nat.le_mul_of_pos_right _ hbt) hlen
  subst hcs hNw
  refine wpList_append_own_at _ hgd sl x tS ho B T i0 z s bytes ht hi hz0 hz1 hz2 hzs hs0 v l.length (l.flatMap f) hs (World.ownsRow.alloc hown _) ⟨w.heap.size, 0, none⟩ 1 c (f y) hx (by rw [hf, Nat.one_mul]) ?_ (h1 y) (by unfold maxLen; omega) hlen (by simp; omega) ?_
  · intro j u hj
    have e : (⟨w.heap.size, 0, none⟩ : Addr).add j = ⟨w.heap.size, j, none⟩ := by unfold Addr.add; split <;> simp_all
    rw [e, World.cell?_alloc_at _ _ _ _ rfl]
    simpa using hj
  · intro v' w' hown' hg _ hat
    refine h v' w' ?_ ⟨hg.os, hg.tape, hg.output, Nat.le_trans (by simp) hg.size, fun k hk hv => (hg.block k (by simp; omega) hv).trans (Below.heap_alloc _ _ _ hk)⟩ (by simpa using hat)
    unfold OwnG
    rw [List.length_append, List.length_singleton, List.flatMap_append, List.flatMap_singleton]
    exact hown'
theorem OwnWs.snoc {w w' : World} {B : Nat} {v v' : Value} {ns : List Wi} {x : Wi} (h : OwnWs w B v ns) (hg : w.grownBy w' v.ownBlock) (hat : v'.ownBlock = v.ownBlock ∨ v'.ownBlock = some (w.heap.size + 1)) (hr : OwnG 39 wishCells 5 w' B v' (ns ++ [x])) (hx : WiO w B x) (hap : ∀ b, x.has b → ¬ hasWs v ns b) : OwnWs w' B v' (ns ++ [x]) := by
  have hin : ∀ (i : Nat) (y : Wi) (b : Nat), ns[i]? = some y → y.has b → hasWs v ns b := fun i y b hy hb => .inr ⟨y, List.mem_of_getElem? hy, hb⟩
  have hnb : ∀ b, x.has b → some b ≠ v.ownBlock := fun b hb e => hap b hb (.inl e.symm)
  refine ⟨hr, ?_, ?_, ?_⟩
  · intro i y hy
    rcases get_snoc rfl hy with ⟨_, hy⟩ | ⟨_, rfl⟩
    · exact (h.x i y hy).blocks fun b hb => hg.block b ((h.x i y hy).has_in hb).2 fun e => h.a i y b hy hb e.symm
    · exact hx.blocks fun b hb => hg.block b (hx.has_in hb).2 (hnb b hb)
  · intro i y b hy hb e
    rcases get_snoc rfl hy with ⟨_, hy⟩ | ⟨_, rfl⟩
    · rcases hat with q | q
      · exact h.a i y b hy hb (q ▸ e)
      · have h2 := (h.has_in (hin i y b hy hb)).2
        rw [q] at e
        have := Option.some.inj e
        omega
    · rcases hat with q | q
      · exact hnb b hb (q ▸ e).symm
      · have h2 := (hx.has_in hb).2
        rw [q] at e
        have := Option.some.inj e
        omega
  · intro i j y z b hij hy hz hb hb'
    rcases get_snoc rfl hz with ⟨hj, hz⟩ | ⟨hj, rfl⟩
    · rcases get_snoc rfl hy with ⟨_, hy⟩ | ⟨hi, _⟩
      · exact h.d i j y z b hij hy hz hb hb'
      · omega
    · rcases get_snoc rfl hy with ⟨_, hy⟩ | ⟨hi, _⟩
      · exact hap b hb' (hin i y b hy hb)
      · omega
theorem OwnN.snoc {w w' : World} {B : Nat} {v v' : Value} {ns : List Nd} {x : Nd} (h : OwnN w B v ns) (hg : w.grownBy w' v.ownBlock) (hat : v'.ownBlock = v.ownBlock ∨ v'.ownBlock = some (w.heap.size + 1)) (hr : OwnG 92 nodeCells 6 w' B v' (ns ++ [x])) (hwf : (Lit.int .i64 x.op).wf = true) (hx : WiO w B x.t) (hap : ∀ b, x.t.has b → ¬ hasN v ns b) : OwnN w' B v' (ns ++ [x]) := by
  have hin : ∀ (i : Nat) (y : Nd) (b : Nat), ns[i]? = some y → y.t.has b → hasN v ns b := fun i y b hy hb => .inr ⟨y, List.mem_of_getElem? hy, hb⟩
  have hnb : ∀ b, x.t.has b → some b ≠ v.ownBlock := fun b hb e => hap b hb (.inl e.symm)
  refine ⟨hr, ?_, ?_, ?_⟩
  · intro i y hy
    rcases get_snoc rfl hy with ⟨_, hy⟩ | ⟨_, rfl⟩
    · exact ⟨(h.x i y hy).1, (h.x i y hy).2.blocks fun b hb => hg.block b ((h.x i y hy).2.has_in hb).2 fun e => h.a i y b hy hb e.symm⟩
    · exact ⟨hwf, hx.blocks fun b hb => hg.block b (hx.has_in hb).2 (hnb b hb)⟩
  · intro i y b hy hb e
    rcases get_snoc rfl hy with ⟨_, hy⟩ | ⟨_, rfl⟩
    · rcases hat with q | q
      · exact h.a i y b hy hb (q ▸ e)
      · have h2 := (h.has_in (hin i y b hy hb)).2
        rw [q] at e
        have := Option.some.inj e
        omega
    · rcases hat with q | q
      · exact hnb b hb (q ▸ e).symm
      · have h2 := (hx.has_in hb).2
        rw [q] at e
        have := Option.some.inj e
        omega
  · intro i j y z b hij hy hz hb hb'
    rcases get_snoc rfl hz with ⟨hj, hz⟩ | ⟨hj, rfl⟩
    · rcases get_snoc rfl hy with ⟨_, hy⟩ | ⟨hi, _⟩
      · exact h.d i j y z b hij hy hz hb hb'
      · omega
    · rcases get_snoc rfl hy with ⟨_, hy⟩ | ⟨hi, _⟩
      · exact hap b hb' (hin i y b hy hb)
      · omega
end Go.Proofs.YtadjoiahllekdaaGreatDoor.num
