/-
  Slices of wishes: as they read, and as the call's own; the laws' comparison of two such; append of one wish.
-/
import Derived.Test.YtmbchpdcgjlggaaExpCopy
namespace Go.Proofs.Ytmbchpdcgjlggaa.num
set_option maxRecDepth 20000
open Go.RowKit
set_option linter.unusedVariables false
set_option linter.unusedSimpArgs false

def wishCells (x : Wi) : List Value := [.int .i64 x.kind, .int .i64 x.field, .int .i64 x.value, .slice x.LA x.Ln x.Lc, .slice x.PA x.Pn x.Pc]
theorem wishCells_len (x : Wi) : (wishCells x).length = 5 := rfl
theorem wishCells_one (x : Wi) : ∀ u ∈ wishCells x, u.oneCell' = true := by
  intro u hu
  simp only [wishCells, List.mem_cons, List.not_mem_nil, or_false] at hu
  rcases hu with rfl | rfl | rfl | rfl | rfl <;> rfl
/-- A slice of wishes that reads as ns, below block B. -/
structure Wishes (w : World) (B : Nat) (A : Option Addr) (n : Nat) (ns : List Wi) : Prop where
  r : ReadG wishCells 5 w B A n ns
  x : ∀ x ∈ ns, WiIn w B x
theorem Wishes.below {w w' : World} {B : Nat} {A : Option Addr} {n : Nat} {ns : List Wi} (h : Wishes w B A n ns) (hb : Below B w w') : Wishes w' B A n ns := ⟨h.r.below hb, fun x hx => (h.x x hx).below hb⟩
theorem Wishes.more {w : World} {B B' : Nat} {A : Option Addr} {n : Nat} {ns : List Wi} (h : Wishes w B A n ns) (hB : B ≤ B') : Wishes w B' A n ns := ⟨h.r.more hB, fun x hx => (h.x x hx).more hB⟩
theorem Wishes.step {w w' : World} {A : Option Addr} {n : Nat} {ns : List Wi} (h : Wishes w w.heap.size A n ns) (hb : Below w.heap.size w w') : Wishes w' w'.heap.size A n ns := (h.below hb).more hb.size
theorem Wishes.len {w : World} {B : Nat} {A : Option Addr} {n : Nat} {ns : List Wi} (h : Wishes w B A n ns) : ns.length = n := h.r.len
theorem Wishes.nil (w : World) (B : Nat) (A : Option Addr) : Wishes w B A 0 [] := ⟨.nil _ _ _, by simp⟩
theorem Wishes.at {w : World} {B : Nat} {A : Option Addr} {n : Nat} {ns : List Wi} (h : Wishes w B A n ns) (k : Nat) (hk : k < n) :
    ∃ (b off : Nat) (x : Wi), A = some ⟨b, off, none⟩ ∧ b < B ∧ ns[k]? = some x ∧ WiIn w B x ∧ w.cell? ⟨b, off + k * 5, none⟩ = some (.int .i64 x.kind) ∧ w.cell? ⟨b, off + k * 5 + 1, none⟩ = some (.int .i64 x.field) ∧
      w.cell? ⟨b, off + k * 5 + 2, none⟩ = some (.int .i64 x.value) ∧ w.cell? ⟨b, off + k * 5 + 3, none⟩ = some (.slice x.LA x.Ln x.Lc) ∧ w.cell? ⟨b, off + k * 5 + 4, none⟩ = some (.slice x.PA x.Pn x.Pc) := by
  obtain ⟨x, hx⟩ := h.r.get hk
  obtain ⟨b, off, h1, h2, h3⟩ := h.r.at' k x hx
  exact ⟨b, off, x, h1, h2, hx, h.x x (List.mem_of_getElem? hx), h3 0 _ rfl, h3 1 _ rfl, h3 2 _ rfl, h3 3 _ rfl, h3 4 _ rfl⟩
def ShortWs (ns : List Wi) : Prop := ∀ x ∈ ns, x.Short
def datWs (ns : List Wi) : List WD := ns.map Wi.dat

/-- The slice of wishes v and all that its wishes hold are the call's own, apart from one another. -/
structure OwnWs (w : World) (B : Nat) (v : Value) (ns : List Wi) : Prop where
  r : OwnG 30 wishCells 5 w B v ns
  x : ∀ (k : Nat) (x : Wi), ns[k]? = some x → WiO w B x
  a : ∀ (k : Nat) (x : Wi) (b : Nat), ns[k]? = some x → x.has b → v.ownBlock ≠ some b
  d : ∀ (i j : Nat) (x y : Wi) (b : Nat), i < j → ns[i]? = some x → ns[j]? = some y → x.has b → ¬ y.has b
/-- The blocks of the slice v and of its wishes. -/
def hasWs (v : Value) (ns : List Wi) (b : Nat) : Prop := v.ownBlock = some b ∨ ∃ x ∈ ns, x.has b
theorem OwnWs.has_in {w : World} {B : Nat} {v : Value} {ns : List Wi} (h : OwnWs w B v ns) {b : Nat} (hb : hasWs v ns b) : B ≤ b ∧ b < w.heap.size := by
  rcases hb with hb | ⟨x, hx, hb⟩
  · exact ⟨h.r.lows b hb, h.r.tops b hb⟩
  · obtain ⟨k, hk, rfl⟩ := List.getElem_of_mem hx
    exact (h.x k _ (List.getElem?_eq_getElem hk)).has_in hb
theorem OwnWs.blocks {w w' : World} {B : Nat} {v : Value} {ns : List Wi} (h : OwnWs w B v ns) (hb : ∀ b, hasWs v ns b → w'.heap[b]? = w.heap[b]?) : OwnWs w' B v ns :=
  ⟨h.r.blocks fun k hk => hb k (.inl hk), fun k x hk => (h.x k x hk).blocks fun b hb' => hb b (.inr ⟨x, List.mem_of_getElem? hk, hb'⟩), h.a, h.d⟩
theorem OwnWs.below {w w' : World} {B : Nat} {v : Value} {ns : List Wi} (h : OwnWs w B v ns) (hb : Below w.heap.size w w') : OwnWs w' B v ns := h.blocks fun b k => hb.block b (h.has_in k).2
theorem OwnWs.low {w : World} {B B' : Nat} {v : Value} {ns : List Wi} (h : OwnWs w B v ns) (hB : B' ≤ B) : OwnWs w B' v ns := ⟨h.r.low hB, fun k x hk => (h.x k x hk).low hB, h.a, h.d⟩
theorem OwnWs.wishes {w : World} {B : Nat} {A : Option Addr} {n c : Nat} {ns : List Wi} (h : OwnWs w B (.slice A n c) ns) : Wishes w w.heap.size A n ns :=
  ⟨h.r.read wishCells_len, fun x hx => by
    obtain ⟨k, hk, rfl⟩ := List.getElem_of_mem hx
    exact (h.x k _ (List.getElem?_eq_getElem hk)).wi⟩
theorem OwnWs.nil (w : World) (B : Nat) : OwnWs w B (.slice none 0 0) [] := ⟨.nil _ _, by simp, by simp, by simp⟩

theorem ne_wi {l l' : List Wi} {k : Nat} {t t' : Wi} (h1 : l[k]? = some t) (h2 : l'[k]? = some t') (h : t.dat ≠ t'.dat) : l.map Wi.dat ≠ l'.map Wi.dat := fun e => h (by
  have := congrArg (·[k]?) e
  simpa [h1, h2] using this)
set_option maxRecDepth 20000 in
theorem eqWishes_c (w : World) (B : Nat) (A A' : Option Addr) (n n' c c' : Nat) (xs ys : List Wi) (h1 : Wishes w B A n xs) (h2 : Wishes w B A' n' ys) (hB : B ≤ w.heap.size) (hn : n ≤ 1048576) (hN : ShortWs xs) (b : Bool) (hb : b = true ↔ xs.map Wi.dat = ys.map Wi.dat) :
    Calls Try.prog 38 #[.slice A n c, .slice A' n' c'] w fun e w' => e = .returned (.bool b) ∧ Below w.heap.size w w' := by
  have HX := Lib.hid h1
  have HY := Lib.hid h2
  have HN := Lib.hid hN
  by_cases hl : n = n'
  · subst hl
    have HBo := Lib.hid hb
    clear h1 h2 hN hb
    go_enter Try.func38, Try.ntmps38
    go_wp2
    go_loopw [5] (fun i wr => ∃ k : Nat, k ≤ n ∧ i = .int .i64 k ∧ (xs.take k).map Wi.dat = (ys.take k).map Wi.dat ∧ Below w.heap.size w wr) (fun i _ => n - (intOf i).toNat)
    case atStart => exact ⟨0, Nat.zero_le _, rfl, rfl, Below.refl _ _⟩
    case round =>
      obtain ⟨k, hk, rfl, htake, hbel⟩ := hrel
      have HT := Lib.hid htake
      have HB := Lib.hid hbel
      clear htake
      by_cases hlt : k < n
      · obtain ⟨b1, off1, x, rfl, hb1, hat1, hw1, e0, e1, e2, e3, e4⟩ := HX.out.at k hlt
        obtain ⟨b2, off2, y, rfl, hb2, hat2, hw2, f0, f1, f2, f3, f4⟩ := HY.out.at k hlt
        have tr : ∀ {bb oo : Nat} {v : Value}, bb < B → w.cell? ⟨bb, oo, none⟩ = some v → wr.cell? ⟨bb, oo, none⟩ = some v := fun {bb oo v} hb h => (hbel.cell (p := ⟨bb, oo, none⟩) (Nat.lt_of_lt_of_le hb hB)).trans h
        have e0 := tr hb1 e0
        have e1 := tr hb1 e1
        have e2 := tr hb1 e2
        have e3 := tr hb1 e3
        have e4 := tr hb1 e4
        have f0 := tr hb2 f0
        have f1 := tr hb2 f1
        have f2 := tr hb2 f2
        have f3 := tr hb2 f3
        have f4 := tr hb2 f4
        have HA1 := Lib.hid hat1
        have HA2 := Lib.hid hat2
        have hsz := Lib.hid hbel.size
        have hlt' : (k : Int) < (n : Int) := by omega
        obtain ⟨q, hq⟩ : ∃ q : Bool, q = true ↔ x.dat = y.dat := bool_of _
        have HQ := Lib.hid hq
        have HC : Hid (∀ w1, Below B w w1 → Calls Try.prog 19 #[.agg #[.int .i64 x.kind, .int .i64 x.field, .int .i64 x.value, .slice x.LA x.Ln x.Lc, .slice x.PA x.Pn x.Pc], .agg #[.int .i64 y.kind, .int .i64 y.field, .int .i64 y.value, .slice y.LA y.Ln y.Lc, .slice y.PA y.Pn y.Pc]] w1 fun e w' => e = .returned (.bool q) ∧ Below w1.heap.size w1 w') :=
          Lib.hid fun w1 hb => eqWish_c w1 B x y (hw1.below hb) (hw2.below hb) (Nat.le_trans hB hb.size) (HN.out x (List.mem_of_getElem? hat1)) q hq
        clear hat1 hat2 hbel hq hw1 hw2 tr
        have HB' : Hid (Below w.heap.size w wr.drew) := Lib.hid HB.out.drew
        have hsz' : Hid (w.heap.size ≤ wr.drew.heap.size) := hsz
        clear HB hsz
        go_wp2
        go_still_tail 8, (by kernel_rfl)
        change wpList _ _ _ _ _ wr.drew
        generalize wr.drew = w2 at *
        clear e0 e1 e2 e3 e4 f0 f1 f2 f3 f4
        go_wp2_with fail
        refine (HC.out w2 (HB'.out.mono hB)).mono ?_
        rintro e w3 ⟨rfl, hb3⟩
        have HB3 := Lib.hid (below_on HB'.out hb3)
        clear hb3 HC
        cases q
        · have HF := Lib.hid (ne_wi HA1.out HA2.out (fun e => by have := HQ.out.2 e; cases this))
          obtain rfl : b = false := by
            cases b
            · rfl
            · exact absurd (HBo.out.1 rfl) HF.out
          go_wp2
          go_ret
          exact ⟨rfl, HB3.out⟩
        · have HD := Lib.hid (HQ.out.1 (by first | rfl | trivial))
          go_wp2
          go_roundw
          case rel => exact ⟨k + 1, by omega, by go_num, by rw [ptake_at HA1.out, ptake_at HA2.out, List.map_append, List.map_append, HT.out, List.map_singleton, List.map_singleton, HD.out], HB3.out⟩
          case measure => simp [intOf]; omega
      · obtain rfl : k = n := by omega
        obtain rfl : b = true := HBo.out.2 (by have := HT.out; rwa [ptake_all HX.out.len, ptake_all HY.out.len] at this)
        clear hbel
        go_wp2
        go_ret
        exact ⟨rfl, HB.out⟩
  · obtain rfl : b = false := by
      cases b
      · rfl
      · exact absurd (hb.1 rfl) (ne_len (by rw [h1.len, h2.len]; exact hl))
    clear h1 h2 hb
    go_enter Try.func38, Try.ntmps38
    go_wp2
    go_ret
    exact ⟨rfl, Below.refl _ _⟩

/-- append of one element to a slice of the call's own: the new slice lies in the old one's row or in a new block. -/
theorem wp_appG {α : Type} {f : α → List Value} {s : Nat} (hf : ∀ x, (f x).length = s) (h1 : ∀ x, ∀ u ∈ f x, u.oneCell' = true) {T tS : TypeId} {z : Value} {bytes : Nat} (ht : Try.prog.underlying tS = some (.slice T)) (hinf : (Try.prog.info? T).map (fun i => (i.zero, i.size, i.bytes)) = some (some z, s, bytes)) (hzs : z.cells.size = s) (hs0 : 0 < s)
    {ops : Array Oper} {rest : List Oper} {o : Oper} {a : Act} {Q : Exit → Act → World → Prop} (w : World) (hgd : o.guard = none) (sl x : Operand)
    (ho : o.op = .call { callee := .builtin .append, args := #[sl, x], argTypes := #[tS, tS] })
    (B : Nat) (v : Value) (l : List α) (hs : a.eval sl = v) (hown : OwnG T f s w B v l) (cs : Array Value) (y : α) (hcs : cs = (f y).toArray) (c : Nat)
    (N : Nat) (hNw : w.heap.size = N) (hx : a.eval x = .slice (some ⟨N, 0, none⟩) 1 c) (hlen : (l.length + 1) * bytes ≤ 140737488355328) (hbt : 0 < bytes) (hB : B ≤ w.heap.size)
    (h : ∀ v' w', OwnG T f s w' B v' (l ++ [y]) → w.grownBy w' v.ownBlock → (v'.ownBlock = v.ownBlock ∨ v'.ownBlock = some (w.heap.size + 1)) → wpList Try.prog ops Q rest (a.put o.dst v') w') :
    wpList Try.prog ops Q (o :: rest) a (w.alloc (.cells cs T)) := by
  obtain ⟨i0, hi, hz⟩ := Option.map_eq_some_iff.1 hinf
  simp only [Prod.mk.injEq] at hz
  obtain ⟨hz0, hz1, hz2⟩ := hz
  have hm : l.length + 1 ≤ 140737488355328 := Nat.le_trans (Nat.le_mul_of_pos_right _ hbt) hlen
  subst hcs hNw
  refine wpList_append_own_at _ hgd sl x tS ho B T i0 z s bytes ht hi hz0 hz1 hz2 hzs hs0 v l.length (l.flatMap f) hs (World.ownsRow.alloc hown _) ⟨w.heap.size, 0, none⟩ 1 c (f y) hx (by rw [hf, Nat.one_mul]) ?_ (h1 y) (by unfold maxLen; omega) hlen (by simp; omega) ?_
  · intro j u hj
    have e : (⟨w.heap.size, 0, none⟩ : Addr).add j = ⟨w.heap.size, j, none⟩ := by unfold Addr.add; split <;> simp_all
    rw [e, World.cell?_alloc_at _ _ _ _ rfl]
    simpa using hj
  · intro v' w' hown' hg _ hat
    refine h v' w' ?_ ⟨hg.os, hg.tape, hg.output, Nat.le_trans (by simp) hg.size, fun k hk hv => (hg.block k (by simp; omega) hv).trans (Below.heap_alloc _ _ _ hk)⟩ (by simpa using hat)
    unfold OwnG
    rw [List.length_append, List.length_singleton, List.flatMap_append, List.flatMap_singleton]
    exact hown'
theorem OwnWs.snoc {w w' : World} {B : Nat} {v v' : Value} {ns : List Wi} {x : Wi} (h : OwnWs w B v ns) (hg : w.grownBy w' v.ownBlock) (hat : v'.ownBlock = v.ownBlock ∨ v'.ownBlock = some (w.heap.size + 1)) (hr : OwnG 30 wishCells 5 w' B v' (ns ++ [x])) (hx : WiO w B x) (hap : ∀ b, x.has b → ¬ hasWs v ns b) : OwnWs w' B v' (ns ++ [x]) := by
  have hin : ∀ (i : Nat) (y : Wi) (b : Nat), ns[i]? = some y → y.has b → hasWs v ns b := fun i y b hy hb => .inr ⟨y, List.mem_of_getElem? hy, hb⟩
  have hnb : ∀ b, x.has b → some b ≠ v.ownBlock := fun b hb e => hap b hb (.inl e.symm)
  refine ⟨hr, ?_, ?_, ?_⟩
  · intro i y hy
    rcases get_snoc rfl hy with ⟨_, hy⟩ | ⟨_, rfl⟩
    · exact (h.x i y hy).blocks fun b hb => hg.block b ((h.x i y hy).has_in hb).2 fun e => h.a i y b hy hb e.symm
    · exact hx.blocks fun b hb => hg.block b (hx.has_in hb).2 (hnb b hb)
  · intro i y b hy hb e
    rcases get_snoc rfl hy with ⟨_, hy⟩ | ⟨_, rfl⟩
    · rcases hat with q | q
      · exact h.a i y b hy hb (q ▸ e)
      · have h2 := (h.has_in (hin i y b hy hb)).2
        rw [q] at e
        have := Option.some.inj e
        omega
    · rcases hat with q | q
      · exact hnb b hb (q ▸ e).symm
      · have h2 := (hx.has_in hb).2
        rw [q] at e
        have := Option.some.inj e
        omega
  · intro i j y z b hij hy hz hb hb'
    rcases get_snoc rfl hz with ⟨hj, hz⟩ | ⟨hj, rfl⟩
    · rcases get_snoc rfl hy with ⟨_, hy⟩ | ⟨hi, _⟩
      · exact h.d i j y z b hij hy hz hb hb'
      · omega
    · rcases get_snoc rfl hy with ⟨_, hy⟩ | ⟨hi, _⟩
      · exact hap b hb' (hin i y b hy hb)
      · omega
theorem OwnN.snoc {w w' : World} {B : Nat} {v v' : Value} {ns : List Nd} {x : Nd} (h : OwnN w B v ns) (hg : w.grownBy w' v.ownBlock) (hat : v'.ownBlock = v.ownBlock ∨ v'.ownBlock = some (w.heap.size + 1)) (hr : OwnG 97 nodeCells 6 w' B v' (ns ++ [x])) (hwf : (Lit.int .i64 x.op).wf = true) (hx : WiO w B x.t) (hap : ∀ b, x.t.has b → ¬ hasN v ns b) : OwnN w' B v' (ns ++ [x]) := by
  have hin : ∀ (i : Nat) (y : Nd) (b : Nat), ns[i]? = some y → y.t.has b → hasN v ns b := fun i y b hy hb => .inr ⟨y, List.mem_of_getElem? hy, hb⟩
  have hnb : ∀ b, x.t.has b → some b ≠ v.ownBlock := fun b hb e => hap b hb (.inl e.symm)
  refine ⟨hr, ?_, ?_, ?_⟩
  · intro i y hy
    rcases get_snoc rfl hy with ⟨_, hy⟩ | ⟨_, rfl⟩
    · exact ⟨(h.x i y hy).1, (h.x i y hy).2.blocks fun b hb => hg.block b ((h.x i y hy).2.has_in hb).2 fun e => h.a i y b hy hb e.symm⟩
    · exact ⟨hwf, hx.blocks fun b hb => hg.block b (hx.has_in hb).2 (hnb b hb)⟩
  · intro i y b hy hb e
    rcases get_snoc rfl hy with ⟨_, hy⟩ | ⟨_, rfl⟩
    · rcases hat with q | q
      · exact h.a i y b hy hb (q ▸ e)
      · have h2 := (h.has_in (hin i y b hy hb)).2
        rw [q] at e
        have := Option.some.inj e
        omega
    · rcases hat with q | q
      · exact hnb b hb (q ▸ e).symm
      · have h2 := (hx.has_in hb).2
        rw [q] at e
        have := Option.some.inj e
        omega
  · intro i j y z b hij hy hz hb hb'
    rcases get_snoc rfl hz with ⟨hj, hz⟩ | ⟨hj, rfl⟩
    · rcases get_snoc rfl hy with ⟨_, hy⟩ | ⟨hi, _⟩
      · exact h.d i j y z b hij hy hz hb hb'
      · omega
    · rcases get_snoc rfl hy with ⟨_, hy⟩ | ⟨hi, _⟩
      · exact hap b hb' (hin i y b hy hb)
      · omega
end Go.Proofs.Ytmbchpdcgjlggaa.num
