/-
  Slices of slices of ints: rows of the call's own; what a view of them says.
-/
import Derived.Test.YtjjlhiaghjipcaaOwnX
import Derived.Test.YtjjlhiaghjipcaaAppI1
import Derived.Test.YtjjlhiaghjipcaaLeastR
import Derived.Test.YtjjlhiaghjipcaaCloneI
import Derived.Test.YtjjlhiaghjipcaaOwnLow
namespace Go.Proofs.Ytjjlhiaghjipcaa.num
set_option maxRecDepth 20000
open Go.RowKit
set_option linter.unusedVariables false
set_option linter.unusedSimpArgs false

def IR.val (x : IR) : Value := .slice x.A x.n x.c
/-- Rows of ints as a kind of element. -/
def IRK : Kd IR where
  f := irC
  s := 1
  T := 25
  ok w B x := OwnI w B x.val x.xs
  has x b := x.val.ownBlock = some b
  len := irC_len
  blocks h hb := ownI_blocks h fun k hk => hb k hk
  inn h hb := ⟨ownI_lows h _ hb, ownI_tops h _ hb⟩
  low h hB := ownI_lower h hB
abbrev OwnR (w : World) (B : Nat) (v : Value) (l : List IR) : Prop := OwnX IRK w B v l
theorem info_ints : (Try.prog.info? 25).map (fun i => (i.zero, i.size, i.bytes)) = some (some (.slice none 0 0), 1, 24) := by kernel_rfl
def xsR (l : List IR) : List (List Int) := l.map IR.xs
/-- append of one row that the call itself made. -/
theorem wp_appR {ops : Array Oper} {rest : List Oper} {o : Oper} {a : Act} {Q : Exit → Act → World → Prop} (w : World) (hgd : o.guard = none) (sl x : Operand)
    (ho : o.op = .call { callee := .builtin .append, args := #[sl, x], argTypes := #[31, 31] })
    (B : Nat) (v : Value) (l : List IR) (hs : a.eval sl = v) (hown : OwnR w B v l) (y : IR) (hy : OwnI w B y.val y.xs) (hap : ∀ b, y.val.ownBlock = some b → ¬ hasX IRK v l b) (cs : Array Value) (hcs : cs = #[y.val]) (c : Nat)
    (hx : a.eval x = .slice (some ⟨w.heap.size, 0, none⟩) 1 c) (hlen : (l.length + 1) * 24 ≤ 140737488355328) (hB : B ≤ w.heap.size)
    (h : ∀ v' w', OwnR w' B v' (l ++ [y]) → w.grownBy w' v.ownBlock → Below B w w' → wpList Try.prog ops Q rest (a.put o.dst v') w') :
    wpList Try.prog ops Q (o :: rest) a (w.alloc (.cells cs 25)) :=
  wp_appG irC_len irC_one Try.underlying31 info_ints rfl (by decide) w hgd sl x ho B v l hs hown.r cs y (by rw [hcs]; rfl) c w.heap.size rfl hx hlen (by decide) hB
    fun v' w' h1 h2 h3 => h v' w' (OwnX.snoc (N := w.heap.size + 1) hown h2 h3 (Nat.le_succ _) h1 hy hap) h2 ((Below.refl B w).grown h2 hB (fun k hk => hown.r.lows k hk))
/-- What can be read of rows: where they lie, each one its call's own, all apart. -/
structure RowsV (w : World) (B : Nat) (A : Option Addr) (n : Nat) (l : List IR) : Prop where
  r : ReadG irC 1 w w.heap.size A n l
  o : ∀ a, A = some a → B ≤ a.block
  x : ∀ (k : Nat) (x : IR), l[k]? = some x → OwnI w B x.val x.xs
  a : ∀ (k : Nat) (x : IR) (b : Nat), l[k]? = some x → x.val.ownBlock = some b → ∀ p, A = some p → p.block ≠ b
  d : ∀ (i j : Nat) (x y : IR) (b : Nat), i < j → l[i]? = some x → l[j]? = some y → x.val.ownBlock = some b → y.val.ownBlock ≠ some b
theorem OwnX.view {w : World} {B : Nat} {A : Option Addr} {n c : Nat} {l : List IR} (h : OwnR w B (.slice A n c) l) : RowsV w B A n l := by
  refine ⟨h.r.read irC_len, fun a ha => ?_, h.x, fun k x b hk hb p hp e => ?_, h.d⟩
  · subst ha
    rcases h.r.row with ⟨e, _⟩ | ⟨g, cap, F, e, hB, _⟩
    · cases e
    · injection e with e _ _
      injection e with e
      subst e
      exact hB
  · subst hp
    refine h.a k x b hk hb ?_
    rcases h.r.row with ⟨e', _⟩ | ⟨g, cap, F, e', hB, _⟩
    · cases e'
    · injection e' with e1 _ _
      injection e1 with e1
      subst e1
      rw [← e]; rfl
/-- All rows but the first. -/
theorem RowsV.tail {w : World} {B b off n : Nat} {l : List IR} (h : RowsV w B (some ⟨b, off, none⟩) n l) (h0 : 0 < n) : RowsV w B (some ⟨b, off + 1, none⟩) (n - 1) l.tail := by
  have hget : ∀ k, l.tail[k]? = l[k + 1]? := fun k => by simp
  refine ⟨⟨by rw [List.length_tail, h.r.len], fun k x hk => ?_⟩, fun a ha => ?_, fun k x hk => h.x (k + 1) x (by rw [← hget]; exact hk), fun k x b' hk hb p hp => ?_, fun i j x y b' hij hi hj => h.d (i + 1) (j + 1) x y b' (by omega) (by rw [← hget]; exact hi) (by rw [← hget]; exact hj)⟩
  · obtain ⟨b1, o1, e, hb, hc⟩ := h.r.at' (k + 1) x (by rw [← hget]; exact hk)
    injection e with e
    injection e with e1 e2
    subst e1 e2
    refine ⟨b, off + 1, rfl, hb, fun j v hv => ?_⟩
    have := hc j v hv
    rwa [show off + (k + 1) * 1 + j = off + 1 + k * 1 + j by omega] at this
  · injection ha with ha
    subst ha
    exact h.o ⟨b, off, none⟩ rfl
  · injection hp with hp
    subst hp
    exact h.a (k + 1) x b' (by rw [← hget]; exact hk) hb ⟨b, off, none⟩ rfl
theorem RowsV.below {w w' : World} {B : Nat} {A : Option Addr} {n : Nat} {l : List IR} (h : RowsV w B A n l) (hb : Below w.heap.size w w') : RowsV w' B A n l :=
  ⟨(h.r.below hb).more hb.size, h.o, fun k x hk => ownI_below (h.x k x hk) hb, h.a, h.d⟩
theorem RowsV.low {w : World} {B B' : Nat} {A : Option Addr} {n : Nat} {l : List IR} (h : RowsV w B A n l) (hB : B' ≤ B) : RowsV w B' A n l :=
  ⟨h.r, fun a ha => Nat.le_trans hB (h.o a ha), fun k x hk => ownI_lower (h.x k x hk) hB, h.a, h.d⟩
end Go.Proofs.Ytjjlhiaghjipcaa.num
