/- Contracts of functions that the laws of this chapter call, packed. -/
import Derived.Test.YtceiocdemhkcdaaOwnX
import Derived.Test.YtceiocdemhkcdaaAppI1
import Derived.Test.YtceiocdemhkcdaaLeastR
import Derived.Test.YtceiocdemhkcdaaCloneI
import Derived.Test.YtceiocdemhkcdaaOwnLow
import Derived.Test.YtceiocdemhkcdaaRegDraw
import Derived.Test.YtceiocdemhkcdaaItemDraw
import Derived.Laws.ResultCell
import Derived.Test.YtceiocdemhkcdaaHasInts
import Derived.Test.YtceiocdemhkcdaaItemCopy
import Derived.Test.YtceiocdemhkcdaaIntsAt
import Derived.Test.YtceiocdemhkcdaaItemRow
import Derived.Test.YtceiocdemhkcdaaItemImpl
import Derived.Test.YtceiocdemhkcdaaItemAre
import Derived.BigQuiet
import Derived.Deep.Cut
import Derived.Deep.CutRange
import Derived.OwnWalk
import Derived.Test.YtceiocdemhkcdaaItemFind
import Derived.Shelf.SlSortCmp.Whole1
import Derived.Test.YtceiocdemhkcdaaProg
import Derived.Test.YtceiocdemhkcdaaItemMem
import Derived.Test.YtceiocdemhkcdaaRegSets
import Derived.Test.YtceiocdemhkcdaaOwnInt
import Derived.Laws.AppendOwn
import Derived.Test.YtceiocdemhkcdaaItemIds
namespace Go.Proofs.Ytceiocdemhkcdaa.num
set_option maxRecDepth 20000
open Go.RowKit
set_option linter.unusedVariables false
set_option linter.unusedSimpArgs false

def IR.val (x : IR) : Value := .slice x.A x.n x.c
/-- Rows of ints as a kind of element. -/
def IRK : Kd IR where
  f := irC
  s := 1
  T := 25
  ok w B x := OwnI w B x.val x.xs
  has x b := x.val.ownBlock = some b
  len := irC_len
  blocks h hb := ownI_blocks h fun k hk => hb k hk
  inn h hb := ⟨ownI_lows h _ hb, ownI_tops h _ hb⟩
  low h hB := ownI_lower h hB
abbrev OwnR (w : World) (B : Nat) (v : Value) (l : List IR) : Prop := OwnX IRK w B v l
theorem info_ints : (Try.prog.info? 25).map (fun i => (i.zero, i.size, i.bytes)) = some (some (.slice none 0 0), 1, 24) := by kernel_rfl
def xsR (l : List IR) : List (List Int) := l.map IR.xs
/-- append of one row that the call itself made. -/
theorem wp_appR {ops : Array Oper} {rest : List Oper} {o : Oper} {a : Act} {Q : Exit → Act → World → Prop} (w : World) (hgd : o.guard = none) (sl x : Operand)
    (ho : o.op = .call { callee := .builtin .append, args := #[sl, x], argTypes := #[31, 31] })
    (B : Nat) (v : Value) (l : List IR) (hs : a.eval sl = v) (hown : OwnR w B v l) (y : IR) (hy : OwnI w B y.val y.xs) (hap : ∀ b, y.val.ownBlock = some b → ¬ hasX IRK v l b) (cs : Array Value) (hcs : cs = #[y.val]) (c : Nat)
    (hx : a.eval x = .slice (some ⟨w.heap.size, 0, none⟩) 1 c) (hlen : (l.length + 1) * 24 ≤ 140737488355328) (hB : B ≤ w.heap.size)
    (h : ∀ v' w', OwnR w' B v' (l ++ [y]) → w.grownBy w' v.ownBlock → Below B w w' → wpList Try.prog ops Q rest (a.put o.dst v') w') :
    wpList Try.prog ops Q (o :: rest) a (w.alloc (.cells cs 25)) :=
  wp_appG irC_len irC_one Try.underlying31 info_ints rfl (by decide) w hgd sl x ho B v l hs hown.r cs y (by rw [hcs]; rfl) c w.heap.size rfl hx hlen (by decide) hB
    fun v' w' h1 h2 h3 => h v' w' (OwnX.snoc (N := w.heap.size + 1) hown h2 h3 (Nat.le_succ _) h1 hy hap) h2 ((Below.refl B w).grown h2 hB (fun k hk => hown.r.lows k hk))
/-- What can be read of rows: where they lie, each one its call's own, all apart. -/
structure RowsV (w : World) (B : Nat) (A : Option Addr) (n : Nat) (l : List IR) : Prop where
  r : ReadG irC 1 w w.heap.size A n l
  o : ∀ a, A = some a → B ≤ a.block
  x : ∀ (k : Nat) (x : IR), l[k]? = some x → OwnI w B x.val x.xs
  a : ∀ (k : Nat) (x : IR) (b : Nat), l[k]? = some x → x.val.ownBlock = some b → ∀ p, A = some p → p.block ≠ b
  d : ∀ (i j : Nat) (x y : IR) (b : Nat), i < j → l[i]? = some x → l[j]? = some y → x.val.ownBlock = some b → y.val.ownBlock ≠ some b
theorem OwnX.view {w : World} {B : Nat} {A : Option Addr} {n c : Nat} {l : List IR} (h : OwnR w B (.slice A n c) l) : RowsV w B A n l := by
  refine ⟨h.r.read irC_len, fun a ha => ?_, h.x, fun k x b hk hb p hp e => ?_, h.d⟩
  · subst ha
    rcases h.r.row with ⟨e, _⟩ | ⟨g, cap, F, e, hB, _⟩
    · cases e
    · injection e with e _ _
      injection e with e
      subst e
      exact hB
  · subst hp
    refine h.a k x b hk hb ?_
    rcases h.r.row with ⟨e', _⟩ | ⟨g, cap, F, e', hB, _⟩
    · cases e'
    · injection e' with e1 _ _
      injection e1 with e1
      subst e1
      rw [← e]; rfl
/-- All rows but the first. -/
theorem RowsV.tail {w : World} {B b off n : Nat} {l : List IR} (h : RowsV w B (some ⟨b, off, none⟩) n l) (h0 : 0 < n) : RowsV w B (some ⟨b, off + 1, none⟩) (n - 1) l.tail := by
  have hget : ∀ k, l.tail[k]? = l[k + 1]? := fun k => by simp
  refine ⟨⟨by rw [List.length_tail, h.r.len], fun k x hk => ?_⟩, fun a ha => ?_, fun k x hk => h.x (k + 1) x (by rw [← hget]; exact hk), fun k x b' hk hb p hp => ?_, fun i j x y b' hij hi hj => h.d (i + 1) (j + 1) x y b' (by omega) (by rw [← hget]; exact hi) (by rw [← hget]; exact hj)⟩
  · obtain ⟨b1, o1, e, hb, hc⟩ := h.r.at' (k + 1) x (by rw [← hget]; exact hk)
    injection e with e
    injection e with e1 e2
    subst e1 e2
    refine ⟨b, off + 1, rfl, hb, fun j v hv => ?_⟩
    have := hc j v hv
    rwa [show off + (k + 1) * 1 + j = off + 1 + k * 1 + j by omega] at this
  · injection ha with ha
    subst ha
    exact h.o ⟨b, off, none⟩ rfl
  · injection hp with hp
    subst hp
    exact h.a (k + 1) x b' (by rw [← hget]; exact hk) hb ⟨b, off, none⟩ rfl
theorem RowsV.below {w w' : World} {B : Nat} {A : Option Addr} {n : Nat} {l : List IR} (h : RowsV w B A n l) (hb : Below w.heap.size w w') : RowsV w' B A n l :=
  ⟨(h.r.below hb).more hb.size, h.o, fun k x hk => ownI_below (h.x k x hk) hb, h.a, h.d⟩
theorem RowsV.low {w : World} {B B' : Nat} {A : Option Addr} {n : Nat} {l : List IR} (h : RowsV w B A n l) (hB : B' ≤ B) : RowsV w B' A n l :=
  ⟨h.r, fun a ha => Nat.le_trans hB (h.o a ha), fun k x hk => ownI_lower (h.x k x hk) hB, h.a, h.d⟩
end Go.Proofs.Ytceiocdemhkcdaa.num
namespace Go.Proofs.Ytceiocdemhkcdaa.num
set_option maxRecDepth 20000
open Go.RowKit
set_option linter.unusedVariables false
set_option linter.unusedSimpArgs false

theorem wt_at {a b c : Nat} (hb : b < 4) (hc : c < 4) : wtOf (16 * a + 4 * b + c) = [(a : Int), (b : Int), (c : Int)] := by
  unfold wtOf
  rw [show (16 * a + 4 * b + c) / 16 = a by omega, show (16 * a + 4 * b + c) / 4 % 4 = b by omega, show (16 * a + 4 * b + c) % 4 = c by omega]
theorem wl_step {k : Nat} (h0 : 0 < k) (hk : k < 64) : wl.take k = wl.take (k - 1) ++ [wtOf k] := by
  obtain ⟨j, rfl⟩ : ∃ j, k = j + 1 := ⟨k - 1, by omega⟩
  rw [Nat.add_sub_cancel]
  exact take_at (wl_get (by omega))
theorem ownI_three (w : World) (B : Nat) (x y z : Int) (hB : B ≤ w.heap.size) : OwnI (w.alloc (.cells #[.int .i64 x, .int .i64 y, .int .i64 z] 3)) B (.slice (some ⟨w.heap.size, 0, none⟩) 3 3) [x, y, z] :=
  ⟨rfl, .inr ⟨w.heap.size, 3, #[.int .i64 x, .int .i64 y, .int .i64 z], rfl, hB, heap_alloc_new w _, Nat.le_refl _, by decide, rfl, rfl⟩⟩
/-- The model's state: the first k - 1 lists. -/
def WlAt (w : World) (k : Nat) (V : Value) (wr : World) : Prop := ∃ rows, xsR rows = wl.take (k - 1) ∧ OwnR wr w.heap.size V rows ∧ Below w.heap.size w wr
set_option maxRecDepth 20000 in
set_option maxHeartbeats 3200000 in
theorem sWL (w : World) :
    Calls Try.prog 12 #[] w fun e w' => (∃ A c rows, e = .returned (.slice A 63 c) ∧ xsR rows = wl ∧ OwnR w' w.heap.size (.slice A 63 c) rows) ∧ Below w.heap.size w w' := by
  have H0 : Hid (WlAt w 0 (.slice (some ⟨w.heap.size, 0, none⟩) 0 0) (w.alloc (.cells #[] 25))) := Lib.hid ⟨[], rfl, ⟨OwnG.empty w w.heap.size (Nat.le_refl _), by simp, by simp, by simp⟩, (Below.refl _ w).alloc (Nat.le_refl _) _⟩
  go_enter Try.func12, Try.ntmps12
  go_wp2
  go_loopw [1, 2] (fun v iv wr => ∃ (a : Nat) (V : Value), a ≤ 4 ∧ iv = .int .i64 a ∧ V = v ∧ WlAt w (16 * a) V wr) (fun _ iv _ => 4 - (intOf iv).toNat)
  case atStart => exact ⟨0, _, by decide, rfl, rfl, H0.out⟩
  case round =>
    obtain ⟨a, V, ha, rfl, rfl, hat⟩ := hrel
    have HA := Lib.hid hat
    clear hat
    by_cases hla : a < 4
    · have hla' : (a : Int) ≤ 3 := by omega
      go_wp2
      go_loopw [1, 3] (fun v iv wr => ∃ (b : Nat) (V : Value), b ≤ 4 ∧ iv = .int .i64 b ∧ V = v ∧ WlAt w (16 * a + 4 * b) V wr) (fun _ iv _ => 4 - (intOf iv).toNat)
      case atStart => exact ⟨0, _, by decide, rfl, rfl, HA.out⟩
      case round =>
        obtain ⟨b, V, hb, rfl, rfl, hat⟩ := hrel
        have HA := Lib.hid hat
        clear hat
        by_cases hlb : b < 4
        · have hlb' : (b : Int) ≤ 3 := by omega
          go_wp2
          go_loopw [1, 4] (fun v iv wr => ∃ (c : Nat) (V : Value), c ≤ 4 ∧ iv = .int .i64 c ∧ V = v ∧ WlAt w (16 * a + 4 * b + c) V wr) (fun _ iv _ => 4 - (intOf iv).toNat)
          case atStart => exact ⟨0, _, by decide, rfl, rfl, HA.out⟩
          case round =>
            obtain ⟨c, V, hc, rfl, rfl, hat⟩ := hrel
            have HA := Lib.hid hat
            clear hat
            by_cases hlc : c < 4
            · have hlc' : (c : Int) ≤ 3 := by omega
              by_cases h0 : a + b + c = 0
              · have hd : ¬ ((0 : Int) < (a : Int) + (b : Int) + (c : Int)) := by omega
                have hd2 : decide ((a : Int) + (b : Int) + (c : Int) > 0) = false := by simp; omega
                have HA2 : Hid (WlAt w (16 * a + 4 * b + (c + 1)) V wr) := Lib.hid (by
                  have h := HA.out
                  obtain rfl : a = 0 := by omega
                  obtain rfl : b = 0 := by omega
                  obtain rfl : c = 0 := by omega
                  exact h)
                go_wp2
                go_roundw
                case rel => exact ⟨c + 1, V, by omega, by go_num, rfl, HA2.out⟩
                case measure => simp [intOf]; omega
              · have hd : (0 : Int) < (a : Int) + (b : Int) + (c : Int) := by omega
                have hd2 : decide ((a : Int) + (b : Int) + (c : Int) > 0) = true := by simp; omega
                obtain ⟨rows, hx, hown, hbel⟩ := HA.out
                have hrl : rows.length ≤ 63 := by
                  have h := congrArg List.length hx
                  rw [xsR, List.length_map, List.length_take, wl_len] at h
                  omega
                obtain ⟨w2, hw2⟩ : ∃ w2, wr.alloc (.cells #[.int .i64 a, .int .i64 b, .int .i64 c] 3) = w2 := ⟨_, rfl⟩
                have hb2 : Below wr.heap.size wr w2 := by rw [← hw2]; exact (Below.refl _ wr).alloc (Nat.le_refl _) _
                have HO := Lib.hid (hown.below hb2)
                have HB := Lib.hid (below_on hbel hb2)
                have HY : Hid (OwnI w2 w.heap.size (IR.val ⟨some ⟨wr.heap.size, 0, none⟩, 3, 3, [(a : Int), (b : Int), (c : Int)]⟩) [(a : Int), (b : Int), (c : Int)]) := Lib.hid (by rw [← hw2]; exact ownI_three wr w.heap.size a b c hbel.size)
                have HAp : Hid (∀ q, (IR.val ⟨some ⟨wr.heap.size, 0, none⟩, 3, 3, [(a : Int), (b : Int), (c : Int)]⟩).ownBlock = some q → ¬ hasX IRK V rows q) := Lib.hid fun q h1 h2 => by
                  have h3 := (hown.has_in h2).2
                  have h4 : wr.heap.size = q := Option.some.inj h1
                  omega
                have HX : Hid (xsR rows ++ [[(a : Int), (b : Int), (c : Int)]] = wl.take (16 * a + 4 * b + (c + 1) - 1)) := Lib.hid (by
                  rw [hx, show 16 * a + 4 * b + (c + 1) - 1 = 16 * a + 4 * b + c by omega, wl_step (k := 16 * a + 4 * b + c) (by omega) (by omega), wt_at hlb hlc])
                clear hx hown hbel hb2
                go_wp2_with (at_builtin; refine wp_appR w2 (by rfl) (.tmp 24) (.tmp 29) (by rfl) w.heap.size V rows (by rfl) HO.out ⟨some ⟨wr.heap.size, 0, none⟩, 3, 3, [(a : Int), (b : Int), (c : Int)]⟩ HY.out HAp.out _ (by rfl) 1 (by rfl) (by omega) HB.out.size ?_)
                rintro v3 w3 ho3 hg3 hb3
                have HA2 : Hid (WlAt w (16 * a + 4 * b + (c + 1)) v3 w3) := Lib.hid ⟨_, by rw [← HX.out]; simp [xsR], ho3, HB.out.trans hb3⟩
                clear ho3 hg3 hb3
                go_wp2
                go_roundw
                case rel => exact ⟨c + 1, v3, by omega, by go_num, rfl, HA2.out⟩
                case measure => simp [intOf]; omega
            · obtain rfl : c = 4 := by omega
              have HA2 : Hid (WlAt w (16 * a + 4 * (b + 1)) V wr) := Lib.hid (by have h := HA.out; rwa [show 16 * a + 4 * b + 4 = 16 * a + 4 * (b + 1) by omega] at h)
              go_wp2
              go_roundw
              case rel => exact ⟨b + 1, V, by omega, by go_num, rfl, HA2.out⟩
              case measure => simp [intOf]; omega
        · obtain rfl : b = 4 := by omega
          have HA2 : Hid (WlAt w (16 * (a + 1)) V wr) := Lib.hid (by have h := HA.out; rwa [show 16 * a + 4 * 4 = 16 * (a + 1) by omega] at h)
          go_wp2
          go_roundw
          case rel => exact ⟨a + 1, V, by omega, by go_num, rfl, HA2.out⟩
          case measure => simp [intOf]; omega
    · obtain rfl : a = 4 := by omega
      obtain ⟨rows, hx, hown, hbel⟩ := HA.out
      have hx' : xsR rows = wl := by rw [hx]; exact List.take_of_length_le (by rw [wl_len]; decide)
      have hl : rows.length = 63 := by have h := congrArg List.length hx'; rwa [xsR, List.length_map, wl_len] at h
      obtain ⟨A, c, hV, -, -⟩ := hown.r.shape
      rw [hl] at hV
      subst hV
      have HO := Lib.hid hown
      have HX := Lib.hid hx'
      clear hx hx' hown hl
      go_wp2
      go_ret
      exact ⟨⟨A, c, rows, rfl, HX.out, HO.out⟩, hbel⟩
end Go.Proofs.Ytceiocdemhkcdaa.num
namespace Go.Proofs.Ytceiocdemhkcdaa.num
set_option maxRecDepth 20000
open Go.RowKit
set_option linter.unusedVariables false
set_option linter.unusedSimpArgs false

theorem results_rowT {P : Program} {fn : Func} {p u : Tmp} {ty : TypeId} (h : fn.results = #[.cell p ty, .tmp u]) (tmps : Array Value) (w : World) (g : Nat) (t : TypeId) (cs : Array Value) (fr : Nat × Nat) (d : TypeDesc)
    (hp : tmps.getD p undef = .pointer (some ⟨g, 0, none⟩)) (hg : w.heap[g]? = some (.cells cs t fr))
    (hu : P.underlying ty = some d) (hd : (match d with | .struct _ | .array _ _ => true | _ => false) = true) (hi : (P.info? ty).map (·.size) = some cs.size) :
    (results fn tmps).run P w = .ok (.tuple #[.agg cs, tmps.getD u undef]) w := by
  rw [results_cell_tmp h, hp]
  simp [asAddr, Result.andThen, run_loadVar_row w g t ty cs fr d hg hu hd hi]
theorem cell_kept {w w' : World} {p : Addr} (h : w'.heap[p.block]? = w.heap[p.block]?) : w'.cell? p = w.cell? p := by
  unfold World.cell?
  rw [h]
/-- What is drawn: an item and weights. -/
def OutIu (w : World) (e : Ending) (w' : World) : Prop :=
  ∃ (t : It) (A : Option Addr) (c : Nat) (ys : List Int), e = .returned (.tuple #[t.val, .slice A 3 c]) ∧ Ints w' w'.heap.size t.A t.n t.xs ∧ t.n ≤ 4 ∧ Ints w' w'.heap.size A 3 ys ∧ Below w.heap.size w w'
/-- The boxes, the item and the cursor while weights are drawn. -/
structure UdSt (w : World) (g Y : Nat) (a : Option Addr) (len cap : Nat) (t : It) (wr : World) : Prop where
  x : wr.heap[w.heap.size]? = some (.cells #[.int .i64 0, .slice none 0 0] 43 (0, 0))
  y : wr.heap[Y]? = some (.cells #[.int .i64 t.id, .slice t.A t.n t.c] 43 (0, 0))
  o : OwnI wr (g + 1) (.slice t.A t.n t.c) t.xs
  gx : w.heap.size < g
  gy : g < Y
  far : ∀ k, (Value.slice t.A t.n t.c).ownBlock = some k → k < Y
  c : Cur wr g a len cap
  b : Below w.heap.size w wr
theorem UdSt.blocks {w wr w' : World} {g Y : Nat} {a : Option Addr} {len cap : Nat} {t : It} (h : UdSt w g Y a len cap t wr) (hb : ∀ k, k ≤ Y → k ≠ g → w'.heap[k]? = wr.heap[k]?) (hc : Cur w' g a len cap) (hB : Below w.heap.size w w') : UdSt w g Y a len cap t w' :=
  ⟨(hb _ (by have := h.gx; have := h.gy; omega) (by have := h.gx; omega)).trans h.x, (hb _ (Nat.le_refl _) (by have := h.gy; omega)).trans h.y, ownI_blocks h.o fun k hk => hb k (Nat.le_of_lt (h.far k hk)) (by have := ownI_lows h.o k hk; omega), h.gx, h.gy, h.far, hc, hB⟩
theorem UdSt.below {w wr w' : World} {g Y : Nat} {a : Option Addr} {len cap : Nat} {t : It} (h : UdSt w g Y a len cap t wr) (hb : Below wr.heap.size wr w') : UdSt w g Y a len cap t w' :=
  have hY : Y < wr.heap.size := lt_of_block h.y
  h.blocks (fun k hk _ => hb.block k (by omega)) (h.c.kept (hb.block g h.c.lt)) (h.b.trans (hb.mono h.b.size))
theorem UdSt.drew {w wr w' : World} {g Y : Nat} {a : Option Addr} {len cap : Nat} {t : It} (h : UdSt w g Y a len cap t wr) (hc : Cur w' g a len cap) (hg : wr.grownBy w' (some g)) : UdSt w g Y a len cap t w' :=
  have hY : Y < wr.heap.size := lt_of_block h.y
  h.blocks (fun k hk hne => hg.block k (by omega) fun e => hne (Option.some.inj e)) hc (h.b.trans (grown_below hg (Nat.le_of_lt h.gx) h.b.size))
theorem UdSt.grown {w wr w' : World} {g Y K : Nat} {a : Option Addr} {len cap : Nat} {t : It} (h : UdSt w g Y a len cap t wr) (hK : Y < K) (hg : wr.grownBy w' (some K)) : UdSt w g Y a len cap t w' :=
  have hY : Y < wr.heap.size := lt_of_block h.y
  h.blocks (fun k hk _ => hg.block k (by omega) fun e => by have := Option.some.inj e; omega) (h.c.kept (hg.block g h.c.lt fun e => by have := Option.some.inj e; have := h.gy; omega)) (h.b.trans (grown_below hg (by have := h.gx; have := h.gy; omega) h.b.size))
set_option maxRecDepth 20000 in
set_option maxHeartbeats 3200000 in
theorem draw_utility (w : World) (a : Option Addr) (len cap : Nat) (hlen : len ≤ 1048576) (hrow : Row w w.heap.size a len) :
    Calls Try.prog 20 #[.slice a len cap] w (OutIu w) := by
  have HR := Lib.hid hrow
  have HB0 : Hid (Below w.heap.size w (w.alloc (.cells #[.int .i64 0, .slice none 0 0] 43))) := Lib.hid ((Below.refl _ w).alloc (Nat.le_refl _) _)
  have HX0 := Lib.hid (heap_alloc_new w (.cells #[.int .i64 0, .slice none 0 0] 43))
  clear hrow
  go_enter Try.func20, Try.ntmps20
  go_wp2_with fail
  refine (new_any _ a len cap hlen w.heap.size (HR.out.below HB0.out)).mono ?_
  rintro e w1 ⟨g, rfl, hgw, hc1, hb1⟩
  rw [World.size_alloc] at hgw
  have HX1 := Lib.hid (row_below hb1 HX0.out (by rw [World.size_alloc]; omega))
  have HB1 : Hid (Below w.heap.size w w1) := Lib.hid (HB0.out.trans (hb1.mono (by rw [World.size_alloc]; omega)))
  have HC1 := Lib.hid hc1
  have hgl1 := hc1.lt
  clear hc1 hb1 HB0 HX0
  go_wp2_with fail
  refine (any_item _ g a len cap hlen HC1.out w.heap.size (by omega) (HR.out.below HB1.out)).mono ?_
  rintro e w2 ⟨t, rfl, ho, hl3, hl4, hc2, hg2⟩
  have hs2 : w1.heap.size ≤ w2.heap.size := hg2.size
  have HS2 : Hid (UdSt w g w2.heap.size a len cap t (w2.alloc (.cells #[.int .i64 t.id, .slice t.A t.n t.c] 43))) := Lib.hid ⟨(Below.heap_alloc _ _ _ (by omega)).trans (row_kept hg2 HX1.out (by omega)), heap_alloc_new w2 _, ownI_blocks (ownI_lowD ho (by omega)) fun k hk => Below.heap_alloc _ _ _ (ownI_tops ho k hk), by omega, by omega, fun k hk => ownI_tops ho k hk, hc2.kept (Below.heap_alloc _ _ _ hc2.lt), (HB1.out.trans (grown_below hg2 (by omega) HB1.out.size)).alloc (Nat.le_trans HB1.out.size hs2) _⟩
  have HN : Hid (t.n ≤ 4) := Lib.hid (by have := (ownI_at ho).1; omega)
  clear ho hc2 hg2 HC1 HX1
  unfold It.val
  obtain ⟨w3, hw3⟩ : ∃ w3, w2.alloc (.cells #[.int .i64 t.id, .slice t.A t.n t.c] 43) = w3 := ⟨_, rfl⟩
  rw [hw3] at HS2
  have hY3 : w2.heap.size < w3.heap.size := by rw [← hw3, World.size_alloc]; omega
  have HB4 : Hid (Below w3.heap.size w3 (w3.alloc (.cells #[] 3))) := Lib.hid ((Below.refl _ w3).alloc (Nat.le_refl _) _)
  have HS4 := Lib.hid (HS2.out.below HB4.out)
  have HE4 : Hid (OwnI (w3.alloc (.cells #[] 3)) w3.heap.size (.slice (some ⟨w3.heap.size, 0, none⟩) 0 0) []) := Lib.hid (OwnI.empty w3 w3.heap.size (Nat.le_refl _))
  go_wp2_with fail
  clear hw3 HS2
  refine (sWL _).mono ?_
  rintro e w4 ⟨⟨A5, c5, rows, rfl, hx, hown⟩, hb4⟩
  have HS5 := Lib.hid (HS4.out.below hb4)
  have HE5 := Lib.hid (ownI_below HE4.out hb4)
  have HX5 := Lib.hid hx
  have HRd := Lib.hid (hown.r.read irC_len)
  have HO := Lib.hid hown
  have hs4 : w3.heap.size + 1 ≤ w4.heap.size := by have := hb4.size; rwa [World.size_alloc] at this
  clear hx hown hb4 HE4 HS4
  go_wp2_with fail
  refine (below_any 63 (by omega) _ g a len cap hlen HS5.out.c w.heap.size (by omega) (HR.out.below HS5.out.b)).mono ?_
  rintro e w5 ⟨u, rfl, hu, hc5, hg5⟩
  obtain ⟨hu0, hu1⟩ := hu.2 (by omega)
  obtain ⟨k, rfl⟩ : ∃ k : Nat, u = k := ⟨u.toNat, by omega⟩
  obtain ⟨b, off, y, hA, hb, hat, hd⟩ := ir_at HRd.out (show k < 63 by omega)
  subst hA
  have hbl : w3.heap.size + 1 ≤ b := by have := HO.out.view.o _ rfl; rwa [World.size_alloc] at this
  have f0 : w5.cell? ⟨b, off + k, none⟩ = some (.slice y.A y.n y.c) := (cell_kept (p := ⟨b, off + k, none⟩) (hg5.block b hb fun e => by have := Option.some.inj e; omega)).trans hd
  have hy3 : y.xs.length = 3 := (wl_ok (w := y.xs) (by rw [← HX5.out]; exact List.mem_map_of_mem (List.mem_of_getElem? hat))).1
  have hyo : OwnI w5 (w3.heap.size + 1) y.val y.xs := by have h := ownI_keptg (HO.out.x k y hat) hg5 (by rw [World.size_alloc]; omega); rwa [World.size_alloc] at h
  have HYi := Lib.hid (ownI_at hyo)
  have HS6 := Lib.hid (HS5.out.drew hc5 hg5)
  have HE6 := Lib.hid (ownI_keptg HE5.out hg5 (by omega))
  have hs5 : w4.heap.size ≤ w5.heap.size := hg5.size
  clear hu hc5 hg5 hd hat hyo HS5 HE5
  obtain ⟨v', w6, hr, ho, hg6, ha⟩ := run_spreadI (ty := 25) (c := y.c) HE6.out HYi.out (by have := HYi.out.1; simp; omega) (by omega)
  have HL6 := Lib.hid ho
  have HS7 := Lib.hid (HS6.out.grown hY3 hg6)
  clear ho hg6 ha HS6 HE6
  go_wp2_with (at_builtin; refine Go.Lib.wpList_append_run_sl _ (by rfl) (.tmp 11) (.tmp 16) 25 (by rfl) _ _ (by rfl) (by rfl) hr ?_)
  clear hr f0
  go_wp2_with fail
  refine (once_any 8 (by omega) _ g a len cap hlen HS7.out.c w.heap.size (by omega) (HR.out.below HS7.out.b)).mono ?_
  rintro e w7 ⟨q, rfl, hc7, hg7⟩
  have HS8 := Lib.hid (HS7.out.drew hc7 hg7)
  have HL7 : Hid (OwnI w7 w3.heap.size v' y.xs) := Lib.hid (by have h := ownI_keptg HL6.out hg7 (by omega); simpa using h)
  clear hc7 hg7 HS7 HL6
  have hl0 : ∃ b c, v' = .slice (some ⟨b, 0, none⟩) 3 c ∧ w3.heap.size ≤ b := by
    have h := HL7.out
    rcases h.2 with ⟨hv, h0⟩ | ⟨g', cp, cur, hv, hg', _⟩
    · omega
    · exact ⟨g', cp, by rw [hv, hy3], hg'⟩
  obtain ⟨bl, cl, rfl, hbl3⟩ := hl0
  have hfar : ∀ k, (Value.slice t.A t.n t.c).ownBlock = some k → k < w2.heap.size := HS8.out.far
  cases q
  · obtain ⟨W, hW⟩ : ∃ W, w7 = W := ⟨_, rfl⟩
    rw [hW] at HS8 HL7
    have HL := Lib.hid (And.intro HL7.out hy3)
    obtain ⟨zs, hzs⟩ : ∃ zs, y.xs = zs := ⟨_, rfl⟩
    rw [hzs] at HL
    have x0 : W.cell? ⟨w.heap.size, 0, none⟩ = some (.int .i64 0) := cell_of_row W _ 0 _ _ (0, 0) HS8.out.x
    have z0 : W.frozen? ⟨w.heap.size, 0, none⟩ = false := frozen_of_row W _ 0 _ _ HS8.out.x
    have x1 : W.cell? ⟨w.heap.size, 1, none⟩ = some (.slice none 0 0) := cell_of_row W _ 1 _ _ (0, 0) HS8.out.x
    have z1 : W.frozen? ⟨w.heap.size, 1, none⟩ = false := frozen_of_row W _ 1 _ _ HS8.out.x
    have y0 : W.cell? ⟨w2.heap.size, 0, none⟩ = some (.int .i64 t.id) := cell_of_row W _ 0 _ _ (0, 0) HS8.out.y
    have y1 : W.cell? ⟨w2.heap.size, 1, none⟩ = some (.slice t.A t.n t.c) := cell_of_row W _ 1 _ _ (0, 0) HS8.out.y
    go_wp2
    refine bodyPost_ret_by (results_rowT rfl _ _ w.heap.size 43 _ (0, 0) _ rfl (two_setD HS8.out.x) Try.underlying43 rfl (by kernel_rfl)) rfl ?_
    refine ⟨t, some ⟨bl, 0, none⟩, cl, zs, rfl, ownI_at (ownI_blocks HS8.out.o fun k hk => ?_), HN.out, ownI_at (ownI_blocks HL.out.1 fun k hk => ?_), HS8.out.b.trans (set2_below _ w.heap.size w.heap.size _ _ (Nat.le_refl _))⟩
    · exact set2_other _ w.heap.size k _ _ (by have := ownI_lows HS8.out.o k hk; omega)
    · exact set2_other _ w.heap.size k _ _ (by have := ownI_lows HL.out.1 k hk; omega)
  · have HA8 := Lib.hid ((Below.refl w7.heap.size w7).alloc (Nat.le_refl _) (.cells #[.int .i64 (-1), .int .i64 4] 3))
    have HS9 := Lib.hid (HS8.out.below HA8.out)
    have hs7 : w3.heap.size ≤ w7.heap.size := by have := ownI_tops HL7.out bl rfl; omega
    go_wp2_with fail
    refine (pick_p (fun z => -1 ≤ z ∧ z ≤ 4) w7.heap.size 2 (by decide) (by decide) _ g a len cap hlen HS9.out.c w.heap.size (by omega) (HR.out.below HS9.out.b) (numsP w7 [-1, 4] (by decide)) (by omega)).mono ?_
    rintro e w8 ⟨z, rfl, hz, hc8, hg8⟩
    have HS10 := Lib.hid (HS9.out.drew hc8 hg8)
    have HL8 : Hid (OwnI w8 w3.heap.size (.slice (some ⟨bl, 0, none⟩) 3 cl) y.xs) := Lib.hid (ownI_keptg (ownI_below HL7.out HA8.out) hg8 (by omega))
    clear hc8 hg8 hz HS8 HS9 HL7
    obtain ⟨cur, hcur, hcs⟩ := own_row0 HL8.out
    have f1 := hcs (by decide)
    have f2 : w8.frozen? ⟨bl, 0, none⟩ = false := frozen_of_row w8 _ 0 _ _ hcur
    clear hcs
    obtain ⟨W, hW⟩ : ∃ W, w8.setCell ⟨bl, 0, none⟩ (.int .i64 z) = W := ⟨_, rfl⟩
    have HS8 : Hid (UdSt w g w2.heap.size a len cap t W) := Lib.hid (by
      rw [← hW]
      exact HS10.out.blocks (fun k hk _ => heap_setCell_other _ _ _ _ (by simp; omega)) (HS10.out.c.kept (heap_setCell_other _ _ _ _ (by simp; omega))) (HS10.out.b.setCell (by show w.heap.size ≤ bl; omega) _))
    have HL : Hid (OwnI W w3.heap.size (.slice (some ⟨bl, 0, none⟩) 3 cl) (y.xs.set 0 z) ∧ (y.xs.set 0 z).length = 3) := Lib.hid ⟨by rw [← hW]; exact own_set0 HL8.out z, by rw [List.length_set]; exact hy3⟩
    obtain ⟨zs, hzs⟩ : ∃ zs, y.xs.set 0 z = zs := ⟨_, rfl⟩
    rw [hzs] at HL
    clear HS10 hcur
    have x0 : W.cell? ⟨w.heap.size, 0, none⟩ = some (.int .i64 0) := cell_of_row W _ 0 _ _ (0, 0) HS8.out.x
    have z0 : W.frozen? ⟨w.heap.size, 0, none⟩ = false := frozen_of_row W _ 0 _ _ HS8.out.x
    have x1 : W.cell? ⟨w.heap.size, 1, none⟩ = some (.slice none 0 0) := cell_of_row W _ 1 _ _ (0, 0) HS8.out.x
    have z1 : W.frozen? ⟨w.heap.size, 1, none⟩ = false := frozen_of_row W _ 1 _ _ HS8.out.x
    have y0 : W.cell? ⟨w2.heap.size, 0, none⟩ = some (.int .i64 t.id) := cell_of_row W _ 0 _ _ (0, 0) HS8.out.y
    have y1 : W.cell? ⟨w2.heap.size, 1, none⟩ = some (.slice t.A t.n t.c) := cell_of_row W _ 1 _ _ (0, 0) HS8.out.y
    go_wp2
    refine bodyPost_ret_by (results_rowT rfl _ _ w.heap.size 43 _ (0, 0) _ rfl (two_setD HS8.out.x) Try.underlying43 rfl (by kernel_rfl)) rfl ?_
    refine ⟨t, some ⟨bl, 0, none⟩, cl, zs, rfl, ownI_at (ownI_blocks HS8.out.o fun k hk => ?_), HN.out, ownI_at (ownI_blocks HL.out.1 fun k hk => ?_), HS8.out.b.trans (set2_below _ w.heap.size w.heap.size _ _ (Nat.le_refl _))⟩
    · exact set2_other _ w.heap.size k _ _ (by have := ownI_lows HS8.out.o k hk; omega)
    · exact set2_other _ w.heap.size k _ _ (by have := ownI_lows HL.out.1 k hk; omega)
end Go.Proofs.Ytceiocdemhkcdaa.num
namespace Go.Proofs.Ytceiocdemhkcdaa.num
set_option maxRecDepth 20000
open Go.RowKit
set_option linter.unusedVariables false
set_option linter.unusedSimpArgs false

theorem lawHas (w : World) (B : Nat) (A : Option Addr) (n c : Nat) (xs : List Int) (hi : Ints w B A n xs) (hn : n ≤ 2000000) (x : Int) (b : Bool) (hb : b = true ↔ x ∈ xs) :
    Calls Try.prog 43 #[.slice A n c, .int .i64 x] w fun e w' => e = .returned (.bool b) ∧ w = w' := by
  have HX := Lib.hid hi
  have HB := Lib.hid hb
  clear hi hb
  go_enter Try.func43, Try.ntmps43
  go_wp2
  go_loopw [5] (fun i wr => ∃ k : Nat, k ≤ n ∧ i = .int .i64 k ∧ (∀ y ∈ xs.take k, y ≠ x) ∧ wr = w) (fun i _ => n - (intOf i).toNat)
  case atStart => exact ⟨0, Nat.zero_le _, rfl, by simp, rfl⟩
  case round =>
    obtain ⟨k, hk, rfl, hne, rfl⟩ := hrel
    have HN := Lib.hid hne
    clear hne
    by_cases hlt : k < n
    · obtain ⟨b1, off, y, rfl, hb1, hat, hc⟩ := HX.out.at k hlt
      have HT := Lib.hid hat
      clear hat
      by_cases he : y = x
      · subst he
        obtain rfl : b = true := HB.out.2 (List.mem_of_getElem? HT.out)
        go_wp2
        go_ret
        exact ⟨rfl, rfl⟩
      · have he1 : (y == x) = false := by simpa using he
        have HE := Lib.hid he
        clear he
        go_wp2
        go_roundw
        case rel =>
          refine ⟨k + 1, by omega, by go_num, ?_, by first | rfl | trivial⟩
          rw [take_at HT.out]
          intro z hz
          rcases List.mem_append.1 hz with hz | hz
          · exact HN.out z hz
          · rw [List.mem_singleton.1 hz]; exact HE.out
        case measure => simp [intOf]; omega
    · obtain rfl : k = n := by omega
      obtain rfl : b = false := by
        cases b
        · rfl
        · have h := HN.out
          rw [take_all HX.out.1] at h
          exact absurd rfl (h x (HB.out.1 rfl))
      go_wp2
      go_ret
      exact ⟨rfl, rfl⟩
end Go.Proofs.Ytceiocdemhkcdaa.num
namespace Go.Proofs.Ytceiocdemhkcdaa.num
set_option maxRecDepth 20000
open Go.RowKit
set_option linter.unusedVariables false
set_option linter.unusedSimpArgs false

set_option maxRecDepth 20000 in
theorem subset_of (w : World) (B : Nat) (A A' : Option Addr) (n n' c c' : Nat) (xs ys : List Int) (hx : Ints w B A n xs) (hy : Ints w B A' n' ys) (hn : n ≤ 1048576) (hn' : n' ≤ 1048576) (b : Bool) (hb : b = true ↔ ∀ x ∈ xs, x ∈ ys) :
    Calls Try.prog 14 #[.slice A n c, .slice A' n' c'] w fun e w' => e = .returned (.bool b) ∧ w' = w := by
  have HX := Lib.hid hx
  have HB := Lib.hid hb
  have HH : Hid (∀ x q, (q = true ↔ x ∈ ys) → Calls Try.prog 43 #[.slice A' n' c', .int .i64 x] w fun e w' => e = .returned (.bool q) ∧ w = w') := Lib.hid fun x q hq => lawHas w B A' n' c' ys hy (by omega) x q hq
  clear hx hy hb
  go_enter Try.func14, Try.ntmps14
  go_wp2
  go_loopw [5] (fun i wr => ∃ k : Nat, k ≤ n ∧ i = .int .i64 k ∧ (∀ y ∈ xs.take k, y ∈ ys) ∧ wr = w) (fun i _ => n - (intOf i).toNat)
  case atStart => exact ⟨0, Nat.zero_le _, rfl, by simp, rfl⟩
  case round =>
    obtain ⟨k, hk, rfl, hall, rfl⟩ := hrel
    have HA := Lib.hid hall
    clear hall
    by_cases hlt : k < n
    · obtain ⟨b1, off, y, rfl, hb1, hat, hc⟩ := HX.out.at k hlt
      have HT := Lib.hid hat
      have hlt' : (k : Int) < (n : Int) := by omega
      clear hat
      obtain ⟨q, hq⟩ : ∃ q : Bool, q = true ↔ y ∈ ys := ⟨decide (y ∈ ys), decide_eq_true_iff⟩
      have HQ := Lib.hid hq
      clear hq
      go_wp2_with fail
      refine (HH.out y q HQ.out).mono ?_
      rintro e w2 ⟨rfl, rfl⟩
      cases q
      · obtain rfl : b = false := by
          cases hbb : b
          · rfl
          · exact absurd (HQ.out.2 (HB.out.1 hbb y (List.mem_of_getElem? HT.out))) (by decide)
        go_wp2
        go_ret
        exact ⟨rfl, rfl⟩
      · go_wp2
        go_roundw
        case rel =>
          refine ⟨k + 1, by omega, by go_num, ?_, by first | rfl | trivial⟩
          rw [take_at HT.out]
          intro z hz
          rcases List.mem_append.1 hz with hz | hz
          · exact HA.out z hz
          · rw [List.mem_singleton.1 hz]; exact HQ.out.1 (by first | rfl | trivial)
        case measure => simp [intOf]; omega
    · obtain rfl : k = n := by omega
      obtain rfl : b = true := HB.out.2 (by have h := HA.out; rwa [take_all HX.out.1] at h)
      go_wp2
      go_ret
      exact ⟨rfl, rfl⟩
end Go.Proofs.Ytceiocdemhkcdaa.num
namespace Go.Proofs.Ytceiocdemhkcdaa.num
set_option maxRecDepth 20000
open Go.RowKit

theorem sameInts_of (w : World) (B : Nat) (A A' : Option Addr) (n n' c c' : Nat) (xs ys : List Int) (hx : Ints w B A n xs) (hy : Ints w B A' n' ys) (hn : n ≤ 1048576) (b : Bool) (hb : b = true ↔ xs = ys) :
    Calls Try.prog 9 #[.slice A n c, .slice A' n' c'] w fun e w' => e = .returned (.bool b) ∧ ∃ m, w' = w.drewN m := by
  have HX := Lib.hid hx
  have HY := Lib.hid hy
  by_cases hl : n = n'
  · subst hl
    have HB := Lib.hid hb
    clear hx hy hb
    go_enter Try.func9, Try.ntmps9
    go_wp2
    go_loopw [5] (fun i wr => ∃ k : Nat, k ≤ n ∧ i = .int .i64 k ∧ xs.take k = ys.take k ∧ ∃ m, wr = w.drewN m) (fun i _ => n - (intOf i).toNat)
    case atStart => exact ⟨0, Nat.zero_le _, rfl, rfl, 0, rfl⟩
    case round =>
      obtain ⟨k, hk, rfl, htake, m, rfl⟩ := hrel
      have HT := Lib.hid htake
      clear htake
      by_cases hlt : k < n
      · obtain ⟨b1, off1, rfl, hb1, hc1⟩ := HX.out.2 k hlt
        obtain ⟨b2, off2, rfl, hb2, hc2⟩ := HY.out.2 k hlt
        generalize hv1 : xs.getD k 0 = v1 at *
        generalize hv2 : ys.getD k 0 = v2 at *
        have HV1 := Lib.hid hv1
        have HV2 := Lib.hid hv2
        clear hv1 hv2
        have hlt' : (k : Int) < (n : Int) := by omega
        by_cases he : v1 = v2
        · subst he
          go_wp2
          go_quiet (fail)
          go_wp2
          go_roundw
          case rel => exact ⟨k + 1, by omega, by go_num, by rw [take_snoc_getD HX.out.1 hlt, take_snoc_getD HY.out.1 hlt, HT.out, HV1.out, HV2.out], _, rfl⟩
          case measure => simp [intOf]; omega
        · have hne : (v1 != v2) = true := by simpa using he
          have hxy : xs ≠ ys := ne_at (k := k) (by rw [HV1.out, HV2.out]; exact he)
          obtain rfl : b = false := by
            cases b
            · rfl
            · exact absurd (HB.out.1 rfl) hxy
          have HE := Lib.hid he
          clear he hxy
          go_wp2
          go_quiet (fail)
          go_wp2
          go_ret
          exact ⟨rfl, _, World.drewN_drewN _ _ _⟩
      · obtain rfl : k = n := by omega
        obtain rfl : b = true := HB.out.2 (by
          have h1 := HT.out
          rwa [List.take_of_length_le (by rw [HX.out.1]; exact Nat.le_refl _), List.take_of_length_le (by rw [HY.out.1]; exact Nat.le_refl _)] at h1)
        go_wp2
        go_ret
        exact ⟨rfl, _, rfl⟩
  · obtain rfl : b = false := by
      cases b
      · rfl
      · exact absurd (by rw [← hx.1, hb.1 rfl, hy.1]) hl
    clear hx hy hb
    go_enter Try.func9, Try.ntmps9
    go_wp2
    go_ret
    exact ⟨rfl, 0, rfl⟩
end Go.Proofs.Ytceiocdemhkcdaa.num
namespace Go.Proofs.Ytceiocdemhkcdaa.num
set_option maxRecDepth 20000
open Go.RowKit
set_option linter.unusedVariables false
set_option linter.unusedSimpArgs false

/-- The lists behind i lists of the level before and m weights of the next. -/
def levK (j i m : Nat) : List (List Int) := ((lev j).take i).flatMap (fun l => [l ++ [0], l ++ [1], l ++ [2], l ++ [3]]) ++ (List.range m).map fun v => ((lev j)[i]?.getD []) ++ [((v : Nat) : Int)]
theorem levK_zero (j : Nat) : levK j 0 0 = [] := by simp [levK]
theorem levK_more (j i m : Nat) {l : List Int} (h : (lev j)[i]? = some l) : levK j i (m + 1) = levK j i m ++ [l ++ [(m : Int)]] := by
  unfold levK
  rw [List.range_succ, List.map_append, ← List.append_assoc, h]
  rfl
theorem levK_next (j i : Nat) {l : List Int} (h : (lev j)[i]? = some l) : levK j i 4 = levK j (i + 1) 0 := by
  unfold levK
  rw [take_at h, List.flatMap_append, h]
  simp [List.range_succ]
theorem levK_done (j : Nat) : levK j (lev j).length 0 = lev (j + 1) := by
  unfold levK
  rw [List.take_length]
  simp [lev]
theorem lev_small : ∀ j, j ≤ 3 → (lev j).length ≤ 64 := by
  intro j hj
  rw [lev_len]
  rcases (show j = 0 ∨ j = 1 ∨ j = 2 ∨ j = 3 by omega) with rfl | rfl | rfl | rfl <;> decide
theorem lev_each : ∀ j, j ≤ 3 → ∀ l ∈ lev j, l.length ≤ 3 := by
  intro j hj
  rcases (show j = 0 ∨ j = 1 ∨ j = 2 ∨ j = 3 by omega) with rfl | rfl | rfl | rfl <;> decide
theorem levK_len (j i m : Nat) (hj : j ≤ 2) (hi : i ≤ (lev j).length) (hm : m ≤ 4) : (levK j i m).length ≤ 300 := by
  have h1 := lev_small j (by omega)
  have h2 : ((lev j).take i).length ≤ 64 := by rw [List.length_take]; omega
  have h3 : ∀ L : List (List Int), (L.flatMap (fun l => [l ++ [(0 : Int)], l ++ [1], l ++ [2], l ++ [3]])).length = L.length * 4 := by
    intro L
    induction L with
    | nil => rfl
    | cons a r ih => rw [List.flatMap_cons, List.length_append, ih, List.length_cons]; simp; omega
  unfold levK
  rw [List.length_append, h3, List.length_map, List.length_range]
  omega
set_option maxRecDepth 20000 in
set_option maxHeartbeats 3200000 in
theorem iWL (w : World) :
    Calls Try.prog 10 #[] w fun e w' => (∃ b off c rows, e = .returned (.slice (some ⟨b, off, none⟩) 63 c) ∧ 63 ≤ c ∧ c ≤ maxLen ∧ xsR rows = wl ∧ RowsV w' w.heap.size (some ⟨b, off, none⟩) 63 rows) ∧ Below w.heap.size w w' := by
  have H0 : Hid (OwnR (w.alloc (.cells #[.slice none 0 0] 25)) w.heap.size (.slice (some ⟨w.heap.size, 0, none⟩) 1 1) [⟨none, 0, 0, []⟩]) := Lib.hid ⟨⟨rfl, .inr ⟨w.heap.size, 1, #[.slice none 0 0], rfl, Nat.le_refl _, heap_alloc_new w _, Nat.le_refl _, by decide, rfl, rfl⟩⟩, fun k x hk => by
      rcases k with _ | k
      · simp at hk; subst hk; exact ownI_nil _ _
      · simp at hk, fun k x b hk hb => by
      rcases k with _ | k
      · simp at hk; subst hk; cases hb
      · simp at hk, fun i j x y b hij hi hj => by
      rcases j with _ | j
      · omega
      · simp at hj⟩
  have HBz : Hid (Below w.heap.size w (w.alloc (.cells #[.slice none 0 0] 25))) := Lib.hid ((Below.refl _ w).alloc (Nat.le_refl _) _)
  go_enter Try.func10, Try.ntmps10
  go_wp2
  go_loopw [1, 7] (fun v iv wr => ∃ (j : Nat) (V : Value) (rows : List IR), j ≤ 3 ∧ iv = .int .i64 j ∧ V = v ∧ xsR rows = lev j ∧ OwnR wr w.heap.size V rows ∧ Below w.heap.size w wr) (fun _ iv _ => 3 - (intOf iv).toNat)
  case atStart => exact ⟨0, _, _, by decide, rfl, rfl, rfl, H0.out, HBz.out⟩
  case round =>
    obtain ⟨j, V, rows, hj, rfl, rfl, hx, hown, hbel⟩ := hrel
    obtain ⟨wo, rfl⟩ : ∃ wo, wo = wr := ⟨_, rfl⟩
    have HX := Lib.hid hx
    have HO := Lib.hid hown
    have HB := Lib.hid hbel
    obtain ⟨A, c, hV, hlc, hcm⟩ := hown.r.shape
    have hlen : rows.length = (lev j).length := by rw [← hx]; simp [xsR]
    have HLen := Lib.hid hlen
    clear hx hown hbel hlen
    subst hV
    by_cases hlt : j < 3
    · have hlt' : (j : Int) < 3 := by omega
      have hrl : rows.length ≤ 64 := by rw [HLen.out]; exact lev_small j (by omega)
      have HRd := Lib.hid (HO.out.r.read irC_len)
      go_wp2
      go_loopw [2, 11] (fun v iv wq => ∃ (i : Nat) (V : Value) (out : List IR), i ≤ rows.length ∧ iv = .int .i64 i ∧ V = v ∧ xsR out = levK j i 0 ∧ OwnR wq wo.heap.size V out ∧ Below wo.heap.size wo wq) (fun _ iv _ => rows.length - (intOf iv).toNat)
      case atStart => exact ⟨0, _, [], Nat.zero_le _, rfl, rfl, by rw [levK_zero]; rfl, OwnX.nil _ _, Below.refl _ _⟩
      case round =>
        obtain ⟨i, V, out, hi, rfl, rfl, hx, hown, hbel⟩ := hrel
        have HX1 := Lib.hid hx
        have HO1 := Lib.hid hown
        have HB1 := Lib.hid hbel
        clear hx hown
        by_cases hit : i < rows.length
        · obtain ⟨b, off, y, hA, hb, hat, hd⟩ := ir_at HRd.out hit
          subst hA
          have f0 := (hbel.cell (p := ⟨b, off + i, none⟩) hb).trans hd
          have hit' : (i : Int) < (rows.length : Int) := by omega
          have hyl : (lev j)[i]? = some y.xs := by rw [← HX.out]; unfold xsR; rw [List.getElem?_map, hat]; rfl
          have HYl := Lib.hid hyl
          have HYx : Hid (OwnI wo w.heap.size y.val y.xs) := Lib.hid (HO.out.x i y hat)
          have hy3 : y.xs.length ≤ 3 := lev_each j (by omega) _ (mem_of_at hyl)
          have HCl : Hid (∀ W, Below wo.heap.size wo W → Calls Try.prog 41 #[.slice y.A y.n y.c] W fun e w' => ∃ v, e = .returned v ∧ OwnI w' W.heap.size v y.xs ∧ Below W.heap.size W w') := Lib.hid fun W hW => cloneI W wo.heap.size y.A y.n y.c y.xs ((ownI_at HYx.out).below hW) hW.size (by have := (ownI_at HYx.out).1; omega)
          clear hd hat hyl hbel
          go_wp2
          clear f0
          go_loopw [2, 15] (fun v iv wq => ∃ (m : Nat) (V : Value) (out : List IR), m ≤ 4 ∧ iv = .int .i64 m ∧ V = v ∧ xsR out = levK j i m ∧ OwnR wq wo.heap.size V out ∧ Below wo.heap.size wo wq) (fun _ iv _ => 4 - (intOf iv).toNat)
          case atStart => exact ⟨0, _, out, by decide, rfl, rfl, HX1.out, HO1.out, HB1.out⟩
          case round =>
            obtain ⟨m, V, out, hm, rfl, rfl, hx, hown, hbel⟩ := hrel
            have HX2 := Lib.hid hx
            have HO2 := Lib.hid hown
            have HB2 := Lib.hid hbel
            have HLo : Hid (out.length ≤ 300) := Lib.hid (by
              have h1 := congrArg List.length hx
              have h2 := levK_len j i m (by omega) (by rw [← HLen.out]; exact hi) hm
              simp only [xsR, List.length_map] at h1
              omega)
            clear hx hown hbel HO1 HX1
            by_cases hmt : m < 4
            · have hmt' : (m : Int) < 4 := by omega
              go_wp2_with fail
              refine (HCl.out _ HB2.out).mono ?_
              rintro e w2 ⟨v3, rfl, ho3, hb2⟩
              have HO3 := Lib.hid ho3
              have HB3 := Lib.hid hb2
              have HO23 := Lib.hid (HO2.out.below hb2)
              have HB23 := Lib.hid (below_on HB2.out hb2)
              clear ho3 hb2
              go_wp2_with (at_builtin; refine wp_appI1 w2 (by rfl) (.tmp 20) (.tmp 22) (by rfl) _ _ _ (by rfl) HO3.out _ (m : Int) (by rfl) 1 (by rfl) (by omega) HB3.out.size ?_)
              rintro v4 w3 ho4 hg4 hat4
              obtain ⟨A4, n4, c4, hv4, -⟩ := ho4.ints
              subst hv4
              have hb3 : Below wr.heap.size wr w3 := HB3.out.grown hg4 HB3.out.size (fun k hk => ownI_lows HO3.out k hk)
              have HO24 := Lib.hid (HO2.out.below hb3)
              have HB24 := Lib.hid (below_on HB2.out hb3)
              have HY4 : Hid (OwnI w3 wo.heap.size (IR.val ⟨A4, n4, c4, y.xs ++ [(m : Int)]⟩) (y.xs ++ [(m : Int)])) := Lib.hid (ownI_lower ho4 HB2.out.size)
              have HAp : Hid (∀ b, (IR.val ⟨A4, n4, c4, y.xs ++ [(m : Int)]⟩).ownBlock = some b → ¬ hasX IRK V out b) := Lib.hid fun b h1 h2 => by
                have h3 := (HO2.out.has_in h2).2
                have h4 := ownI_lows ho4 b h1
                omega
              clear ho4 hg4 hat4 hb3 HO3 HO23 HB23
              go_wp2_with (at_builtin; refine wp_appR w3 (by rfl) (.tmp 18) (.tmp 24) (by rfl) wo.heap.size V out (by rfl) HO24.out ⟨A4, n4, c4, y.xs ++ [(m : Int)]⟩ HY4.out HAp.out _ (by rfl) 1 (by rfl) (by have := HLo.out; omega) HB24.out.size ?_)
              rintro v5 w4 ho5 hg5 hb5
              have HO5 := Lib.hid ho5
              have HB5 := Lib.hid (HB24.out.trans hb5)
              clear ho5 hg5 hb5
              go_wp2
              go_roundw
              case rel => exact ⟨m + 1, v5, out ++ [⟨A4, n4, c4, y.xs ++ [(m : Int)]⟩], by omega, by go_num, rfl, by rw [levK_more j i m HYl.out, ← HX2.out]; simp [xsR], HO5.out, HB5.out⟩
              case measure => simp [intOf]; omega
            · obtain rfl : m = 4 := by omega
              go_wp2
              go_roundw
              case rel => exact ⟨i + 1, V, out, by omega, by go_num, rfl, by rw [HX2.out, levK_next j i HYl.out], HO2.out, HB2.out⟩
              case measure => simp [intOf]; omega
        · obtain rfl : i = rows.length := by omega
          have e : levK j rows.length 0 = lev (j + 1) := by rw [HLen.out]; exact levK_done j
          have HE := Lib.hid e
          clear hbel e
          go_wp2
          go_roundw
          case rel => exact ⟨j + 1, V, out, by omega, by go_num, rfl, by rw [HX1.out, HE.out], HO1.out.low HB.out.size, below_on HB.out HB1.out⟩
          case measure => simp [intOf]; omega
    · obtain rfl : j = 3 := by omega
      have h64 : rows.length = 64 := HLen.out
      obtain ⟨g, rfl⟩ : ∃ g, A = some ⟨g, 0, none⟩ := by
        rcases HO.out.r.row with ⟨e, he⟩ | ⟨g, cap, F, e, _⟩
        · rw [he] at h64; simp at h64
        · injection e with e1 e2 e3
          exact ⟨g, e1⟩
      rw [h64] at hlc
      have HV := HO.out.view
      rw [h64] at HV
      have HV2 := Lib.hid (HV.tail (by decide))
      have HXt : Hid (xsR rows.tail = wl) := Lib.hid (by unfold xsR; rw [List.map_tail]; show (xsR rows).tail = wl; rw [HX.out]; exact lev_three)
      have HCm := Lib.hid hcm
      have hcm' : (c : Int) ≤ 9223372036854775807 := by unfold maxLen at hcm; omega
      have hlc' : (64 : Int) ≤ (c : Int) := by omega
      have h1f : ¬ c = 1 := by omega
      clear HV hcm HO HX
      rw [h64]
      go_wp2
      go_ret
      exact ⟨⟨g, 1, c - 1, rows.tail, rfl, by omega, by have := HCm.out; unfold maxLen at this ⊢; omega, HXt.out, HV2.out⟩, HB.out⟩
end Go.Proofs.Ytceiocdemhkcdaa.num
namespace Go.Proofs.Ytceiocdemhkcdaa.num
set_option maxRecDepth 20000
open Go.RowKit
set_option linter.unusedVariables false
set_option linter.unusedSimpArgs false

/-- A slice in a box. -/
def SlB (w : World) (g : Nat) (v : Value) : Prop := g < w.heap.size ∧ w.cell? ⟨g, 0, none⟩ = some v
theorem SlB.below {w w' : World} {g : Nat} {v : Value} (h : SlB w g v) (hb : Below w.heap.size w w') : SlB w' g v := ⟨Nat.lt_of_lt_of_le h.1 hb.size, (hb.cell (p := ⟨g, 0, none⟩) h.1).trans h.2⟩
theorem SlB.new (w : World) (v : Value) (T : TypeId) : SlB (w.alloc (.cells #[v] T)) w.heap.size v := ⟨by simp, by rw [World.cell?_alloc_at _ _ _ _ rfl]; rfl⟩
theorem keptF_small {ds cs : List Da} (hs : ∀ d ∈ cs, d ∈ ds) (w : List Int) : (keptF ds cs w).Small := by
  have h := keptF_range hs w
  unfold Fr.Small
  omega
set_option maxRecDepth 20000 in
theorem keptC_c (w : World) (B : Nat) (A A' : Option Addr) (n n' c c' : Nat) (its cs : List It) (hi : Items w B A n its) (hi' : Items w B A' n' cs) (hB : B ≤ w.heap.size) (hn : n ≤ 1048576) (hn' : n' ≤ 1048576) (x : IR) (hx : Ints w w.heap.size x.A x.n x.xs) (hx3 : x.n ≤ 1048576) (g1 g2 : Nat) (h1 : SlB w g1 (.slice A n c)) (h2 : SlB w g2 (.slice A' n' c')) :
    Calls Try.prog 75 #[.slice x.A x.n x.c, .pointer (some ⟨g1, 0, none⟩), .pointer (some ⟨g2, 0, none⟩)] w fun e w' => e = .returned (.agg #[.int .i64 (keptF (its.map It.dat) (cs.map It.dat) x.xs).num, .int .i64 (keptF (its.map It.dat) (cs.map It.dat) x.xs).den]) ∧ Below w.heap.size w w' := by
  obtain ⟨w0, hw0⟩ : ∃ w0, w.alloc (.cells #[.int .i64 0, .int .i64 0] 63) = w0 := ⟨_, rfl⟩
  have hb0 : Below w.heap.size w w0 := by subst hw0; exact (Below.refl _ w).alloc (Nat.le_refl _) _
  have HB0 := Lib.hid hb0
  have HF0 : Hid (FrB w0 w.heap.size ⟨0, 0⟩) := Lib.hid (by subst hw0; exact FrB.new w ⟨0, 0⟩)
  have HK := Lib.hid (iKept w0 B A A' n n' c c' its cs (hi.below (hb0.mono hB)) (hi'.below (hb0.mono hB)) (Nat.le_trans hB hb0.size) hn hn' w.heap.size x.A x.n x.c x.xs (hx.below hb0) hb0.size hx3)
  obtain ⟨K, hK⟩ : ∃ K, keptF (its.map It.dat) (cs.map It.dat) x.xs = K := ⟨_, rfl⟩
  rw [hK] at HK ⊢
  obtain ⟨l1, c1⟩ := h1.below hb0
  obtain ⟨l2, c2⟩ := h2.below hb0
  clear hK hi hi' hx hb0 h1 h2
  go_enter Try.func75, Try.ntmps75
  go_upto_region 1 with (fail)
  try rw [hw0]
  clear hw0
  go_wp2_with fail
  refine HK.out.mono ?_
  rintro e w1 ⟨rfl, hb1⟩
  have HB1 := Lib.hid (below_on HB0.out hb1)
  have HF1 := Lib.hid (HF0.out.below hb1)
  clear hb1 HK c1 c2 l1 l2
  obtain ⟨c0, c1, z0, z1⟩ := HF1.out.cells
  go_wp2
  refine bodyPost_ret_by (results_cell_row rfl _ _ w.heap.size 63 _ (0, 0) _ rfl (HF1.out.set K.num K.den) Try.underlying63 rfl (by kernel_rfl)) rfl ?_
  exact ⟨rfl, (HB1.out.setCell (Nat.le_refl _) _).setCell (Nat.le_refl _) _⟩
set_option maxRecDepth 20000 in
set_option maxHeartbeats 1600000 in
theorem iGR (w : World) (B : Nat) (A A' : Option Addr) (n n' c c' : Nat) (its cs : List It) (hi : Items w B A n its) (hi' : Items w B A' n' cs) (hB : B ≤ w.heap.size) (hn : n ≤ 1048576) (hn' : n' ≤ 1048576) (hs : ∀ d ∈ cs.map It.dat, d ∈ its.map It.dat) (R : Rg) (hR : reg (its.map It.dat) (cs.map It.dat) = R) :
    Calls Try.prog 37 #[.slice A n c, .slice A' n' c'] w fun e w' => (∃ v, e = .returned (.tuple #[.agg #[.int .i64 R.num, .int .i64 R.den], v]) ∧ OwnI w' w.heap.size v R.ws) ∧ Below w.heap.size w w' := by
  obtain ⟨wR, hwR⟩ : ∃ wR, ((w.alloc (.cells #[.slice A n c] 24)).alloc (.cells #[.slice A' n' c'] 24)).alloc (.cells #[.int .i64 0, .int .i64 0] 63) = wR := ⟨_, rfl⟩
  have hbR : Below w.heap.size w wR := by subst hwR; exact below3 (Nat.le_refl _) _ _ _
  have HBR := Lib.hid hbR
  have HS1 : Hid (SlB wR w.heap.size (.slice A n c)) := Lib.hid (by subst hwR; exact ((SlB.new w (.slice A n c) _).below ((Below.refl _ _).alloc (Nat.le_refl _) _)).below ((Below.refl _ _).alloc (Nat.le_refl _) _))
  have HS2 : Hid (SlB wR (w.heap.size + 1) (.slice A' n' c')) := Lib.hid (by
    subst hwR
    have h := (SlB.new (w.alloc (.cells #[.slice A n c] 24)) (.slice A' n' c') 24).below ((Below.refl _ _).alloc (Nat.le_refl _) (.cells #[.int .i64 0, .int .i64 0] 63))
    simpa only [World.size_alloc] using h)
  have HF0 : Hid (FrB wR (w.heap.size + 2) ⟨0, 0⟩) := Lib.hid (by
    subst hwR
    have h := FrB.new ((w.alloc (.cells #[.slice A n c] 24)).alloc (.cells #[.slice A' n' c'] 24)) ⟨0, 0⟩
    simpa only [World.size_alloc] using h)
  have HI := Lib.hid (hi.below (hbR.mono hB))
  have HI' := Lib.hid (hi'.below (hbR.mono hB))
  have HHs := Lib.hid hs
  have HR := Lib.hid hR
  clear hi hi' hs hR hbR
  go_enter Try.func37, Try.ntmps37
  go_upto_region 1 with (fail)
  try rw [hwR]
  clear hwR
  go_wp2_with fail
  refine (iWL wR).mono ?_
  rintro e w1 ⟨⟨b, off, c1, rows, rfl, hc1, hcm, hx, hv⟩, hb1⟩
  have HB1 := Lib.hid (below_on HBR.out hb1)
  have HV := Lib.hid hv
  have HX := Lib.hid hx
  have HS11 := Lib.hid (HS1.out.below hb1)
  have HS21 := Lib.hid (HS2.out.below hb1)
  have HF1 := Lib.hid (HF0.out.below hb1)
  have HI1 := Lib.hid (HI.out.below (hb1.mono (Nat.le_trans hB HBR.out.size)))
  have HI1' := Lib.hid (HI'.out.below (hb1.mono (Nat.le_trans hB HBR.out.size)))
  have hBr1 : B ≤ w1.heap.size := Nat.le_trans hB HB1.out.size
  have HrB := Lib.hid HBR.out.size
  have hwt : ∀ x ∈ rows, x.xs.length = 3 := fun x hx' => (wl_ok (by rw [← HX.out]; exact List.mem_map_of_mem hx')).1
  have HL := Lib.hid (iLeastR w1 (some ⟨b, off, none⟩) 63 c1 rows hv.r (by decide) (by decide) hc1 (by omega) (by unfold maxLen at hcm; omega) 75 #[.pointer (some ⟨w.heap.size, 0, none⟩), .pointer (some ⟨w.heap.size + 1, 0, none⟩)]
    (enters_of Try.func75 (by kernel_rfl) rfl) (fun x => keptF (its.map It.dat) (cs.map It.dat) x.xs) (fun x _ => keptF_small HHs.out _)
    (fun W hW x hx' => by
      obtain ⟨k, hk, rfl⟩ := List.getElem_of_mem hx'
      have ho := ownI_below (HV.out.x k _ (List.getElem?_eq_getElem hk)) hW
      exact keptC_c W B A A' n n' c c' its cs (HI1.out.below (hW.mono hBr1)) (HI1'.out.below (hW.mono hBr1)) (Nat.le_trans hBr1 hW.size) hn hn' _ (ownI_at ho) (by have h1 := (ownI_at ho).1; have h2 := hwt _ hx'; omega) w.heap.size (w.heap.size + 1) (HS11.out.below hW) (HS21.out.below hW)))
  clear hx hv hb1 hcm hc1 hwt
  go_wp2_with fail
  refine HL.out.mono ?_
  rintro e w2 ⟨⟨x, hbest, rfl⟩, hb2⟩
  have hxm := bestF_mem _ _ hbest
  have hreg := keep_reg HHs.out (v := x.xs) (by rw [← HX.out]; unfold xsR; rw [← bestF_map]; rw [hbest]; rfl)
  have hkr := keptF_range HHs.out x.xs
  rw [HR.out] at hreg
  obtain ⟨K, hK⟩ : ∃ K, keptF (its.map It.dat) (cs.map It.dat) x.xs = K := ⟨_, rfl⟩
  rw [hK] at hreg hkr
  rw [hK]
  have HOx : Hid (OwnI w2 wR.heap.size x.val x.xs) := Lib.hid (by
    obtain ⟨k, hk, rfl⟩ := List.getElem_of_mem hxm
    exact ownI_below (HV.out.x k _ (List.getElem?_eq_getElem hk)) hb2)
  have HB2 := Lib.hid (below_on HB1.out hb2)
  have HF2 := Lib.hid (HF1.out.below hb2)
  clear hbest hxm hK hb2 HL
  have HBa : Hid (∀ o : Obj, Below w.heap.size w (w2.alloc o)) := Lib.hid fun o => HB2.out.alloc HB2.out.size _
  have HFa : Hid (∀ o : Obj, FrB (w2.alloc o) (w.heap.size + 2) ⟨0, 0⟩) := Lib.hid fun o => HF2.out.below ((Below.refl _ _).alloc (Nat.le_refl _) _)
  have HOa : Hid (∀ o : Obj, OwnI (w2.alloc o) wR.heap.size x.val x.xs) := Lib.hid fun o => ownI_below HOx.out ((Below.refl _ _).alloc (Nat.le_refl _) _)
  obtain ⟨w3, hw3⟩ : ∃ w3, w2.alloc (.cells #[.int .i64 K.num, .int .i64 K.den] 63) = w3 := ⟨_, rfl⟩
  have HB3 : Hid (Below w.heap.size w w3) := Lib.hid (by rw [← hw3]; exact HBa.out _)
  have HF3 : Hid (FrB w3 (w.heap.size + 1 + 1) ⟨0, 0⟩) := Lib.hid (by rw [← hw3]; exact HFa.out _)
  have HO3 : Hid (OwnI w3 wR.heap.size x.val x.xs) := Lib.hid (by rw [← hw3]; exact HOa.out _)
  have HK3 : Hid (FrB w3 w2.heap.size K) := Lib.hid (by rw [← hw3]; exact FrB.new w2 K)
  clear HBa HFa HOa
  go_upto_region 2 with (fail)
  clear hw3
  obtain ⟨k0, k1, -, -⟩ := HK3.out.cells
  obtain ⟨c0, c1', z0, z1⟩ := HF3.out.cells
  have HLt := Lib.hid HF0.out.lt
  have HRg := Lib.hid hreg
  clear hreg
  rcases HRg.out with ⟨h0, hRR⟩ | ⟨h0, hRR⟩
  · subst hRR
    have hd : ((K.den - K.num) == 0) = true := by simpa using h0
    go_wp2
    refine bodyPost_ret_by (results_row_tmp rfl _ _ (w.heap.size + 1 + 1) 63 _ (0, 0) _ rfl (HF3.out.set 0 1) Try.underlying63 rfl (by kernel_rfl)) rfl ?_
    exact ⟨⟨_, rfl, ownI_nil _ _⟩, (HB3.out.setCell (p := ⟨w.heap.size + 1 + 1, 0, none⟩) (by show _ ≤ w.heap.size + 1 + 1; omega) _).setCell (p := ⟨w.heap.size + 1 + 1, 1, none⟩) (by show _ ≤ w.heap.size + 1 + 1; omega) _⟩
  · subst hRR
    have hd : ((K.den - K.num) == 0) = false := by simpa using h0
    go_wp2
    refine bodyPost_ret_by (results_row_tmp rfl _ _ (w.heap.size + 1 + 1) 63 _ (0, 0) _ rfl (HF3.out.set (K.den - K.num) K.den) Try.underlying63 rfl (by kernel_rfl)) rfl ?_
    exact ⟨⟨_, rfl, ownI_lower (ownI_blocks HO3.out fun k hk => by
      have h1 := ownI_lows HO3.out k hk
      have h2 := HLt.out
      have hne : k ≠ w.heap.size + 1 + 1 := by omega
      rw [heap_setCell_other _ _ _ _ hne, heap_setCell_other _ _ _ _ hne]) HrB.out⟩, (HB3.out.setCell (p := ⟨w.heap.size + 1 + 1, 0, none⟩) (by show _ ≤ w.heap.size + 1 + 1; omega) _).setCell (p := ⟨w.heap.size + 1 + 1, 1, none⟩) (by show _ ≤ w.heap.size + 1 + 1; omega) _⟩
end Go.Proofs.Ytceiocdemhkcdaa.num
namespace Go.Proofs.Ytceiocdemhkcdaa.num
set_option maxRecDepth 20000
open Go.RowKit
set_option linter.unusedSimpArgs false

/-- IsItem in a world that still bears what held of w0 below its end. -/
theorem iIsItem_in (w0 w : World) (B : Nat) (t : It) (hi : Ints w0 B t.A t.n t.xs) (hB : B ≤ w0.heap.size) (hw : Below w0.heap.size w0 w) (b : Bool) (hb : b = true ↔ IsP t.dat) :
    Calls Try.prog 63 #[t.val] w fun e w' => e = .returned (.bool b) ∧ Below w0.heap.size w0 w' :=
  (iIsItem w B t (hi.below (hw.mono hB)) (Nat.le_trans hB hw.size) b hb).mono fun _ _ ⟨he, h⟩ => ⟨he, hw.trans (h.mono hw.size)⟩

set_option maxRecDepth 20000 in
set_option maxHeartbeats 1600000 in
theorem iAre (w : World) (B : Nat) (A : Option Addr) (n c : Nat) (its : List It) (hi : Items w B A n its) (hB : B ≤ w.heap.size) (b : Bool) (hb : b = true ↔ AreP (its.map It.dat)) :
    Calls Try.prog 35 #[.slice A n c] w fun e w' => e = .returned (.bool b) ∧ Below w.heap.size w w' := by
  by_cases hn : n ≤ 16
  case neg =>
    obtain rfl : b = false := by
      cases b
      · rfl
      · have := (hb.1 rfl).2.2
        rw [List.length_map, hi.1] at this
        exact absurd this hn
    clear hi hb
    have hgt : (16 : Int) < (n : Int) := by omega
    go_enter Try.func35, Try.ntmps35
    go_wp2
    go_ret
    exact ⟨rfl, Below.refl _ _⟩
  have HX := Lib.hid hi
  have HBo := Lib.hid hb
  clear hi hb
  have hle16 : ¬ ((16 : Int) < (n : Int)) := by omega
  go_enter Try.func35, Try.ntmps35
  go_wp2
  clear hle16
  go_loopw [10] (fun i wr => ∃ k : Nat, k ≤ n ∧ i = .int .i64 k ∧ (∀ t ∈ its.take k, IsP t.dat) ∧ Rise ((its.map It.dat).map (·.1)) k ∧ Below w.heap.size w wr) (fun i _ => n - (intOf i).toNat)
  case atStart => exact ⟨0, Nat.zero_le _, rfl, by simp, Rise.zero _, Below.refl _ _⟩
  case round =>
    obtain ⟨k, hk, rfl, hall, hrise, hbel⟩ := hrel
    have HA := Lib.hid hall
    have HR := Lib.hid hrise
    have HB := Lib.hid hbel
    clear hall hrise
    by_cases hlt : k < n
    · obtain ⟨b1, off, t, hA1, hb1, hat, hc1, hd1, hx⟩ := HX.out.at k hlt
      have f1 := (hbel.cell (p := ⟨b1, off + k * 2, none⟩) (by exact Nat.lt_of_lt_of_le hb1 hB)).trans hc1
      have f2 := (hbel.cell (p := ⟨b1, off + k * 2 + 1, none⟩) (by exact Nat.lt_of_lt_of_le hb1 hB)).trans hd1
      have HI0 := Lib.hid hx
      have HAt := Lib.hid hat
      have hsz0 := Lib.hid hbel.size
      have hlt' : (k : Int) < (n : Int) := by omega
      obtain ⟨q, hq⟩ := bool_of (IsP t.dat)
      have HQ := Lib.hid hq
      clear hc1 hd1 hx hat hq
      cases q
      · have HF : Hid (b = false) := by
          show _ = _
          cases b
          · rfl
          · exact absurd ((HBo.out.1 rfl).1 _ (dat_mem HAt.out)) (fun h => by have := HQ.out.2 h; cases this)
        subst hA1
        clear hbel
        go_wp2
        generalize hW : World.alloc wr _ = wg
        obtain ⟨g, hgw⟩ : ∃ g, g = wr.heap.size := ⟨_, rfl⟩
        rw [← hgw]
        have HBg : Hid (Below w.heap.size w wg) := Lib.hid (by subst hW; exact HB.out.alloc hsz0.out _)
        have hrow : wg.heap[g]? = some (.cells #[.int .i64 t.id, .slice t.A t.n t.c] 43 (0, 0)) := by subst hW hgw; exact heap_alloc_new wr _
        have hg : g < wg.heap.size := lt_of_block hrow
        have hsz : Hid (w.heap.size ≤ wg.heap.size) := Lib.hid HBg.out.size
        have HI := Lib.hid (HI0.out.below (HBg.out.mono hB))
        have e0 : wg.cell? ⟨g, 0, none⟩ = some (.int .i64 t.id) := cell_of_row wg _ 0 _ _ (0, 0) hrow
        have e1 : wg.cell? ⟨g, 1, none⟩ = some (.slice t.A t.n t.c) := cell_of_row wg _ 1 _ _ (0, 0) hrow
        clear hW hgw hrow
        have hs0 : Below wg.heap.size wg wg.drew ∧ wg.drew.cell? ⟨g, 0, none⟩ = some (.int .i64 t.id) ∧ wg.drew.cell? ⟨g, 1, none⟩ = some (.slice t.A t.n t.c) := ⟨(Below.refl _ _).drew, e0, e1⟩
        refine wp_region_held (S := fun w' => Below wg.heap.size wg w' ∧ w'.cell? ⟨g, 0, none⟩ = some (.int .i64 t.id) ∧ w'.cell? ⟨g, 1, none⟩ = some (.slice t.A t.n t.c)) (by kernel_rfl) ?_
        change wpAnyH _ _ _ _ _ _ _ _ (World.drew _)
        refine takeY 15 (i := 0) (v := ?v0a) rfl rfl (by kernel_rfl) (by kernel_rfl) (by kernel_rfl) (fun _ _ _ h => h) (by kernel_rfl) ?y0a hs0 ?_
        case y0a =>
          intro w' hw'; (try dsimp only at hw'); obtain ⟨x0, x1, x2⟩ := hw'; go_simp; try with_reducible rfl
        simp only [Act.put, List.setIfInBounds_toArray, List.set_cons_zero, List.set_cons_succ]
        refine wpAnyH_ready (rs := [1]) (by kernel_rfl) (by simp) ?_
        refine AllReadyH.cons rfl (fun K hK => ?_) AllReadyH.nil
        go_simp; go_at_call 63; refine (iIsItem_in wg _ B t HI.out (Nat.le_trans hB hsz.out) (Below.refl _ _).drew false HQ.out).mono ?_; rintro e w3 ⟨rfl, hb3⟩
        refine hK.out _ _ ⟨hb3, (hb3.cell (p := ⟨g, 0, none⟩) hg).trans e0, (hb3.cell (p := ⟨g, 1, none⟩) hg).trans e1⟩ (fun hS1 => ?_)
        clear hK K
        try simp only [Act.put, List.setIfInBounds_toArray, List.set_cons_zero, List.set_cons_succ]
        refine takeY 17 (i := 2) (v := ?v2a) rfl rfl (by kernel_rfl) (by kernel_rfl) (by kernel_rfl) (fun _ _ _ h => h) (by kernel_rfl) ?y2a hS1 ?_
        case y2a =>
          intro w' hw'; (try dsimp only at hw'); obtain ⟨x0, x1, x2⟩ := hw'; go_simp; try with_reducible rfl
        simp only [Act.put, List.setIfInBounds_toArray, List.set_cons_zero, List.set_cons_succ]
        refine takeY 18 (i := 3) (v := ?v3a) rfl rfl (by kernel_rfl) (by kernel_rfl) (by kernel_rfl) (fun _ _ _ h => h) (by kernel_rfl) ?y3a hS1 ?_
        case y3a =>
          intro w' hw'; (try dsimp only at hw'); obtain ⟨x0, x1, x2⟩ := hw'; go_simp; try with_reducible rfl
        simp only [Act.put, List.setIfInBounds_toArray, List.set_cons_zero, List.set_cons_succ]
        refine takeU 19 (i := 4) rfl rfl (by kernel_rfl) (by kernel_rfl) (by kernel_rfl) (fun _ _ _ h => h) (by kernel_rfl) hS1 ?_
        simp only [Act.put, List.setIfInBounds_toArray, List.set_cons_zero, List.set_cons_succ]
        refine takeU 20 (i := 5) rfl rfl (by kernel_rfl) (by kernel_rfl) (by kernel_rfl) (fun _ _ _ h => h) (by kernel_rfl) hS1 ?_
        simp only [Act.put, List.setIfInBounds_toArray, List.set_cons_zero, List.set_cons_succ]
        refine takeU 21 (i := 6) rfl rfl (by kernel_rfl) (by kernel_rfl) (by kernel_rfl) (fun _ _ _ h => h) (by kernel_rfl) hS1 ?_
        simp only [Act.put, List.setIfInBounds_toArray, List.set_cons_zero, List.set_cons_succ]
        refine takeU 22 (i := 7) rfl rfl (by kernel_rfl) (by kernel_rfl) (by kernel_rfl) (fun _ _ _ h => h) (by kernel_rfl) hS1 ?_
        simp only [Act.put, List.setIfInBounds_toArray, List.set_cons_zero, List.set_cons_succ]
        refine takeU 23 (i := 8) rfl rfl (by kernel_rfl) (by kernel_rfl) (by kernel_rfl) (fun _ _ _ h => h) (by kernel_rfl) hS1 ?_
        simp only [Act.put, List.setIfInBounds_toArray, List.set_cons_zero, List.set_cons_succ]
        refine takeU 24 (i := 9) rfl rfl (by kernel_rfl) (by kernel_rfl) (by kernel_rfl) (fun _ _ _ h => h) (by kernel_rfl) hS1 ?_
        simp only [Act.put, List.setIfInBounds_toArray, List.set_cons_zero, List.set_cons_succ]
        refine takeU 25 (i := 10) rfl rfl (by kernel_rfl) (by kernel_rfl) (by kernel_rfl) (fun _ _ _ h => h) (by kernel_rfl) hS1 ?_
        simp only [Act.put, List.setIfInBounds_toArray, List.set_cons_zero, List.set_cons_succ]
        refine takeU 26 (i := 11) rfl rfl (by kernel_rfl) (by kernel_rfl) (by kernel_rfl) (fun _ _ _ h => h) (by kernel_rfl) hS1 ?_
        simp only [Act.put, List.setIfInBounds_toArray, List.set_cons_zero, List.set_cons_succ]
        refine takeU 27 (i := 12) rfl rfl (by kernel_rfl) (by kernel_rfl) (by kernel_rfl) (fun _ _ _ h => h) (by kernel_rfl) hS1 ?_
        simp only [Act.put, List.setIfInBounds_toArray, List.set_cons_zero, List.set_cons_succ]
        refine takeU 28 (i := 13) rfl rfl (by kernel_rfl) (by kernel_rfl) (by kernel_rfl) (fun _ _ _ h => h) (by kernel_rfl) hS1 ?_
        simp only [Act.put, List.setIfInBounds_toArray, List.set_cons_zero, List.set_cons_succ]
        refine takeU 29 (i := 14) rfl rfl (by kernel_rfl) (by kernel_rfl) (by kernel_rfl) (fun _ _ _ h => h) (by kernel_rfl) hS1 ?_
        simp only [Act.put, List.setIfInBounds_toArray, List.set_cons_zero, List.set_cons_succ]
        refine takeU 30 (i := 15) rfl rfl (by kernel_rfl) (by kernel_rfl) (by kernel_rfl) (fun _ _ _ h => h) (by kernel_rfl) hS1 ?_
        simp only [Act.put, List.setIfInBounds_toArray, List.set_cons_zero, List.set_cons_succ]
        refine takeU 31 (i := 16) rfl rfl (by kernel_rfl) (by kernel_rfl) (by kernel_rfl) (fun _ _ _ h => h) (by kernel_rfl) hS1 ?_
        simp only [Act.put, List.setIfInBounds_toArray, List.set_cons_zero, List.set_cons_succ]
        refine takeY 32 (i := 17) (v := ?v17a) rfl rfl (by kernel_rfl) (by kernel_rfl) (by kernel_rfl) (fun _ _ _ h => h) (by kernel_rfl) ?y17a hS1 ?_
        case y17a =>
          intro w' hw'; (try dsimp only at hw'); obtain ⟨x0, x1, x2⟩ := hw'; go_simp; try with_reducible rfl
        simp only [Act.put, List.setIfInBounds_toArray, List.set_cons_zero, List.set_cons_succ]
        refine wpAnyH_done (by kernel_rfl) ?_ _
        go_wp2
        go_ret
        exact ⟨HF.out.symm ▸ rfl, HBg.out.trans (hb3.mono hsz.out)⟩
      · have HD := Lib.hid (HQ.out.1 rfl)
        rcases Nat.eq_zero_or_pos k with h0 | h0
        · have HK := Lib.hid h0
          subst hA1
          clear hbel h0
          go_wp2
          generalize hW : World.alloc wr _ = wg
          obtain ⟨g, hgw⟩ : ∃ g, g = wr.heap.size := ⟨_, rfl⟩
          rw [← hgw]
          have HBg : Hid (Below w.heap.size w wg) := Lib.hid (by subst hW; exact HB.out.alloc hsz0.out _)
          have hrow : wg.heap[g]? = some (.cells #[.int .i64 t.id, .slice t.A t.n t.c] 43 (0, 0)) := by subst hW hgw; exact heap_alloc_new wr _
          have hg : g < wg.heap.size := lt_of_block hrow
          have hsz : Hid (w.heap.size ≤ wg.heap.size) := Lib.hid HBg.out.size
          have HI := Lib.hid (HI0.out.below (HBg.out.mono hB))
          have e0 : wg.cell? ⟨g, 0, none⟩ = some (.int .i64 t.id) := cell_of_row wg _ 0 _ _ (0, 0) hrow
          have e1 : wg.cell? ⟨g, 1, none⟩ = some (.slice t.A t.n t.c) := cell_of_row wg _ 1 _ _ (0, 0) hrow
          clear hW hgw hrow
          have hk0 : decide (0 < k) = false := decide_eq_false (by have := HK.out; omega)
          have hs0 : Below wg.heap.size wg wg.drew ∧ wg.drew.cell? ⟨g, 0, none⟩ = some (.int .i64 t.id) ∧ wg.drew.cell? ⟨g, 1, none⟩ = some (.slice t.A t.n t.c) := ⟨(Below.refl _ _).drew, e0, e1⟩
          refine wp_region_held (S := fun w' => Below wg.heap.size wg w' ∧ w'.cell? ⟨g, 0, none⟩ = some (.int .i64 t.id) ∧ w'.cell? ⟨g, 1, none⟩ = some (.slice t.A t.n t.c)) (by kernel_rfl) ?_
          change wpAnyH _ _ _ _ _ _ _ _ (World.drew _)
          refine takeY 15 (i := 0) (v := ?v0b) rfl rfl (by kernel_rfl) (by kernel_rfl) (by kernel_rfl) (fun _ _ _ h => h) (by kernel_rfl) ?y0b hs0 ?_
          case y0b =>
            intro w' hw'; (try dsimp only at hw'); obtain ⟨x0, x1, x2⟩ := hw'; go_simp; try with_reducible rfl
          simp only [Act.put, List.setIfInBounds_toArray, List.set_cons_zero, List.set_cons_succ]
          refine wpAnyH_ready (rs := [1]) (by kernel_rfl) (by simp) ?_
          refine AllReadyH.cons rfl (fun K hK => ?_) AllReadyH.nil
          go_simp; go_at_call 63; refine (iIsItem_in wg _ B t HI.out (Nat.le_trans hB hsz.out) (Below.refl _ _).drew true ⟨fun _ => HD.out, fun _ => rfl⟩).mono ?_; rintro e w3 ⟨rfl, hb3⟩
          refine hK.out _ _ ⟨hb3, (hb3.cell (p := ⟨g, 0, none⟩) hg).trans e0, (hb3.cell (p := ⟨g, 1, none⟩) hg).trans e1⟩ (fun hS1 => ?_)
          clear hK K
          try simp only [Act.put, List.setIfInBounds_toArray, List.set_cons_zero, List.set_cons_succ]
          refine takeY 17 (i := 2) (v := ?v2b) rfl rfl (by kernel_rfl) (by kernel_rfl) (by kernel_rfl) (fun _ _ _ h => h) (by kernel_rfl) ?y2b hS1 ?_
          case y2b =>
            intro w' hw'; (try dsimp only at hw'); obtain ⟨x0, x1, x2⟩ := hw'; go_simp; try with_reducible rfl
          simp only [Act.put, List.setIfInBounds_toArray, List.set_cons_zero, List.set_cons_succ]
          refine takeY 18 (i := 3) (v := ?v3b) rfl rfl (by kernel_rfl) (by kernel_rfl) (by kernel_rfl) (fun _ _ _ h => h) (by kernel_rfl) ?y3b hS1 ?_
          case y3b =>
            intro w' hw'; (try dsimp only at hw'); obtain ⟨x0, x1, x2⟩ := hw'; go_simp; try with_reducible rfl
          simp only [Act.put, List.setIfInBounds_toArray, List.set_cons_zero, List.set_cons_succ]
          refine takeY 19 (i := 4) (v := ?v4b) rfl rfl (by kernel_rfl) (by kernel_rfl) (by kernel_rfl) (fun _ _ _ h => h) (by kernel_rfl) ?y4b hS1 ?_
          case y4b =>
            intro w' hw'; (try dsimp only at hw'); obtain ⟨x0, x1, x2⟩ := hw'; go_simp; try with_reducible rfl
          simp only [Act.put, List.setIfInBounds_toArray, List.set_cons_zero, List.set_cons_succ]
          refine takeY 20 (i := 5) (v := ?v5b) rfl rfl (by kernel_rfl) (by kernel_rfl) (by kernel_rfl) (fun _ _ _ h => h) (by kernel_rfl) ?y5b hS1 ?_
          case y5b =>
            intro w' hw'; (try dsimp only at hw'); obtain ⟨x0, x1, x2⟩ := hw'; go_simp; try with_reducible rfl
          simp only [Act.put, List.setIfInBounds_toArray, List.set_cons_zero, List.set_cons_succ]
          refine takeY 21 (i := 6) (v := ?v6b) rfl rfl (by kernel_rfl) (by kernel_rfl) (by kernel_rfl) (fun _ _ _ h => h) (by kernel_rfl) ?y6b hS1 ?_
          case y6b =>
            intro w' hw'; (try dsimp only at hw'); obtain ⟨x0, x1, x2⟩ := hw'; go_simp; try with_reducible rfl
          simp only [Act.put, List.setIfInBounds_toArray, List.set_cons_zero, List.set_cons_succ]
          refine takeU 22 (i := 7) rfl rfl (by kernel_rfl) (by kernel_rfl) (by kernel_rfl) (fun _ _ _ h => h) (by kernel_rfl) hS1 ?_
          simp only [Act.put, List.setIfInBounds_toArray, List.set_cons_zero, List.set_cons_succ]
          refine takeU 23 (i := 8) rfl rfl (by kernel_rfl) (by kernel_rfl) (by kernel_rfl) (fun _ _ _ h => h) (by kernel_rfl) hS1 ?_
          simp only [Act.put, List.setIfInBounds_toArray, List.set_cons_zero, List.set_cons_succ]
          refine takeU 24 (i := 9) rfl rfl (by kernel_rfl) (by kernel_rfl) (by kernel_rfl) (fun _ _ _ h => h) (by kernel_rfl) hS1 ?_
          simp only [Act.put, List.setIfInBounds_toArray, List.set_cons_zero, List.set_cons_succ]
          refine takeU 25 (i := 10) rfl rfl (by kernel_rfl) (by kernel_rfl) (by kernel_rfl) (fun _ _ _ h => h) (by kernel_rfl) hS1 ?_
          simp only [Act.put, List.setIfInBounds_toArray, List.set_cons_zero, List.set_cons_succ]
          refine takeU 26 (i := 11) rfl rfl (by kernel_rfl) (by kernel_rfl) (by kernel_rfl) (fun _ _ _ h => h) (by kernel_rfl) hS1 ?_
          simp only [Act.put, List.setIfInBounds_toArray, List.set_cons_zero, List.set_cons_succ]
          refine takeU 27 (i := 12) rfl rfl (by kernel_rfl) (by kernel_rfl) (by kernel_rfl) (fun _ _ _ h => h) (by kernel_rfl) hS1 ?_
          simp only [Act.put, List.setIfInBounds_toArray, List.set_cons_zero, List.set_cons_succ]
          refine takeU 28 (i := 13) rfl rfl (by kernel_rfl) (by kernel_rfl) (by kernel_rfl) (fun _ _ _ h => h) (by kernel_rfl) hS1 ?_
          simp only [Act.put, List.setIfInBounds_toArray, List.set_cons_zero, List.set_cons_succ]
          refine takeU 29 (i := 14) rfl rfl (by kernel_rfl) (by kernel_rfl) (by kernel_rfl) (fun _ _ _ h => h) (by kernel_rfl) hS1 ?_
          simp only [Act.put, List.setIfInBounds_toArray, List.set_cons_zero, List.set_cons_succ]
          refine takeU 30 (i := 15) rfl rfl (by kernel_rfl) (by kernel_rfl) (by kernel_rfl) (fun _ _ _ h => h) (by kernel_rfl) hS1 ?_
          simp only [Act.put, List.setIfInBounds_toArray, List.set_cons_zero, List.set_cons_succ]
          refine takeY 31 (i := 16) (v := ?v16b) rfl rfl (by kernel_rfl) (by kernel_rfl) (by kernel_rfl) (fun _ _ _ h => h) (by kernel_rfl) ?y16b hS1 ?_
          case y16b =>
            intro w' hw'; (try dsimp only at hw'); obtain ⟨x0, x1, x2⟩ := hw'; go_simp; try with_reducible rfl
          simp only [Act.put, List.setIfInBounds_toArray, List.set_cons_zero, List.set_cons_succ]
          refine takeY 32 (i := 17) (v := ?v17b) rfl rfl (by kernel_rfl) (by kernel_rfl) (by kernel_rfl) (fun _ _ _ h => h) (by kernel_rfl) ?y17b hS1 ?_
          case y17b =>
            intro w' hw'; (try dsimp only at hw'); obtain ⟨x0, x1, x2⟩ := hw'; go_simp; try with_reducible rfl
          simp only [Act.put, List.setIfInBounds_toArray, List.set_cons_zero, List.set_cons_succ]
          refine wpAnyH_done (by kernel_rfl) ?_ _
          clear hk0
          go_wp2
          go_roundw
          case rel => exact ⟨k + 1, by omega, by go_num, are_step HAt.out HA.out HD.out, HR.out.step (fun h0 => absurd h0 (by have := HK.out; omega)), HBg.out.trans (hb3.mono hsz.out)⟩
          case measure => simp [intOf]; omega
        · obtain ⟨j, hj⟩ : ∃ j, j + 1 = k := ⟨k - 1, by omega⟩
          obtain ⟨b2, off2, t0, hA2, hb2, hat2, hc2, _, _⟩ := HX.out.at j (by omega)
          obtain ⟨rfl, rfl⟩ : b1 = b2 ∧ off = off2 := by rw [hA1] at hA2; injection hA2 with h; injection h with h1 h2; exact ⟨h1, h2⟩
          have F3 := Lib.hid hc2
          have HAt0 := Lib.hid hat2
          have HJ := Lib.hid hj
          have HK0 : Hid ((0 : Int) < (k : Int)) := by show _ < _; omega
          have hkj : (k : Int) - 1 = (j : Int) := by omega
          have hkw : IntKind.i64.wrap ((k : Int) - 1) = (j : Int) := by rw [hkj]; exact IntWalk.i64_in _ ⟨by omega, by omega⟩
          have hjw : IntKind.i64.wrap (j : Int) = (j : Int) := IntWalk.i64_in _ ⟨by omega, by omega⟩
          have hjn : (j : Int) < (n : Int) := by omega
          have hjn' : j < n := by omega
          subst hA1
          clear hbel h0 hj hc2 hat2 hA2
          have HLt : Hid (((its.map It.dat).map (·.1)).getD (k - 1) 0 = t0.id ∧ ((its.map It.dat).map (·.1)).getD k 0 = t.id) := by
            refine ⟨?_, id_at HAt.out⟩
            rw [show k - 1 = j by have := HJ.out; omega]
            exact id_at HAt0.out
          by_cases hle : t.id ≤ t0.id
          · have HF : Hid (b = false) := by
              show _ = _
              cases b
              · rfl
              · have hr := (HBo.out.1 rfl).2.1 k (by omega) (by rw [List.length_map, HX.out.1]; exact hlt)
                rw [HLt.out.1, HLt.out.2] at hr
                omega
            go_wp2
            generalize hW : World.alloc wr _ = wg
            obtain ⟨g, hgw⟩ : ∃ g, g = wr.heap.size := ⟨_, rfl⟩
            rw [← hgw]
            have HBg : Hid (Below w.heap.size w wg) := Lib.hid (by subst hW; exact HB.out.alloc hsz0.out _)
            have hrow : wg.heap[g]? = some (.cells #[.int .i64 t.id, .slice t.A t.n t.c] 43 (0, 0)) := by subst hW hgw; exact heap_alloc_new wr _
            have hg : g < wg.heap.size := lt_of_block hrow
            have hsz : Hid (w.heap.size ≤ wg.heap.size) := Lib.hid HBg.out.size
            have HI := Lib.hid (HI0.out.below (HBg.out.mono hB))
            have e0 : wg.cell? ⟨g, 0, none⟩ = some (.int .i64 t.id) := cell_of_row wg _ 0 _ _ (0, 0) hrow
            have e1 : wg.cell? ⟨g, 1, none⟩ = some (.slice t.A t.n t.c) := cell_of_row wg _ 1 _ _ (0, 0) hrow
            have hb1g : b1 < wg.heap.size := by have := hsz.out; omega
            have f3 : wg.cell? ⟨b1, off + j * 2, none⟩ = some (.int .i64 t0.id) := by
              have h := F3.out
              exact (HBg.out.cell (p := ⟨b1, off + j * 2, none⟩) (by exact Nat.lt_of_lt_of_le hb1 hB)).trans h
            clear hW hgw hrow
            have hk0 : decide (0 < k) = true := decide_eq_true (by have := HK0.out; omega)
            have hs0 : Below wg.heap.size wg wg.drew ∧ wg.drew.cell? ⟨g, 0, none⟩ = some (.int .i64 t.id) ∧ wg.drew.cell? ⟨g, 1, none⟩ = some (.slice t.A t.n t.c) ∧ wg.drew.cell? ⟨b1, off + j * 2, none⟩ = some (.int .i64 t0.id) := ⟨(Below.refl _ _).drew, e0, e1, f3⟩
            refine wp_region_held (S := fun w' => Below wg.heap.size wg w' ∧ w'.cell? ⟨g, 0, none⟩ = some (.int .i64 t.id) ∧ w'.cell? ⟨g, 1, none⟩ = some (.slice t.A t.n t.c) ∧ w'.cell? ⟨b1, off + j * 2, none⟩ = some (.int .i64 t0.id)) (by kernel_rfl) ?_
            change wpAnyH _ _ _ _ _ _ _ _ (World.drew _)
            refine takeY 15 (i := 0) (v := ?v0c) rfl rfl (by kernel_rfl) (by kernel_rfl) (by kernel_rfl) (fun _ _ _ h => h) (by kernel_rfl) ?y0c hs0 ?_
            case y0c =>
              intro w' hw'; (try dsimp only at hw'); obtain ⟨x0, x1, x2, x3⟩ := hw'; go_simp; try with_reducible rfl
            simp only [Act.put, List.setIfInBounds_toArray, List.set_cons_zero, List.set_cons_succ]
            refine wpAnyH_ready (rs := [1]) (by kernel_rfl) (by simp) ?_
            refine AllReadyH.cons rfl (fun K hK => ?_) AllReadyH.nil
            go_simp; go_at_call 63; refine (iIsItem_in wg _ B t HI.out (Nat.le_trans hB hsz.out) (Below.refl _ _).drew true ⟨fun _ => HD.out, fun _ => rfl⟩).mono ?_; rintro e w3 ⟨rfl, hb3⟩
            refine hK.out _ _ ⟨hb3, (hb3.cell (p := ⟨g, 0, none⟩) hg).trans e0, (hb3.cell (p := ⟨g, 1, none⟩) hg).trans e1, (hb3.cell (p := ⟨b1, off + j * 2, none⟩) hb1g).trans f3⟩ (fun hS1 => ?_)
            clear hK K
            try simp only [Act.put, List.setIfInBounds_toArray, List.set_cons_zero, List.set_cons_succ]
            refine takeY 17 (i := 2) (v := ?v2c) rfl rfl (by kernel_rfl) (by kernel_rfl) (by kernel_rfl) (fun _ _ _ h => h) (by kernel_rfl) ?y2c hS1 ?_
            case y2c =>
              intro w' hw'; (try dsimp only at hw'); obtain ⟨x0, x1, x2, x3⟩ := hw'; go_simp; try with_reducible rfl
            simp only [Act.put, List.setIfInBounds_toArray, List.set_cons_zero, List.set_cons_succ]
            refine takeY 18 (i := 3) (v := ?v3c) rfl rfl (by kernel_rfl) (by kernel_rfl) (by kernel_rfl) (fun _ _ _ h => h) (by kernel_rfl) ?y3c hS1 ?_
            case y3c =>
              intro w' hw'; (try dsimp only at hw'); obtain ⟨x0, x1, x2, x3⟩ := hw'; go_simp; try with_reducible rfl
            simp only [Act.put, List.setIfInBounds_toArray, List.set_cons_zero, List.set_cons_succ]
            refine takeY 19 (i := 4) (v := ?v4c) rfl rfl (by kernel_rfl) (by kernel_rfl) (by kernel_rfl) (fun _ _ _ h => h) (by kernel_rfl) ?y4c hS1 ?_
            case y4c =>
              intro w' hw'; (try dsimp only at hw'); obtain ⟨x0, x1, x2, x3⟩ := hw'; go_simp; try with_reducible rfl
            simp only [Act.put, List.setIfInBounds_toArray, List.set_cons_zero, List.set_cons_succ]
            refine takeY 20 (i := 5) (v := ?v5c) rfl rfl (by kernel_rfl) (by kernel_rfl) (by kernel_rfl) (fun _ _ _ h => h) (by kernel_rfl) ?y5c hS1 ?_
            case y5c =>
              intro w' hw'; (try dsimp only at hw'); obtain ⟨x0, x1, x2, x3⟩ := hw'; go_simp; try with_reducible rfl
            simp only [Act.put, List.setIfInBounds_toArray, List.set_cons_zero, List.set_cons_succ]
            refine takeY 21 (i := 6) (v := ?v6c) rfl rfl (by kernel_rfl) (by kernel_rfl) (by kernel_rfl) (fun _ _ _ h => h) (by kernel_rfl) ?y6c hS1 ?_
            case y6c =>
              intro w' hw'; (try dsimp only at hw'); obtain ⟨x0, x1, x2, x3⟩ := hw'; go_simp; try with_reducible rfl
            simp only [Act.put, List.setIfInBounds_toArray, List.set_cons_zero, List.set_cons_succ]
            refine takeY 22 (i := 7) (v := ?v7c) rfl rfl (by kernel_rfl) (by kernel_rfl) (by kernel_rfl) (fun _ _ _ h => h) (by kernel_rfl) ?y7c hS1 ?_
            case y7c =>
              intro w' hw'; (try dsimp only at hw'); obtain ⟨x0, x1, x2, x3⟩ := hw'; go_simp; try with_reducible rfl
            simp only [Act.put, List.setIfInBounds_toArray, List.set_cons_zero, List.set_cons_succ]
            refine takeY 23 (i := 8) (v := ?v8c) rfl rfl (by kernel_rfl) (by kernel_rfl) (by kernel_rfl) (fun _ _ _ h => h) (by kernel_rfl) ?y8c hS1 ?_
            case y8c =>
              intro w' hw'; (try dsimp only at hw'); obtain ⟨x0, x1, x2, x3⟩ := hw'; go_simp; try with_reducible rfl
            simp only [Act.put, List.setIfInBounds_toArray, List.set_cons_zero, List.set_cons_succ]
            refine takeY 24 (i := 9) (v := ?v9c) rfl rfl (by kernel_rfl) (by kernel_rfl) (by kernel_rfl) (fun _ _ _ h => h) (by kernel_rfl) ?y9c hS1 ?_
            case y9c =>
              intro w' hw'; (try dsimp only at hw'); obtain ⟨x0, x1, x2, x3⟩ := hw'; go_simp; try with_reducible rfl
            simp only [Act.put, List.setIfInBounds_toArray, List.set_cons_zero, List.set_cons_succ]
            refine takeY 25 (i := 10) (v := ?v10c) rfl rfl (by kernel_rfl) (by kernel_rfl) (by kernel_rfl) (fun _ _ _ h => h) (by kernel_rfl) ?y10c hS1 ?_
            case y10c =>
              intro w' hw'; (try dsimp only at hw'); obtain ⟨x0, x1, x2, x3⟩ := hw'; go_simp; try with_reducible rfl
            simp only [Act.put, List.setIfInBounds_toArray, List.set_cons_zero, List.set_cons_succ]
            refine takeY 26 (i := 11) (v := ?v11c) rfl rfl (by kernel_rfl) (by kernel_rfl) (by kernel_rfl) (fun _ _ _ h => h) (by kernel_rfl) ?y11c hS1 ?_
            case y11c =>
              intro w' hw'; (try dsimp only at hw'); obtain ⟨x0, x1, x2, x3⟩ := hw'; go_simp; try with_reducible rfl
            simp only [Act.put, List.setIfInBounds_toArray, List.set_cons_zero, List.set_cons_succ]
            refine takeY 27 (i := 12) (v := ?v12c) rfl rfl (by kernel_rfl) (by kernel_rfl) (by kernel_rfl) (fun _ _ _ h => h) (by kernel_rfl) ?y12c hS1 ?_
            case y12c =>
              intro w' hw'; (try dsimp only at hw'); obtain ⟨x0, x1, x2, x3⟩ := hw'; go_simp; try with_reducible rfl
            simp only [Act.put, List.setIfInBounds_toArray, List.set_cons_zero, List.set_cons_succ]
            refine takeY 28 (i := 13) (v := ?v13c) rfl rfl (by kernel_rfl) (by kernel_rfl) (by kernel_rfl) (fun _ _ _ h => h) (by kernel_rfl) ?y13c hS1 ?_
            case y13c =>
              intro w' hw'; (try dsimp only at hw'); obtain ⟨x0, x1, x2, x3⟩ := hw'; go_simp; try with_reducible rfl
            simp only [Act.put, List.setIfInBounds_toArray, List.set_cons_zero, List.set_cons_succ]
            refine takeY 29 (i := 14) (v := ?v14c) rfl rfl (by kernel_rfl) (by kernel_rfl) (by kernel_rfl) (fun _ _ _ h => h) (by kernel_rfl) ?y14c hS1 ?_
            case y14c =>
              intro w' hw'; (try dsimp only at hw'); obtain ⟨x0, x1, x2, x3⟩ := hw'; go_simp; try with_reducible rfl
            simp only [Act.put, List.setIfInBounds_toArray, List.set_cons_zero, List.set_cons_succ]
            refine takeY 30 (i := 15) (v := ?v15c) rfl rfl (by kernel_rfl) (by kernel_rfl) (by kernel_rfl) (fun _ _ _ h => h) (by kernel_rfl) ?y15c hS1 ?_
            case y15c =>
              intro w' hw'; (try dsimp only at hw'); obtain ⟨x0, x1, x2, x3⟩ := hw'; go_simp; try with_reducible rfl
            simp only [Act.put, List.setIfInBounds_toArray, List.set_cons_zero, List.set_cons_succ]
            refine takeY 31 (i := 16) (v := ?v16c) rfl rfl (by kernel_rfl) (by kernel_rfl) (by kernel_rfl) (fun _ _ _ h => h) (by kernel_rfl) ?y16c hS1 ?_
            case y16c =>
              intro w' hw'; (try dsimp only at hw'); obtain ⟨x0, x1, x2, x3⟩ := hw'; go_simp; try with_reducible rfl
            simp only [Act.put, List.setIfInBounds_toArray, List.set_cons_zero, List.set_cons_succ]
            refine takeY 32 (i := 17) (v := ?v17c) rfl rfl (by kernel_rfl) (by kernel_rfl) (by kernel_rfl) (fun _ _ _ h => h) (by kernel_rfl) ?y17c hS1 ?_
            case y17c =>
              intro w' hw'; (try dsimp only at hw'); obtain ⟨x0, x1, x2, x3⟩ := hw'; go_simp; try with_reducible rfl
            simp only [Act.put, List.setIfInBounds_toArray, List.set_cons_zero, List.set_cons_succ]
            refine wpAnyH_done (by kernel_rfl) ?_ _
            clear hk0
            go_wp2
            go_ret
            exact ⟨HF.out.symm ▸ rfl, HBg.out.trans (hb3.mono hsz.out)⟩
          · go_wp2
            generalize hW : World.alloc wr _ = wg
            obtain ⟨g, hgw⟩ : ∃ g, g = wr.heap.size := ⟨_, rfl⟩
            rw [← hgw]
            have HBg : Hid (Below w.heap.size w wg) := Lib.hid (by subst hW; exact HB.out.alloc hsz0.out _)
            have hrow : wg.heap[g]? = some (.cells #[.int .i64 t.id, .slice t.A t.n t.c] 43 (0, 0)) := by subst hW hgw; exact heap_alloc_new wr _
            have hg : g < wg.heap.size := lt_of_block hrow
            have hsz : Hid (w.heap.size ≤ wg.heap.size) := Lib.hid HBg.out.size
            have HI := Lib.hid (HI0.out.below (HBg.out.mono hB))
            have e0 : wg.cell? ⟨g, 0, none⟩ = some (.int .i64 t.id) := cell_of_row wg _ 0 _ _ (0, 0) hrow
            have e1 : wg.cell? ⟨g, 1, none⟩ = some (.slice t.A t.n t.c) := cell_of_row wg _ 1 _ _ (0, 0) hrow
            have hb1g : b1 < wg.heap.size := by have := hsz.out; omega
            have f3 : wg.cell? ⟨b1, off + j * 2, none⟩ = some (.int .i64 t0.id) := by
              have h := F3.out
              exact (HBg.out.cell (p := ⟨b1, off + j * 2, none⟩) (by exact Nat.lt_of_lt_of_le hb1 hB)).trans h
            clear hW hgw hrow
            have hk0 : decide (0 < k) = true := decide_eq_true (by have := HK0.out; omega)
            have hs0 : Below wg.heap.size wg wg.drew ∧ wg.drew.cell? ⟨g, 0, none⟩ = some (.int .i64 t.id) ∧ wg.drew.cell? ⟨g, 1, none⟩ = some (.slice t.A t.n t.c) ∧ wg.drew.cell? ⟨b1, off + j * 2, none⟩ = some (.int .i64 t0.id) := ⟨(Below.refl _ _).drew, e0, e1, f3⟩
            refine wp_region_held (S := fun w' => Below wg.heap.size wg w' ∧ w'.cell? ⟨g, 0, none⟩ = some (.int .i64 t.id) ∧ w'.cell? ⟨g, 1, none⟩ = some (.slice t.A t.n t.c) ∧ w'.cell? ⟨b1, off + j * 2, none⟩ = some (.int .i64 t0.id)) (by kernel_rfl) ?_
            change wpAnyH _ _ _ _ _ _ _ _ (World.drew _)
            refine takeY 15 (i := 0) (v := ?v0d) rfl rfl (by kernel_rfl) (by kernel_rfl) (by kernel_rfl) (fun _ _ _ h => h) (by kernel_rfl) ?y0d hs0 ?_
            case y0d =>
              intro w' hw'; (try dsimp only at hw'); obtain ⟨x0, x1, x2, x3⟩ := hw'; go_simp; try with_reducible rfl
            simp only [Act.put, List.setIfInBounds_toArray, List.set_cons_zero, List.set_cons_succ]
            refine wpAnyH_ready (rs := [1]) (by kernel_rfl) (by simp) ?_
            refine AllReadyH.cons rfl (fun K hK => ?_) AllReadyH.nil
            go_simp; go_at_call 63; refine (iIsItem_in wg _ B t HI.out (Nat.le_trans hB hsz.out) (Below.refl _ _).drew true ⟨fun _ => HD.out, fun _ => rfl⟩).mono ?_; rintro e w3 ⟨rfl, hb3⟩
            refine hK.out _ _ ⟨hb3, (hb3.cell (p := ⟨g, 0, none⟩) hg).trans e0, (hb3.cell (p := ⟨g, 1, none⟩) hg).trans e1, (hb3.cell (p := ⟨b1, off + j * 2, none⟩) hb1g).trans f3⟩ (fun hS1 => ?_)
            clear hK K
            try simp only [Act.put, List.setIfInBounds_toArray, List.set_cons_zero, List.set_cons_succ]
            refine takeY 17 (i := 2) (v := ?v2d) rfl rfl (by kernel_rfl) (by kernel_rfl) (by kernel_rfl) (fun _ _ _ h => h) (by kernel_rfl) ?y2d hS1 ?_
            case y2d =>
              intro w' hw'; (try dsimp only at hw'); obtain ⟨x0, x1, x2, x3⟩ := hw'; go_simp; try with_reducible rfl
            simp only [Act.put, List.setIfInBounds_toArray, List.set_cons_zero, List.set_cons_succ]
            refine takeY 18 (i := 3) (v := ?v3d) rfl rfl (by kernel_rfl) (by kernel_rfl) (by kernel_rfl) (fun _ _ _ h => h) (by kernel_rfl) ?y3d hS1 ?_
            case y3d =>
              intro w' hw'; (try dsimp only at hw'); obtain ⟨x0, x1, x2, x3⟩ := hw'; go_simp; try with_reducible rfl
            simp only [Act.put, List.setIfInBounds_toArray, List.set_cons_zero, List.set_cons_succ]
            refine takeY 19 (i := 4) (v := ?v4d) rfl rfl (by kernel_rfl) (by kernel_rfl) (by kernel_rfl) (fun _ _ _ h => h) (by kernel_rfl) ?y4d hS1 ?_
            case y4d =>
              intro w' hw'; (try dsimp only at hw'); obtain ⟨x0, x1, x2, x3⟩ := hw'; go_simp; try with_reducible rfl
            simp only [Act.put, List.setIfInBounds_toArray, List.set_cons_zero, List.set_cons_succ]
            refine takeY 20 (i := 5) (v := ?v5d) rfl rfl (by kernel_rfl) (by kernel_rfl) (by kernel_rfl) (fun _ _ _ h => h) (by kernel_rfl) ?y5d hS1 ?_
            case y5d =>
              intro w' hw'; (try dsimp only at hw'); obtain ⟨x0, x1, x2, x3⟩ := hw'; go_simp; try with_reducible rfl
            simp only [Act.put, List.setIfInBounds_toArray, List.set_cons_zero, List.set_cons_succ]
            refine takeY 21 (i := 6) (v := ?v6d) rfl rfl (by kernel_rfl) (by kernel_rfl) (by kernel_rfl) (fun _ _ _ h => h) (by kernel_rfl) ?y6d hS1 ?_
            case y6d =>
              intro w' hw'; (try dsimp only at hw'); obtain ⟨x0, x1, x2, x3⟩ := hw'; go_simp; try with_reducible rfl
            simp only [Act.put, List.setIfInBounds_toArray, List.set_cons_zero, List.set_cons_succ]
            refine takeY 22 (i := 7) (v := ?v7d) rfl rfl (by kernel_rfl) (by kernel_rfl) (by kernel_rfl) (fun _ _ _ h => h) (by kernel_rfl) ?y7d hS1 ?_
            case y7d =>
              intro w' hw'; (try dsimp only at hw'); obtain ⟨x0, x1, x2, x3⟩ := hw'; go_simp; try with_reducible rfl
            simp only [Act.put, List.setIfInBounds_toArray, List.set_cons_zero, List.set_cons_succ]
            refine takeY 23 (i := 8) (v := ?v8d) rfl rfl (by kernel_rfl) (by kernel_rfl) (by kernel_rfl) (fun _ _ _ h => h) (by kernel_rfl) ?y8d hS1 ?_
            case y8d =>
              intro w' hw'; (try dsimp only at hw'); obtain ⟨x0, x1, x2, x3⟩ := hw'; go_simp; try with_reducible rfl
            simp only [Act.put, List.setIfInBounds_toArray, List.set_cons_zero, List.set_cons_succ]
            refine takeY 24 (i := 9) (v := ?v9d) rfl rfl (by kernel_rfl) (by kernel_rfl) (by kernel_rfl) (fun _ _ _ h => h) (by kernel_rfl) ?y9d hS1 ?_
            case y9d =>
              intro w' hw'; (try dsimp only at hw'); obtain ⟨x0, x1, x2, x3⟩ := hw'; go_simp; try with_reducible rfl
            simp only [Act.put, List.setIfInBounds_toArray, List.set_cons_zero, List.set_cons_succ]
            refine takeY 25 (i := 10) (v := ?v10d) rfl rfl (by kernel_rfl) (by kernel_rfl) (by kernel_rfl) (fun _ _ _ h => h) (by kernel_rfl) ?y10d hS1 ?_
            case y10d =>
              intro w' hw'; (try dsimp only at hw'); obtain ⟨x0, x1, x2, x3⟩ := hw'; go_simp; try with_reducible rfl
            simp only [Act.put, List.setIfInBounds_toArray, List.set_cons_zero, List.set_cons_succ]
            refine takeY 26 (i := 11) (v := ?v11d) rfl rfl (by kernel_rfl) (by kernel_rfl) (by kernel_rfl) (fun _ _ _ h => h) (by kernel_rfl) ?y11d hS1 ?_
            case y11d =>
              intro w' hw'; (try dsimp only at hw'); obtain ⟨x0, x1, x2, x3⟩ := hw'; go_simp; try with_reducible rfl
            simp only [Act.put, List.setIfInBounds_toArray, List.set_cons_zero, List.set_cons_succ]
            refine takeY 27 (i := 12) (v := ?v12d) rfl rfl (by kernel_rfl) (by kernel_rfl) (by kernel_rfl) (fun _ _ _ h => h) (by kernel_rfl) ?y12d hS1 ?_
            case y12d =>
              intro w' hw'; (try dsimp only at hw'); obtain ⟨x0, x1, x2, x3⟩ := hw'; go_simp; try with_reducible rfl
            simp only [Act.put, List.setIfInBounds_toArray, List.set_cons_zero, List.set_cons_succ]
            refine takeY 28 (i := 13) (v := ?v13d) rfl rfl (by kernel_rfl) (by kernel_rfl) (by kernel_rfl) (fun _ _ _ h => h) (by kernel_rfl) ?y13d hS1 ?_
            case y13d =>
              intro w' hw'; (try dsimp only at hw'); obtain ⟨x0, x1, x2, x3⟩ := hw'; go_simp; try with_reducible rfl
            simp only [Act.put, List.setIfInBounds_toArray, List.set_cons_zero, List.set_cons_succ]
            refine takeY 29 (i := 14) (v := ?v14d) rfl rfl (by kernel_rfl) (by kernel_rfl) (by kernel_rfl) (fun _ _ _ h => h) (by kernel_rfl) ?y14d hS1 ?_
            case y14d =>
              intro w' hw'; (try dsimp only at hw'); obtain ⟨x0, x1, x2, x3⟩ := hw'; go_simp; try with_reducible rfl
            simp only [Act.put, List.setIfInBounds_toArray, List.set_cons_zero, List.set_cons_succ]
            refine takeY 30 (i := 15) (v := ?v15d) rfl rfl (by kernel_rfl) (by kernel_rfl) (by kernel_rfl) (fun _ _ _ h => h) (by kernel_rfl) ?y15d hS1 ?_
            case y15d =>
              intro w' hw'; (try dsimp only at hw'); obtain ⟨x0, x1, x2, x3⟩ := hw'; go_simp; try with_reducible rfl
            simp only [Act.put, List.setIfInBounds_toArray, List.set_cons_zero, List.set_cons_succ]
            refine takeY 31 (i := 16) (v := ?v16d) rfl rfl (by kernel_rfl) (by kernel_rfl) (by kernel_rfl) (fun _ _ _ h => h) (by kernel_rfl) ?y16d hS1 ?_
            case y16d =>
              intro w' hw'; (try dsimp only at hw'); obtain ⟨x0, x1, x2, x3⟩ := hw'; go_simp; try with_reducible rfl
            simp only [Act.put, List.setIfInBounds_toArray, List.set_cons_zero, List.set_cons_succ]
            refine takeY 32 (i := 17) (v := ?v17d) rfl rfl (by kernel_rfl) (by kernel_rfl) (by kernel_rfl) (fun _ _ _ h => h) (by kernel_rfl) ?y17d hS1 ?_
            case y17d =>
              intro w' hw'; (try dsimp only at hw'); obtain ⟨x0, x1, x2, x3⟩ := hw'; go_simp; try with_reducible rfl
            simp only [Act.put, List.setIfInBounds_toArray, List.set_cons_zero, List.set_cons_succ]
            refine wpAnyH_done (by kernel_rfl) ?_ _
            clear hk0
            go_wp2
            go_roundw
            case rel => exact ⟨k + 1, by omega, by go_num, are_step HAt.out HA.out HD.out, HR.out.step (fun h0 => by rw [HLt.out.1, HLt.out.2]; omega), HBg.out.trans (hb3.mono hsz.out)⟩
            case measure => simp [intOf]; omega
    · obtain rfl : k = n := by omega
      clear hbel
      obtain rfl : b = true := HBo.out.2 (by
        have h1 := HA.out
        rw [take_all HX.out.1] at h1
        refine ⟨fun d hd => by obtain ⟨u, hu, rfl⟩ := List.mem_map.1 hd; exact h1 u hu, ?_, ?_⟩
        · rw [List.length_map, HX.out.1]; exact HR.out
        · rw [List.length_map, HX.out.1]; exact hn)
      go_wp2
      go_ret
      exact ⟨rfl, HB.out⟩
end Go.Proofs.Ytceiocdemhkcdaa.num
namespace Go.Proofs.Ytceiocdemhkcdaa.num
set_option maxRecDepth 20000
open Go.RowKit
set_option linter.unusedVariables false
set_option linter.unusedSimpArgs false

theorem find_neg {ds : List Da} {x r : Int} (h : FindP ds x r) (q : Bool) (hq : q = true ↔ ∀ d ∈ ds, d.1 ≠ x) : decide (r < 0) = q := by
  rw [Bool.eq_iff_iff, hq, decide_eq_true_eq]
  rcases h with ⟨rfl, h⟩ | ⟨k, rfl, ⟨d, hd, he⟩, _⟩
  · exact ⟨fun _ => h, fun _ => by decide⟩
  · exact ⟨fun h => by omega, fun h => absurd he (h d (List.mem_of_getElem? hd))⟩
theorem known_iff {ds : List Da} {xs : List Int} : KnownP ds xs ↔ ¬ ∃ x ∈ xs, decide (∀ d ∈ ds, d.1 ≠ x) = true := by
  unfold KnownP
  constructor
  · rintro h ⟨x, hx, hn⟩
    obtain ⟨d, hd, he⟩ := h x hx
    exact (of_decide_eq_true hn) d hd he
  · intro h x hx
    by_cases hc : ∀ d ∈ ds, d.1 ≠ x
    · exact absurd ⟨x, hx, decide_eq_true hc⟩ h
    · simp only [Classical.not_forall, Decidable.not_not] at hc
      obtain ⟨d, hd, he⟩ := hc
      exact ⟨d, hd, he⟩
set_option maxRecDepth 20000 in
theorem noItem_c (w : World) (B : Nat) (A : Option Addr) (n c : Nat) (its : List It) (hi : Items w B A n its) (hB : B ≤ w.heap.size) (hn : n ≤ 1048576) (x : Int) (g : Nat) (h1 : SlB w g (.slice A n c)) :
    Calls Try.prog 33 #[.int .i64 x, .pointer (some ⟨g, 0, none⟩)] w fun e w' => e = .returned (.bool (decide (∀ d ∈ its.map It.dat, d.1 ≠ x))) ∧ Below w.heap.size w w' := by
  have HF := Lib.hid (iFind w B A n c its hi hB hn x)
  obtain ⟨l1, c1⟩ := h1
  obtain ⟨z, hz⟩ : ∃ z, decide (∀ d ∈ its.map It.dat, d.1 ≠ x) = z := ⟨_, rfl⟩
  rw [hz]
  have HZ : Hid (z = true ↔ ∀ d ∈ its.map It.dat, d.1 ≠ x) := Lib.hid (by rw [← hz]; exact decide_eq_true_iff)
  clear hi hz
  go_enter Try.func33, Try.ntmps33
  go_wp2_with fail
  refine HF.out.mono ?_
  rintro e w1 ⟨⟨r, rfl, hr⟩, hb1⟩
  have hd := find_neg hr z HZ.out
  have HD := Lib.hid hd
  clear hr HF
  go_wp2
  go_ret
  exact ⟨rfl, hb1⟩
set_option maxRecDepth 20000 in
set_option maxHeartbeats 3200000 in
theorem iRegretOf (w : World) (B : Nat) (A : Option Addr) (n c : Nat) (its : List It) (hi : Items w B A n its) (hB : B ≤ w.heap.size) (hn : n ≤ 1048576) (B2 : Nat) (A2 : Option Addr) (n2 c2 : Nat) (xs : List Int) (h2 : Ints w B2 A2 n2 xs) (hB2 : B2 ≤ w.heap.size) (hn2 : n2 ≤ 1048576) (N D : Int) (ws : List Int) (hD : RegP (its.map It.dat) xs N D ws) :
    Calls Try.prog 7 #[.slice A n c, .slice A2 n2 c2] w fun e w' => (∃ v, e = .returned (.tuple #[.int .i64 N, .int .i64 D, v]) ∧ OwnI w' w.heap.size v ws) ∧ Below w.heap.size w w' := by
  obtain ⟨qa, hqa⟩ := bool_of (AreP (its.map It.dat))
  obtain ⟨wR, hwR⟩ : ∃ wR, w.alloc (.cells #[.slice A n c] 24) = wR := ⟨_, rfl⟩
  have hbR : Below w.heap.size w wR := by rw [← hwR]; exact (Below.refl _ w).alloc (Nat.le_refl _) _
  have HBR := Lib.hid hbR
  have HS : Hid (SlB wR w.heap.size (.slice A n c)) := Lib.hid (by rw [← hwR]; exact SlB.new w _ _)
  have hiR := hi.below (hbR.mono hB)
  have hBR := Nat.le_trans hB hbR.size
  have HAr := Lib.hid (iAre wR B A n c its hiR hBR qa hqa)
  obtain ⟨qk, hqk⟩ := bool_of (∃ x ∈ xs, decide (∀ d ∈ its.map It.dat, d.1 ≠ x) = true)
  have HCo : Hid (∀ W, Below wR.heap.size wR W → Calls Try.prog 36 #[.slice A2 n2 c2, .func (.func 33) #[] #[.pointer (some ⟨w.heap.size, 0, none⟩)]] W fun e w' => e = .returned (.bool qk) ∧ Below W.heap.size W w') := Lib.hid fun W hW =>
    conInts W B2 A2 n2 c2 xs (h2.below ((hbR.trans (hW.mono hbR.size)).mono hB2)) (Nat.le_trans hB2 (Nat.le_trans hbR.size hW.size)) hn2 33 #[.pointer (some ⟨w.heap.size, 0, none⟩)] (fun x => decide (∀ d ∈ its.map It.dat, d.1 ≠ x)) (enters_of Try.func33 (by kernel_rfl) rfl)
      (fun W2 hW2 x _ => noItem_c W2 B A n c its (hiR.below ((below_on hW hW2).mono hBR)) (Nat.le_trans hBR (below_on hW hW2).size) hn x w.heap.size ((HS.out.below hW).below hW2)) qk hqk
  obtain ⟨L, hL⟩ : ∃ L, (its.filter fun u => decide (u.id ∈ xs)) = L := ⟨_, rfl⟩
  have hLl : L.length ≤ 1048576 := by rw [← hL]; exact Nat.le_trans (List.length_filter_le _ _) (by rw [hi.1]; exact hn)
  have hLs : ∀ u ∈ L, u ∈ its := fun u hu => by rw [← hL] at hu; exact (List.mem_filter.1 hu).1
  have HLd : Hid (L.map It.dat = pk xs (its.map It.dat)) := Lib.hid (by rw [← hL]; exact filter_dat its xs)
  have HIn : Hid (∀ W, Below wR.heap.size wR W → ∀ u ∈ L, Ints W W.heap.size u.A u.n u.xs) := Lib.hid fun W hW u hu => (hiR.all (hLs u hu)).more hBR |>.below hW |>.more hW.size
  have HWi : Hid (∀ W, Below wR.heap.size wR W → Calls Try.prog 38 #[.slice A n c, .slice A2 n2 c2] W fun e w' => (∃ v, e = .returned v ∧ OwnTs w' W.heap.size v L) ∧ Below W.heap.size W w') := Lib.hid fun W hW => by
    rw [← hL]
    exact iWith W B A n c its (hiR.below (hW.mono hBR)).readT (Nat.le_trans hBR hW.size) hn B2 A2 n2 c2 xs (h2.below ((hbR.trans (hW.mono hbR.size)).mono hB2)) (Nat.le_trans hB2 (Nat.le_trans hbR.size hW.size)) hn2
  obtain ⟨R, hR⟩ : ∃ R, reg (its.map It.dat) (L.map It.dat) = R := ⟨_, rfl⟩
  have HGr : Hid (∀ W A4 c4, Below wR.heap.size wR W → Items W W.heap.size A4 L.length L → Calls Try.prog 37 #[.slice A n c, .slice A4 L.length c4] W fun e w' => (∃ v, e = .returned (.tuple #[.agg #[.int .i64 R.num, .int .i64 R.den], v]) ∧ OwnI w' W.heap.size v R.ws) ∧ Below W.heap.size W w') := Lib.hid fun W A4 c4 hW hI =>
    iGR W W.heap.size A A4 n L.length c c4 its L ((hiR.below (hW.mono hBR)).up (Nat.le_trans hBR hW.size)) hI (Nat.le_refl _) hn hLl (fun d hd => by
      obtain ⟨u, hu, rfl⟩ := List.mem_map.1 hd
      exact List.mem_map_of_mem (hLs u hu)) R hR
  have HYes : Hid (qa = true → qk = false → N = R.num ∧ D = R.den ∧ ws = R.ws) := Lib.hid fun h1 h2 => by
    have h3 := hD.yes (hqa.1 h1) (known_iff.2 fun h => by rw [hqk.2 h] at h2; cases h2)
    rw [← HLd.out, hR] at h3
    exact h3
  have HNo : Hid (¬ (qa = true ∧ qk = false) → N = 0 ∧ D = 1 ∧ ws = []) := Lib.hid fun h => hD.no fun ⟨h1, h2⟩ => h ⟨hqa.2 h1, by
    cases qk
    · rfl
    · exact absurd (hqk.1 rfl) (known_iff.1 h2)⟩
  clear hi h2 hD hqa hqk hL hLl hLs hR hiR hBR hbR
  obtain ⟨hbl, f1⟩ := HS.out
  go_enter Try.func7, Try.ntmps7
  go_upto_region 1 with (fail)
  try rw [hwR]
  clear hwR
  go_wp2_with fail
  refine HAr.out.mono ?_
  rintro e w1 ⟨rfl, hb1⟩
  have HB1 := Lib.hid hb1
  have HB1w := Lib.hid (below_on HBR.out hb1)
  have HS1 := Lib.hid (HS.out.below hb1)
  clear hb1 HAr hbl f1
  cases qa
  · obtain ⟨rfl, rfl, rfl⟩ := HNo.out (fun h => by cases h.1)
    go_wp2
    go_ret3
    exact ⟨⟨_, rfl, ownI_nil _ _⟩, HB1w.out⟩
  · obtain ⟨hbl, f1⟩ := HS1.out
    go_wp2_with fail
    refine (HCo.out _ HB1.out).mono ?_
    rintro e w2 ⟨rfl, hb2⟩
    have HB2 := Lib.hid (below_on HB1.out hb2)
    have HB2w := Lib.hid (below_on HB1w.out hb2)
    have HS2 := Lib.hid (HS1.out.below hb2)
    clear hb2 HCo hbl f1
    cases qk
    · obtain ⟨rfl, rfl, rfl⟩ := HYes.out (by first | rfl | trivial) (by first | rfl | trivial)
      have HWi := Lib.hid fun W (hW : Below w2.heap.size w2 W) => HWi.out W (below_on HB2.out hW)
      have HGr := Lib.hid fun W A4 c4 (hW : Below w2.heap.size w2 W) => HGr.out W A4 c4 (below_on HB2.out hW)
      have HIn := Lib.hid fun W (hW : Below w2.heap.size w2 W) => HIn.out W (below_on HB2.out hW)
      clear HBR HS HS1 HYes HNo HB1 HB1w HB2
      rename_i wR0
      obtain ⟨wR, rfl⟩ : ∃ wR, wR = w2 := ⟨_, rfl⟩
      have HBR := HB2w
      clear HB2w
      obtain ⟨hbR, f1⟩ := HS2.out
      have hlo : w.heap.size ≤ wR.heap.size := HBR.out.size
      go_upto_region 4 with (fail)
      go_cut [8, 9] from 19 to 26 (fun s8 s9 wx => ∃ g v, s8 = .pointer (some ⟨g, 0, none⟩) ∧ s9 = v ∧ FrB wx g ⟨R.num, R.den⟩ ∧ OwnI wx w.heap.size v R.ws ∧ Below w.heap.size w wx)
      case first =>
        have hS0 : (fun w' => w'.cell? ⟨w.heap.size, 0, none⟩ = some (.slice A n c)) wR.drew := f1
        refine wp_region_held (S := fun w' => w'.cell? ⟨w.heap.size, 0, none⟩ = some (.slice A n c)) (by kernel_rfl) ?_
        change wpAnyH _ _ _ _ _ _ _ _ (World.drew _)
        have hBD0 : Below wR.heap.size wR wR.drew := (Below.refl _ wR).drew
        obtain ⟨wD, hwD⟩ : ∃ wD, World.drew wR = wD := ⟨_, rfl⟩
        rw [hwD] at hS0 ⊢
        have hBD : Below wR.heap.size wR wD := by rw [← hwD]; exact hBD0
        clear hwD hBD0
        refine takeY 20 (i := 0) (v := ?vx1) rfl rfl (by kernel_rfl) (by kernel_rfl) (by kernel_rfl) (fun _ _ _ h => h) (by kernel_rfl) ?yx1 hS0 ?_
        case yx1 =>
          intro w' hw'; (try dsimp only at hw'); obtain q1 := hw'; go_simp; try with_reducible rfl
        simp only [Act.put, List.setIfInBounds_toArray, List.set_cons_zero, List.set_cons_succ]
        refine takeY 21 (i := 1) (v := ?vx2) rfl rfl (by kernel_rfl) (by kernel_rfl) (by kernel_rfl) (fun _ _ _ h => h) (by kernel_rfl) ?yx2 hS0 ?_
        case yx2 =>
          intro w' hw'; (try dsimp only at hw'); obtain q1 := hw'; go_simp; try with_reducible rfl
        simp only [Act.put, List.setIfInBounds_toArray, List.set_cons_zero, List.set_cons_succ]
        refine takeY 22 (i := 2) (v := ?vx3) rfl rfl (by kernel_rfl) (by kernel_rfl) (by kernel_rfl) (fun _ _ _ h => h) (by kernel_rfl) ?yx3 hS0 ?_
        case yx3 =>
          intro w' hw'; (try dsimp only at hw'); obtain q1 := hw'; go_simp; try with_reducible rfl
        simp only [Act.put, List.setIfInBounds_toArray, List.set_cons_zero, List.set_cons_succ]
        refine wpAnyH_ready (rs := [3, 8]) (by kernel_rfl) (by simp) ?_
        refine (AllReadyH.cons rfl (fun K hK => ?_) (AllReadyH.cons rfl (fun K hK => ?_) AllReadyH.nil))
        · go_simp
          go_at_call 38
          refine (HWi.out _ hBD).mono ?_
          rintro e w1 ⟨⟨v, rfl, ho⟩, hb1⟩
          obtain ⟨A4, c4, rfl, -, -⟩ := ho.shape
          have hB1 : Below wR.heap.size wR w1 := below_on hBD hb1
          refine hK.out _ _ ((hB1.cell (p := ⟨w.heap.size, 0, none⟩) hbR).trans f1) (fun hS1 => ?_)
          clear hK K
          try simp only [Act.put, List.setIfInBounds_toArray, List.set_cons_zero, List.set_cons_succ]
          have hT1 : Items w1 w1.heap.size A4 L.length L := Items.ofr (ho.read itCs_len) (HIn.out _ hB1)
          clear hb1 ho
          refine wpAnyH_ready (rs := [4, 8]) (by kernel_rfl) (by simp) ?_
          refine (AllReadyH.cons rfl (fun K hK => ?_) (AllReadyH.cons rfl (fun K hK => ?_) AllReadyH.nil))
          · go_simp
            go_at_call 37
            refine (HGr.out _ _ _ hB1 hT1).mono ?_
            rintro e w2 ⟨⟨v5, rfl, ho⟩, hb2⟩
            have hB2 : Below wR.heap.size wR w2 := below_on hB1 hb2
            refine hK.out _ _ ((hB2.cell (p := ⟨w.heap.size, 0, none⟩) hbR).trans f1) (fun hS2 => ?_)
            clear hK K
            try simp only [Act.put, List.setIfInBounds_toArray, List.set_cons_zero, List.set_cons_succ]
            have hO2 : OwnI w2 wR.heap.size v5 R.ws := ownI_lower ho hB1.size
            clear hb2 ho
            refine takeY 19 (i := 5) (v := ?vx4) rfl rfl (by kernel_rfl) (by kernel_rfl) (by kernel_rfl) (fun _ _ _ h => h) (by kernel_rfl) ?yx4 hS2 ?_
            case yx4 =>
              intro w' hw'; (try dsimp only at hw'); obtain q1 := hw'; go_simp; try with_reducible rfl
            simp only [Act.put, List.setIfInBounds_toArray, List.set_cons_zero, List.set_cons_succ]
            refine takeY 25 (i := 6) (v := ?vx5) rfl rfl (by kernel_rfl) (by kernel_rfl) (by kernel_rfl) (fun _ _ _ h => h) (by kernel_rfl) ?yx5 hS2 ?_
            case yx5 =>
              intro w' hw'; (try dsimp only at hw'); obtain q1 := hw'; go_simp; try with_reducible rfl
            simp only [Act.put, List.setIfInBounds_toArray, List.set_cons_zero, List.set_cons_succ]
            refine takeY 26 (i := 7) (v := ?vx6) rfl rfl (by kernel_rfl) (by kernel_rfl) (by kernel_rfl) (fun _ _ _ h => h) (by kernel_rfl) ?yx6 hS2 ?_
            case yx6 =>
              intro w' hw'; (try dsimp only at hw'); obtain q1 := hw'; go_simp; try with_reducible rfl
            simp only [Act.put, List.setIfInBounds_toArray, List.set_cons_zero, List.set_cons_succ]
            refine wpAnyH_ready (rs := [8]) (by kernel_rfl) (by simp) ?_
            refine (AllReadyH.cons rfl (fun K hK => ?_) AllReadyH.nil)
            go_simp
            refine hK.out _ _ (((hB2.alloc hB2.size _).cell (p := ⟨w.heap.size, 0, none⟩) hbR).trans f1) (fun hS3 => ?_)
            clear hK K
            try simp only [Act.put, List.setIfInBounds_toArray, List.set_cons_zero, List.set_cons_succ]
            obtain ⟨w3, hw3⟩ : ∃ w', World.alloc w2 (.cells #[.int .i64 0, .int .i64 0] 63) = w' := ⟨_, rfl⟩
            have hB3 : Below wR.heap.size wR w3 := by rw [← hw3]; exact hB2.alloc hB2.size _
            have hb3 : Below w2.heap.size w2 w3 := by rw [← hw3]; exact (Below.refl _ _).alloc (Nat.le_refl _) _
            have hO3 := ownI_below hO2 hb3
            have hF3 : FrB w3 (w2.heap.size) ⟨0, 0⟩ := by rw [← hw3]; exact FrB.new w2 ⟨0, 0⟩
            try rw [hw3]
            try rw [hw3] at hS3
            clear hw3 hb3
            have hghF : wR.heap.size ≤ w2.heap.size := hB2.size
            have hne : ∀ k, v5.ownBlock = some k → k ≠ w2.heap.size := fun k hk e => by have h1 := ownI_tops hO2 k hk; omega
            obtain ⟨c0, c1, z0, z1⟩ := hF3.cells
            refine wpAnyH_ready (rs := [9]) (by kernel_rfl) (by simp) ?_
            refine (AllReadyH.cons rfl (fun K hK => ?_) AllReadyH.nil)
            go_simp
            refine hK.out _ _ (((hB3.setCell (p := ⟨w2.heap.size, 0, none⟩) hghF _).setCell (p := ⟨w2.heap.size, 1, none⟩) hghF _).cell (p := ⟨w.heap.size, 0, none⟩) hbR |>.trans f1) (fun hS4 => ?_)
            clear hK K
            try simp only [Act.put, List.setIfInBounds_toArray, List.set_cons_zero, List.set_cons_succ]
            refine takeY 9 (i := 10) (v := ?vx7) rfl rfl (by kernel_rfl) (by kernel_rfl) (by kernel_rfl) (fun _ _ _ h => h) (by kernel_rfl) ?yx7 hS4 ?_
            case yx7 =>
              intro w' hw'; (try dsimp only at hw'); obtain q1 := hw'; go_simp; try with_reducible rfl
            simp only [Act.put, List.setIfInBounds_toArray, List.set_cons_zero, List.set_cons_succ]
            refine wpAnyH_done (by kernel_rfl) ?_ _
            go_wp2
            go_meet
            exact ⟨w2.heap.size, v5, rfl, rfl, hF3.set _ _, ownI_lower (ownI_blocks hO3 fun k hk => by rw [heap_setCell_other _ _ _ _ (hne k hk), heap_setCell_other _ _ _ _ (hne k hk)]) hlo, below_on HBR.out ((hB3.setCell (p := ⟨w2.heap.size, 0, none⟩) hghF _).setCell (p := ⟨w2.heap.size, 1, none⟩) hghF _)⟩
          · go_simp
            refine hK.out _ _ (((hB1.alloc hB1.size _).cell (p := ⟨w.heap.size, 0, none⟩) hbR).trans f1) (fun hS5 => ?_)
            clear hK K
            try simp only [Act.put, List.setIfInBounds_toArray, List.set_cons_zero, List.set_cons_succ]
            obtain ⟨w5, hw5⟩ : ∃ w', World.alloc w1 (.cells #[.int .i64 0, .int .i64 0] 63) = w' := ⟨_, rfl⟩
            have hB5 : Below wR.heap.size wR w5 := by rw [← hw5]; exact hB1.alloc hB1.size _
            have hb5 : Below w1.heap.size w1 w5 := by rw [← hw5]; exact (Below.refl _ _).alloc (Nat.le_refl _) _
            have hT5 := Items.now hT1 hb5
            have hF5 : FrB w5 (w1.heap.size) ⟨0, 0⟩ := by rw [← hw5]; exact FrB.new w1 ⟨0, 0⟩
            try rw [hw5]
            try rw [hw5] at hS5
            clear hw5 hb5
            have hghF : wR.heap.size ≤ w1.heap.size := hB1.size
            refine wpAnyH_ready (rs := [4]) (by kernel_rfl) (by simp) ?_
            refine (AllReadyH.cons rfl (fun K hK => ?_) AllReadyH.nil)
            go_simp
            go_at_call 37
            refine (HGr.out _ _ _ hB5 hT5).mono ?_
            rintro e w6 ⟨⟨v5, rfl, ho⟩, hb6⟩
            have hB6 : Below wR.heap.size wR w6 := below_on hB5 hb6
            refine hK.out _ _ ((hB6.cell (p := ⟨w.heap.size, 0, none⟩) hbR).trans f1) (fun hS6 => ?_)
            clear hK K
            try simp only [Act.put, List.setIfInBounds_toArray, List.set_cons_zero, List.set_cons_succ]
            have hF6 := hF5.below hb6
            have hO6 : OwnI w6 wR.heap.size v5 R.ws := ownI_lower ho hB5.size
            have hne : ∀ k, v5.ownBlock = some k → k ≠ w1.heap.size := fun k hk e => by
              have h1 := ownI_lows ho k hk
              have h2 := hF5.lt
              omega
            clear hb6 ho
            refine takeY 19 (i := 5) (v := ?vx8) rfl rfl (by kernel_rfl) (by kernel_rfl) (by kernel_rfl) (fun _ _ _ h => h) (by kernel_rfl) ?yx8 hS6 ?_
            case yx8 =>
              intro w' hw'; (try dsimp only at hw'); obtain q1 := hw'; go_simp; try with_reducible rfl
            simp only [Act.put, List.setIfInBounds_toArray, List.set_cons_zero, List.set_cons_succ]
            refine takeY 25 (i := 6) (v := ?vx9) rfl rfl (by kernel_rfl) (by kernel_rfl) (by kernel_rfl) (fun _ _ _ h => h) (by kernel_rfl) ?yx9 hS6 ?_
            case yx9 =>
              intro w' hw'; (try dsimp only at hw'); obtain q1 := hw'; go_simp; try with_reducible rfl
            simp only [Act.put, List.setIfInBounds_toArray, List.set_cons_zero, List.set_cons_succ]
            refine takeY 26 (i := 7) (v := ?vx10) rfl rfl (by kernel_rfl) (by kernel_rfl) (by kernel_rfl) (fun _ _ _ h => h) (by kernel_rfl) ?yx10 hS6 ?_
            case yx10 =>
              intro w' hw'; (try dsimp only at hw'); obtain q1 := hw'; go_simp; try with_reducible rfl
            simp only [Act.put, List.setIfInBounds_toArray, List.set_cons_zero, List.set_cons_succ]
            obtain ⟨c0, c1, z0, z1⟩ := hF6.cells
            refine wpAnyH_ready (rs := [9]) (by kernel_rfl) (by simp) ?_
            refine (AllReadyH.cons rfl (fun K hK => ?_) AllReadyH.nil)
            go_simp
            refine hK.out _ _ (((hB6.setCell (p := ⟨w1.heap.size, 0, none⟩) hghF _).setCell (p := ⟨w1.heap.size, 1, none⟩) hghF _).cell (p := ⟨w.heap.size, 0, none⟩) hbR |>.trans f1) (fun hS7 => ?_)
            clear hK K
            try simp only [Act.put, List.setIfInBounds_toArray, List.set_cons_zero, List.set_cons_succ]
            refine takeY 9 (i := 10) (v := ?vx11) rfl rfl (by kernel_rfl) (by kernel_rfl) (by kernel_rfl) (fun _ _ _ h => h) (by kernel_rfl) ?yx11 hS7 ?_
            case yx11 =>
              intro w' hw'; (try dsimp only at hw'); obtain q1 := hw'; go_simp; try with_reducible rfl
            simp only [Act.put, List.setIfInBounds_toArray, List.set_cons_zero, List.set_cons_succ]
            refine wpAnyH_done (by kernel_rfl) ?_ _
            go_wp2
            go_meet
            exact ⟨w1.heap.size, v5, rfl, rfl, hF6.set _ _, ownI_lower (ownI_blocks hO6 fun k hk => by rw [heap_setCell_other _ _ _ _ (hne k hk), heap_setCell_other _ _ _ _ (hne k hk)]) hlo, below_on HBR.out ((hB6.setCell (p := ⟨w1.heap.size, 0, none⟩) hghF _).setCell (p := ⟨w1.heap.size, 1, none⟩) hghF _)⟩
        · go_simp
          refine hK.out _ _ (((hBD.alloc hBD.size _).cell (p := ⟨w.heap.size, 0, none⟩) hbR).trans f1) (fun hS8 => ?_)
          clear hK K
          try simp only [Act.put, List.setIfInBounds_toArray, List.set_cons_zero, List.set_cons_succ]
          obtain ⟨w8, hw8⟩ : ∃ w', World.alloc wD (.cells #[.int .i64 0, .int .i64 0] 63) = w' := ⟨_, rfl⟩
          have hB8 : Below wR.heap.size wR w8 := by rw [← hw8]; exact hBD.alloc hBD.size _
          have hb8 : Below wD.heap.size wD w8 := by rw [← hw8]; exact (Below.refl _ _).alloc (Nat.le_refl _) _
          have hF8 : FrB w8 (wD.heap.size) ⟨0, 0⟩ := by rw [← hw8]; exact FrB.new wD ⟨0, 0⟩
          try rw [hw8]
          try rw [hw8] at hS8
          clear hw8 hb8
          have hghF : wR.heap.size ≤ wD.heap.size := hBD.size
          refine wpAnyH_ready (rs := [3]) (by kernel_rfl) (by simp) ?_
          refine (AllReadyH.cons rfl (fun K hK => ?_) AllReadyH.nil)
          go_simp
          go_at_call 38
          refine (HWi.out _ hB8).mono ?_
          rintro e w9 ⟨⟨v, rfl, ho⟩, hb9⟩
          obtain ⟨A4, c4, rfl, -, -⟩ := ho.shape
          have hB9 : Below wR.heap.size wR w9 := below_on hB8 hb9
          refine hK.out _ _ ((hB9.cell (p := ⟨w.heap.size, 0, none⟩) hbR).trans f1) (fun hS9 => ?_)
          clear hK K
          try simp only [Act.put, List.setIfInBounds_toArray, List.set_cons_zero, List.set_cons_succ]
          have hF9 := hF8.below hb9
          have hT9 : Items w9 w9.heap.size A4 L.length L := Items.ofr (ho.read itCs_len) (HIn.out _ hB9)
          clear hb9 ho
          refine wpAnyH_ready (rs := [4]) (by kernel_rfl) (by simp) ?_
          refine (AllReadyH.cons rfl (fun K hK => ?_) AllReadyH.nil)
          go_simp
          go_at_call 37
          refine (HGr.out _ _ _ hB9 hT9).mono ?_
          rintro e w10 ⟨⟨v5, rfl, ho⟩, hb10⟩
          have hB10 : Below wR.heap.size wR w10 := below_on hB9 hb10
          refine hK.out _ _ ((hB10.cell (p := ⟨w.heap.size, 0, none⟩) hbR).trans f1) (fun hS10 => ?_)
          clear hK K
          try simp only [Act.put, List.setIfInBounds_toArray, List.set_cons_zero, List.set_cons_succ]
          have hF10 := hF9.below hb10
          have hO10 : OwnI w10 wR.heap.size v5 R.ws := ownI_lower ho hB9.size
          have hne : ∀ k, v5.ownBlock = some k → k ≠ wD.heap.size := fun k hk e => by
            have h1 := ownI_lows ho k hk
            have h2 := hF9.lt
            omega
          clear hb10 ho
          refine takeY 19 (i := 5) (v := ?vx12) rfl rfl (by kernel_rfl) (by kernel_rfl) (by kernel_rfl) (fun _ _ _ h => h) (by kernel_rfl) ?yx12 hS10 ?_
          case yx12 =>
            intro w' hw'; (try dsimp only at hw'); obtain q1 := hw'; go_simp; try with_reducible rfl
          simp only [Act.put, List.setIfInBounds_toArray, List.set_cons_zero, List.set_cons_succ]
          refine takeY 25 (i := 6) (v := ?vx13) rfl rfl (by kernel_rfl) (by kernel_rfl) (by kernel_rfl) (fun _ _ _ h => h) (by kernel_rfl) ?yx13 hS10 ?_
          case yx13 =>
            intro w' hw'; (try dsimp only at hw'); obtain q1 := hw'; go_simp; try with_reducible rfl
          simp only [Act.put, List.setIfInBounds_toArray, List.set_cons_zero, List.set_cons_succ]
          refine takeY 26 (i := 7) (v := ?vx14) rfl rfl (by kernel_rfl) (by kernel_rfl) (by kernel_rfl) (fun _ _ _ h => h) (by kernel_rfl) ?yx14 hS10 ?_
          case yx14 =>
            intro w' hw'; (try dsimp only at hw'); obtain q1 := hw'; go_simp; try with_reducible rfl
          simp only [Act.put, List.setIfInBounds_toArray, List.set_cons_zero, List.set_cons_succ]
          obtain ⟨c0, c1, z0, z1⟩ := hF10.cells
          refine wpAnyH_ready (rs := [9]) (by kernel_rfl) (by simp) ?_
          refine (AllReadyH.cons rfl (fun K hK => ?_) AllReadyH.nil)
          go_simp
          refine hK.out _ _ (((hB10.setCell (p := ⟨wD.heap.size, 0, none⟩) hghF _).setCell (p := ⟨wD.heap.size, 1, none⟩) hghF _).cell (p := ⟨w.heap.size, 0, none⟩) hbR |>.trans f1) (fun hS11 => ?_)
          clear hK K
          try simp only [Act.put, List.setIfInBounds_toArray, List.set_cons_zero, List.set_cons_succ]
          refine takeY 9 (i := 10) (v := ?vx15) rfl rfl (by kernel_rfl) (by kernel_rfl) (by kernel_rfl) (fun _ _ _ h => h) (by kernel_rfl) ?yx15 hS11 ?_
          case yx15 =>
            intro w' hw'; (try dsimp only at hw'); obtain q1 := hw'; go_simp; try with_reducible rfl
          simp only [Act.put, List.setIfInBounds_toArray, List.set_cons_zero, List.set_cons_succ]
          refine wpAnyH_done (by kernel_rfl) ?_ _
          go_wp2
          go_meet
          exact ⟨wD.heap.size, v5, rfl, rfl, hF10.set _ _, ownI_lower (ownI_blocks hO10 fun k hk => by rw [heap_setCell_other _ _ _ _ (hne k hk), heap_setCell_other _ _ _ _ (hne k hk)]) hlo, below_on HBR.out ((hB10.setCell (p := ⟨wD.heap.size, 0, none⟩) hghF _).setCell (p := ⟨wD.heap.size, 1, none⟩) hghF _)⟩
      case rest =>
      obtain ⟨g, v, rfl, rfl, hfr, hov, hb9⟩ := hcut
      rename World => w9
      have HFr := Lib.hid hfr
      have HOv := Lib.hid hov
      have HB9 := Lib.hid hb9
      obtain ⟨k0, k1, -, -⟩ := HFr.out.cells
      clear hfr hov hb9 f1 hbR HWi HGr HIn
      go_upto_region 5 with (fail)
      go_quiet (fail)
      go_wp2
      go_ret3
      exact ⟨⟨_, rfl, ownI_blocks HOv.out fun _ _ => rfl⟩, below_drewN HB9.out _⟩
    · obtain ⟨rfl, rfl, rfl⟩ := HNo.out (fun h => by cases h.2)
      go_wp2
      go_ret3
      exact ⟨⟨_, rfl, ownI_nil _ _⟩, HB2w.out⟩
end Go.Proofs.Ytceiocdemhkcdaa.num
namespace Go.Proofs.Ytceiocdemhkcdaa.num
set_option maxRecDepth 20000
open Go.RowKit
set_option linter.unusedVariables false
set_option linter.unusedSimpArgs false

set_option maxRecDepth 20000 in
theorem sKnownR (w : World) (B : Nat) (A : Option Addr) (n c : Nat) (its : List It) (hi : Items w B A n its) (hB : B ≤ w.heap.size) (hn : n ≤ 1048576) (B2 : Nat) (A2 : Option Addr) (n2 c2 : Nat) (xs : List Int) (hi2 : Ints w B2 A2 n2 xs) (hB2 : B2 ≤ w.heap.size) (hn2 : n2 ≤ 1048577) (q : Bool) (hq : q = true ↔ KnownP (its.map It.dat) xs) :
    Calls Try.prog 39 #[.slice A n c, .slice A2 n2 c2] w fun e w' => e = .returned (.bool q) ∧ Below w.heap.size w w' := by
  have HX := Lib.hid hi2
  have HQ := Lib.hid hq
  have HF : Hid (∀ w1, Below w.heap.size w w1 → ∀ x, Calls Try.prog 79 #[.slice A n c, .int .i64 x] w1 fun e w' => (∃ r, e = .returned (.int .i64 r) ∧ FindP (its.map It.dat) x r) ∧ Below w1.heap.size w1 w') := Lib.hid fun w1 h1 x => sFind w1 B A n c its (hi.below (h1.mono hB)) (Nat.le_trans hB h1.size) hn x
  clear hi hi2 hq
  go_enter Try.func39, Try.ntmps39
  go_wp2
  go_loopw [5] (fun i wr => ∃ k : Nat, k ≤ n2 ∧ i = .int .i64 k ∧ (∀ x ∈ xs.take k, ∃ d ∈ its.map It.dat, d.1 = x) ∧ Below w.heap.size w wr) (fun i _ => n2 - (intOf i).toNat)
  case atStart => exact ⟨0, Nat.zero_le _, rfl, by simp, Below.refl _ _⟩
  case round =>
    obtain ⟨k, hk, rfl, hall, hbel⟩ := hrel
    have HA := Lib.hid hall
    have HB := Lib.hid hbel
    clear hall
    by_cases hlt : k < n2
    · obtain ⟨b, off, x, rfl, hb, hat, hc⟩ := HX.out.at k hlt
      have f0 := (hbel.cell (p := ⟨b, off + k, none⟩) (Nat.lt_of_lt_of_le hb hB2)).trans hc
      have HAt := Lib.hid hat
      have hlt' : (k : Int) < (n2 : Int) := by omega
      clear hc hat hbel
      go_wp2_with fail
      refine (HF.out wr HB.out x).mono ?_
      rintro e w2 ⟨⟨r, rfl, hr⟩, hb2⟩
      have HB2 := Lib.hid (below_on HB.out hb2)
      have HR := Lib.hid hr
      clear hb2 f0 hr
      by_cases hneg : r < 0
      · obtain rfl : q = false := by
          cases q
          · rfl
          · exfalso
            obtain ⟨d, hd, he⟩ := HQ.out.1 rfl x (mem_of_at HAt.out)
            rcases HR.out with ⟨_, h⟩ | ⟨k, rfl, _⟩
            · exact h d hd he
            · omega
        go_wp2
        go_ret
        exact ⟨rfl, HB2.out⟩
      · have hrr : ∃ d ∈ its.map It.dat, d.1 = x := by
          rcases HR.out with ⟨rfl, _⟩ | ⟨k, rfl, ⟨d, hd, he⟩, _⟩
          · exact absurd (by decide) hneg
          · exact ⟨d, List.mem_of_getElem? hd, he⟩
        have HH := Lib.hid hrr
        clear hrr
        go_wp2
        go_roundw
        case rel =>
          refine ⟨k + 1, by omega, by go_num, ?_, HB2.out⟩
          rw [take_at HAt.out]
          intro u hu
          rcases List.mem_append.1 hu with h | h
          · exact HA.out u h
          · obtain rfl := List.mem_singleton.1 h
            exact HH.out
        case measure => simp [intOf]; omega
    · obtain rfl : k = n2 := by omega
      have hx := HA.out
      rw [take_all HX.out.1] at hx
      obtain rfl : q = true := HQ.out.2 hx
      clear hx hbel
      go_wp2
      go_ret
      exact ⟨rfl, HB.out⟩
/-- The model's state behind i lists of weights. -/
structure RegS (w : World) (ds cs : List Da) (i : Nat) (num den : Int) (v : Value) (wr : World) : Prop where
  num : num = (regF ds cs (wl.take i)).num
  den : den = (regF ds cs (wl.take i)).den
  v : ∃ A n c, v = .slice A n c ∧ Ints wr wr.heap.size A n (regF ds cs (wl.take i)).ws
  b : Below w.heap.size w wr
theorem RegS.step {w wr w' : World} {ds cs : List Da} {i : Nat} {num den : Int} {v : Value} (h : RegS w ds cs i num den v wr) (hb : Below wr.heap.size wr w') : RegS w ds cs i num den v w' := by
  obtain ⟨A, n, c, rfl, hi⟩ := h.v
  exact ⟨h.num, h.den, ⟨A, n, c, rfl, hi.step hb⟩, below_on h.b hb⟩
set_option maxRecDepth 20000 in
set_option maxHeartbeats 3200000 in
theorem sRegretOf (w : World) (B : Nat) (A : Option Addr) (n c : Nat) (its : List It) (hi : Items w B A n its) (hB : B ≤ w.heap.size) (hn : n ≤ 1048576) (hN : ∀ t ∈ its, t.n ≤ 1048576) (B2 : Nat) (A2 : Option Addr) (n2 c2 : Nat) (xs : List Int) (h2 : Ints w B2 A2 n2 xs) (hB2 : B2 ≤ w.heap.size) (hn2 : n2 ≤ 1048577) (N D : Int) (ws : List Int) (hD : RegP (its.map It.dat) xs N D ws) :
    Calls Try.prog 8 #[.slice A n c, .slice A2 n2 c2] w fun e w' => (∃ v, e = .returned (.tuple #[.int .i64 N, .int .i64 D, v]) ∧ OwnI w' w.heap.size v ws) ∧ Below w.heap.size w w' := by
  obtain ⟨qa, hqa⟩ := bool_of (AreP (its.map It.dat))
  obtain ⟨qk, hqk⟩ := bool_of (KnownP (its.map It.dat) xs)
  have HAr : Hid (∀ W, Below w.heap.size w W → Calls Try.prog 13 #[.slice A n c] W fun e w' => e = .returned (.bool qa) ∧ Below W.heap.size W w') := Lib.hid fun W hW => sAre W B A n c its (hi.below (hW.mono hB)) (Nat.le_trans hB hW.size) hn hN qa hqa
  have HKn : Hid (∀ W, Below w.heap.size w W → Calls Try.prog 39 #[.slice A n c, .slice A2 n2 c2] W fun e w' => e = .returned (.bool qk) ∧ Below W.heap.size W w') := Lib.hid fun W hW => sKnownR W B A n c its (hi.below (hW.mono hB)) (Nat.le_trans hB hW.size) hn B2 A2 n2 c2 xs (h2.below (hW.mono hB2)) (Nat.le_trans hB2 hW.size) hn2 qk hqk
  have HId : Hid (∀ W, Below w.heap.size w W → Calls Try.prog 11 #[.slice A n c] W fun e w' => (∃ A' n' c', e = .returned (.slice A' n' c') ∧ Ints w' w'.heap.size A' n' (idL its)) ∧ Below W.heap.size W w') := Lib.hid fun W hW => sIds W B A n c its (hi.below (hW.mono hB)) (Nat.le_trans hB hW.size) hn
  have HU : Hid (∀ W (A3 : Option Addr) (n3 c3 : Nat) (ys : List Int), Below w.heap.size w W → Ints W W.heap.size A3 n3 ys → n3 ≤ 1048577 → ∀ (A4 : Option Addr) (n4 c4 : Nat) (vs : List Int), Ints W W.heap.size A4 n4 vs → n4 ≤ 1048576 → Calls Try.prog 40 #[.slice A n c, .slice A3 n3 c3, .slice A4 n4 c4] W fun e w' => e = .returned (.int .i64 (gu vs (pk ys (its.map It.dat)))) ∧ Below W.heap.size W w') := Lib.hid fun W A3 n3 c3 ys hW h3 hn3 A4 n4 c4 vs h4 hn4 => sBestU W B A n c its (hi.below (hW.mono hB)) (Nat.le_trans hB hW.size) hn hN W.heap.size A3 n3 c3 ys h3 (Nat.le_refl _) hn3 W.heap.size A4 n4 c4 vs h4 (Nat.le_refl _) hn4 _ rfl
  have HX2 : Hid (∀ W, Below w.heap.size w W → Ints W W.heap.size A2 n2 xs) := Lib.hid fun W hW => ((h2.more hB2).below hW).more hW.size
  have hil : its.length = n := hi.1
  have hidl : idL its = (its.map It.dat).map (·.1) := by unfold idL; rw [List.map_map]; rfl
  obtain ⟨ds, hds⟩ : ∃ ds, its.map It.dat = ds := ⟨_, rfl⟩
  rw [hds] at hqa hqk hD HU hidl
  have HPk : Hid (pk (idL its) ds = ds) := Lib.hid (by rw [hidl]; exact pk_all ds)
  have HYes : Hid (qa = true → qk = true → N = (reg ds (pk xs ds)).num ∧ D = (reg ds (pk xs ds)).den ∧ ws = (reg ds (pk xs ds)).ws) := Lib.hid fun h1 h2 => hD.yes (hqa.1 h1) (hqk.1 h2)
  have HNo : Hid (¬ (qa = true ∧ qk = true) → N = 0 ∧ D = 1 ∧ ws = []) := Lib.hid fun h => hD.no fun ⟨h1, h2⟩ => h ⟨hqa.2 h1, hqk.2 h2⟩
  clear hi h2 hD hqa hqk hds hidl
  have HB0 : Hid (Below w.heap.size w (w.alloc (.cells #[] 3))) := Lib.hid ((Below.refl _ w).alloc (Nat.le_refl _) _)
  have HE0 : Hid (OwnI (w.alloc (.cells #[] 3)) w.heap.size (.slice (some ⟨w.heap.size, 0, none⟩) 0 0) []) := Lib.hid (OwnI.empty w w.heap.size (Nat.le_refl _))
  go_enter Try.func8, Try.ntmps8
  go_wp2_with fail
  refine (HAr.out _ HB0.out).mono ?_
  rintro e w1 ⟨rfl, hb1⟩
  have HB1 := Lib.hid (below_on HB0.out hb1)
  have HE1 := Lib.hid (ownI_below HE0.out hb1)
  clear hb1 HE0 HB0
  cases qa
  · obtain ⟨rfl, rfl, rfl⟩ := HNo.out (fun h => by cases h.1)
    go_wp2
    go_ret3
    exact ⟨⟨_, rfl, HE1.out⟩, HB1.out⟩
  · go_wp2_with fail
    refine (HKn.out _ HB1.out).mono ?_
    rintro e w2 ⟨rfl, hb2⟩
    have HB2 := Lib.hid (below_on HB1.out hb2)
    have HE2 := Lib.hid (ownI_below HE1.out hb2)
    clear hb2 HE1 HB1
    cases qk
    · obtain ⟨rfl, rfl, rfl⟩ := HNo.out (fun h => by cases h.2)
      go_wp2
      go_ret3
      exact ⟨⟨_, rfl, HE2.out⟩, HB2.out⟩
    · obtain ⟨rfl, rfl, rfl⟩ := HYes.out (by first | rfl | trivial) (by first | rfl | trivial)
      go_wp2_with fail
      refine (HId.out _ HB2.out).mono ?_
      rintro e w3 ⟨⟨A3, n3, c3, rfl, hi3⟩, hb3⟩
      have hn3 : n3 ≤ 1048577 := by have h := hi3.1; rw [idL_len, hil] at h; omega
      have HB3 := Lib.hid (below_on HB2.out hb3)
      have HE3 := Lib.hid (ownI_below HE2.out hb3)
      have HI3 := Lib.hid hi3
      clear hb3 HE2 HB2 hi3
      go_wp2_with fail
      refine (sWL w3).mono ?_
      rintro e w4 ⟨⟨A5, c5, rows, rfl, hx, hown⟩, hb4⟩
      have HB4 := Lib.hid (below_on HB3.out hb4)
      have HE4 := Lib.hid (ownI_below HE3.out hb4)
      have HI4 := Lib.hid (HI3.out.step hb4)
      have HX := Lib.hid hx
      have HO := Lib.hid hown
      have HRd := Lib.hid (hown.r.read irC_len)
      have hrl : rows.length = 63 := by rw [← wl_len, ← hx]; simp [xsR]
      clear hb4 HE3 HB3 HI3 hx hown
      have hs : ∀ d ∈ pk xs ds, d ∈ ds := pk_sub xs ds
      have HSt : Hid (RegS w ds (pk xs ds) 0 0 1 (.slice (some ⟨w.heap.size, 0, none⟩) 0 0) w4) := Lib.hid ⟨rfl, rfl, ⟨_, _, _, rfl, ownI_at HE4.out⟩, HB4.out⟩
      have HHs := Lib.hid hs
      clear hs
      go_wp2
      go_loopw [7, 8, 9, 12] (fun nv dv v iv wr => ∃ (i : Nat) (num den : Int) (V : Value), i ≤ 63 ∧ iv = .int .i64 i ∧ nv = .int .i64 num ∧ dv = .int .i64 den ∧ V = v ∧ RegS w ds (pk xs ds) i num den V wr ∧ Below w4.heap.size w4 wr) (fun _ _ _ iv _ => 63 - (intOf iv).toNat)
      case atStart => exact ⟨0, 0, 1, _, by decide, rfl, rfl, rfl, rfl, HSt.out, Below.refl _ _⟩
      case round =>
        obtain ⟨i, num, den, V, hi, rfl, rfl, rfl, rfl, hst, hbel⟩ := hrel
        have HS := Lib.hid hst
        have HB := Lib.hid hbel
        have hrng := regF_range HHs.out (wl.take i)
        rw [← hst.num, ← hst.den] at hrng
        clear hst
        by_cases hlt : i < 63
        · obtain ⟨b, off, y, hA, hb, hat, hd⟩ := ir_at HRd.out hlt
          subst hA
          have f0 := (hbel.cell (p := ⟨b, off + i, none⟩) hb).trans hd
          have hlt' : (i : Int) < 63 := by omega
          have hyw : wl[i]? = some y.xs := by rw [← HX.out]; unfold xsR; rw [List.getElem?_map, hat]; rfl
          have HYw := Lib.hid hyw
          have HYi : Hid (∀ W, Below w4.heap.size w4 W → Ints W W.heap.size y.A y.n y.xs) := Lib.hid fun W hW => ((ownI_at (HO.out.x i y hat)).below hW).more hW.size
          have hy3 : y.n ≤ 1048576 := by
            have h1 := (ownI_at (HO.out.x i y hat)).1
            have h2 := (wl_ok (List.mem_of_getElem? hyw)).1
            omega
          have HU1 := Lib.hid fun W (hW : Below w4.heap.size w4 W) => HU.out W A3 n3 c3 (idL its) (below_on HB4.out hW) ((HI4.out.below hW).more hW.size) hn3 y.A y.n y.c y.xs (HYi.out W hW) hy3
          have HU2 := Lib.hid fun W (hW : Below w4.heap.size w4 W) => HU.out W A2 n2 c2 xs (below_on HB4.out hW) (HX2.out W (below_on HB4.out hW)) hn2 y.A y.n y.c y.xs (HYi.out W hW) hy3
          rw [HPk.out] at HU1
          have r1 := gu_range y.xs ds
          have r2 := gu_range y.xs (pk xs ds)
          have r3 := gu_mono (w := y.xs) HHs.out
          obtain ⟨D1, hD1⟩ : ∃ D, gu y.xs ds = D := ⟨_, rfl⟩
          obtain ⟨D2, hD2⟩ : ∃ D, gu y.xs (pk xs ds) = D := ⟨_, rfl⟩
          rw [hD1] at HU1 r1 r3
          rw [hD2] at HU2 r2 r3
          have HD1 := Lib.hid hD1
          have HD2 := Lib.hid hD2
          clear hd hat hyw hD1 hD2 hbel
          go_wp2_with fail
          refine (HU1.out _ HB.out).mono ?_
          rintro e w5 ⟨rfl, hb5⟩
          have HB5 := Lib.hid (below_on HB.out hb5)
          have HS5 := Lib.hid (HS.out.step hb5)
          have f5 := (hb5.cell (p := ⟨b, off + i, none⟩) (Nat.lt_of_lt_of_le hb HB.out.size)).trans f0
          clear hb5 HU1 f0
          go_wp2_with fail
          refine (HU2.out _ HB5.out).mono ?_
          rintro e w6 ⟨rfl, hb6⟩
          have HB6 := Lib.hid (below_on HB5.out hb6)
          have HS6 := Lib.hid (HS5.out.step hb6)
          have f6 := (hb6.cell (p := ⟨b, off + i, none⟩) (Nat.lt_of_lt_of_le hb HB5.out.size)).trans f5
          clear hb6 HU2 f5
          have m1 := mul_hundred (a := D1 - D2) (b := den) (by omega) (by omega) (by omega) (by omega)
          have m2 := mul_hundred (a := num) (b := D1) (by omega) (by omega) (by omega) (by omega)
          have htk := take_at HYw.out
          by_cases hgt : (D1 - D2) * den > num * D1
          · have hst : RegS w ds (pk xs ds) (i + 1) (D1 - D2) D1 (.slice y.A y.n y.c) w6 := by
              have e := regF_yes (ds := ds) (cs := pk xs ds) (l := wl.take i) (w := y.xs) (by rw [HD1.out, HD2.out, ← HS6.out.num, ← HS6.out.den]; exact hgt)
              rw [← htk, HD1.out, HD2.out] at e
              exact ⟨by rw [e], by rw [e], ⟨_, _, _, rfl, by rw [e]; exact HYi.out _ HB6.out⟩, HS6.out.b⟩
            have HSt := Lib.hid hst
            clear hst htk
            go_wp2
            go_roundw
            case rel => exact ⟨i + 1, D1 - D2, D1, _, by omega, by go_num, rfl, rfl, rfl, HSt.out, HB6.out⟩
            case measure => simp [intOf]; omega
          · have hst : RegS w ds (pk xs ds) (i + 1) num den V w6 := by
              have e := regF_no (ds := ds) (cs := pk xs ds) (l := wl.take i) (w := y.xs) (by rw [HD1.out, HD2.out, ← HS6.out.num, ← HS6.out.den]; exact hgt)
              rw [← htk] at e
              obtain ⟨A7, n7, c7, h7, h8⟩ := HS6.out.v
              exact ⟨by rw [e]; exact HS6.out.num, by rw [e]; exact HS6.out.den, ⟨A7, n7, c7, h7, by rw [e]; exact h8⟩, HS6.out.b⟩
            have HSt := Lib.hid hst
            clear hst htk
            go_wp2
            go_roundw
            case rel => exact ⟨i + 1, num, den, _, by omega, by go_num, rfl, rfl, rfl, HSt.out, HB6.out⟩
            case measure => simp [intOf]; omega
        · obtain rfl : i = 63 := by omega
          have ht : wl.take 63 = wl := List.take_of_length_le (by rw [wl_len]; decide)
          obtain ⟨h1, h2, ⟨A7, n7, c7, rfl, h3⟩, h4⟩ := HS.out
          rw [ht] at h1 h2 h3
          replace h3 : Ints wr wr.heap.size A7 n7 (reg ds (pk xs ds)).ws := h3
          have e1 : num = (reg ds (pk xs ds)).num := h1
          have e2 : den = (reg ds (pk xs ds)).den := h2
          have h7 : n7 ≤ 3 := by
            rw [← h3.1]
            rcases reg_ws (ds := ds) (cs := pk xs ds) with h | ⟨_, h⟩
            · show (reg ds (pk xs ds)).ws.length ≤ 3; rw [h]; simp
            · show (reg ds (pk xs ds)).ws.length ≤ 3; rw [h]; simp
          have E1 := Lib.hid e1
          have E2 := Lib.hid e2
          have HBz : Hid (Below wr.heap.size wr (wr.alloc (.cells #[] 3))) := Lib.hid ((Below.refl _ wr).alloc (Nat.le_refl _) _)
          obtain ⟨v', w', hr, ho, hg, ha⟩ := run_spreadI (ty := 25) (c := c7) (OwnI.empty wr wr.heap.size (Nat.le_refl _)) (h3.below HBz.out) (by simp; omega) (by simp)
          have HOo : Hid (OwnI w' wr.heap.size v' (reg ds (pk xs ds)).ws) := Lib.hid (by simpa using ho)
          have HBo : Hid (Below wr.heap.size wr w') := Lib.hid (((Below.refl _ wr).alloc (Nat.le_refl _) _).grown hg (by simp) (by intro k hk; simp [Value.ownBlock] at hk; omega))
          have HBw := Lib.hid h4
          clear ho hg ha h1 h2 h3 h4 hbel e1 e2 HS
          go_wp2_with (at_builtin; refine Go.Lib.wpList_append_run_sl _ (by rfl) (.tmp 66) (.tmp 67) 25 (by rfl) _ _ (by rfl) (by rfl) hr ?_)
          clear hr
          go_wp2
          go_ret3
          exact ⟨⟨_, by rw [← E1.out, ← E2.out]; rfl, ownI_lower HOo.out HBw.out.size⟩, below_on HBw.out HBo.out⟩
end Go.Proofs.Ytceiocdemhkcdaa.num
namespace Go.Proofs.Ytceiocdemhkcdaa.num
set_option maxRecDepth 20000
open Go.Shelf Go.Proofs
def sortRowsRen : Go.Shelf.Ren := ⟨fun | 6 => 80 | 15 => 100 | 14 => 99 | 28 => 116 | 29 => 117 | 20 => 108 | 21 => 109 | 22 => 110 | 23 => 111 | 24 => 112 | 25 => 113 | 26 => 114 | 27 => 115 | 46 => 128 | 47 => 129 | 48 => 130 | 49 => 131 | 50 => 132 | 57 => 142 | n => n, fun | 22 => 31 | 24 => 25 | 25 => 103 | 3 => 3 | 39 => 132 | 0 => 0 | 53 => 148 | 55 => 150 | 4 => 4 | 46 => 141 | 45 => 140 | 50 => 145 | 5 => 5 | 9 => 9 | 66 => 161 | 70 => 165 | 76 => 181 | 77 => 182 | n => n, fun | n => n⟩
theorem sortRows : Go.Proofs.SlLaysF.n6 Try.prog sortRowsRen := {
  mixed := by kernel_rfl
  f6 := ⟨Try.f80.name, by decide, Try.func80.trans (congrArg some (by kernel_rfl))⟩
  f14 := ⟨Try.f99.name, by decide, Try.func99.trans (congrArg some (by kernel_rfl))⟩
  f15 := Try.func100.trans (congrArg some (by kernel_rfl))
  f20 := ⟨Try.f108.name, by decide, Try.func108.trans (congrArg some (by kernel_rfl))⟩
  f21 := ⟨Try.f109.name, by decide, Try.func109.trans (congrArg some (by kernel_rfl))⟩
  f22 := ⟨Try.f110.name, by decide, Try.func110.trans (congrArg some (by kernel_rfl))⟩
  f23 := ⟨Try.f111.name, by decide, Try.func111.trans (congrArg some (by kernel_rfl))⟩
  f24 := ⟨Try.f112.name, by decide, Try.func112.trans (congrArg some (by kernel_rfl))⟩
  f25 := ⟨Try.f113.name, by decide, Try.func113.trans (congrArg some (by kernel_rfl))⟩
  f26 := ⟨Try.f114.name, by decide, Try.func114.trans (congrArg some (by kernel_rfl))⟩
  f27 := ⟨Try.f115.name, by decide, Try.func115.trans (congrArg some (by kernel_rfl))⟩
  f28 := Try.func116.trans (congrArg some (by kernel_rfl))
  f29 := Try.func117.trans (congrArg some (by kernel_rfl))
  f46 := ⟨Try.f128.name, by decide, Try.func128.trans (congrArg some (by kernel_rfl))⟩
  f47 := Try.func129.trans (congrArg some (by kernel_rfl))
  f48 := Try.func130.trans (congrArg some (by kernel_rfl))
  f49 := ⟨Try.f131.name, by decide, Try.func131.trans (congrArg some (by kernel_rfl))⟩
  f50 := ⟨Try.f132.name, by decide, Try.func132.trans (congrArg some (by kernel_rfl))⟩
  f57 := ⟨Try.f142.name, by decide, Try.func142.trans (congrArg some (by kernel_rfl))⟩
  t0 := Try.underlying0
  a0 := Try.isAgg0
  z0 := Try.sizeOf0
  v0 := Try.zeroValue0
  t3 := Try.underlying3
  a3 := Try.isAgg3
  z3 := Try.sizeOf3
  v3 := Try.zeroValue3
  t4 := Try.underlying4
  a4 := Try.isAgg4
  z4 := Try.sizeOf4
  v4 := Try.zeroValue4
  t5 := Try.underlying5
  a5 := Try.isAgg5
  z5 := Try.sizeOf5
  v5 := Try.zeroValue5
  t9 := Try.underlying9
  a9 := Try.isAgg9
  z9 := Try.sizeOf9
  v9 := Try.zeroValue9
  t22 := Try.underlying31
  a22 := Try.isAgg31
  z22 := Try.sizeOf31
  v22 := Try.zeroValue31
  a24 := Try.isAgg25
  z24 := Try.sizeOf25
  t25 := Try.underlying103
  a25 := Try.isAgg103
  z25 := Try.sizeOf103
  v25 := Try.zeroValue103
  t39 := Try.underlying132
  a39 := Try.isAgg132
  z39 := Try.sizeOf132
  v39 := Try.zeroValue132
  t45 := Try.underlying140
  a45 := Try.isAgg140
  z45 := Try.sizeOf140
  v45 := Try.zeroValue140
  t46 := Try.underlying141
  a46 := Try.isAgg141
  z46 := Try.sizeOf141
  v46 := Try.zeroValue141
  t50 := Try.underlying145
  a50 := Try.isAgg145
  z50 := Try.sizeOf145
  v50 := Try.zeroValue145
  t53 := Try.underlying148
  a53 := Try.isAgg148
  z53 := Try.sizeOf148
  v53 := Try.zeroValue148
  t55 := Try.underlying150
  a55 := Try.isAgg150
  z55 := Try.sizeOf150
  v55 := Try.zeroValue150
  t66 := Try.underlying161
  a66 := Try.isAgg161
  z66 := Try.sizeOf161
  v66 := Try.zeroValue161
  t70 := Try.underlying165
  a70 := Try.isAgg165
  z70 := Try.sizeOf165
  v70 := Try.zeroValue165
  t76 := Try.underlying181
  a76 := Try.isAgg181
  z76 := Try.sizeOf181
  v76 := Try.zeroValue181
  t77 := Try.underlying182
  a77 := Try.isAgg182
  z77 := Try.sizeOf182
  v77 := Try.zeroValue182 }
end Go.Proofs.Ytceiocdemhkcdaa.num
namespace Go.Proofs.Ytceiocdemhkcdaa.num
set_option maxRecDepth 20000
open Go.RowKit
set_option linter.unusedVariables false
set_option linter.unusedSimpArgs false

def cmpI (x y : Int) : Int := if x < y then -1 else if y < x then 1 else 0
theorem cmpI_lt (x y : Int) : decide (cmpI x y < 0) = decide (x < y) := by
  unfold cmpI
  rw [Bool.eq_iff_iff, decide_eq_true_iff, decide_eq_true_iff]
  repeat' split
  all_goals omega
def ltK (key : It → Int) (x y : It) : Bool := decide (key x < key y)
theorem nan_int (x : Int) (w : World) : Calls Try.prog 101 #[.int .i64 x] w fun e w' => e = .returned (.bool false) ∧ w' = w := by
  go_enter Try.func101, Try.ntmps101
  go_wp2
  go_ret
  exact ⟨by simp, rfl⟩
theorem cmp_int (x y : Int) (w : World) : Calls Try.prog 83 #[.int .i64 x, .int .i64 y] w fun e w' => e = .returned (.int .i64 (cmpI x y)) ∧ w' = w := by
  have HZ : Hid (∀ z, cmpI x y = z → z = if x < y then -1 else if y < x then 1 else 0) := Lib.hid fun z h => h.symm
  generalize hz : cmpI x y = z at *
  have h := HZ.out z rfl
  clear HZ hz
  by_cases h1 : x < y
  · rw [if_pos h1] at h
    subst h
    go_enter Try.func83, Try.ntmps83
    go_wp2_with (go_at_call 101; refine (nan_int _ _).mono ?_; rintro e w1 ⟨rfl, rfl⟩)
    go_ret
    exact ⟨rfl, rfl⟩
  · rw [if_neg h1] at h
    by_cases h2 : y < x
    · rw [if_pos h2] at h
      subst h
      go_enter Try.func83, Try.ntmps83
      go_wp2_with (go_at_call 101; refine (nan_int _ _).mono ?_; rintro e w1 ⟨rfl, rfl⟩)
      go_ret
      exact ⟨rfl, rfl⟩
    · rw [if_neg h2] at h
      subst h
      go_enter Try.func83, Try.ntmps83
      go_wp2_with (go_at_call 101; refine (nan_int _ _).mono ?_; rintro e w1 ⟨rfl, rfl⟩)
      go_ret
      exact ⟨rfl, rfl⟩
end Go.Proofs.Ytceiocdemhkcdaa.num
namespace Go.Proofs.Ytceiocdemhkcdaa.num
set_option maxRecDepth 20000
open Go.RowKit
set_option linter.unusedVariables false
set_option linter.unusedSimpArgs false

set_option maxRecDepth 20000 in
set_option maxHeartbeats 1600000 in
theorem cmp_rows (w : World) (B : Nat) (A A' : Option Addr) (n n' c c' : Nat) (xs ys : List Int) (hx : Ints w B A n xs) (hy : Ints w B A' n' ys) (hn : n ≤ 1048576) (hn' : n' ≤ 1048576) :
    Calls Try.prog 84 #[.slice A n c, .slice A' n' c'] w fun e w' => e = .returned (.int .i64 (lexC xs ys)) ∧ w' = w := by
  have HX := Lib.hid hx
  have HY := Lib.hid hy
  clear hx hy
  go_enter Try.func84, Try.ntmps84
  go_wp2
  go_loopw [11] (fun i wr => ∃ k : Nat, k ≤ n ∧ k ≤ n' ∧ i = .int .i64 k ∧ xs.take k = ys.take k ∧ wr = w) (fun i _ => n - (intOf i).toNat)
  case atStart => exact ⟨0, Nat.zero_le _, Nat.zero_le _, rfl, rfl, rfl⟩
  case round =>
    obtain ⟨k, hk, hk', rfl, htake, rfl⟩ := hrel
    have HT := Lib.hid htake
    clear htake
    by_cases hlt : k < n
    · obtain ⟨b1, o1, u, rfl, hb1, hat1, hc1⟩ := HX.out.at k hlt
      have hlt' : (k : Int) < (n : Int) := by omega
      have H1 := Lib.hid hat1
      clear hat1
      by_cases hge : k < n'
      · obtain ⟨b2, o2, v, rfl, hb2, hat2, hc2⟩ := HY.out.at k hge
        have hge' : ¬ (n' : Int) ≤ (k : Int) := by omega
        have H2 := Lib.hid hat2
        clear hat2
        have hge2 : (k : Int) < (n' : Int) := by omega
        have HCm := Lib.hid (cmp_int u v wr)
        have hci : cmpI u v = if u < v then -1 else if v < u then 1 else 0 := rfl
        obtain ⟨z, hz⟩ : ∃ z, cmpI u v = z := ⟨_, rfl⟩
        rw [hz] at HCm hci
        have hlx := lexC_at k HT.out H1.out H2.out
        have hstep : z ≠ 0 → lexC xs ys = z := fun h0 => by
          rw [hci] at h0 ⊢
          by_cases h1 : u < v
          · rw [if_pos h1]; exact hlx.1 h1
          · by_cases h2 : v < u
            · rw [if_neg h1, if_pos h2]; exact hlx.2 h2
            · rw [if_neg h1, if_neg h2] at h0; exact absurd rfl h0
        have hsame : z = 0 → u = v := fun h0 => by
          rw [hci] at h0
          by_cases h1 : u < v
          · rw [if_pos h1] at h0; simp at h0
          · by_cases h2 : v < u
            · rw [if_neg h1, if_pos h2] at h0; simp at h0
            · omega
        have HSt := Lib.hid hstep
        have HSa := Lib.hid hsame
        clear hz hci hlx hstep hsame
        go_wp2_with fail
        refine HCm.out.mono ?_
        rintro e w2 ⟨rfl, rfl⟩
        by_cases h0 : z = 0
        · subst h0
          obtain rfl := HSa.out rfl
          go_wp2
          go_roundw
          case rel => exact ⟨k + 1, by omega, by omega, by go_num, by rw [take_at H1.out, take_at H2.out, HT.out], by first | rfl | trivial⟩
          case measure => simp [intOf]; omega
        · have hne : (z != 0) = true := by simpa using h0
          go_wp2
          go_ret
          exact ⟨by rw [HSt.out h0]; rfl, rfl⟩
      · obtain rfl : k = n' := by omega
        have hr : lexC xs ys = 1 := by
          have h1 : ys = xs.take ys.length := by
            have h := HT.out
            rw [take_all HY.out.1] at h
            rw [HY.out.1]
            exact h.symm
          exact lexC_long h1 (by rw [HX.out.1, HY.out.1]; exact hlt)
        have HR := Lib.hid hr
        clear hr
        go_wp2
        go_ret
        exact ⟨by rw [HR.out]; rfl, rfl⟩
    · obtain rfl : k = n := by omega
      have h1 : xs = ys.take xs.length := by
        have h := HT.out
        rw [take_all HX.out.1] at h
        rw [HX.out.1]
        exact h
      have hr := lexC_short h1
      rw [HX.out.1, HY.out.1] at hr
      have HR := Lib.hid hr
      clear h1 hr
      by_cases hl : k < n'
      · have hl' : (k : Int) < (n' : Int) := by omega
        go_wp2
        go_ret
        exact ⟨by rw [HR.out, if_pos hl]; rfl, rfl⟩
      · have hl' : ¬ (k : Int) < (n' : Int) := by omega
        go_wp2
        go_ret
        exact ⟨by rw [HR.out, if_neg hl]; rfl, rfl⟩
set_option maxRecDepth 20000 in
theorem or_two (w : World) (g c : Nat) (a b : Int) (h0 : w.cell? ⟨g, 0, none⟩ = some (.int .i64 a)) (h1 : w.cell? ⟨g, 1, none⟩ = some (.int .i64 b)) :
    Calls Try.prog 82 #[.slice (some ⟨g, 0, none⟩) 2 c] w fun e w' => e = .returned (.int .i64 (if a = 0 then b else a)) ∧ w' = w := by
  have H0 := Lib.hid h0
  have H1 := Lib.hid h1
  clear h0 h1
  go_enter Try.func82, Try.ntmps82
  go_wp2
  go_loopw [8] (fun i wr => ∃ k : Nat, k ≤ 2 ∧ i = .int .i64 k ∧ (0 < k → a = 0) ∧ (1 < k → b = 0) ∧ wr = w) (fun i _ => 2 - (intOf i).toNat)
  case atStart => exact ⟨0, by decide, rfl, fun h => by omega, fun h => by omega, rfl⟩
  case round =>
    obtain ⟨k, hk, rfl, ha, hb, rfl⟩ := hrel
    have q0 := H0.out
    have q1 := H1.out
    rcases (show k = 0 ∨ k = 1 ∨ k = 2 by omega) with rfl | rfl | rfl
    · by_cases h : a = 0
      · subst h
        go_wp2
        go_roundw
        case rel => exact ⟨1, by decide, rfl, (fun _ => by first | rfl | trivial), fun h => by omega, by first | rfl | trivial⟩
        case measure => simp [intOf]
      · have hne : (a != 0) = true := by simpa using h
        go_wp2
        go_ret
        exact ⟨rfl, rfl⟩
    · obtain rfl := ha (by decide)
      by_cases h : b = 0
      · subst h
        go_wp2
        go_roundw
        case rel => exact ⟨2, by decide, rfl, (fun _ => by first | rfl | trivial), (fun _ => by first | rfl | trivial), by first | rfl | trivial⟩
        case measure => simp [intOf]
      · have hne : (b != 0) = true := by simpa using h
        go_wp2
        go_ret
        exact ⟨rfl, rfl⟩
    · obtain rfl := ha (by decide)
      obtain rfl := hb (by decide)
      go_wp2
      go_ret
      exact ⟨rfl, rfl⟩
set_option maxRecDepth 20000 in
theorem cmp_sets (w : World) (B : Nat) (A A' : Option Addr) (n n' c c' : Nat) (xs ys : List Int) (hx : Ints w B A n xs) (hy : Ints w B A' n' ys) (hn : n ≤ 1048576) (hn' : n' ≤ 1048576) :
    Calls Try.prog 81 #[.slice A n c, .slice A' n' c'] w fun e w' => e = .returned (.int .i64 (cmpL xs ys)) ∧ ∃ o, w' = w.alloc o := by
  have h1 := hx.1
  have h2 := hy.1
  obtain ⟨z1, hz1⟩ : ∃ z, cmpI (n : Int) (n' : Int) = z := ⟨_, rfl⟩
  obtain ⟨z2, hz2⟩ : ∃ z, lexC xs ys = z := ⟨_, rfl⟩
  have hr : cmpL xs ys = if z1 = 0 then z2 else z1 := by
    rw [← hz1, ← hz2]
    have e : cmpI (n : Int) (n' : Int) = if n < n' then -1 else if n' < n then 1 else 0 := by unfold cmpI; simp only [Int.ofNat_lt]
    rw [e]
    unfold cmpL
    rw [h1, h2]
    by_cases q1 : n < n'
    · rw [if_pos q1, if_pos q1]; rfl
    · by_cases q2 : n' < n
      · rw [if_neg q1, if_neg q1, if_pos q2, if_pos q2]; rfl
      · rw [if_neg q1, if_neg q1, if_neg q2, if_neg q2]; rfl
  have HC1 := Lib.hid (cmp_int (n : Int) (n' : Int) w)
  have HC2 := Lib.hid (cmp_rows w B A A' n n' c c' xs ys hx hy hn hn')
  rw [hz1] at HC1
  rw [hz2] at HC2
  obtain ⟨z3, hz3⟩ : ∃ z, cmpL xs ys = z := ⟨_, rfl⟩
  rw [hz3] at hr ⊢
  have HOr : Hid (Calls Try.prog 82 #[.slice (some ⟨w.heap.size, 0, none⟩) 2 2] (w.alloc (.cells #[.int .i64 z1, .int .i64 z2] 3)) fun e w' => e = .returned (.int .i64 z3) ∧ w' = w.alloc (.cells #[.int .i64 z1, .int .i64 z2] 3)) := Lib.hid (by rw [hr]; exact or_two _ _ _ _ _ (by rw [World.cell?_alloc_at _ _ _ _ rfl]; rfl) (by rw [World.cell?_alloc_at _ _ _ _ rfl]; rfl))
  clear hx hy h1 h2 hr hz1 hz2 hz3
  go_enter Try.func81, Try.ntmps81
  go_wp2_with fail
  refine HC1.out.mono ?_
  rintro e w1 ⟨rfl, rfl⟩
  go_wp2_with fail
  refine HC2.out.mono ?_
  rintro e w2 ⟨rfl, rfl⟩
  go_wp2_with fail
  refine HOr.out.mono ?_
  rintro e w3 ⟨rfl, rfl⟩
  go_wp2
  go_ret
  exact ⟨rfl, _, rfl⟩
end Go.Proofs.Ytceiocdemhkcdaa.num
namespace Go.Proofs.Ytceiocdemhkcdaa.num
set_option maxRecDepth 20000
open Go.RowKit
set_option linter.unusedVariables false
set_option linter.unusedSimpArgs false

/-- What was in a slice of rows before an append is there behind it, at the old place. -/
theorem keep_rows {w w' : World} {B B' g n cap ge : Nat} {ty : TypeId} {l : List IR} {y : IR} {v' : Value} (hown : OwnG 25 irC 1 w B (.slice (some ⟨g, 0, none⟩) n cap) l) (hE : w.cell? ⟨ge, 0, none⟩ = some y.val) (hlen : n ≤ 1000)
    (hr : (Builtin.append_ #[31, 31] ty #[.slice (some ⟨g, 0, none⟩) n cap, .slice (some ⟨ge, 0, none⟩) 1 1]).run Try.prog w = .ok v' w') (ho : OwnG 25 irC 1 w' B' v' (l ++ [y])) : ReadG irC 1 w' w'.heap.size (some ⟨g, 0, none⟩) n l := by
  obtain ⟨i, hi, hz⟩ := Option.map_eq_some_iff.1 info_ints
  simp only [Prod.mk.injEq] at hz
  obtain ⟨hz0, hz1, hz2⟩ := hz
  have hln : l.length = n := (hown.read irC_len).len
  have hnews : ∀ j u, [y.val][j]? = some u → w.cell? ((⟨ge, 0, none⟩ : Addr).add j) = some u := by
    intro j u hj
    rcases j with _ | j
    · simp at hj
      subst hj
      rw [addr_add]
      exact hE
    · simp at hj
  have hread := hown.read irC_len
  have hown0 := hown
  obtain ⟨h0, h | ⟨g', cap', cur, e, hbg, hg, hnc, hcm, hcs, htake⟩⟩ := hown
  · cases h.1
  · injection e with e1 e2 e3
    injection e1 with e1
    injection e1 with e1
    subst e1 e3
    rw [hln] at hnc htake
    by_cases hroom : n + 1 ≤ cap
    · have hr2 := run_append_room (P := Try.prog) w 31 ty 25 i Try.underlying31 hi g n cap cur hg ⟨ge, 0, none⟩ 1 1 [y.val] (by rw [hz1]; rfl) hnews (by simp [IR.val, Value.oneCell']) hroom (by rw [hz1, hcs]; simp; omega)
      have e2 := hr.symm.trans hr2
      injection e2 with e2 e4
      subst e2
      have h1 := (ho.read irC_len).take (k := n) (by omega)
      rwa [List.take_append_of_le_length (by omega), List.take_of_length_le (by omega)] at h1
    · have hcells := hown0.read irC_len
      have hr2 := run_append_grow (P := Try.prog) w 31 ty 25 i _ Try.underlying31 hi hz0 ⟨g, 0, none⟩ n cap (l.flatMap irC) (by rw [fm_len irC_len, hln, hz1]) (fun j u hj => by
        rcases Nat.eq_zero_or_pos n with hn0 | hn0
        · rw [List.eq_nil_of_length_eq_zero (hln.trans hn0)] at hj; simp at hj
        · obtain ⟨b, off, eA, -, hc⟩ := hcells.cells irC_len hn0
          injection eA with eA
          injection eA with e5 e6
          subst e5 e6
          have := hc j u hj
          rwa [Nat.zero_add, ← Nat.zero_add j, ← addr_add] at this) ⟨ge, 0, none⟩ 1 1 [y.val] (by rw [hz1]; rfl) hnews (by omega) (by omega) (by
          have := growslice_fits (need := n + 1) (old := cap) (bytes := i.bytes) (by omega) (by rw [hz2]; omega)
          exact this)
      have e2 := hr.symm.trans hr2
      injection e2 with e2 e4
      subst e4
      exact (hread.blocks fun k hk => heap_alloc_old w.drew _ hk).more (by simp)
theorem subs_small {l : List Int} (h : l.length ≤ 8) : (subs l).length ≤ 256 := by
  rw [subs_len]
  exact Nat.le_trans (Nat.pow_le_pow_right (by decide) h) (by decide)
theorem subs_each {l s : List Int} (h : s ∈ subs l) : s.length ≤ l.length := by
  obtain ⟨k, _, rfl⟩ := subs_mem h
  exact msk_len l k
/-- The sets so far, while those with a number more are made. -/
def setK (l : List Int) (a : Int) (i : Nat) : List (List Int) := subs l ++ ((subs l).take i).map (· ++ [a])
theorem setK_zero (l : List Int) (a : Int) : setK l a 0 = subs l := by simp [setK]
theorem setK_more (l : List Int) (a : Int) (i : Nat) {s : List Int} (h : (subs l)[i]? = some s) : setK l a (i + 1) = setK l a i ++ [s ++ [a]] := by
  unfold setK
  rw [take_at h, List.map_append, List.append_assoc]
  rfl
theorem setK_done (l : List Int) (a : Int) : setK l a (subs l).length = subs (l ++ [a]) := by
  unfold setK
  rw [List.take_length, subs_snoc]
theorem setK_len (l : List Int) (a : Int) (i : Nat) (h : l.length ≤ 8) : (setK l a i).length ≤ 600 := by
  have h1 := subs_small h
  unfold setK
  rw [List.length_append, List.length_map, List.length_take]
  omega
/-- append of one row to rows of the call's own: what it yields, and that every old view of the rows reads on. -/
theorem run_appR {w : World} {B g n cap : Nat} {ty : TypeId} {l : List IR} (y : IR) (hown : OwnR w B (.slice (some ⟨g, 0, none⟩) n cap) l) (hy : OwnI w B y.val y.xs) (hap : ∀ b, y.val.ownBlock = some b → ¬ hasX IRK (.slice (some ⟨g, 0, none⟩) n cap) l b) (hlen : l.length ≤ 1000) (hB : B ≤ w.heap.size) :
    ∃ g' n' c' w', (Builtin.append_ #[31, 31] ty #[.slice (some ⟨g, 0, none⟩) n cap, .slice (some ⟨w.heap.size, 0, none⟩) 1 1]).run Try.prog (w.alloc (.cells #[y.val] 25)) = .ok (.slice (some ⟨g', 0, none⟩) n' c') w' ∧ OwnR w' B (.slice (some ⟨g', 0, none⟩) n' c') (l ++ [y]) ∧ Below B w w' ∧ ∀ {g0 n0 : Nat} {l0 : List IR}, ReadG irC 1 w w.heap.size (some ⟨g0, 0, none⟩) n0 l0 → l.take n0 = l0 → ReadG irC 1 w' w'.heap.size (some ⟨g0, 0, none⟩) n0 l0 := by
  have hln : l.length = n := (hown.r.read irC_len).len
  have hba : Below w.heap.size w (w.alloc (.cells #[y.val] 25)) := (Below.refl _ w).alloc (Nat.le_refl _) _
  have own1 := hown.below hba
  have hE : (w.alloc (.cells #[y.val] 25)).cell? ⟨w.heap.size, 0, none⟩ = some y.val := by
    rw [World.cell?_alloc_at _ _ _ _ rfl]; rfl
  have hsz : (w.alloc (.cells #[y.val] 25)).heap.size = w.heap.size + 1 := World.size_alloc _ _
  have hrd : ReadG irC 1 (w.alloc (.cells #[y.val] 25)) (w.heap.size + 1) (some ⟨w.heap.size, 0, none⟩) 1 [y] := ⟨rfl, fun k x hk => by
    rcases k with _ | k
    · simp at hk
      subst hk
      refine ⟨w.heap.size, 0, rfl, Nat.lt_succ_self _, fun j v hj => ?_⟩
      rcases j with _ | j
      · simp [irC] at hj
        subst hj
        exact hE
      · simp [irC] at hj
    · simp at hk⟩
  obtain ⟨v', w', hr, ho, hg, hat⟩ := run_spreadG irC_len irC_one (ty := ty) (c := 1) Try.underlying31 info_ints rfl (by decide) (by decide) own1.r hrd (by omega) (by rw [hsz]; omega)
  have hg2 : w.grownBy w' (some g) := ⟨hg.os, hg.tape, hg.output, (by have := hg.size; rw [hsz] at this; omega), fun k hk hv => (hg.block k (by rw [hsz]; omega) hv).trans (hba.block k hk)⟩
  have hX : OwnR w' B v' (l ++ [y]) := OwnX.snoc (N := w.heap.size + 1) hown hg2 (by rw [hsz] at hat; exact hat) (Nat.le_succ _) ho hy hap
  obtain ⟨g', n', c', rfl⟩ : ∃ g' n' c', v' = .slice (some ⟨g', 0, none⟩) n' c' := by
    rcases ho.row with ⟨-, e⟩ | ⟨g', cap', F, e, -⟩
    · simp at e
    · exact ⟨g', _, _, e⟩
  refine ⟨g', n', c', w', hr, hX, (Below.refl B w).grown hg2 hB (fun k hk => hown.r.lows k hk), ?_⟩
  intro g0 n0 l0 h0 htk
  by_cases he : g0 = g
  · subst he
    have hk := keep_rows own1.r hE (by omega) hr ho
    have h00 := h0.len
    have hn0 : n0 ≤ n := by
      have := congrArg List.length htk
      rw [List.length_take] at this
      omega
    have := hk.take (k := n0) hn0
    rwa [htk] at this
  · refine ⟨h0.len, fun k x hk => ?_⟩
    obtain ⟨b, off, e, hb, hc⟩ := h0.at' k x hk
    injection e with e
    injection e with e1 e2
    subst e1 e2
    exact ⟨_, _, rfl, Nat.lt_of_lt_of_le hb hg2.size, fun j u hj => (World.cell?_of_block (hg2.block _ hb (fun e => he (by injection e)))).trans (hc j u hj)⟩
theorem own_first (w : World) : OwnR (w.alloc (.cells #[.slice none 0 0] 25)) w.heap.size (.slice (some ⟨w.heap.size, 0, none⟩) 1 1) [⟨none, 0, 0, []⟩] :=
  ⟨⟨rfl, .inr ⟨w.heap.size, 1, #[.slice none 0 0], rfl, Nat.le_refl _, heap_alloc_new w _, Nat.le_refl _, by decide, rfl, rfl⟩⟩, fun k x hk => by
      rcases k with _ | k
      · simp at hk; subst hk; exact ownI_nil _ _
      · simp at hk, fun k x b hk hb => by
      rcases k with _ | k
      · simp at hk; subst hk; cases hb
      · simp at hk, fun i j x y b hij hi hj => by
      rcases j with _ | j
      · omega
      · simp at hj⟩
set_option maxRecDepth 20000 in
set_option maxHeartbeats 6400000 in
/-- setsOf: the sets lie in rows of the call's own, sorted. -/
theorem iSetsOf (w : World) (A : Option Addr) (n c : Nat) (xs : List Int) (hi : Ints w w.heap.size A n xs) (hn : n ≤ 8) (hnc : n ≤ c) (hcm : c ≤ maxLen)
    (HSort : ∀ (W : World) (g m c' : Nat) (rows : List IR), Below w.heap.size w W → OwnR W w.heap.size (.slice (some ⟨g, 0, none⟩) m c') rows → xsR rows = subs xs →
      Calls Try.prog 80 #[.slice (some ⟨g, 0, none⟩) m c', .func (.func 81) #[] #[]] W fun e w' => e = .returned (.tuple #[]) ∧ ∃ rows', OwnR w' w.heap.size (.slice (some ⟨g, 0, none⟩) m c') rows' ∧ (xsR rows').Perm (subs xs) ∧ (xsR rows').Pairwise (fun a b => cmpL a b ≤ 0) ∧ Below w.heap.size W w') :
    Calls Try.prog 46 #[.slice A n c] w fun e w' => (∃ g m c' rows, e = .returned (.slice (some ⟨g, 0, none⟩) m c') ∧ OwnR w' w.heap.size (.slice (some ⟨g, 0, none⟩) m c') rows ∧ (xsR rows).Perm (subs xs) ∧ (xsR rows).Pairwise (fun a b => cmpL a b ≤ 0)) ∧ Below w.heap.size w w' := by
  have HSo := Lib.hid HSort
  have HI := Lib.hid hi
  have H0 := Lib.hid (own_first w)
  have HBz : Hid (Below w.heap.size w (w.alloc (.cells #[.slice none 0 0] 25))) := Lib.hid ((Below.refl _ w).alloc (Nat.le_refl _) _)
  have hxl := hi.1
  have HXl := Lib.hid hxl
  clear HSort hi hxl
  go_enter Try.func46, Try.ntmps46
  go_wp2
  go_loopw [3, 11] (fun v iv wr => ∃ (k g m c1 : Nat) (rows : List IR), k ≤ n ∧ iv = .int .i64 k ∧ v = .slice (some ⟨g, 0, none⟩) m c1 ∧ xsR rows = subs (xs.take k) ∧ OwnR wr w.heap.size (.slice (some ⟨g, 0, none⟩) m c1) rows ∧ Below w.heap.size w wr) (fun _ iv _ => n - (intOf iv).toNat)
  case atStart => exact ⟨0, _, _, _, _, Nat.zero_le _, rfl, rfl, rfl, H0.out, HBz.out⟩
  case round =>
    obtain ⟨k, g, m, c1, rows, hk, rfl, rfl, hx, hown, hbel⟩ := hrel
    obtain ⟨wo, rfl⟩ : ∃ wo, wo = wr := ⟨_, rfl⟩
    have HX := Lib.hid hx
    have HO := Lib.hid hown
    have HB := Lib.hid hbel
    have hm : rows.length = m := (hown.r.read irC_len).len
    have hlc : m ≤ c1 ∧ c1 ≤ maxLen := by
      obtain ⟨_, _, hV, hlc, hcm1⟩ := hown.r.shape
      injection hV with _ hV1 hV
      subst hV
      exact ⟨by omega, hcm1⟩
    have hms : m ≤ 256 := by
      have h1 := congrArg List.length hx
      have h2 := subs_small (l := xs.take k) (by rw [List.length_take, HXl.out]; omega)
      simp only [xsR, List.length_map] at h1
      omega
    have HM := Lib.hid hm
    obtain ⟨hlc, hcm1⟩ := hlc
    have HCm := Lib.hid hcm1
    clear hx hown hm hcm1
    by_cases hlt : k < n
    · obtain ⟨b, off, a, hA, hb, hat, hd⟩ := HI.out.at k hlt
      subst hA
      have f0 := (hbel.cell (p := ⟨b, off + k, none⟩) hb).trans hd
      have hlt' : (k : Int) < (n : Int) := by omega
      have HAt := Lib.hid hat
      have HRd := Lib.hid (HO.out.r.read irC_len)
      clear hd hat hbel
      go_wp2
      clear f0
      go_loopw [3, 17] (fun v iv wq => ∃ (i g1 m1 c2 : Nat) (out : List IR), i ≤ m ∧ iv = .int .i64 i ∧ v = .slice (some ⟨g1, 0, none⟩) m1 c2 ∧ xsR out = setK (xs.take k) a i ∧ OwnR wq w.heap.size (.slice (some ⟨g1, 0, none⟩) m1 c2) out ∧ out.take m = rows ∧ ReadG irC 1 wq wq.heap.size (some ⟨g, 0, none⟩) m rows ∧ Below w.heap.size w wq) (fun _ iv _ => m - (intOf iv).toNat)
      case atStart => exact ⟨0, _, _, _, rows, Nat.zero_le _, rfl, rfl, by rw [setK_zero]; exact HX.out, HO.out, take_all HM.out, HRd.out, HB.out⟩
      case round =>
        obtain ⟨i, g1, m1, c2, out, hi, rfl, rfl, hx, hown, htk, hrd, hbel⟩ := hrel
        obtain ⟨wq, rfl⟩ : ∃ wq, wq = wr := ⟨_, rfl⟩
        have HX1 := Lib.hid hx
        have HO1 := Lib.hid hown
        have HB1 := Lib.hid hbel
        have HT1 := Lib.hid htk
        have HR1 := Lib.hid hrd
        have HLo : Hid (out.length ≤ 600) := Lib.hid (by
          have h1 := congrArg List.length hx
          have h2 := setK_len (xs.take k) a i (by rw [List.length_take, HXl.out]; omega)
          simp only [xsR, List.length_map] at h1
          omega)
        clear hx hown hbel htk
        by_cases hit : i < m
        · obtain ⟨b1, o1, y, hA, hb1, hat1, hd1⟩ := ir_at hrd hit
          injection hA with hA
          injection hA with hA1 hA2
          subst hA1 hA2
          have hit' : (i : Int) < (m : Int) := by omega
          have hyl : (subs (xs.take k))[i]? = some y.xs := by rw [← HX.out]; unfold xsR; rw [List.getElem?_map, hat1]; rfl
          have HYl := Lib.hid hyl
          have hato : out[i]? = some y := by
            have := hat1
            rw [← HT1.out, List.getElem?_take_of_lt hit] at this
            exact this
          have HYx : Hid (OwnI wq w.heap.size y.val y.xs) := Lib.hid (HO1.out.x i y hato)
          have HY8 : Hid (y.xs.length ≤ 8) := Lib.hid (Nat.le_trans (subs_each (mem_of_at hyl)) (by rw [List.length_take, HXl.out]; omega))
          have HCl : Hid (Calls Try.prog 41 #[.slice y.A y.n y.c] wq fun e w' => ∃ v, e = .returned v ∧ OwnI w' wq.heap.size v y.xs ∧ Below wq.heap.size wq w') := Lib.hid (cloneI wq wq.heap.size y.A y.n y.c y.xs (ownI_at HYx.out) (Nat.le_refl _) (by have := (ownI_at HYx.out).1; have := HY8.out; omega))
          rw [Nat.zero_add] at hd1
          clear hat1 hyl hato hrd
          go_wp2_with fail
          refine HCl.out.mono ?_
          rintro e w2 ⟨v3, rfl, ho3, hb2⟩
          have HO3 := Lib.hid ho3
          have HB3 := Lib.hid hb2
          clear ho3 hb2 hd1
          go_wp2_with (at_builtin; refine wp_appI1 w2 (by rfl) (.tmp 23) (.tmp 25) (by rfl) _ _ _ (by rfl) HO3.out _ (a : Int) (by rfl) 1 (by rfl) (by have := HY8.out; omega) HB3.out.size ?_)
          rintro v4 w3 ho4 hg4 hat4
          obtain ⟨A4, n4, c4, hv4, -⟩ := ho4.ints
          subst hv4
          have hb3 : Below wq.heap.size wq w3 := HB3.out.grown hg4 HB3.out.size (fun k hk => ownI_lows HO3.out k hk)
          have HO24 := Lib.hid (HO1.out.below hb3)
          have HB24 := Lib.hid (below_on HB1.out hb3)
          have HR24 := Lib.hid ((HR1.out.below hb3).more hb3.size)
          have HY4 : Hid (OwnI w3 w.heap.size (IR.val ⟨A4, n4, c4, y.xs ++ [a]⟩) (y.xs ++ [a])) := Lib.hid (ownI_lower ho4 HB1.out.size)
          have HAp : Hid (∀ b, (IR.val ⟨A4, n4, c4, y.xs ++ [a]⟩).ownBlock = some b → ¬ hasX IRK (.slice (some ⟨g1, 0, none⟩) m1 c2) out b) := Lib.hid fun b h1 h2 => by
            have h3 := (HO1.out.has_in h2).2
            have h4 := ownI_lows ho4 b h1
            omega
          clear ho4 hg4 hat4 hb3 HO3
          obtain ⟨g5, n5, c5, w4, hr5, ho5, hb5, hk5⟩ := run_appR (ty := 31) ⟨A4, n4, c4, y.xs ++ [a]⟩ HO24.out HY4.out HAp.out (by have := HLo.out; omega) HB24.out.size
          have HO5 := Lib.hid ho5
          have HB5 := Lib.hid (HB24.out.trans hb5)
          have HR5 := Lib.hid (hk5 HR24.out HT1.out)
          clear ho5 hb5 hk5
          go_wp2_with (at_builtin; refine Go.Lib.wpList_append_run_sl _ (by rfl) (.tmp 21) (.tmp 27) 31 (by rfl) _ _ (by rfl) (by rfl) hr5 ?_)
          clear hr5
          go_wp2
          go_roundw
          case rel => exact ⟨i + 1, g5, n5, c5, out ++ [⟨A4, n4, c4, y.xs ++ [a]⟩], by omega, by go_num, rfl, by rw [setK_more (xs.take k) a i HYl.out, ← HX1.out]; simp [xsR], HO5.out, by
              have h1 := congrArg List.length HT1.out
              rw [List.length_take, HM.out] at h1
              rw [List.take_append_of_le_length (by omega)]
              exact HT1.out, HR5.out, HB5.out⟩
          case measure => simp [intOf]; omega
        · obtain rfl : i = m := by omega
          have e : setK (xs.take k) a i = subs (xs.take (k + 1)) := by
            have h1 : i = (subs (xs.take k)).length := by rw [← HX.out, ← HM.out]; simp [xsR]
            rw [take_at HAt.out, h1]
            exact setK_done _ a
          have HE := Lib.hid e
          clear e hrd
          go_wp2
          go_roundw
          case rel => exact ⟨k + 1, g1, m1, c2, out, by omega, by go_num, rfl, by rw [HX1.out, HE.out], HO1.out, HB1.out⟩
          case measure => simp [intOf]; omega
    · obtain rfl : k = n := by omega
      have HX2 : Hid (xsR rows = subs xs) := Lib.hid (by rw [HX.out, take_all HXl.out])
      clear hbel
      go_wp2_with fail
      refine (HSo.out wo g m _ rows HB.out HO.out HX2.out).mono ?_
      rintro e w2 ⟨rfl, rows', ho, hp, hs, hb⟩
      have HF := Lib.hid (And.intro ho (And.intro hp (And.intro hs (HB.out.trans hb))))
      clear ho hp hs hb
      go_wp2
      go_ret
      exact ⟨⟨g, m, _, rows', rfl, HF.out.1, HF.out.2.1, HF.out.2.2.1⟩, HF.out.2.2.2⟩
end Go.Proofs.Ytceiocdemhkcdaa.num
namespace Go.Proofs.Ytceiocdemhkcdaa.num
set_option maxRecDepth 20000
open Go.Sort Go.Proofs Go.RowKit Go.Shelf
set_option linter.unusedVariables false
set_option linter.unusedSimpArgs false

section
variable {α : Type} [Inhabited α] {enc : α → Value}
theorem heap_sorted1 {w : World} {g n : Nat} {os : Array Obj} {cur : Array Value} {e : TypeId} {fr : Nat × Nat} (d : Array α) (hb : w.heap[g]? = some (.cells cur e fr)) :
    (sortWorld enc w g 0 n d os).heap[g]? = some (.cells (putCells enc 0 d cur) e fr) := by
  have hg : g < w.heap.size := (Array.getElem?_eq_some_iff.1 hb).1
  unfold sortWorld
  rw [heap_grow_old _ _ (by simpa using hg)]
  simp [putRow, mapBlock, Sort.ahead, Array.getElem?_modify, hb, onCells]
theorem grownBy_sorted1 {w : World} {g n : Nat} {os : Array Obj} (d : Array α) : w.grownBy (sortWorld enc w g 0 n d os) (some g) := by
  refine ⟨rfl, rfl, rfl, by simp [sortWorld], fun j hj hne => ?_⟩
  unfold sortWorld
  rw [heap_grow_old _ _ (by simpa using hj)]
  have : g ≠ j := fun e => hne (by rw [e])
  simp [putRow, mapBlock, Sort.ahead, Array.getElem?_modify, this]
theorem take_put1 (cur : Array Value) (d : Array α) (h : d.size ≤ cur.size) : (putCells enc 0 d cur).toList.take d.size = d.toList.map enc := by
  apply List.ext_getElem?
  intro j
  by_cases hj : j < d.size
  · rw [List.getElem?_take_of_lt hj, Array.getElem?_toList, List.getElem?_map, Array.getElem?_toList]
    simp [putCells, hj, show j < cur.size by omega]
  · rw [List.getElem?_take_eq_none (by omega), List.getElem?_eq_none (by simp; omega)]
theorem holds1_block {w : World} {g : Nat} {cur : Array Value} {e : TypeId} {l : List α} (hb : w.heap[g]? = some (.cells cur e (0, 0))) (ht : cur.toList.take l.length = l.map enc) : Holds enc w g 0 l.toArray := by
  intro j hj
  have hj' : j < l.length := by simpa using hj
  refine ⟨?_, by simp [World.frozen?, hb]⟩
  have h1 : (cur.toList.take l.length)[j]? = (l.map enc)[j]? := by rw [ht]
  rw [List.getElem?_take_of_lt hj', List.getElem?_map, List.getElem?_eq_getElem hj'] at h1
  simp only [World.cell?, hb, Nat.zero_add]
  simp only [Option.isSome_none, Bool.false_eq_true, if_false]
  rw [← Array.getElem?_toList, h1, getElem!_pos l.toArray j hj]
  rfl
end
/-- Rows of the call's own, in another order. -/
theorem OwnX.perm {w : World} {B : Nat} {v : Value} {l l' : List IR} (h : OwnR w B v l) {w' : World} (hg : w.grownBy w' v.ownBlock) (hr : OwnG 25 irC 1 w' B v l') (hp : l'.Perm l) : OwnR w' B v l' := by
  have hmem : ∀ (k : Nat) (x : IR), l'[k]? = some x → ∃ j, l[j]? = some x := fun k x hk => by
    obtain ⟨j, hj, e⟩ := List.getElem_of_mem (hp.mem_iff.1 (mem_of_at hk))
    exact ⟨j, by rw [List.getElem?_eq_getElem hj, e]⟩
  have hpw : l.Pairwise (fun x y => ∀ b, x.val.ownBlock = some b → y.val.ownBlock ≠ some b) := by
    rw [List.pairwise_iff_getElem]
    intro i j hi hj hij b hb
    exact h.d i j _ _ b hij (List.getElem?_eq_getElem hi) (List.getElem?_eq_getElem hj) hb
  have hpw' := (hp.symm.pairwise_iff (fun {x y} hxy b hb hb' => hxy b hb' hb)).1 hpw
  refine ⟨hr, fun k x hk => ?_, fun k x b hk hb => ?_, fun i j x y b hij hi hj hb => ?_⟩
  · obtain ⟨j, hj⟩ := hmem k x hk
    exact IRK.blocks (h.x j x hj) fun b hb => hg.block b (IRK.inn (h.x j x hj) hb).2 fun e => h.a j x b hj hb e.symm
  · obtain ⟨j, hj⟩ := hmem k x hk
    exact h.a j x b hj hb
  · rw [List.pairwise_iff_getElem] at hpw'
    obtain ⟨hi', ei⟩ := List.getElem?_eq_some_iff.1 hi
    obtain ⟨hj', ej⟩ := List.getElem?_eq_some_iff.1 hj
    have := hpw' i j hi' hj' hij b (by rw [ei]; exact hb)
    rw [ej] at this
    exact this
theorem swo_rows {α : Type} (f : α → List Int) : SWO (ltOf fun x y : α => cmpL (f x) (f y)) :=
  ⟨fun x => ltL_irrefl (f x), fun x y z h g => ltL_trans h g, fun x y z h g => ltL_ntrans h g⟩
set_option maxRecDepth 20000 in
set_option maxHeartbeats 1000000 in
theorem iSortR (W : World) (B g m c : Nat) (rows : List IR) (hB : B ≤ W.heap.size) (hown : OwnR W B (.slice (some ⟨g, 0, none⟩) m c) rows) (hs : rows ≠ []) (hm : m ≤ 1000) (hx8 : ∀ x ∈ rows, x.xs.length ≤ 1000)
    (eg : ∀ args w, (callFunc 81 args).run Try.prog w = .ok (.enter 81 args) w) :
    Calls Try.prog 80 #[.slice (some ⟨g, 0, none⟩) m c, .func (.func 81) #[] #[]] W fun e w' => e = .returned (.tuple #[]) ∧ ∃ rows', OwnR w' B (.slice (some ⟨g, 0, none⟩) m c) rows' ∧ rows'.Perm rows ∧ (xsR rows').Pairwise (fun a b => cmpL a b ≤ 0) ∧ Below B W w' := by
  have hln : rows.length = m := (hown.r.read irC_len).len
  rcases hown.r.2 with ⟨e, hl⟩ | ⟨b, cap, cur, e, hBb, hg, h1, h2, h3, h4⟩
  · exact absurd (List.eq_nil_of_length_eq_zero hl) hs
  injection e with e1 e2 e3
  injection e1 with e1
  injection e1 with e1
  subst e1 e3
  obtain ⟨x0, r0, hx0⟩ : ∃ x r, rows = x :: r := by
    cases rows with
    | nil => exact absurd rfl hs
    | cons x r => exact ⟨x, r, rfl⟩
  letI : Inhabited {x : IR // x ∈ rows} := ⟨⟨x0, by rw [hx0]; simp⟩⟩
  let l' : List {x : IR // x ∈ rows} := rows.pmap Subtype.mk (fun x hx => hx)
  have hl' : l'.map Subtype.val = rows := by simp [l', List.map_pmap]
  have hlen : l'.length = rows.length := by simp [l']
  let enc : {x : IR // x ∈ rows} → Value := fun x => x.1.val
  have hfm : ∀ q : List {x : IR // x ∈ rows}, (q.map Subtype.val).flatMap irC = q.map enc := fun q => by
    induction q with
    | nil => rfl
    | cons a r ih => rw [List.map_cons, List.flatMap_cons, ih]; rfl
  have hH : Holds enc W g 0 l'.toArray := holds1_block hg (by rw [hlen, ← hfm, hl']; have h5 : cur.toList.take (rows.length * 1) = rows.flatMap irC := h4; rwa [Nat.mul_one] at h5)
  have hblk : g < W.heap.size := (Array.getElem?_eq_some_iff.1 hg).1
  have hcm : CmpLays1 Try.prog 81 #[] enc (fun x y => cmpL x.1.xs y.1.xs) g 0 l'.toArray.size W := fun q os dk hdk x y => by
    have hgr := grownBy_sorted1 (enc := enc) (w := W) (g := g) (n := q) (os := os) dk
    have hrd : ∀ z : {x : IR // x ∈ rows}, Ints (sortWorld enc W g 0 q dk os) (sortWorld enc W g 0 q dk os).heap.size z.1.A z.1.n z.1.xs := fun z => by
      obtain ⟨j, hj, ez⟩ := List.getElem_of_mem z.2
      have hj2 : rows[j]? = some z.1 := by rw [List.getElem?_eq_getElem hj, ez]
      exact ownI_at (ownI_blocks (hown.x j z.1 hj2) fun b hb => hgr.block b (IRK.inn (hown.x j z.1 hj2) hb).2 fun e => hown.a j z.1 b hj2 hb e.symm)
    have hsm : ∀ z : {x : IR // x ∈ rows}, z.1.n ≤ 1048576 := fun z => by
      have := (hrd z).1
      have := hx8 z.1 z.2
      omega
    refine (cmp_sets (sortWorld enc W g 0 q dk os) _ x.1.A y.1.A x.1.n y.1.n x.1.c y.1.c x.1.xs y.1.xs (hrd x) (hrd y) (hsm x) (hsm y)).mono ?_
    rintro e w' ⟨rfl, o, rfl⟩
    exact ⟨rfl, 0, #[o], alloc_eq_grow _ _⟩
  have hcon := Any.slices_SortFunc (ρ := sortRowsRen) sortRows enc (fun x => rfl) (fun x y => cmpL x.1.xs y.1.xs) (swo_rows fun x : {x : IR // x ∈ rows} => x.1.xs) 81 #[] g 0 c l'.toArray W eg hcm hH hblk (by simp only [List.size_toArray, hlen]; omega)
  have hsz : l'.toArray.size = m := by simp [hlen, hln]
  rw [hsz] at hcon
  refine hcon.mono ?_
  rintro e w' ⟨rfl, d', q, os, hp, hso, rfl⟩
  obtain ⟨hp1, -, hp3⟩ := hp
  have hd' : d'.size = m := by rw [hp1, hsz]
  have hex : d'.extract 0 m = d' := by rw [← hd']; simp
  have hex2 : l'.toArray.extract 0 m = l'.toArray := by rw [← hsz]; simp
  rw [hex, hex2] at hp3
  have hpr : (d'.toList.map Subtype.val).Perm rows := by
    have := hp3.map Subtype.val
    rwa [show l'.toArray.toList = l' by simp, hl'] at this
  have hgr := grownBy_sorted1 (enc := enc) (w := W) (g := g) (n := q) (os := os) d'
  have hl2 : (d'.toList.map Subtype.val).length = m := by simp [hd']
  have hG : OwnG 25 irC 1 (sortWorld enc W g 0 q d' os) B (.slice (some ⟨g, 0, none⟩) m c) (d'.toList.map Subtype.val) := by
    unfold OwnG
    rw [hl2, hfm]
    refine ⟨by simp [hd'], .inr ⟨g, c, _, rfl, hBb, heap_sorted1 _ hg, by omega, h2, by have h6 : cur.size = c * 1 := h3; simp [putCells]; omega, ?_⟩⟩
    rw [Nat.mul_one, ← hd']
    have h6 : cur.size = c * 1 := h3
    exact take_put1 _ _ (by omega)
  refine ⟨rfl, d'.toList.map Subtype.val, hown.perm hgr hG hpr, hpr, ?_, (Below.refl B W).grown hgr hB (fun k hk => by injection hk with hk; omega)⟩
  unfold xsR
  rw [List.map_map, List.pairwise_map, List.pairwise_iff_getElem]
  intro i j hi hj hij
  have hi2 : i < d'.size := by simpa using hi
  have hj2 : j < d'.size := by simpa using hj
  have := hso i j (Nat.zero_le _) hij (by omega)
  rw [getElem!_pos d' i hi2, getElem!_pos d' j hj2] at this
  have h5 := ltL_false.1 this
  simpa using h5
end Go.Proofs.Ytceiocdemhkcdaa.num
namespace Go.Proofs.Ytceiocdemhkcdaa.num
set_option maxRecDepth 20000
open Go.RowKit
set_option linter.unusedVariables false
set_option linter.unusedSimpArgs false

theorem reg_small (ds cs : List Da) (hs : ∀ d ∈ cs, d ∈ ds) : (Fr.mk (reg ds cs).num (reg ds cs).den).Small := by
  have h := reg_range hs
  unfold Fr.Small
  show 0 ≤ (reg _ _).num ∧ (reg _ _).num ≤ 100 ∧ 0 ≤ (reg _ _).den ∧ (reg _ _).den ≤ 100
  omega
set_option maxRecDepth 20000 in
set_option maxHeartbeats 800000 in
/-- slices.IndexFunc over rows: the first one's place. -/
theorem idxRows (w : World) (A : Option Addr) (n c : Nat) (rows : List IR) (h : ReadG irC 1 w w.heap.size A n rows) (hn : n ≤ 1048576) (fn : Nat) (cb : Array Value) (eg : ∀ args w, (callFunc fn args).run Try.prog w = .ok (.enter fn args) w) (hold : IR → Bool)
    (HC : ∀ W, Below w.heap.size w W → ∀ u ∈ rows, Calls Try.prog fn (#[.slice u.A u.n u.c] ++ cb) W fun e w' => e = .returned (.bool (hold u)) ∧ Below W.heap.size W w') :
    Calls Try.prog 48 #[.slice A n c, .func (.func fn) #[] cb] w fun e w' => ((e = .returned (.int .i64 (-1)) ∧ ∀ u ∈ rows, hold u = false) ∨ ∃ k x, k < n ∧ e = .returned (.int .i64 (k : Int)) ∧ rows[k]? = some x ∧ hold x = true ∧ ∀ u ∈ rows.take k, hold u = false) ∧ Below w.heap.size w w' := by
  have HX := Lib.hid h
  have HF := Lib.hid HC
  clear h HC
  go_enter Try.func48, Try.ntmps48
  go_wp2
  go_loopw [8] (fun i wr => ∃ k : Nat, k ≤ n ∧ i = .int .i64 k ∧ (∀ u ∈ rows.take k, hold u = false) ∧ Below w.heap.size w wr) (fun i _ => n - (intOf i).toNat)
  case atStart => exact ⟨0, Nat.zero_le _, rfl, by simp, Below.refl _ _⟩
  case round =>
    obtain ⟨k, hk, rfl, hall, hbel⟩ := hrel
    have HA := Lib.hid hall
    have HB := Lib.hid hbel
    clear hall
    by_cases hlt : k < n
    · obtain ⟨b, off, x, rfl, hb, hat, d0⟩ := ir_at HX.out hlt
      have f0 := (hbel.cell (p := ⟨b, off + k, none⟩) hb).trans d0
      have HAt := Lib.hid hat
      have hlt' : (k : Int) < (n : Int) := by omega
      have HC1 := HF.out wr HB.out x (mem_of_at hat)
      obtain ⟨z, hz⟩ : ∃ z, hold x = z := ⟨_, rfl⟩
      rw [hz] at HC1
      have HZ := Lib.hid hz
      have HC2 := Lib.hid HC1
      clear d0 hat hbel hz HC1
      go_wp2_with fail
      refine HC2.out.mono ?_
      rintro e w2 ⟨rfl, hb2⟩
      have HB2 := Lib.hid (below_on HB.out hb2)
      clear hb2 f0 HC2
      cases z
      · go_wp2
        go_roundw
        case rel => exact ⟨k + 1, by omega, by go_num, any_stepA HAt.out HA.out HZ.out, HB2.out⟩
        case measure => simp [intOf]; omega
      · go_wp2
        go_ret
        exact ⟨.inr ⟨k, x, hlt, rfl, HAt.out, HZ.out, HA.out⟩, HB2.out⟩
    · obtain rfl : k = n := by omega
      have h := HA.out
      rw [take_all HX.out.len] at h
      have HH := Lib.hid h
      clear h hbel
      go_wp2
      go_ret
      exact ⟨.inl ⟨rfl, HH.out⟩, HB.out⟩
set_option maxRecDepth 20000 in
set_option maxHeartbeats 6400000 in
theorem small_c (wR : World) (B : Nat) (A : Option Addr) (n c : Nat) (its : List It) (hi : Items wR B A n its) (hBR : B ≤ wR.heap.size) (hn : n ≤ 1048576) (x : IR) (h2 : Ints wR wR.heap.size x.A x.n x.xs) (hn2 : x.n ≤ 1048576) (g1 g2 g3 : Nat) (num den : Int) (h1 : SlB wR g1 (.slice A n c)) (hg2 : SlB wR g2 (.int .i64 num)) (hg3 : SlB wR g3 (.int .i64 den)) (hq : (Fr.mk num den).Small) (okv : Bool) (hok : okv = true ↔ okS (its.map It.dat) num den x.xs) :
    Calls Try.prog 49 #[.slice x.A x.n x.c, .pointer (some ⟨g1, 0, none⟩), .pointer (some ⟨g2, 0, none⟩), .pointer (some ⟨g3, 0, none⟩)] wR fun e w' => e = .returned (.bool okv) ∧ Below wR.heap.size wR w' := by
  have HBR : Hid (Below wR.heap.size wR wR) := Lib.hid (Below.refl _ _)
  obtain ⟨L, hL⟩ : ∃ L, (its.filter fun u => decide (u.id ∈ x.xs)) = L := ⟨_, rfl⟩
  have hLl : L.length ≤ 1048576 := by rw [← hL]; exact Nat.le_trans (List.length_filter_le _ _) (by rw [hi.1]; exact hn)
  have hLs : ∀ u ∈ L, u ∈ its := fun u hu => by rw [← hL] at hu; exact (List.mem_filter.1 hu).1
  have hLd : L.map It.dat = pk x.xs (its.map It.dat) := by rw [← hL]; exact filter_dat its x.xs
  have HIn : Hid (∀ W, Below wR.heap.size wR W → ∀ u ∈ L, Ints W W.heap.size u.A u.n u.xs) := Lib.hid fun W hW u hu => (hi.all (hLs u hu)).more hBR |>.below hW |>.more hW.size
  have HWi : Hid (∀ W, Below wR.heap.size wR W → Calls Try.prog 38 #[.slice A n c, .slice x.A x.n x.c] W fun e w' => (∃ v, e = .returned v ∧ OwnTs w' W.heap.size v L) ∧ Below W.heap.size W w') := Lib.hid fun W hW => by
    rw [← hL]
    exact iWith W B A n c its (hi.below (hW.mono hBR)).readT (Nat.le_trans hBR hW.size) hn wR.heap.size x.A x.n x.c x.xs (h2.below hW) hW.size hn2
  obtain ⟨R, hR⟩ : ∃ R, reg (its.map It.dat) (L.map It.dat) = R := ⟨_, rfl⟩
  have HGr : Hid (∀ W A4 c4, Below wR.heap.size wR W → Items W W.heap.size A4 L.length L → Calls Try.prog 37 #[.slice A n c, .slice A4 L.length c4] W fun e w' => (∃ v, e = .returned (.tuple #[.agg #[.int .i64 R.num, .int .i64 R.den], v]) ∧ OwnI w' W.heap.size v R.ws) ∧ Below W.heap.size W w') := Lib.hid fun W A4 c4 hW hI =>
    iGR W W.heap.size A A4 n L.length c c4 its L ((hi.below (hW.mono hBR)).up (Nat.le_trans hBR hW.size)) hI (Nat.le_refl _) hn hLl (fun d hd => by
      obtain ⟨u, hu, rfl⟩ := List.mem_map.1 hd
      exact List.mem_map_of_mem (hLs u hu)) R hR
  have hRs : (Fr.mk R.num R.den).Small := by rw [← hR]; exact reg_small _ _ (fun d hd => by
    obtain ⟨u, hu, rfl⟩ := List.mem_map.1 hd
    exact List.mem_map_of_mem (hLs u hu))
  have hval : (!((Fr.mk num den).less ⟨R.num, R.den⟩)) = okv := by
    rw [Bool.eq_iff_iff, hok]
    unfold Fr.less okS
    rw [← hLd, hR, Bool.not_eq_true', decide_eq_false_iff_not]
    exact Int.not_lt
  have HLess : Hid (∀ W, Calls Try.prog 50 #[.agg #[.int .i64 num, .int .i64 den], .agg #[.int .i64 R.num, .int .i64 R.den]] W fun e w' => e = .returned (.bool ((Fr.mk num den).less ⟨R.num, R.den⟩)) ∧ Below W.heap.size W w') := Lib.hid fun W => less_c ⟨num, den⟩ ⟨R.num, R.den⟩ hq hRs W
  obtain ⟨lv, hlv⟩ : ∃ lv, (Fr.mk num den).less ⟨R.num, R.den⟩ = lv := ⟨_, rfl⟩
  rw [hlv] at hval HLess
  have H2 := Lib.hid hg2
  have H3 := Lib.hid hg3
  subst hval
  clear hi h2 hL hLl hLs hLd hR hRs hlv hok hg2 hg3 hq
  obtain ⟨hbR, f1⟩ := h1
  have hlo : wR.heap.size ≤ wR.heap.size := Nat.le_refl _
  go_enter Try.func49, Try.ntmps49
  go_upto_region 1 with (fail)
  go_cut [6, 7] from 8 to 15 (fun s6 s7 wx => ∃ g v, s6 = .pointer (some ⟨g, 0, none⟩) ∧ s7 = v ∧ FrB wx g ⟨R.num, R.den⟩ ∧ OwnI wx wR.heap.size v R.ws ∧ Below wR.heap.size wR wx)
  case first =>
    have hS0 : (fun w' => w'.cell? ⟨g1, 0, none⟩ = some (.slice A n c)) wR.drew := f1
    refine wp_region_held (S := fun w' => w'.cell? ⟨g1, 0, none⟩ = some (.slice A n c)) (by kernel_rfl) ?_
    change wpAnyH _ _ _ _ _ _ _ _ (World.drew _)
    have hBD0 : Below wR.heap.size wR wR.drew := (Below.refl _ wR).drew
    obtain ⟨wD, hwD⟩ : ∃ wD, World.drew wR = wD := ⟨_, rfl⟩
    rw [hwD] at hS0 ⊢
    have hBD : Below wR.heap.size wR wD := by rw [← hwD]; exact hBD0
    clear hwD hBD0
    refine takeY 9 (i := 0) (v := ?vx1) rfl rfl (by kernel_rfl) (by kernel_rfl) (by kernel_rfl) (fun _ _ _ h => h) (by kernel_rfl) ?yx1 hS0 ?_
    case yx1 =>
      intro w' hw'; (try dsimp only at hw'); obtain q1 := hw'; go_simp; try with_reducible rfl
    simp only [Act.put, List.setIfInBounds_toArray, List.set_cons_zero, List.set_cons_succ]
    refine takeY 10 (i := 1) (v := ?vx2) rfl rfl (by kernel_rfl) (by kernel_rfl) (by kernel_rfl) (fun _ _ _ h => h) (by kernel_rfl) ?yx2 hS0 ?_
    case yx2 =>
      intro w' hw'; (try dsimp only at hw'); obtain q1 := hw'; go_simp; try with_reducible rfl
    simp only [Act.put, List.setIfInBounds_toArray, List.set_cons_zero, List.set_cons_succ]
    refine takeY 11 (i := 2) (v := ?vx3) rfl rfl (by kernel_rfl) (by kernel_rfl) (by kernel_rfl) (fun _ _ _ h => h) (by kernel_rfl) ?yx3 hS0 ?_
    case yx3 =>
      intro w' hw'; (try dsimp only at hw'); obtain q1 := hw'; go_simp; try with_reducible rfl
    simp only [Act.put, List.setIfInBounds_toArray, List.set_cons_zero, List.set_cons_succ]
    refine wpAnyH_ready (rs := [3, 8]) (by kernel_rfl) (by simp) ?_
    refine (AllReadyH.cons rfl (fun K hK => ?_) (AllReadyH.cons rfl (fun K hK => ?_) AllReadyH.nil))
    · go_simp
      go_at_call 38
      refine (HWi.out _ hBD).mono ?_
      rintro e w1 ⟨⟨v, rfl, ho⟩, hb1⟩
      obtain ⟨A4, c4, rfl, -, -⟩ := ho.shape
      have hB1 : Below wR.heap.size wR w1 := below_on hBD hb1
      refine hK.out _ _ ((hB1.cell (p := ⟨g1, 0, none⟩) hbR).trans f1) (fun hS1 => ?_)
      clear hK K
      try simp only [Act.put, List.setIfInBounds_toArray, List.set_cons_zero, List.set_cons_succ]
      have hT1 : Items w1 w1.heap.size A4 L.length L := Items.ofr (ho.read itCs_len) (HIn.out _ hB1)
      clear hb1 ho
      refine wpAnyH_ready (rs := [4, 8]) (by kernel_rfl) (by simp) ?_
      refine (AllReadyH.cons rfl (fun K hK => ?_) (AllReadyH.cons rfl (fun K hK => ?_) AllReadyH.nil))
      · go_simp
        go_at_call 37
        refine (HGr.out _ _ _ hB1 hT1).mono ?_
        rintro e w2 ⟨⟨v5, rfl, ho⟩, hb2⟩
        have hB2 : Below wR.heap.size wR w2 := below_on hB1 hb2
        refine hK.out _ _ ((hB2.cell (p := ⟨g1, 0, none⟩) hbR).trans f1) (fun hS2 => ?_)
        clear hK K
        try simp only [Act.put, List.setIfInBounds_toArray, List.set_cons_zero, List.set_cons_succ]
        have hO2 : OwnI w2 wR.heap.size v5 R.ws := ownI_lower ho hB1.size
        clear hb2 ho
        refine takeY 8 (i := 5) (v := ?vx4) rfl rfl (by kernel_rfl) (by kernel_rfl) (by kernel_rfl) (fun _ _ _ h => h) (by kernel_rfl) ?yx4 hS2 ?_
        case yx4 =>
          intro w' hw'; (try dsimp only at hw'); obtain q1 := hw'; go_simp; try with_reducible rfl
        simp only [Act.put, List.setIfInBounds_toArray, List.set_cons_zero, List.set_cons_succ]
        refine takeY 14 (i := 6) (v := ?vx5) rfl rfl (by kernel_rfl) (by kernel_rfl) (by kernel_rfl) (fun _ _ _ h => h) (by kernel_rfl) ?yx5 hS2 ?_
        case yx5 =>
          intro w' hw'; (try dsimp only at hw'); obtain q1 := hw'; go_simp; try with_reducible rfl
        simp only [Act.put, List.setIfInBounds_toArray, List.set_cons_zero, List.set_cons_succ]
        refine takeY 15 (i := 7) (v := ?vx6) rfl rfl (by kernel_rfl) (by kernel_rfl) (by kernel_rfl) (fun _ _ _ h => h) (by kernel_rfl) ?yx6 hS2 ?_
        case yx6 =>
          intro w' hw'; (try dsimp only at hw'); obtain q1 := hw'; go_simp; try with_reducible rfl
        simp only [Act.put, List.setIfInBounds_toArray, List.set_cons_zero, List.set_cons_succ]
        refine wpAnyH_ready (rs := [8]) (by kernel_rfl) (by simp) ?_
        refine (AllReadyH.cons rfl (fun K hK => ?_) AllReadyH.nil)
        go_simp
        refine hK.out _ _ (((hB2.alloc hB2.size _).cell (p := ⟨g1, 0, none⟩) hbR).trans f1) (fun hS3 => ?_)
        clear hK K
        try simp only [Act.put, List.setIfInBounds_toArray, List.set_cons_zero, List.set_cons_succ]
        obtain ⟨w3, hw3⟩ : ∃ w', World.alloc w2 (.cells #[.int .i64 0, .int .i64 0] 63) = w' := ⟨_, rfl⟩
        have hB3 : Below wR.heap.size wR w3 := by rw [← hw3]; exact hB2.alloc hB2.size _
        have hb3 : Below w2.heap.size w2 w3 := by rw [← hw3]; exact (Below.refl _ _).alloc (Nat.le_refl _) _
        have hO3 := ownI_below hO2 hb3
        have hF3 : FrB w3 (w2.heap.size) ⟨0, 0⟩ := by rw [← hw3]; exact FrB.new w2 ⟨0, 0⟩
        try rw [hw3]
        try rw [hw3] at hS3
        clear hw3 hb3
        have hghF : wR.heap.size ≤ w2.heap.size := hB2.size
        have hne : ∀ k, v5.ownBlock = some k → k ≠ w2.heap.size := fun k hk e => by have h1 := ownI_tops hO2 k hk; omega
        obtain ⟨c0, c1, z0, z1⟩ := hF3.cells
        refine wpAnyH_ready (rs := [9]) (by kernel_rfl) (by simp) ?_
        refine (AllReadyH.cons rfl (fun K hK => ?_) AllReadyH.nil)
        go_simp
        refine hK.out _ _ (((hB3.setCell (p := ⟨w2.heap.size, 0, none⟩) hghF _).setCell (p := ⟨w2.heap.size, 1, none⟩) hghF _).cell (p := ⟨g1, 0, none⟩) hbR |>.trans f1) (fun hS4 => ?_)
        clear hK K
        try simp only [Act.put, List.setIfInBounds_toArray, List.set_cons_zero, List.set_cons_succ]
        refine takeY 7 (i := 10) (v := ?vx7) rfl rfl (by kernel_rfl) (by kernel_rfl) (by kernel_rfl) (fun _ _ _ h => h) (by kernel_rfl) ?yx7 hS4 ?_
        case yx7 =>
          intro w' hw'; (try dsimp only at hw'); obtain q1 := hw'; go_simp; try with_reducible rfl
        simp only [Act.put, List.setIfInBounds_toArray, List.set_cons_zero, List.set_cons_succ]
        refine wpAnyH_done (by kernel_rfl) ?_ _
        go_wp2
        go_meet
        exact ⟨w2.heap.size, v5, rfl, rfl, hF3.set _ _, ownI_lower (ownI_blocks hO3 fun k hk => by rw [heap_setCell_other _ _ _ _ (hne k hk), heap_setCell_other _ _ _ _ (hne k hk)]) hlo, below_on HBR.out ((hB3.setCell (p := ⟨w2.heap.size, 0, none⟩) hghF _).setCell (p := ⟨w2.heap.size, 1, none⟩) hghF _)⟩
      · go_simp
        refine hK.out _ _ (((hB1.alloc hB1.size _).cell (p := ⟨g1, 0, none⟩) hbR).trans f1) (fun hS5 => ?_)
        clear hK K
        try simp only [Act.put, List.setIfInBounds_toArray, List.set_cons_zero, List.set_cons_succ]
        obtain ⟨w5, hw5⟩ : ∃ w', World.alloc w1 (.cells #[.int .i64 0, .int .i64 0] 63) = w' := ⟨_, rfl⟩
        have hB5 : Below wR.heap.size wR w5 := by rw [← hw5]; exact hB1.alloc hB1.size _
        have hb5 : Below w1.heap.size w1 w5 := by rw [← hw5]; exact (Below.refl _ _).alloc (Nat.le_refl _) _
        have hT5 := Items.now hT1 hb5
        have hF5 : FrB w5 (w1.heap.size) ⟨0, 0⟩ := by rw [← hw5]; exact FrB.new w1 ⟨0, 0⟩
        try rw [hw5]
        try rw [hw5] at hS5
        clear hw5 hb5
        have hghF : wR.heap.size ≤ w1.heap.size := hB1.size
        refine wpAnyH_ready (rs := [4]) (by kernel_rfl) (by simp) ?_
        refine (AllReadyH.cons rfl (fun K hK => ?_) AllReadyH.nil)
        go_simp
        go_at_call 37
        refine (HGr.out _ _ _ hB5 hT5).mono ?_
        rintro e w6 ⟨⟨v5, rfl, ho⟩, hb6⟩
        have hB6 : Below wR.heap.size wR w6 := below_on hB5 hb6
        refine hK.out _ _ ((hB6.cell (p := ⟨g1, 0, none⟩) hbR).trans f1) (fun hS6 => ?_)
        clear hK K
        try simp only [Act.put, List.setIfInBounds_toArray, List.set_cons_zero, List.set_cons_succ]
        have hF6 := hF5.below hb6
        have hO6 : OwnI w6 wR.heap.size v5 R.ws := ownI_lower ho hB5.size
        have hne : ∀ k, v5.ownBlock = some k → k ≠ w1.heap.size := fun k hk e => by
          have h1 := ownI_lows ho k hk
          have h2 := hF5.lt
          omega
        clear hb6 ho
        refine takeY 8 (i := 5) (v := ?vx8) rfl rfl (by kernel_rfl) (by kernel_rfl) (by kernel_rfl) (fun _ _ _ h => h) (by kernel_rfl) ?yx8 hS6 ?_
        case yx8 =>
          intro w' hw'; (try dsimp only at hw'); obtain q1 := hw'; go_simp; try with_reducible rfl
        simp only [Act.put, List.setIfInBounds_toArray, List.set_cons_zero, List.set_cons_succ]
        refine takeY 14 (i := 6) (v := ?vx9) rfl rfl (by kernel_rfl) (by kernel_rfl) (by kernel_rfl) (fun _ _ _ h => h) (by kernel_rfl) ?yx9 hS6 ?_
        case yx9 =>
          intro w' hw'; (try dsimp only at hw'); obtain q1 := hw'; go_simp; try with_reducible rfl
        simp only [Act.put, List.setIfInBounds_toArray, List.set_cons_zero, List.set_cons_succ]
        refine takeY 15 (i := 7) (v := ?vx10) rfl rfl (by kernel_rfl) (by kernel_rfl) (by kernel_rfl) (fun _ _ _ h => h) (by kernel_rfl) ?yx10 hS6 ?_
        case yx10 =>
          intro w' hw'; (try dsimp only at hw'); obtain q1 := hw'; go_simp; try with_reducible rfl
        simp only [Act.put, List.setIfInBounds_toArray, List.set_cons_zero, List.set_cons_succ]
        obtain ⟨c0, c1, z0, z1⟩ := hF6.cells
        refine wpAnyH_ready (rs := [9]) (by kernel_rfl) (by simp) ?_
        refine (AllReadyH.cons rfl (fun K hK => ?_) AllReadyH.nil)
        go_simp
        refine hK.out _ _ (((hB6.setCell (p := ⟨w1.heap.size, 0, none⟩) hghF _).setCell (p := ⟨w1.heap.size, 1, none⟩) hghF _).cell (p := ⟨g1, 0, none⟩) hbR |>.trans f1) (fun hS7 => ?_)
        clear hK K
        try simp only [Act.put, List.setIfInBounds_toArray, List.set_cons_zero, List.set_cons_succ]
        refine takeY 7 (i := 10) (v := ?vx11) rfl rfl (by kernel_rfl) (by kernel_rfl) (by kernel_rfl) (fun _ _ _ h => h) (by kernel_rfl) ?yx11 hS7 ?_
        case yx11 =>
          intro w' hw'; (try dsimp only at hw'); obtain q1 := hw'; go_simp; try with_reducible rfl
        simp only [Act.put, List.setIfInBounds_toArray, List.set_cons_zero, List.set_cons_succ]
        refine wpAnyH_done (by kernel_rfl) ?_ _
        go_wp2
        go_meet
        exact ⟨w1.heap.size, v5, rfl, rfl, hF6.set _ _, ownI_lower (ownI_blocks hO6 fun k hk => by rw [heap_setCell_other _ _ _ _ (hne k hk), heap_setCell_other _ _ _ _ (hne k hk)]) hlo, below_on HBR.out ((hB6.setCell (p := ⟨w1.heap.size, 0, none⟩) hghF _).setCell (p := ⟨w1.heap.size, 1, none⟩) hghF _)⟩
    · go_simp
      refine hK.out _ _ (((hBD.alloc hBD.size _).cell (p := ⟨g1, 0, none⟩) hbR).trans f1) (fun hS8 => ?_)
      clear hK K
      try simp only [Act.put, List.setIfInBounds_toArray, List.set_cons_zero, List.set_cons_succ]
      obtain ⟨w8, hw8⟩ : ∃ w', World.alloc wD (.cells #[.int .i64 0, .int .i64 0] 63) = w' := ⟨_, rfl⟩
      have hB8 : Below wR.heap.size wR w8 := by rw [← hw8]; exact hBD.alloc hBD.size _
      have hb8 : Below wD.heap.size wD w8 := by rw [← hw8]; exact (Below.refl _ _).alloc (Nat.le_refl _) _
      have hF8 : FrB w8 (wD.heap.size) ⟨0, 0⟩ := by rw [← hw8]; exact FrB.new wD ⟨0, 0⟩
      try rw [hw8]
      try rw [hw8] at hS8
      clear hw8 hb8
      have hghF : wR.heap.size ≤ wD.heap.size := hBD.size
      refine wpAnyH_ready (rs := [3]) (by kernel_rfl) (by simp) ?_
      refine (AllReadyH.cons rfl (fun K hK => ?_) AllReadyH.nil)
      go_simp
      go_at_call 38
      refine (HWi.out _ hB8).mono ?_
      rintro e w9 ⟨⟨v, rfl, ho⟩, hb9⟩
      obtain ⟨A4, c4, rfl, -, -⟩ := ho.shape
      have hB9 : Below wR.heap.size wR w9 := below_on hB8 hb9
      refine hK.out _ _ ((hB9.cell (p := ⟨g1, 0, none⟩) hbR).trans f1) (fun hS9 => ?_)
      clear hK K
      try simp only [Act.put, List.setIfInBounds_toArray, List.set_cons_zero, List.set_cons_succ]
      have hF9 := hF8.below hb9
      have hT9 : Items w9 w9.heap.size A4 L.length L := Items.ofr (ho.read itCs_len) (HIn.out _ hB9)
      clear hb9 ho
      refine wpAnyH_ready (rs := [4]) (by kernel_rfl) (by simp) ?_
      refine (AllReadyH.cons rfl (fun K hK => ?_) AllReadyH.nil)
      go_simp
      go_at_call 37
      refine (HGr.out _ _ _ hB9 hT9).mono ?_
      rintro e w10 ⟨⟨v5, rfl, ho⟩, hb10⟩
      have hB10 : Below wR.heap.size wR w10 := below_on hB9 hb10
      refine hK.out _ _ ((hB10.cell (p := ⟨g1, 0, none⟩) hbR).trans f1) (fun hS10 => ?_)
      clear hK K
      try simp only [Act.put, List.setIfInBounds_toArray, List.set_cons_zero, List.set_cons_succ]
      have hF10 := hF9.below hb10
      have hO10 : OwnI w10 wR.heap.size v5 R.ws := ownI_lower ho hB9.size
      have hne : ∀ k, v5.ownBlock = some k → k ≠ wD.heap.size := fun k hk e => by
        have h1 := ownI_lows ho k hk
        have h2 := hF9.lt
        omega
      clear hb10 ho
      refine takeY 8 (i := 5) (v := ?vx12) rfl rfl (by kernel_rfl) (by kernel_rfl) (by kernel_rfl) (fun _ _ _ h => h) (by kernel_rfl) ?yx12 hS10 ?_
      case yx12 =>
        intro w' hw'; (try dsimp only at hw'); obtain q1 := hw'; go_simp; try with_reducible rfl
      simp only [Act.put, List.setIfInBounds_toArray, List.set_cons_zero, List.set_cons_succ]
      refine takeY 14 (i := 6) (v := ?vx13) rfl rfl (by kernel_rfl) (by kernel_rfl) (by kernel_rfl) (fun _ _ _ h => h) (by kernel_rfl) ?yx13 hS10 ?_
      case yx13 =>
        intro w' hw'; (try dsimp only at hw'); obtain q1 := hw'; go_simp; try with_reducible rfl
      simp only [Act.put, List.setIfInBounds_toArray, List.set_cons_zero, List.set_cons_succ]
      refine takeY 15 (i := 7) (v := ?vx14) rfl rfl (by kernel_rfl) (by kernel_rfl) (by kernel_rfl) (fun _ _ _ h => h) (by kernel_rfl) ?yx14 hS10 ?_
      case yx14 =>
        intro w' hw'; (try dsimp only at hw'); obtain q1 := hw'; go_simp; try with_reducible rfl
      simp only [Act.put, List.setIfInBounds_toArray, List.set_cons_zero, List.set_cons_succ]
      obtain ⟨c0, c1, z0, z1⟩ := hF10.cells
      refine wpAnyH_ready (rs := [9]) (by kernel_rfl) (by simp) ?_
      refine (AllReadyH.cons rfl (fun K hK => ?_) AllReadyH.nil)
      go_simp
      refine hK.out _ _ (((hB10.setCell (p := ⟨wD.heap.size, 0, none⟩) hghF _).setCell (p := ⟨wD.heap.size, 1, none⟩) hghF _).cell (p := ⟨g1, 0, none⟩) hbR |>.trans f1) (fun hS11 => ?_)
      clear hK K
      try simp only [Act.put, List.setIfInBounds_toArray, List.set_cons_zero, List.set_cons_succ]
      refine takeY 7 (i := 10) (v := ?vx15) rfl rfl (by kernel_rfl) (by kernel_rfl) (by kernel_rfl) (fun _ _ _ h => h) (by kernel_rfl) ?yx15 hS11 ?_
      case yx15 =>
        intro w' hw'; (try dsimp only at hw'); obtain q1 := hw'; go_simp; try with_reducible rfl
      simp only [Act.put, List.setIfInBounds_toArray, List.set_cons_zero, List.set_cons_succ]
      refine wpAnyH_done (by kernel_rfl) ?_ _
      go_wp2
      go_meet
      exact ⟨wD.heap.size, v5, rfl, rfl, hF10.set _ _, ownI_lower (ownI_blocks hO10 fun k hk => by rw [heap_setCell_other _ _ _ _ (hne k hk), heap_setCell_other _ _ _ _ (hne k hk)]) hlo, below_on HBR.out ((hB10.setCell (p := ⟨wD.heap.size, 0, none⟩) hghF _).setCell (p := ⟨wD.heap.size, 1, none⟩) hghF _)⟩
  case rest =>
  obtain ⟨g, v, rfl, rfl, hfr, hov, hb9⟩ := hcut
  rename World => w9
  have HB9 := Lib.hid hb9
  obtain ⟨l2, k2⟩ := H2.out.below hb9
  obtain ⟨l3, k3⟩ := H3.out.below hb9
  obtain ⟨k0, k1, -, -⟩ := hfr.cells
  clear hfr hov hb9 f1 hbR HWi HGr HIn
  go_wp2_with fail
  refine (HLess.out _).mono ?_
  rintro e w10 ⟨rfl, hb10⟩
  have HB10 := Lib.hid (below_on HB9.out hb10)
  clear hb10
  go_wp2
  go_ret
  exact ⟨rfl, HB10.out⟩
end Go.Proofs.Ytceiocdemhkcdaa.num
namespace Go.Proofs.Ytceiocdemhkcdaa.num
set_option maxRecDepth 20000
open Go.RowKit
set_option linter.unusedVariables false
set_option linter.unusedSimpArgs false

theorem row_ownS {w : World} {B b n : Nat} {l : List Int} (h : IntRow w b l) (hn : l.length = n) (hB : B ≤ b) (hm : n ≤ 1048576) : OwnI w B (.slice (some ⟨b, 0, none⟩) n n) l :=
  ownI_of_row (f := fun i => .int .i64 (l.getD i 0)) hB hn (Nat.le_refl _) (by unfold maxLen; omega) (by rw [← hn]; exact h) fun j hj => by
    rw [List.getElem?_map, List.getElem?_eq_getElem (by omega), List.getD_eq_getElem?_getD, List.getElem?_eq_getElem (by omega)]; rfl
/-- The first of the sorted sets that is small enough is the least. -/
theorem least_first {P : List Int → Prop} {L l : List (List Int)} (hp : l.Perm L) (hs : l.Pairwise (fun a b => cmpL a b ≤ 0)) {k : Nat} {s : List Int} (hk : l[k]? = some s) (h1 : P s) (h0 : ∀ j, j < k → ∀ t, l[j]? = some t → ¬ P t) : LeastS P L s := by
  refine ⟨hp.mem_iff.1 (List.mem_of_getElem? hk), h1, fun t ht hPt => ?_⟩
  obtain ⟨j, hj, e⟩ := List.getElem_of_mem (hp.mem_iff.2 ht)
  have hj' : l[j]? = some t := by rw [List.getElem?_eq_getElem hj, e]
  obtain ⟨hk', ek⟩ := List.getElem?_eq_some_iff.1 hk
  rw [ltL_false]
  rcases Nat.lt_trichotomy j k with h | h | h
  · exact absurd hPt (h0 j h t hj')
  · subst h
    have : s = t := by rw [← ek, ← e]
    subst this
    rw [cmpL_self]; decide
  · have := (List.pairwise_iff_getElem.1 hs) k j hk' hj h
    rwa [ek, e] at this
set_option maxRecDepth 20000 in
set_option maxHeartbeats 1000000 in
/-- setsOf with its sort. -/
theorem iSets (w : World) (A : Option Addr) (n c : Nat) (xs : List Int) (hi : Ints w w.heap.size A n xs) (hn : n ≤ 8) (hnc : n ≤ c) (hcm : c ≤ maxLen) :
    Calls Try.prog 46 #[.slice A n c] w fun e w' => (∃ g m c' rows, e = .returned (.slice (some ⟨g, 0, none⟩) m c') ∧ OwnR w' w.heap.size (.slice (some ⟨g, 0, none⟩) m c') rows ∧ (xsR rows).Perm (subs xs) ∧ (xsR rows).Pairwise (fun a b => cmpL a b ≤ 0)) ∧ Below w.heap.size w w' := by
  refine iSetsOf w A n c xs hi hn hnc hcm fun W g m c' rows hW hown hx => ?_
  have hxl := hi.1
  have hl : rows.length = (subs xs).length := by rw [← hx]; simp [xsR]
  have hs := subs_small (l := xs) (by omega)
  have hm : rows.length = m := (hown.r.read irC_len).len
  refine (iSortR W w.heap.size g m c' rows hW.size hown (fun e => ?_) (by omega) (fun x hxm => ?_) (enters_of Try.func81 (by kernel_rfl) rfl)).mono ?_
  · have : xs ∈ subs xs := subs_all xs
    rw [← hx, e] at this
    simp [xsR] at this
  · have : x.xs ∈ subs xs := by rw [← hx]; exact List.mem_map_of_mem hxm
    have := subs_each this
    omega
  · rintro e w' ⟨rfl, rows', ho, hp, hso, hb⟩
    refine ⟨rfl, rows', ho, ?_, hso, hb⟩
    have := hp.map IR.xs
    rw [← hx]
    exact this
set_option maxRecDepth 20000 in
set_option maxHeartbeats 6400000 in
theorem iSmall (w : World) (B : Nat) (A : Option Addr) (n c : Nat) (its : List It) (hi : Items w B A n its) (hB : B ≤ w.heap.size) (hn : n ≤ 1048576) (num den : Int) (D : List Int) (ok : Bool) (hD : SmallP (its.map It.dat) num den D ok) :
    Calls Try.prog 17 #[.slice A n c, .int .i64 num, .int .i64 den] w fun e w' => (∃ v, e = .returned (.tuple #[v, .bool ok]) ∧ OwnI w' w.heap.size v D) ∧ Below w.heap.size w w' := by
  obtain ⟨qa, hqa⟩ := bool_of (AreP (its.map It.dat))
  obtain ⟨wR, hwR⟩ : ∃ wR, ((w.alloc (.cells #[.slice A n c] 24)).alloc (.cells #[.int .i64 num] 3)).alloc (.cells #[.int .i64 den] 3) = wR := ⟨_, rfl⟩
  have hbR : Below w.heap.size w wR := by rw [← hwR]; exact (((Below.refl _ w).alloc (Nat.le_refl _) _).alloc (by simp) _).alloc (by rw [World.size_alloc, World.size_alloc]; omega) _
  have HBR := Lib.hid hbR
  have HS1 : Hid (SlB wR w.heap.size (.slice A n c)) := Lib.hid (by rw [← hwR]; exact ((SlB.new w (.slice A n c) _).below ((Below.refl _ _).alloc (Nat.le_refl _) _)).below ((Below.refl _ _).alloc (Nat.le_refl _) _))
  have HS2 : Hid (SlB wR (w.heap.size + 1) (.int .i64 num)) := Lib.hid (by
    rw [← hwR]
    have h := (SlB.new (w.alloc (.cells #[.slice A n c] 24)) (.int .i64 num) 3)
    rw [World.size_alloc] at h
    exact h.below ((Below.refl _ _).alloc (Nat.le_refl _) _))
  have HS3 : Hid (SlB wR (w.heap.size + 2) (.int .i64 den)) := Lib.hid (by
    rw [← hwR]
    have h := (SlB.new ((w.alloc (.cells #[.slice A n c] 24)).alloc (.cells #[.int .i64 num] 3)) (.int .i64 den) 3)
    rw [World.size_alloc, World.size_alloc] at h
    exact h)
  have hiR := hi.below (hbR.mono hB)
  have hBR := Nat.le_trans hB hbR.size
  have HiR := Lib.hid hiR
  have HAr := Lib.hid (iAre wR B A n c its hiR hBR qa hqa)
  have HD := Lib.hid hD
  have HQ := Lib.hid hqa
  have hlen : (its.map It.dat).length = n := by rw [List.length_map]; exact hi.1
  have HLen := Lib.hid hlen
  have HNo : Hid (¬ Valid8 (its.map It.dat) num den → ok = false ∧ D = []) := Lib.hid fun h => hD.no h
  clear hi hiR hbR hD hqa hlen
  obtain ⟨l1, f1⟩ := HS1.out
  go_enter Try.func17, Try.ntmps17
  go_upto_region 1 with (fail)
  try rw [hwR]
  clear hwR
  go_wp2_with fail
  refine HAr.out.mono ?_
  rintro e w1 ⟨rfl, hb1⟩
  have HB1 := Lib.hid hb1
  have HB1w := Lib.hid (below_on HBR.out hb1)
  have HT1 := Lib.hid (HS1.out.below hb1)
  have HT2 := Lib.hid (HS2.out.below hb1)
  have HT3 := Lib.hid (HS3.out.below hb1)
  clear hb1 HAr l1 f1
  cases qa
  · obtain ⟨rfl, rfl⟩ := HNo.out (fun h => by have := HQ.out.2 h.1; cases this)
    go_wp2
    go_ret2
    exact ⟨⟨_, rfl, ownI_nil _ _⟩, HB1w.out⟩
  · obtain ⟨l1, f1⟩ := HT1.out
    obtain ⟨l2, f2⟩ := HT2.out
    obtain ⟨l3, f3⟩ := HT3.out
    by_cases h8 : n ≤ 8
    · have h8' : (n : Int) ≤ 8 := by omega
      by_cases hd1 : den < 1
      · obtain ⟨rfl, rfl⟩ := HNo.out (fun h => by have := h.2.2.1; omega)
        go_wp2
        go_ret2
        exact ⟨⟨_, rfl, ownI_nil _ _⟩, HB1w.out⟩
      · by_cases hd2 : 100 < den
        · obtain ⟨rfl, rfl⟩ := HNo.out (fun h => by have := h.2.2.2.1; omega)
          go_wp2
          go_ret2
          exact ⟨⟨_, rfl, ownI_nil _ _⟩, HB1w.out⟩
        · by_cases hn0 : num < 0
          · obtain ⟨rfl, rfl⟩ := HNo.out (fun h => by have := h.2.2.2.2.1; omega)
            go_wp2
            go_ret2
            exact ⟨⟨_, rfl, ownI_nil _ _⟩, HB1w.out⟩
          · by_cases hnd : den < num
            · obtain ⟨rfl, rfl⟩ := HNo.out (fun h => by have := h.2.2.2.2.2; omega)
              go_wp2
              go_ret2
              exact ⟨⟨_, rfl, ownI_nil _ _⟩, HB1w.out⟩
            · have HV : Hid (Valid8 (its.map It.dat) num den) := Lib.hid ⟨HQ.out.1 rfl, by rw [HLen.out]; exact h8, by omega, by omega, by omega, by omega⟩
              have HId := Lib.hid (iIds w1 B A n c its (HiR.out.below (HB1.out.mono hBR)) (Nat.le_trans hBR HB1.out.size) hn)
              go_wp2_with fail
              refine HId.out.mono ?_
              rintro e w2 ⟨rfl, hrow, hb2⟩
              have HI2 : Hid (Ints w2 w2.heap.size (some ⟨w1.heap.size, 0, none⟩) n (idL its)) := Lib.hid (ownI_at (row_ownS (B := 0) hrow (by rw [← HLen.out]; simp [idL]) (Nat.zero_le _) hn))
              have HB2 := Lib.hid (below_on HB1.out hb2)
              have HB2w := Lib.hid (below_on HB1w.out hb2)
              have HU1 := Lib.hid (HT1.out.below hb2)
              have HU2 := Lib.hid (HT2.out.below hb2)
              have HU3 := Lib.hid (HT3.out.below hb2)
              have HSe := Lib.hid (iSets w2 (some ⟨w1.heap.size, 0, none⟩) n n (idL its) HI2.out h8 (Nat.le_refl _) (by unfold maxLen; omega))
              clear hb2 HId hrow f1 f2 f3 l1 l2 l3
              go_wp2_with fail
              refine HSe.out.mono ?_
              rintro e w3 ⟨⟨g, m, c', rows, rfl, ho3, hp3, hs3⟩, hb3⟩
              have HO3 := Lib.hid ho3
              have HP3 := Lib.hid hp3
              have HSo3 := Lib.hid hs3
              have HB3 := Lib.hid (below_on HB2.out hb3)
              have HB3w := Lib.hid (below_on HB2w.out hb3)
              have HV1 := Lib.hid (HU1.out.below hb3)
              have HV2 := Lib.hid (HU2.out.below hb3)
              have HV3 := Lib.hid (HU3.out.below hb3)
              have hml : rows.length = m := (ho3.r.read irC_len).len
              have hm : m ≤ 256 := by
                have h1 := hp3.length_eq
                have h2 := subs_small (l := idL its) (by have := HI2.out.1; omega)
                simp only [xsR, List.length_map] at h1
                omega
              obtain ⟨hold, hh⟩ : ∃ hold : IR → Bool, ∀ u, hold u = true ↔ okS (its.map It.dat) num den u.xs := ⟨fun u => @decide _ (Classical.propDecidable (okS (its.map It.dat) num den u.xs)), fun u => @decide_eq_true_iff _ (Classical.propDecidable _)⟩
              have HH := Lib.hid hh
              have HIx := Lib.hid (idxRows w3 (some ⟨g, 0, none⟩) m c' rows (ho3.r.read irC_len) (by omega) 49 #[.pointer (some ⟨w.heap.size, 0, none⟩), .pointer (some ⟨w.heap.size + 1, 0, none⟩), .pointer (some ⟨w.heap.size + 2, 0, none⟩)] (enters_of Try.func49 (by kernel_rfl) rfl) hold
                (fun W hW u hu => by
                  obtain ⟨j, hj, eu⟩ := List.getElem_of_mem hu
                  have hO := (HO3.out.below hW).x j u (by rw [List.getElem?_eq_getElem hj, eu])
                  have hIu := ownI_at hO
                  have hsz : u.n ≤ 1048576 := by
                    have h1 := subs_each (HP3.out.mem_iff.1 (List.mem_map_of_mem hu : u.xs ∈ xsR rows))
                    have h2 := HI2.out.1
                    have h3 := hIu.1
                    omega
                  have hbW := below_on HB3.out hW
                  exact small_c W B A n c its (HiR.out.below (hbW.mono hBR)) (Nat.le_trans hBR hbW.size) hn u hIu hsz w.heap.size (w.heap.size + 1) (w.heap.size + 2) num den (HV1.out.below hW) (HV2.out.below hW) (HV3.out.below hW) ⟨by show 0 ≤ num; omega, by show num ≤ 100; omega, by show 0 ≤ den; omega, by show den ≤ 100; omega⟩ (hold u) (hh u)))
              clear ho3 hp3 hs3 hb3 hh HSe
              go_wp2_with fail
              refine HIx.out.mono ?_
              rintro e w4 ⟨hr, hb4⟩
              have HB4w := Lib.hid (below_on HB3w.out hb4)
              rcases hr with ⟨rfl, hall⟩ | ⟨k, x, hk, rfl, hat, hx, hno⟩
              · exfalso
                have hmem : idsA (its.map It.dat) ∈ xsR rows := HP3.out.mem_iff.2 (by have e : idsA (its.map It.dat) = idL its := by simp [idsA, idL, It.dat]
                                                                                      rw [e]; exact subs_all _)
                obtain ⟨u, hu, e⟩ := List.mem_map.1 hmem
                have h1 := hall u hu
                have h2 := (HH.out u).2 (by rw [e]; exact okS_all HV.out.2.2.2.2.1)
                rw [h1] at h2; cases h2
              · have HO4 := Lib.hid (HO3.out.below hb4)
                have hLe : LeastS (okS (its.map It.dat) num den) (subs (idsA (its.map It.dat))) x.xs := by
                  have e : idsA (its.map It.dat) = idL its := by simp [idsA, idL, It.dat]
                  rw [e]
                  refine least_first HP3.out HSo3.out (k := k) (by unfold xsR; rw [List.getElem?_map, hat]; rfl) ((HH.out x).1 hx) fun j hj t ht hPt => ?_
                  unfold xsR at ht
                  rw [List.getElem?_map] at ht
                  obtain ⟨u, hu, rfl⟩ := Option.map_eq_some_iff.1 ht
                  have h1 := hno u (mem_of_at (k := j) (by rw [List.getElem?_take_of_lt hj]; exact hu))
                  have h2 := (HH.out u).2 hPt
                  rw [h1] at h2; cases h2
                obtain ⟨rfl, rfl⟩ := HD.out.yes HV.out hLe
                have HX4 : Hid (OwnI w4 w.heap.size x.val x.xs) := Lib.hid (ownI_lower (HO4.out.x k x hat) HB2w.out.size)
                obtain ⟨b, off, x2, hA, hb, hat2, hd2⟩ := ir_at (HO4.out.r.read irC_len) hk
                injection hA with hA
                injection hA with hA1 hA2
                subst hA1 hA2
                obtain rfl : x = x2 := by rw [hat] at hat2; exact Option.some.inj hat2
                rw [Nat.zero_add] at hd2
                have hk' : (k : Int) < (m : Int) := by omega
                clear hat hat2 hno hLe hb4
                go_wp2
                go_ret2
                exact ⟨⟨_, rfl, HX4.out⟩, HB4w.out⟩
    · have h8' : (8 : Int) < (n : Int) := by omega
      obtain ⟨rfl, rfl⟩ := HNo.out (fun h => by have := h.2.1; rw [HLen.out] at this; omega)
      go_wp2
      go_ret2
      exact ⟨⟨_, rfl, ownI_nil _ _⟩, HB1w.out⟩
end Go.Proofs.Ytceiocdemhkcdaa.num
namespace Go.Proofs.Ytceiocdemhkcdaa.num
set_option maxRecDepth 20000
open Go.RowKit
set_option linter.unusedVariables false
set_option linter.unusedSimpArgs false

set_option maxRecDepth 20000 in
theorem sLess (w : World) (B : Nat) (A A' : Option Addr) (n n' c c' : Nat) (xs ys : List Int) (hx : Ints w B A n xs) (hy : Ints w B A' n' ys) (hn : n ≤ 1048576) (hn' : n' ≤ 1048576) :
    Calls Try.prog 53 #[.slice A n c, .slice A' n' c'] w fun e w' => e = .returned (.bool (ltL xs ys)) ∧ ∃ m, w' = w.drewN m := by
  have HX := Lib.hid hx
  have HY := Lib.hid hy
  have h1 := hx.1
  have h2 := hy.1
  by_cases hl : n = n'
  · subst hl
    clear hx hy h1 h2
    go_enter Try.func53, Try.ntmps53
    go_wp2
    go_loopw [5] (fun i wr => ∃ k : Nat, k ≤ n ∧ i = .int .i64 k ∧ xs.take k = ys.take k ∧ ∃ m, wr = w.drewN m) (fun i _ => n - (intOf i).toNat)
    case atStart => exact ⟨0, Nat.zero_le _, rfl, rfl, 0, rfl⟩
    case round =>
      obtain ⟨k, hk, rfl, htake, m, rfl⟩ := hrel
      have HT := Lib.hid htake
      clear htake
      by_cases hlt : k < n
      · obtain ⟨b1, o1, u, rfl, hb1, hat1, hc1⟩ := HX.out.at k hlt
        obtain ⟨b2, o2, v, rfl, hb2, hat2, hc2⟩ := HY.out.at k hlt
        have hlt' : (k : Int) < (n : Int) := by omega
        have H1 := Lib.hid hat1
        have H2 := Lib.hid hat2
        clear hat1 hat2
        by_cases he : u = v
        · subst he
          go_wp2
          go_quiet (fail)
          go_wp2
          go_roundw
          case rel => exact ⟨k + 1, by omega, by go_num, by rw [take_at H1.out, take_at H2.out, HT.out], _, rfl⟩
          case measure => simp [intOf]; omega
        · have hne : (u != v) = true := by simpa using he
          have hlx := lexC_at k HT.out H1.out H2.out
          have hcm : cmpL xs ys = lexC xs ys := by
            unfold cmpL
            rw [HX.out.1, HY.out.1, if_neg (by omega), if_neg (by omega)]
          have hr : ltL xs ys = decide (u < v) := by
            unfold ltL
            rw [hcm]
            by_cases huv : u < v
            · rw [hlx.1 huv]; simp [huv]
            · rw [hlx.2 (by omega)]; simp; omega
          have HR := Lib.hid hr
          clear hlx hcm hr
          go_wp2
          go_quiet (fail)
          go_wp2
          go_quiet (fail)
          go_wp2
          go_ret
          exact ⟨by rw [HR.out]; rfl, _, by rw [World.drewN_drewN, World.drewN_drewN]⟩
      · obtain rfl : k = n := by omega
        have hxy : xs = ys := by
          have h := HT.out
          rwa [take_all HX.out.1, take_all HY.out.1] at h
        subst hxy
        go_wp2
        go_ret
        exact ⟨by rw [ltL_irrefl]; rfl, _, rfl⟩
  · have hd : ((n : Int) != (n' : Int)) = true := by simp; omega
    have hr : ltL xs ys = decide (n < n') := by
      unfold ltL cmpL
      rw [h1, h2]
      by_cases hlt : n < n'
      · rw [if_pos hlt]; simp; omega
      · rw [if_neg hlt, if_pos (by omega)]; simp; omega
    have HR := Lib.hid hr
    clear hx hy h1 h2 hr
    go_enter Try.func53, Try.ntmps53
    go_wp2
    go_ret
    exact ⟨by rw [HR.out]; rfl, 0, rfl⟩
/-- The bit that Go asks for. -/
theorem bits_small : ∀ q : Fin 256, bits BinOp.and IntKind.i64 ((q.val : Nat) : Int) 1 = ((q.val % 2 : Nat) : Int) := by decide +kernel
theorem bit_of (k i : Nat) (hk : k < 256) : bits BinOp.and IntKind.i64 ((k : Int) / 2 ^ i) 1 = ((k / 2 ^ i % 2 : Nat) : Int) := by
  have h1 : k / 2 ^ i < 256 := Nat.lt_of_le_of_lt (Nat.div_le_self _ _) hk
  have h2 : ((k : Int) / 2 ^ i) = ((k / 2 ^ i : Nat) : Int) := by simp
  rw [h2]
  exact bits_small ⟨k / 2 ^ i, h1⟩
set_option maxRecDepth 20000 in
set_option maxHeartbeats 1600000 in
theorem sSet (w : World) (B : Nat) (A : Option Addr) (n c : Nat) (its : List It) (hi : Items w B A n its) (hB : B ≤ w.heap.size) (hn : n ≤ 8) (k : Nat) (hk : k < 256) :
    Calls Try.prog 52 #[.slice A n c, .int .i64 k] w fun e w' => (∃ v, e = .returned v ∧ OwnI w' w.heap.size v (msk (idsA (its.map It.dat)) k)) ∧ Below w.heap.size w w' := by
  have HX := Lib.hid hi
  have hl := hi.1
  clear hi
  have HB0 : Hid (Below w.heap.size w (w.alloc (.cells #[] 3))) := Lib.hid ((Below.refl _ w).alloc (Nat.le_refl _) _)
  have HE0 : Hid (OwnI (w.alloc (.cells #[] 3)) w.heap.size (.slice (some ⟨w.heap.size, 0, none⟩) 0 0) []) := Lib.hid (OwnI.empty w w.heap.size (Nat.le_refl _))
  go_enter Try.func52, Try.ntmps52
  go_wp2
  go_loopw [5, 6] (fun v i wr => ∃ (j : Nat) (V : Value), j ≤ n ∧ i = .int .i64 j ∧ V = v ∧ OwnI wr w.heap.size V (msk (idsA ((its.take j).map It.dat)) k) ∧ Below w.heap.size w wr) (fun _ i _ => n - (intOf i).toNat)
  case atStart => exact ⟨0, _, Nat.zero_le _, rfl, rfl, HE0.out, HB0.out⟩
  case round =>
    obtain ⟨j, V, hj, rfl, rfl, hown, hbel⟩ := hrel
    have HO := Lib.hid hown
    have HB := Lib.hid hbel
    clear hown
    by_cases hlt : j < n
    · obtain ⟨b, off, x, rfl, hb, hat, d0, d1, hx⟩ := HX.out.at j hlt
      have f0 := (hbel.cell (p := ⟨b, off + j * 2, none⟩) (Nat.lt_of_lt_of_le hb hB)).trans d0
      have hlt' : (j : Int) < (n : Int) := by omega
      have hids : idsA ((its.take (j + 1)).map It.dat) = idsA ((its.take j).map It.dat) ++ [x.id] := by
        rw [take_at hat]; simp [idsA, It.dat]
      have hlen : (idsA ((its.take j).map It.dat)).length = j := by simp [idsA]; omega
      have hmk : msk (idsA ((its.take (j + 1)).map It.dat)) k = msk (idsA ((its.take j).map It.dat)) k ++ (if k / 2 ^ j % 2 = 1 then [x.id] else []) := by
        rw [hids, msk_snoc, hlen]
      have hsm : (msk (idsA ((its.take j).map It.dat)) k).length ≤ 8 := by have h := msk_len (idsA ((its.take j).map It.dat)) k; omega
      have HM := Lib.hid hmk
      have HSm := Lib.hid hsm
      clear hat d0 d1 hx hids hlen hmk hsm hbel
      have hj8 : (j : Int) < 8 := by omega
      have hbit := bit_of k j hk
      have HBt : Hid (OwnI wr w.heap.size V (msk (idsA ((its.take j).map It.dat)) k)) := HO
      have hV := HO.out
      by_cases h1 : k / 2 ^ j % 2 = 1
      · rw [h1] at hbit
        rw [if_pos h1] at HM
        have HMs : Hid (((msk (idsA ((its.take j).map It.dat)) k).length + [x.id].length) * 8 ≤ 140737488355328) := Lib.hid (by have h := HSm.out; rw [List.length_singleton]; omega)
        have hbit' : bits BinOp.and IntKind.i64 ((k : Int) / 2 ^ j) 1 = 1 := hbit
        clear h1 hV hbit
        go_wp2_with (at_builtin; refine wp_appI wr (by rfl) (.tmp 19) (.tmp 25) (by rfl) w.heap.size _ _ (by rfl) HO.out _ [x.id] (by rfl) 1 1 rfl (by rfl) HMs.out HB.out.size ?_)
        rintro v' w2 ho hb2
        have HO2 : Hid (OwnI w2 w.heap.size v' (msk (idsA ((its.take (j + 1)).map It.dat)) k)) := Lib.hid (by rw [HM.out]; first | exact ho | (rw [← List.map_take] at ho; exact ho))
        have HB2 := Lib.hid (HB.out.trans hb2)
        clear ho hb2
        go_wp2
        go_roundw
        case rel => exact ⟨j + 1, v', by omega, by go_num, rfl, HO2.out, HB2.out⟩
        case measure => simp [intOf]; omega
      · have h0 : k / 2 ^ j % 2 = 0 := by omega
        rw [h0] at hbit
        rw [if_neg h1, List.append_nil] at HM
        have hbit' : bits BinOp.and IntKind.i64 ((k : Int) / 2 ^ j) 1 = 0 := hbit
        clear h1 h0 hV hbit
        go_wp2
        go_roundw
        case rel => exact ⟨j + 1, V, by omega, by go_num, rfl, by rw [HM.out]; exact HO.out, HB.out⟩
        case measure => simp [intOf]; omega
    · obtain rfl : j = n := by omega
      have h := HO.out
      rw [take_all hl] at h
      have HH := Lib.hid h
      clear h hbel
      go_wp2
      go_ret
      exact ⟨⟨_, rfl, HH.out⟩, HB.out⟩
end Go.Proofs.Ytceiocdemhkcdaa.num
namespace Go.Proofs.Ytceiocdemhkcdaa.num
set_option maxRecDepth 20000
open Go.RowKit
set_option linter.unusedVariables false
set_option linter.unusedSimpArgs false

/-- The model's state behind k masks. -/
def SmS (P : List Int → Prop) (ids : List Int) (k : Nat) (r : List Int) (fb : Bool) : Prop :=
  (fb = false ∧ r = [] ∧ ∀ j, j < k → ¬ P (msk ids j)) ∨ (fb = true ∧ P r ∧ (∃ j, j < k ∧ r = msk ids j) ∧ ∀ j, j < k → P (msk ids j) → ltL (msk ids j) r = false)
theorem SmS.zero (P : List Int → Prop) (ids : List Int) : SmS P ids 0 [] false := .inl ⟨rfl, rfl, fun j hj => by omega⟩
theorem SmS.no {P : List Int → Prop} {ids : List Int} {k : Nat} {r : List Int} {fb : Bool} (h : SmS P ids k r fb) (hn : ¬ P (msk ids k)) : SmS P ids (k + 1) r fb := by
  rcases h with ⟨h1, h2, h3⟩ | ⟨h1, h2, ⟨j, h3, h4⟩, h5⟩
  · refine .inl ⟨h1, h2, fun j hj => ?_⟩
    by_cases e : j = k
    · subst e; exact hn
    · exact h3 j (by omega)
  · refine .inr ⟨h1, h2, ⟨j, by omega, h4⟩, fun i hi hp => ?_⟩
    by_cases e : i = k
    · subst e; exact absurd hp hn
    · exact h5 i (by omega) hp
theorem SmS.worse {P : List Int → Prop} {ids : List Int} {k : Nat} {r : List Int} (h : SmS P ids k r true) (hl : ltL (msk ids k) r = false) : SmS P ids (k + 1) r true := by
  rcases h with ⟨h1, _⟩ | ⟨h1, h2, ⟨j, h3, h4⟩, h5⟩
  · cases h1
  · refine .inr ⟨rfl, h2, ⟨j, by omega, h4⟩, fun i hi hp => ?_⟩
    by_cases e : i = k
    · subst e; exact hl
    · exact h5 i (by omega) hp
theorem SmS.first {P : List Int → Prop} {ids : List Int} {k : Nat} {r : List Int} (h : SmS P ids k r false) (hp : P (msk ids k)) : SmS P ids (k + 1) (msk ids k) true := by
  rcases h with ⟨_, _, h3⟩ | ⟨h1, _⟩
  · refine .inr ⟨rfl, hp, ⟨k, by omega, rfl⟩, fun i hi hq => ?_⟩
    by_cases e : i = k
    · subst e; exact ltL_irrefl _
    · exact absurd hq (h3 i (by omega))
  · cases h1
theorem SmS.better {P : List Int → Prop} {ids : List Int} {k : Nat} {r : List Int} (h : SmS P ids k r true) (hl : ltL (msk ids k) r = true) (hp : P (msk ids k)) : SmS P ids (k + 1) (msk ids k) true := by
  rcases h with ⟨h1, _⟩ | ⟨_, h2, ⟨j, h3, h4⟩, h5⟩
  · cases h1
  · refine .inr ⟨rfl, hp, ⟨k, by omega, rfl⟩, fun i hi hq => ?_⟩
    by_cases e : i = k
    · subst e; exact ltL_irrefl _
    · rcases hb : ltL (msk ids i) (msk ids k) with _ | _
      · rfl
      · have := ltL_trans hb hl
        rw [h5 i (by omega) hq] at this; cases this
theorem SmS.done {P : List Int → Prop} {ids : List Int} {r : List Int} {fb : Bool} (h : SmS P ids (2 ^ ids.length) r fb) (he : P ids) : fb = true ∧ LeastS P (subs ids) r := by
  rcases h with ⟨_, _, h3⟩ | ⟨h1, h2, ⟨j, h3, h4⟩, h5⟩
  · obtain ⟨j, hj, e⟩ := subs_mem (subs_all ids)
    exact absurd (e ▸ he) (h3 j hj)
  · refine ⟨h1, h4 ▸ subs_has h3, h2, fun s hs hp => ?_⟩
    obtain ⟨i, hi, rfl⟩ := subs_mem hs
    exact h5 i hi hp
set_option maxRecDepth 20000 in
set_option maxHeartbeats 6400000 in
theorem sSmall (w : World) (B : Nat) (A : Option Addr) (n c : Nat) (its : List It) (hi : Items w B A n its) (hB : B ≤ w.heap.size) (hn : n ≤ 1048576) (hN : ∀ t ∈ its, t.n ≤ 1048576) (num den : Int) (D : List Int) (ok : Bool) (hD : SmallP (its.map It.dat) num den D ok) :
    Calls Try.prog 18 #[.slice A n c, .int .i64 num, .int .i64 den] w fun e w' => (∃ v, e = .returned (.tuple #[v, .bool ok]) ∧ OwnI w' w.heap.size v D) ∧ Below w.heap.size w w' := by
  obtain ⟨qa, hqa⟩ := bool_of (AreP (its.map It.dat))
  obtain ⟨q1, hq1⟩ := bool_of (1 ≤ den ∧ den ≤ 100)
  obtain ⟨q2, hq2⟩ := bool_of (0 ≤ num ∧ num ≤ den)
  have hil : its.length = n := hi.1
  have hdl : (its.map It.dat).length = n := by rw [List.length_map, hil]
  have HAr : Hid (∀ W, Below w.heap.size w W → Calls Try.prog 13 #[.slice A n c] W fun e w' => e = .returned (.bool qa) ∧ Below W.heap.size W w') := Lib.hid fun W hW => sAre W B A n c its (hi.below (hW.mono hB)) (Nat.le_trans hB hW.size) hn hN qa hqa
  have HSe : Hid (n ≤ 8 → ∀ W k, Below w.heap.size w W → k < 256 → Calls Try.prog 52 #[.slice A n c, .int .i64 ((k : Nat) : Int)] W fun e w' => (∃ v, e = .returned v ∧ OwnI w' W.heap.size v (msk (idsA (its.map It.dat)) k)) ∧ Below W.heap.size W w') := Lib.hid fun h8 W k hW hk => sSet W B A n c its (hi.below (hW.mono hB)) (Nat.le_trans hB hW.size) h8 k hk
  have HRe : Hid (∀ W (A4 : Option Addr) (n4 c4 : Nat) (xs : List Int) (N E : Int) (ws : List Int), Below w.heap.size w W → Ints W W.heap.size A4 n4 xs → n4 ≤ 1048577 → RegP (its.map It.dat) xs N E ws → Calls Try.prog 8 #[.slice A n c, .slice A4 n4 c4] W fun e w' => (∃ v, e = .returned (.tuple #[.int .i64 N, .int .i64 E, v]) ∧ OwnI w' W.heap.size v ws) ∧ Below W.heap.size W w') := Lib.hid fun W A4 n4 c4 xs N E ws hW h4 hn4 hP => sRegretOf W B A n c its (hi.below (hW.mono hB)) (Nat.le_trans hB hW.size) hn hN W.heap.size A4 n4 c4 xs h4 (Nat.le_refl _) hn4 N E ws hP
  obtain ⟨ds, hds⟩ : ∃ ds, its.map It.dat = ds := ⟨_, rfl⟩
  rw [hds] at hqa hD hdl HRe HSe
  have HYes : Hid (qa = true → n ≤ 8 → q1 = true → q2 = true → Valid8 ds num den) := Lib.hid fun h1 h2 h3 h4 => ⟨hqa.1 h1, by omega, (hq1.1 h3).1, (hq1.1 h3).2, (hq2.1 h4).1, (hq2.1 h4).2⟩
  have HNo : Hid (¬ (qa = true ∧ n ≤ 8 ∧ q1 = true ∧ q2 = true) → ok = false ∧ D = []) := Lib.hid fun h => hD.no fun ⟨h1, h2, h3, h4, h5, h6⟩ => h ⟨hqa.2 h1, by omega, hq1.2 ⟨h3, h4⟩, hq2.2 ⟨h5, h6⟩⟩
  have HDD := Lib.hid hD
  have HQ1 := Lib.hid hq1
  have HQ2 := Lib.hid hq2
  have HDl := Lib.hid hdl
  clear hi hD hqa hq1 hq2 hds hdl hil
  have HB0 : Hid (Below w.heap.size w (w.alloc (.cells #[] 3))) := Lib.hid ((Below.refl _ w).alloc (Nat.le_refl _) _)
  have HE0 : Hid (OwnI (w.alloc (.cells #[] 3)) w.heap.size (.slice (some ⟨w.heap.size, 0, none⟩) 0 0) []) := Lib.hid (OwnI.empty w w.heap.size (Nat.le_refl _))
  go_enter Try.func18, Try.ntmps18
  go_wp2_with fail
  refine (HAr.out _ HB0.out).mono ?_
  rintro e w1 ⟨rfl, hb1⟩
  have HB1 := Lib.hid (below_on HB0.out hb1)
  have HE1 := Lib.hid (ownI_below HE0.out hb1)
  clear hb1 HE0 HB0 HAr
  cases qa
  · obtain ⟨rfl, rfl⟩ := HNo.out (fun h => by cases h.1)
    go_wp2
    go_ret2
    exact ⟨⟨_, rfl, HE1.out⟩, HB1.out⟩
  · by_cases h8 : n ≤ 8
    · have h8' : ¬ (8 : Int) < (n : Int) := by omega
      go_wp2_with fail
      refine (in_of den 1 100 q1 HQ1.out _).mono ?_
      rintro e w2 ⟨rfl, rfl⟩
      cases q1
      · obtain ⟨rfl, rfl⟩ := HNo.out (fun h => by cases h.2.2.1)
        go_wp2
        go_ret2
        exact ⟨⟨_, rfl, HE1.out⟩, HB1.out⟩
      · go_wp2_with fail
        refine (in_of num 0 den q2 HQ2.out _).mono ?_
        rintro e w2 ⟨rfl, rfl⟩
        cases q2
        · obtain ⟨rfl, rfl⟩ := HNo.out (fun h => by cases h.2.2.2)
          go_wp2
          go_ret2
          exact ⟨⟨_, rfl, HE1.out⟩, HB1.out⟩
        · have hval := HYes.out (by first | rfl | trivial) h8 (by first | rfl | trivial) (by first | rfl | trivial)
          have HVal := Lib.hid hval
          have hrn := hval.2.2
          have hidl : (idsA ds).length = n := by rw [idsA, List.length_map, HDl.out]
          have hpow : 2 ^ n ≤ 256 := Nat.le_trans (Nat.pow_le_pow_right (by decide) h8) (by decide)
          have HIl := Lib.hid hidl
          have HPow := Lib.hid hpow
          have HSz : Hid (SmS (okS ds num den) (idsA ds) 0 [] false) := Lib.hid (SmS.zero _ _)
          clear hval hidl
          have hpi : ((2 : Int) ^ n) ≤ 256 := by have h : ((2 ^ n : Nat) : Int) ≤ 256 := by omega
                                                 simpa using h
          have hpp : (0 : Int) < ((2 : Int) ^ n) := by have h : (0 : Int) < ((2 ^ n : Nat) : Int) := by have := Nat.two_pow_pos n; omega
                                                       simpa using h
          go_wp2
          go_loopw [8, 9, 10] (fun v fv kv wr => ∃ (k : Nat) (V : Value) (fb : Bool) (r : List Int), k ≤ 2 ^ n ∧ kv = .int .i64 k ∧ fv = .bool fb ∧ V = v ∧ OwnI wr w.heap.size V r ∧ SmS (okS ds num den) (idsA ds) k r fb ∧ Below w.heap.size w wr) (fun _ _ kv _ => 2 ^ n - (intOf kv).toNat)
          case atStart => exact ⟨0, _, false, [], Nat.zero_le _, rfl, rfl, rfl, HE1.out, HSz.out, HB1.out⟩
          case round =>
            obtain ⟨k, V, fb, r, hk, rfl, rfl, rfl, hown, hsm, hbel⟩ := hrel
            have HO := Lib.hid hown
            have HSm := Lib.hid hsm
            have HB := Lib.hid hbel
            clear hown hsm hbel
            by_cases hlt : k < 2 ^ n
            · have hlt' : (k : Int) < (2 : Int) ^ n := by have h : (k : Int) < ((2 ^ n : Nat) : Int) := by omega
                                                          simpa using h
              have HCs := Lib.hid (HSe.out h8 wr k HB.out (by have := HPow.out; omega))
              go_wp2_with fail
              refine HCs.out.mono ?_
              rintro e w2 ⟨⟨v, rfl, ho⟩, hb2⟩
              have HB2 := Lib.hid (below_on HB.out hb2)
              have HO2 := Lib.hid (ownI_below HO.out hb2)
              have hvl := ownI_lower (B' := w.heap.size) ho HB.out.size
              obtain ⟨A4, n4, c4, rfl, h4⟩ := ho.ints
              have HV2 := Lib.hid hvl
              have hn4 : n4 ≤ 8 := by
                have h1 := h4.1
                have h2 := msk_len (idsA ds) k
                have h3 := HIl.out
                omega
              obtain ⟨A5, n5, c5, rfl, h5⟩ := HO2.out.ints
              have hn5 : n5 ≤ 8 := by
                have h1 := h5.1
                have h3 := HIl.out
                rcases HSm.out with ⟨_, e, _⟩ | ⟨_, _, ⟨j, _, e⟩, _⟩
                · rw [e] at h1; simp at h1; omega
                · have h2 := msk_len (idsA ds) j
                  rw [e] at h1
                  omega
              obtain ⟨N, E, ws, hP⟩ := RegP.some ds (msk (idsA ds) k)
              have hkn : KnownP ds (msk (idsA ds) k) := fun z hz => by
                obtain ⟨d, hd, he⟩ := List.mem_map.1 (msk_sub (idsA ds) k z hz)
                exact ⟨d, hd, he⟩
              obtain ⟨e1, e2, -⟩ := hP.yes HVal.out.1 hkn
              have hps := hP.small
              have HOk : Hid (okS ds num den (msk (idsA ds) k) ↔ N * den ≤ num * E) := Lib.hid (by rw [e1, e2]; exact Iff.rfl)
              have HReg : Hid (∀ W (A4 : Option Addr) (n4 c4 : Nat), Below w.heap.size w W → Ints W W.heap.size A4 n4 (msk (idsA ds) k) → n4 ≤ 1048577 → Calls Try.prog 8 #[.slice A n c, .slice A4 n4 c4] W fun e w' => (∃ v, e = .returned (.tuple #[.int .i64 N, .int .i64 E, v]) ∧ OwnI w' W.heap.size v ws) ∧ Below W.heap.size W w') := Lib.hid fun W A4 n4 c4 hW h hn => HRe.out W A4 n4 c4 _ N E ws hW h hn hP
              have m1 := mul_hundred (a := N) (b := den) (by omega) (by omega) (by omega) (by omega)
              have m2 := mul_hundred (a := num) (b := E) (by omega) (by omega) (by omega) (by omega)
              have HI4 := Lib.hid h4
              have HI5 := Lib.hid h5
              clear ho hb2 hvl HCs h4 h5 hP hkn e1 e2
              cases fb
              · go_wp2_with fail
                refine (HReg.out _ _ _ _ (HB2.out) (HI4.out) (by omega)).mono ?_
                rintro e w4 ⟨⟨v9, rfl, -⟩, hb4⟩
                have HB4 := Lib.hid (below_on (HB2.out) hb4)
                have HO4 := Lib.hid (ownI_below (HO2.out) hb4)
                have HV4 := Lib.hid (ownI_below (HV2.out) hb4)
                clear hb4
                by_cases hle : N * den ≤ num * E
                · have HNew : Hid (SmS (okS ds num den) (idsA ds) (k + 1) (msk (idsA ds) k) true) := Lib.hid (HSm.out.first (HOk.out.2 hle))
                  go_wp2
                  go_roundw
                  case rel => exact ⟨k + 1, _, true, _, by omega, by go_num, rfl, rfl, HV4.out, HNew.out, HB4.out⟩
                  case measure => simp [intOf]; omega
                · have HNew : Hid (SmS (okS ds num den) (idsA ds) (k + 1) r false) := Lib.hid (HSm.out.no fun h => hle (HOk.out.1 h))
                  go_wp2
                  go_roundw
                  case rel => exact ⟨k + 1, _, false, _, by omega, by go_num, rfl, rfl, HO4.out, HNew.out, HB4.out⟩
                  case measure => simp [intOf]; omega
              · go_wp2_with fail
                refine (sLess w2 w2.heap.size A4 A5 n4 n5 c4 c5 (msk (idsA ds) k) r HI4.out HI5.out (by omega) (by omega)).mono ?_
                rintro e w3 ⟨rfl, m, rfl⟩
                obtain ⟨z, hz⟩ : ∃ z, ltL (msk (idsA ds) k) r = z := ⟨_, rfl⟩
                rw [hz]
                have HZ := Lib.hid hz
                have hdr : Below w2.heap.size w2 (w2.drewN m) := below_drewN (Below.refl _ _) m
                have HB3 := Lib.hid (below_on HB2.out hdr)
                have HO3 := Lib.hid (ownI_below HO2.out hdr)
                have HV3 := Lib.hid (ownI_below HV2.out hdr)
                have HI3 := Lib.hid ((HI4.out.below hdr).more hdr.size)
                clear hz hdr
                cases z
                · have HNew : Hid (SmS (okS ds num den) (idsA ds) (k + 1) r true) := Lib.hid (HSm.out.worse HZ.out)
                  go_wp2
                  go_roundw
                  case rel => exact ⟨k + 1, _, true, _, by omega, by go_num, rfl, rfl, HO3.out, HNew.out, HB3.out⟩
                  case measure => simp [intOf]; omega
                · go_wp2_with fail
                  refine (HReg.out _ _ _ _ (HB3.out) (HI3.out) (by omega)).mono ?_
                  rintro e w4 ⟨⟨v9, rfl, -⟩, hb4⟩
                  have HB4 := Lib.hid (below_on (HB3.out) hb4)
                  have HO4 := Lib.hid (ownI_below (HO3.out) hb4)
                  have HV4 := Lib.hid (ownI_below (HV3.out) hb4)
                  clear hb4
                  by_cases hle : N * den ≤ num * E
                  · have HNew : Hid (SmS (okS ds num den) (idsA ds) (k + 1) (msk (idsA ds) k) true) := Lib.hid (HSm.out.better HZ.out (HOk.out.2 hle))
                    go_wp2
                    go_roundw
                    case rel => exact ⟨k + 1, _, true, _, by omega, by go_num, rfl, rfl, HV4.out, HNew.out, HB4.out⟩
                    case measure => simp [intOf]; omega
                  · have HNew : Hid (SmS (okS ds num den) (idsA ds) (k + 1) r true) := Lib.hid (HSm.out.no fun h => hle (HOk.out.1 h))
                    go_wp2
                    go_roundw
                    case rel => exact ⟨k + 1, _, true, _, by omega, by go_num, rfl, rfl, HO4.out, HNew.out, HB4.out⟩
                    case measure => simp [intOf]; omega
            · obtain rfl : k = 2 ^ n := by omega
              have hdn := HSm.out
              rw [← HIl.out] at hdn
              obtain ⟨rfl, hle⟩ := hdn.done (okS_all HVal.out.2.2.2.2.1)
              obtain ⟨rfl, rfl⟩ := HDD.out.yes HVal.out hle
              have hlt' : ¬ (((2 ^ n : Nat) : Int) < (2 : Int) ^ n) := by simp
              have HOz := HO
              clear hdn hle
              go_wp2
              go_ret2
              exact ⟨⟨_, rfl, HOz.out⟩, HB.out⟩
    · obtain ⟨rfl, rfl⟩ := HNo.out (fun h => h8 h.2.1)
      have h8' : (8 : Int) < (n : Int) := by omega
      go_wp2
      go_ret2
      exact ⟨⟨_, rfl, HE1.out⟩, HB1.out⟩
end Go.Proofs.Ytceiocdemhkcdaa.num
