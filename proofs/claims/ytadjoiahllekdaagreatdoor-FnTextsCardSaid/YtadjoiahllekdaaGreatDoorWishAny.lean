/-
  The model's draw of any wish: its contract.
-/
import Derived.Test.YtadjoiahllekdaaGreatDoorWishDraw
import Derived.Deep.RegionLaw
import Derived.Maps.AppendAt
namespace Go.Proofs.YtadjoiahllekdaaGreatDoor.num
set_option maxRecDepth 20000
open Go.RowKit Go.Maps
set_option linter.unusedVariables false
set_option linter.unusedSimpArgs false

theorem step_appD {ops : Array Oper} {o : Oper} {a : Act} {K : Act → World → Prop} {Q : Exit → Act → World → Prop} {E : Prop} (w : World) (hgd : o.guard = none) (s x : Operand)
    (ho : o.op = .call { callee := .builtin .append, args := #[s, x], argTypes := #[24, 24] })
    (B : Nat) (v : Value) (l : List Int) (hs : a.eval s = v) (hown : OwnI w B v l) (cs : Array Value) (new : List Int) (hcs : cs = (new.map (Value.int .i64)).toArray) (n c : Nat) (hn : n = new.length)
    (hx : a.eval x = .slice (some ⟨w.heap.size, 0, none⟩) n c) (hlen : (l.length + new.length) * 8 ≤ 140737488355328) (hB : B ≤ w.heap.size)
    (h : ∀ v' w', OwnI w' B v' (l ++ new) → (w.alloc (.cells cs 3)).grownBy w' v.ownBlock → (v'.ownBlock = v.ownBlock ∨ v'.ownBlock = some (w.alloc (.cells cs 3)).heap.size) → K (a.put o.dst v') w') :
    if Region.wanted o (yielded ops a.tmps) = true then Oper.wp Tryz.prog o a (w.alloc (.cells cs 3)) K Q else E := by
  have hw : Region.wanted o (yielded ops a.tmps) = true := by simp [Region.wanted, hgd]
  rw [if_pos hw]
  obtain ⟨i0, hi, hz0, hz1, hz2⟩ := info_parts info_int
  subst hcs hn
  obtain ⟨v', w', hr, h2, h3, h4, h5⟩ := run_append_own_at (P := Tryz.prog) (w.alloc (.cells (new.map (Value.int .i64)).toArray 3)) B 24 o.type 3 i0 (.int .i64 0) 1 8 Tryz.underlying24 hi hz0 hz1 hz2 rfl (by decide) v l.length (l.map (Value.int .i64)) (World.ownsRow.alloc hown _) ⟨w.heap.size, 0, none⟩ new.length c (new.map (Value.int .i64)) (by simp) (fun j u hj => by
    have e : (⟨w.heap.size, 0, none⟩ : Addr).add j = ⟨w.heap.size, j, none⟩ := by unfold Addr.add; split <;> simp_all
    rw [e, World.cell?_alloc_at _ _ _ _ rfl]
    simpa using hj) (fun u hu => by obtain ⟨b, _, rfl⟩ := List.mem_map.1 hu; rfl) (by unfold maxLen; omega) (by omega) (by simp; omega)
  unfold Oper.wp execOp
  simp only [ho, resolve, invoke, builtin, Sem.run_bind, Sem.run_pure, Result.andThen_ok, List.map_toArray, List.map_cons, List.map_nil, hs, hx, hr]
  refine h v' w' ?_ h3 h5
  have e : (l ++ new).length = l.length + new.length := by simp
  unfold OwnI
  rw [e, List.map_append]
  exact h2

theorem nums2 (w : World) (x y : Int) (hx : I64 x) (hy : I64 y) : Nums (w.alloc (.cells #[.int .i64 x, .int .i64 y] 3)) w.heap.size 2 := fun k hk => by
  rcases (show k = 0 ∨ k = 1 by omega) with rfl | rfl
  · exact ⟨x, World.cell?_alloc_at _ _ _ _ rfl, hx⟩
  · exact ⟨y, World.cell?_alloc_at _ _ _ _ rfl, hy⟩
theorem nums3 (w : World) (x y z : Int) (hx : I64 x) (hy : I64 y) (hz : I64 z) : Nums (w.alloc (.cells #[.int .i64 x, .int .i64 y, .int .i64 z] 3)) w.heap.size 3 := fun k hk => by
  rcases (show k = 0 ∨ k = 1 ∨ k = 2 by omega) with rfl | rfl | rfl
  · exact ⟨x, World.cell?_alloc_at _ _ _ _ rfl, hx⟩
  · exact ⟨y, World.cell?_alloc_at _ _ _ _ rfl, hy⟩
  · exact ⟨z, World.cell?_alloc_at _ _ _ _ rfl, hz⟩
/-- Where any wish's draw stands: the result's block still zero, the wish in block Y. -/
structure AnySt (w : World) (g : Nat) (a : Option Addr) (len cap : Nat) (Y : Nat) (t : Wi) (wr : World) : Prop where
  x : wr.heap[w.heap.size]? = some (.cells #[.int .i64 0, .int .i64 0, .int .i64 0, .slice none 0 0, .slice none 0 0] 39 (0, 0))
  y : wr.heap[Y]? = some (.cells #[.int .i64 t.kind, .int .i64 t.field, .int .i64 t.value, .slice t.LA t.Ln t.Lc, .slice t.PA t.Pn t.Pc] 39 (0, 0))
  o : WiOwn wr (w.heap.size + 1) t
  far : (∀ k, (Value.slice t.LA t.Ln t.Lc).ownBlock = some k → k < Y) ∧ (∀ k, (Value.slice t.PA t.Pn t.Pc).ownBlock = some k → k < Y)
  c : Cur wr g a len cap
  g : w.grownBy wr (some g)
theorem AnySt.kept {w wr w' : World} {g : Nat} {a : Option Addr} {len cap Y : Nat} {t : Wi} (h : AnySt w g a len cap Y t wr) (hgl : g < w.heap.size) (hY : w.heap.size < Y) (hg : wr.grownBy w' (some g)) (hc : Cur w' g a len cap) : AnySt w g a len cap Y t w' :=
  ⟨row_kept hg h.x (by omega), row_kept hg h.y (by omega), h.o.blocks fun b hb hlt => hg.block b hlt (fun e => by injection e; omega), h.far, hc, h.g.trans hg⟩
theorem AnySt.alloc {w wr : World} {g : Nat} {a : Option Addr} {len cap Y : Nat} {t : Wi} (h : AnySt w g a len cap Y t wr) (ob : Obj) : AnySt w g a len cap Y t (wr.alloc ob) :=
  ⟨(Below.heap_alloc _ _ _ (lt_of_block h.x)).trans h.x, (Below.heap_alloc _ _ _ (lt_of_block h.y)).trans h.y, h.o.blocks fun b _ hb => Below.heap_alloc _ _ _ hb, h.far, h.c.kept (Below.heap_alloc _ _ _ h.c.lt), grown_alloc h.g ob⟩
/-- What is handed out at the end, from block Y, which may have been written. -/
theorem AnySt.out {w wr w' : World} {g : Nat} {a : Option Addr} {len cap Y : Nat} {t : Wi} (h : AnySt w g a len cap Y t wr) (hgl : g < w.heap.size) (hY : w.heap.size < Y) (hb : ∀ b, b ≠ Y → b ≠ w.heap.size → w'.heap[b]? = wr.heap[b]?) (hg : Below w.heap.size wr w') {k f v : Int} (hk : I64 k) (hf : I64 f) (hv : I64 v) :
    WiOwn w' w.heap.size ⟨k, f, v, t.LA, t.Ln, t.Lc, t.ls, t.PA, t.Pn, t.Pc, t.ps⟩ ∧ Cur w' g a len cap ∧ w.grownBy w' (some g) :=
  ⟨⟨ownI_lowD (ownI_blocks h.o.l fun b e => hb b (by have := h.far.1 b e; omega) (by have := ownI_lows h.o.l b e; omega)) (by omega), (h.o.p.blocks fun b e => hb b (by have := h.far.2 b e; omega) (by have := h.o.p.lows b e; omega)).lowD (by omega), hk, hf, hv, h.o.nl, h.o.np⟩, h.c.kept (hb g (by omega) (by omega)), grown_tail h.g hg⟩

theorem apart_of {w : World} {B B' : Nat} {v v' : Value} {l : List Int} {m : List (Int × Int)} (h : OwnI w B v l) (h' : OwnP w B' v' m) : ∀ k, v.ownBlock = some k → v'.ownBlock ≠ some k := fun k hk hk' => by
  rcases h.2 with ⟨rfl, _⟩ | ⟨g, _, _, rfl, _, hg, _⟩
  · cases hk
  · rcases h'.2 with ⟨rfl, _⟩ | ⟨g', _, _, rfl, _, hg', _⟩
    · cases hk'
    · obtain rfl : g = k := Option.some.inj hk
      obtain rfl : g' = g := Option.some.inj hk'
      rw [hg] at hg'
      injection hg' with e
      injection e with e1 e2 e3
      exact absurd e2 (by decide)
set_option maxRecDepth 20000 in
set_option maxHeartbeats 6400000 in
theorem any_wish (w : World) (g : Nat) (a : Option Addr) (len cap : Nat) (hlen : len ≤ 1048576) (hc : Cur w g a len cap) (B : Nat) (hB : B ≤ g) (hrow : Row w B a len) :
    Calls Tryz.prog 62 #[.pointer (some ⟨g, 0, none⟩)] w (OutWish 5 w g a len cap) := by
  have HR := Lib.hid hrow
  have hgl := hc.lt
  have HC1 := Lib.hid (hc.kept (w' := w.alloc (.cells #[.int .i64 0, .int .i64 0, .int .i64 0, .slice none 0 0, .slice none 0 0] 39)) (Below.heap_alloc _ _ _ hc.lt))
  have HG1 : Hid (w.grownBy (w.alloc (.cells #[.int .i64 0, .int .i64 0, .int .i64 0, .slice none 0 0, .slice none 0 0] 39)) (some g)) := Lib.hid (World.grownBy_alloc w _ _)
  have HX1 := Lib.hid (heap_alloc_new w (.cells #[.int .i64 0, .int .i64 0, .int .i64 0, .slice none 0 0, .slice none 0 0] 39))
  clear hc hrow
  go_enter Tryz.func62, Tryz.ntmps62
  go_wp2_with fail
  refine (wish_any _ g a len cap hlen HC1.out B hB (HR.out.below (grown_below HG1.out hB (by omega)))).mono ?_
  rintro e w2 ⟨t, rfl, ho, hn4, hc2, hg2⟩
  have hsz2 : w.heap.size + 1 ≤ w2.heap.size := by have := hg2.size; simp at this; omega
  have HS2 : Hid (AnySt w g a len cap w2.heap.size t (w2.alloc (.cells #[.int .i64 t.kind, .int .i64 t.field, .int .i64 t.value, .slice t.LA t.Ln t.Lc, .slice t.PA t.Pn t.Pc] 39))) := Lib.hid (by
    have ho' : WiOwn w2 (w.heap.size + 1) t := ho.low (by simp)
    exact ⟨(Below.heap_alloc _ _ _ (by omega)).trans (row_kept hg2 HX1.out (by omega)), heap_alloc_new w2 _, ho'.blocks fun b _ hb => Below.heap_alloc _ _ _ hb, ⟨fun k e => ownI_tops ho'.l k e, fun k e => ho'.p.tops k e⟩, hc2.kept (Below.heap_alloc _ _ _ hc2.lt), grown_alloc (HG1.out.trans hg2) _⟩)
  have hY : w.heap.size < w2.heap.size := by omega
  have HNl := Lib.hid ho.nl
  have HKf := Lib.hid (And.intro ho.k (And.intro ho.f ho.v))
  clear ho hc2 hg2 HC1 HG1 HX1
  unfold Wi.val
  go_wp2_with fail
  refine (below_any 10 (by omega) _ g a len cap hlen HS2.out.c B hB (HR.out.below (grown_below HS2.out.g hB (by omega)))).mono ?_
  rintro e w3 ⟨z, rfl, hz, hc3, hg3⟩
  obtain ⟨hz0, hz10⟩ := hz.2 (by omega)
  have HS := Lib.hid (HS2.out.kept hgl hY hg3 hc3)
  clear hz hc3 hg3 HS2
  have hY3 : w2.heap.size < w3.heap.size := lt_of_block HS.out.y
  by_cases z0 : z = 0
  · subst z0
    go_wp2_with fail
    refine (below_any 7 (by omega) _ g a len cap hlen HS.out.c B hB (HR.out.below (grown_below HS.out.g hB (by omega)))).mono ?_
    rintro e w4 ⟨u, rfl, hu, hc4, hg4⟩
    obtain ⟨hu0, hu7⟩ := hu.2 (by omega)
    have HS4 := Lib.hid (HS.out.kept hgl hY hg4 hc4)
    clear hu hc4 hg4 HS
    have x0 : w4.cell? ⟨w.heap.size, 0, none⟩ = some (.int .i64 0) := cell_of_row w4 _ 0 _ _ (0, 0) HS4.out.x
    have z0 : w4.frozen? ⟨w.heap.size, 0, none⟩ = false := frozen_of_row w4 _ 0 _ _ HS4.out.x
    have x1 : w4.cell? ⟨w.heap.size, 1, none⟩ = some (.int .i64 0) := cell_of_row w4 _ 1 _ _ (0, 0) HS4.out.x
    have z1 : w4.frozen? ⟨w.heap.size, 1, none⟩ = false := frozen_of_row w4 _ 1 _ _ HS4.out.x
    have x2 : w4.cell? ⟨w.heap.size, 2, none⟩ = some (.int .i64 0) := cell_of_row w4 _ 2 _ _ (0, 0) HS4.out.x
    have z2 : w4.frozen? ⟨w.heap.size, 2, none⟩ = false := frozen_of_row w4 _ 2 _ _ HS4.out.x
    have x3 : w4.cell? ⟨w.heap.size, 3, none⟩ = some (.slice none 0 0) := cell_of_row w4 _ 3 _ _ (0, 0) HS4.out.x
    have z3 : w4.frozen? ⟨w.heap.size, 3, none⟩ = false := frozen_of_row w4 _ 3 _ _ HS4.out.x
    have x4 : w4.cell? ⟨w.heap.size, 4, none⟩ = some (.slice none 0 0) := cell_of_row w4 _ 4 _ _ (0, 0) HS4.out.x
    have z4 : w4.frozen? ⟨w.heap.size, 4, none⟩ = false := frozen_of_row w4 _ 4 _ _ HS4.out.x
    have y0 : w4.cell? ⟨w2.heap.size, 0, none⟩ = some (.int .i64 t.kind) := cell_of_row w4 _ 0 _ _ (0, 0) HS4.out.y
    have y1 : w4.cell? ⟨w2.heap.size, 1, none⟩ = some (.int .i64 t.field) := cell_of_row w4 _ 1 _ _ (0, 0) HS4.out.y
    have y2 : w4.cell? ⟨w2.heap.size, 2, none⟩ = some (.int .i64 t.value) := cell_of_row w4 _ 2 _ _ (0, 0) HS4.out.y
    have y3 : w4.cell? ⟨w2.heap.size, 3, none⟩ = some (.slice t.LA t.Ln t.Lc) := cell_of_row w4 _ 3 _ _ (0, 0) HS4.out.y
    have y4 : w4.cell? ⟨w2.heap.size, 4, none⟩ = some (.slice t.PA t.Pn t.Pc) := cell_of_row w4 _ 4 _ _ (0, 0) HS4.out.y
    have u0 : w4.frozen? ⟨w2.heap.size, 0, none⟩ = false := frozen_of_row w4 _ 0 _ _ HS4.out.y
    go_wp2
    refine bodyPost_ret_by (results_cell_row rfl _ _ w.heap.size 39 _ (0, 0) _ rfl (five_set ((heap_setCell_other _ _ _ _ (by simp; omega)).trans HS4.out.x)) Tryz.underlying39 rfl (by kernel_rfl)) rfl ?_
    obtain ⟨h1, h2, h3⟩ := HS4.out.out hgl hY (w' := set5 (w4.setCell ⟨w2.heap.size, 0, none⟩ (.int .i64 (u - 1))) w.heap.size (.int .i64 (u - 1)) (.int .i64 t.field) (.int .i64 t.value) (.slice t.LA t.Ln t.Lc) (.slice t.PA t.Pn t.Pc)) (fun b h1 h2 => (set5_other _ _ _ _ _ _ _ _ h2).trans (heap_setCell_other _ _ _ _ (by simp; omega))) (((Below.refl _ _).setCell (by show w.heap.size ≤ w2.heap.size; omega) _).trans (set5_below _ _ _ _ _ _ _ _ (Nat.le_refl _))) (k := u - 1) (f := t.field) (v := t.value) ⟨by omega, by omega⟩ HKf.out.2.1 HKf.out.2.2
    exact ⟨_, rfl, h1, by show t.ls.length ≤ 5; omega, h2, h3⟩
  by_cases z1 : z = 1
  · subst z1
    clear z0
    have HA := Lib.hid (HS.out.alloc (.cells #[.int .i64 (-1), .int .i64 3] 3))
    go_wp2_with fail
    refine (pick_any w3.heap.size 2 (by decide) (by decide) _ g a len cap hlen HA.out.c B hB (HR.out.below (grown_below HA.out.g hB (by omega))) (nums2 w3 (-1) (3) ⟨by decide, by decide⟩ ⟨by decide, by decide⟩) (by omega)).mono ?_
    rintro e w4 ⟨u, rfl, hu, hc4, hg4⟩
    have HU := Lib.hid hu
    have HS4 := Lib.hid (HA.out.kept hgl hY hg4 hc4)
    clear hu hc4 hg4 HS HA
    have x0 : w4.cell? ⟨w.heap.size, 0, none⟩ = some (.int .i64 0) := cell_of_row w4 _ 0 _ _ (0, 0) HS4.out.x
    have z0 : w4.frozen? ⟨w.heap.size, 0, none⟩ = false := frozen_of_row w4 _ 0 _ _ HS4.out.x
    have x1 : w4.cell? ⟨w.heap.size, 1, none⟩ = some (.int .i64 0) := cell_of_row w4 _ 1 _ _ (0, 0) HS4.out.x
    have z1 : w4.frozen? ⟨w.heap.size, 1, none⟩ = false := frozen_of_row w4 _ 1 _ _ HS4.out.x
    have x2 : w4.cell? ⟨w.heap.size, 2, none⟩ = some (.int .i64 0) := cell_of_row w4 _ 2 _ _ (0, 0) HS4.out.x
    have z2 : w4.frozen? ⟨w.heap.size, 2, none⟩ = false := frozen_of_row w4 _ 2 _ _ HS4.out.x
    have x3 : w4.cell? ⟨w.heap.size, 3, none⟩ = some (.slice none 0 0) := cell_of_row w4 _ 3 _ _ (0, 0) HS4.out.x
    have z3 : w4.frozen? ⟨w.heap.size, 3, none⟩ = false := frozen_of_row w4 _ 3 _ _ HS4.out.x
    have x4 : w4.cell? ⟨w.heap.size, 4, none⟩ = some (.slice none 0 0) := cell_of_row w4 _ 4 _ _ (0, 0) HS4.out.x
    have z4 : w4.frozen? ⟨w.heap.size, 4, none⟩ = false := frozen_of_row w4 _ 4 _ _ HS4.out.x
    have y0 : w4.cell? ⟨w2.heap.size, 0, none⟩ = some (.int .i64 t.kind) := cell_of_row w4 _ 0 _ _ (0, 0) HS4.out.y
    have y1 : w4.cell? ⟨w2.heap.size, 1, none⟩ = some (.int .i64 t.field) := cell_of_row w4 _ 1 _ _ (0, 0) HS4.out.y
    have y2 : w4.cell? ⟨w2.heap.size, 2, none⟩ = some (.int .i64 t.value) := cell_of_row w4 _ 2 _ _ (0, 0) HS4.out.y
    have y3 : w4.cell? ⟨w2.heap.size, 3, none⟩ = some (.slice t.LA t.Ln t.Lc) := cell_of_row w4 _ 3 _ _ (0, 0) HS4.out.y
    have y4 : w4.cell? ⟨w2.heap.size, 4, none⟩ = some (.slice t.PA t.Pn t.Pc) := cell_of_row w4 _ 4 _ _ (0, 0) HS4.out.y
    have u1 : w4.frozen? ⟨w2.heap.size, 1, none⟩ = false := frozen_of_row w4 _ 1 _ _ HS4.out.y
    go_wp2
    refine bodyPost_ret_by (results_cell_row rfl _ _ w.heap.size 39 _ (0, 0) _ rfl (five_set ((heap_setCell_other _ _ _ _ (by simp; omega)).trans HS4.out.x)) Tryz.underlying39 rfl (by kernel_rfl)) rfl ?_
    obtain ⟨h1, h2, h3⟩ := HS4.out.out hgl hY (w' := set5 (w4.setCell ⟨w2.heap.size, 1, none⟩ (.int .i64 u)) w.heap.size (.int .i64 t.kind) (.int .i64 u) (.int .i64 t.value) (.slice t.LA t.Ln t.Lc) (.slice t.PA t.Pn t.Pc)) (fun b h1 h2 => (set5_other _ _ _ _ _ _ _ _ h2).trans (heap_setCell_other _ _ _ _ (by simp; omega))) (((Below.refl _ _).setCell (by show w.heap.size ≤ w2.heap.size; omega) _).trans (set5_below _ _ _ _ _ _ _ _ (Nat.le_refl _))) (k := t.kind) (f := u) (v := t.value) HKf.out.1 HU.out HKf.out.2.2
    exact ⟨_, rfl, h1, by show t.ls.length ≤ 5; omega, h2, h3⟩
  by_cases z2 : z = 2
  · subst z2
    clear z0 z1
    have HA := Lib.hid (HS.out.alloc (.cells #[.int .i64 (-1), .int .i64 9, .int .i64 10] 3))
    go_wp2_with fail
    refine (pick_any w3.heap.size 3 (by decide) (by decide) _ g a len cap hlen HA.out.c B hB (HR.out.below (grown_below HA.out.g hB (by omega))) (nums3 w3 (-1) (9) (10) ⟨by decide, by decide⟩ ⟨by decide, by decide⟩ ⟨by decide, by decide⟩) (by omega)).mono ?_
    rintro e w4 ⟨u, rfl, hu, hc4, hg4⟩
    have HU := Lib.hid hu
    have HS4 := Lib.hid (HA.out.kept hgl hY hg4 hc4)
    clear hu hc4 hg4 HS HA
    have x0 : w4.cell? ⟨w.heap.size, 0, none⟩ = some (.int .i64 0) := cell_of_row w4 _ 0 _ _ (0, 0) HS4.out.x
    have z0 : w4.frozen? ⟨w.heap.size, 0, none⟩ = false := frozen_of_row w4 _ 0 _ _ HS4.out.x
    have x1 : w4.cell? ⟨w.heap.size, 1, none⟩ = some (.int .i64 0) := cell_of_row w4 _ 1 _ _ (0, 0) HS4.out.x
    have z1 : w4.frozen? ⟨w.heap.size, 1, none⟩ = false := frozen_of_row w4 _ 1 _ _ HS4.out.x
    have x2 : w4.cell? ⟨w.heap.size, 2, none⟩ = some (.int .i64 0) := cell_of_row w4 _ 2 _ _ (0, 0) HS4.out.x
    have z2 : w4.frozen? ⟨w.heap.size, 2, none⟩ = false := frozen_of_row w4 _ 2 _ _ HS4.out.x
    have x3 : w4.cell? ⟨w.heap.size, 3, none⟩ = some (.slice none 0 0) := cell_of_row w4 _ 3 _ _ (0, 0) HS4.out.x
    have z3 : w4.frozen? ⟨w.heap.size, 3, none⟩ = false := frozen_of_row w4 _ 3 _ _ HS4.out.x
    have x4 : w4.cell? ⟨w.heap.size, 4, none⟩ = some (.slice none 0 0) := cell_of_row w4 _ 4 _ _ (0, 0) HS4.out.x
    have z4 : w4.frozen? ⟨w.heap.size, 4, none⟩ = false := frozen_of_row w4 _ 4 _ _ HS4.out.x
    have y0 : w4.cell? ⟨w2.heap.size, 0, none⟩ = some (.int .i64 t.kind) := cell_of_row w4 _ 0 _ _ (0, 0) HS4.out.y
    have y1 : w4.cell? ⟨w2.heap.size, 1, none⟩ = some (.int .i64 t.field) := cell_of_row w4 _ 1 _ _ (0, 0) HS4.out.y
    have y2 : w4.cell? ⟨w2.heap.size, 2, none⟩ = some (.int .i64 t.value) := cell_of_row w4 _ 2 _ _ (0, 0) HS4.out.y
    have y3 : w4.cell? ⟨w2.heap.size, 3, none⟩ = some (.slice t.LA t.Ln t.Lc) := cell_of_row w4 _ 3 _ _ (0, 0) HS4.out.y
    have y4 : w4.cell? ⟨w2.heap.size, 4, none⟩ = some (.slice t.PA t.Pn t.Pc) := cell_of_row w4 _ 4 _ _ (0, 0) HS4.out.y
    have u2 : w4.frozen? ⟨w2.heap.size, 2, none⟩ = false := frozen_of_row w4 _ 2 _ _ HS4.out.y
    go_wp2
    refine bodyPost_ret_by (results_cell_row rfl _ _ w.heap.size 39 _ (0, 0) _ rfl (five_set ((heap_setCell_other _ _ _ _ (by simp; omega)).trans HS4.out.x)) Tryz.underlying39 rfl (by kernel_rfl)) rfl ?_
    obtain ⟨h1, h2, h3⟩ := HS4.out.out hgl hY (w' := set5 (w4.setCell ⟨w2.heap.size, 2, none⟩ (.int .i64 u)) w.heap.size (.int .i64 t.kind) (.int .i64 t.field) (.int .i64 u) (.slice t.LA t.Ln t.Lc) (.slice t.PA t.Pn t.Pc)) (fun b h1 h2 => (set5_other _ _ _ _ _ _ _ _ h2).trans (heap_setCell_other _ _ _ _ (by simp; omega))) (((Below.refl _ _).setCell (by show w.heap.size ≤ w2.heap.size; omega) _).trans (set5_below _ _ _ _ _ _ _ _ (Nat.le_refl _))) (k := t.kind) (f := t.field) (v := u) HKf.out.1 HKf.out.2.1 HU.out
    exact ⟨_, rfl, h1, by show t.ls.length ≤ 5; omega, h2, h3⟩
  by_cases z3 : z = 3
  · subst z3
    clear z0 z1 z2
    have hln := HS.out.o.nl
    have HAd : Hid (AnySt w g a len cap w2.heap.size t (w3.alloc (.cells #[.int .i64 0, .int .i64 9, .int .i64 10] 3)).drew) := Lib.hid (by
      have h := HS.out.alloc (.cells #[.int .i64 0, .int .i64 9, .int .i64 10] 3)
      exact ⟨h.x, h.y, h.o.blocks fun b _ _ => rfl, h.far, h.c, grown_drew h.g⟩)
    have H4 : ∀ u : Int, (t.ls.length + [u].length) * 8 ≤ 140737488355328 := fun u => by simp only [List.length_cons, List.length_nil]; omega
    have H4' := Lib.hid H4
    clear H4
    have y0 : w3.cell? ⟨w2.heap.size, 0, none⟩ = some (.int .i64 t.kind) := cell_of_row w3 _ 0 _ _ (0, 0) HS.out.y
    have y1 : w3.cell? ⟨w2.heap.size, 1, none⟩ = some (.int .i64 t.field) := cell_of_row w3 _ 1 _ _ (0, 0) HS.out.y
    have y2 : w3.cell? ⟨w2.heap.size, 2, none⟩ = some (.int .i64 t.value) := cell_of_row w3 _ 2 _ _ (0, 0) HS.out.y
    have y3 : w3.cell? ⟨w2.heap.size, 3, none⟩ = some (.slice t.LA t.Ln t.Lc) := cell_of_row w3 _ 3 _ _ (0, 0) HS.out.y
    have y4 : w3.cell? ⟨w2.heap.size, 4, none⟩ = some (.slice t.PA t.Pn t.Pc) := cell_of_row w3 _ 4 _ _ (0, 0) HS.out.y
    go_wp2
    go_region_law (first
      | (refine step_appD wn (by rfl) (.tmp 29) (.tmp 33) (by rfl) (w.heap.size + 1) _ t.ls (by rfl) HSn.out.o.l _ [u] (by rfl) 1 1 rfl (by rfl) (H4'.out u) hBn ?_; intro v' w5 hown5 hg5 hv5; obtain ⟨LA', Ln', Lc', rfl, _⟩ := hown5.ints; have HO5 := Lib.hid hown5; have HV5 := Lib.hid hv5; have HB5 : Hid (Below (w.heap.size + 1) wn w5) := Lib.hid (((Below.refl (w.heap.size + 1) wn).alloc hBn _).grown hg5 (by simp; omega) (fun k hk => ownI_lows HSn.out.o.l k hk)); have HXX : Hid (w5.heap[w.heap.size]? = some (.cells #[.int .i64 0, .int .i64 0, .int .i64 0, .slice none 0 0, .slice none 0 0] 39 (0, 0))) := Lib.hid (row_below HB5.out HSn.out.x (by omega)); have HYY : Hid (w5.heap[w2.heap.size]? = some (.cells #[.int .i64 t.kind, .int .i64 t.field, .int .i64 t.value, .slice t.LA t.Ln t.Lc, .slice t.PA t.Pn t.Pc] 39 (0, 0))) := Lib.hid ((hg5.block _ (by have := lt_of_block HSn.out.y; simp; omega) (fun e => by have := HSn.out.far.1 _ e.symm; omega)).trans ((Below.heap_alloc _ _ _ (lt_of_block HSn.out.y)).trans HSn.out.y)); have HPP : Hid (OwnP w5 (w.heap.size + 1) (.slice t.PA t.Pn t.Pc) t.ps) := Lib.hid (HSn.out.o.p.blocks fun k hk => (hg5.block k (by have := HSn.out.o.p.tops k hk; simp; omega) (fun e => apart_of HSn.out.o.l HSn.out.o.p k e.symm hk)).trans (Below.heap_alloc _ _ _ (HSn.out.o.p.tops k hk))); have y3 : w5.cell? ⟨w2.heap.size, 3, none⟩ = some (.slice t.LA t.Ln t.Lc) := cell_of_row w5 _ 3 _ _ (0, 0) HYY.out; have u3 : w5.frozen? ⟨w2.heap.size, 3, none⟩ = false := frozen_of_row w5 _ 3 _ _ HYY.out; clear hown5 hg5 hv5)
      | (go_simp; go_at_call 92; refine (pick_any w3.heap.size 3 (by decide) (by decide) _ g a len cap hlen HAd.out.c B hB (HR.out.below (grown_below HAd.out.g hB (by omega))) (nums3 w3 0 9 10 ⟨by decide, by decide⟩ ⟨by decide, by decide⟩ ⟨by decide, by decide⟩) (by omega)).mono ?_; rintro e wn ⟨u, rfl, hu, hcn, hgn⟩; have HSn := Lib.hid (HAd.out.kept hgl hY hgn hcn); have hBn : w.heap.size + 1 ≤ wn.heap.size := (by have := lt_of_block HSn.out.y; omega); have y3 : wn.cell? ⟨w2.heap.size, 3, none⟩ = some (.slice t.LA t.Ln t.Lc) := cell_of_row wn _ 3 _ _ (0, 0) HSn.out.y; have hYn : w2.heap.size < wn.heap.size := lt_of_block HSn.out.y; clear hu hcn hgn))
    all_goals
      have x0 : w5.cell? ⟨w.heap.size, 0, none⟩ = some (.int .i64 0) := cell_of_row w5 _ 0 _ _ (0, 0) HXX.out
      have z0 : w5.frozen? ⟨w.heap.size, 0, none⟩ = false := frozen_of_row w5 _ 0 _ _ HXX.out
      have x1 : w5.cell? ⟨w.heap.size, 1, none⟩ = some (.int .i64 0) := cell_of_row w5 _ 1 _ _ (0, 0) HXX.out
      have z1 : w5.frozen? ⟨w.heap.size, 1, none⟩ = false := frozen_of_row w5 _ 1 _ _ HXX.out
      have x2 : w5.cell? ⟨w.heap.size, 2, none⟩ = some (.int .i64 0) := cell_of_row w5 _ 2 _ _ (0, 0) HXX.out
      have z2 : w5.frozen? ⟨w.heap.size, 2, none⟩ = false := frozen_of_row w5 _ 2 _ _ HXX.out
      have x3 : w5.cell? ⟨w.heap.size, 3, none⟩ = some (.slice none 0 0) := cell_of_row w5 _ 3 _ _ (0, 0) HXX.out
      have z3 : w5.frozen? ⟨w.heap.size, 3, none⟩ = false := frozen_of_row w5 _ 3 _ _ HXX.out
      have x4 : w5.cell? ⟨w.heap.size, 4, none⟩ = some (.slice none 0 0) := cell_of_row w5 _ 4 _ _ (0, 0) HXX.out
      have z4 : w5.frozen? ⟨w.heap.size, 4, none⟩ = false := frozen_of_row w5 _ 4 _ _ HXX.out
      have y0 : w5.cell? ⟨w2.heap.size, 0, none⟩ = some (.int .i64 t.kind) := cell_of_row w5 _ 0 _ _ (0, 0) HYY.out
      have y1 : w5.cell? ⟨w2.heap.size, 1, none⟩ = some (.int .i64 t.field) := cell_of_row w5 _ 1 _ _ (0, 0) HYY.out
      have y2 : w5.cell? ⟨w2.heap.size, 2, none⟩ = some (.int .i64 t.value) := cell_of_row w5 _ 2 _ _ (0, 0) HYY.out
      have y3 : w5.cell? ⟨w2.heap.size, 3, none⟩ = some (.slice t.LA t.Ln t.Lc) := cell_of_row w5 _ 3 _ _ (0, 0) HYY.out
      have y4 : w5.cell? ⟨w2.heap.size, 4, none⟩ = some (.slice t.PA t.Pn t.Pc) := cell_of_row w5 _ 4 _ _ (0, 0) HYY.out
      go_wp2
      refine bodyPost_ret_by (results_cell_row rfl _ _ w.heap.size 39 _ (0, 0) _ rfl (five_set ((heap_setCell_other _ _ _ _ (by simp; omega)).trans HXX.out)) Tryz.underlying39 rfl (by kernel_rfl)) rfl ?_
      have hfar : ∀ k, (Value.slice LA' Ln' Lc').ownBlock = some k → k ≠ w2.heap.size ∧ k ≠ w.heap.size := fun k hk => by
        have h1 := ownI_lows HO5.out k hk
        refine ⟨fun e => ?_, by omega⟩
        rcases HV5.out with h | h
        · rw [h] at hk
          have := HSn.out.far.1 k hk
          omega
        · rw [h] at hk
          have h2 := Option.some.inj hk
          have h3 := lt_of_block HSn.out.y
          simp only [World.size_alloc] at h2
          omega
      refine ⟨⟨t.kind, t.field, t.value, LA', Ln', Lc', t.ls ++ [u], t.PA, t.Pn, t.Pc, t.ps⟩, rfl, ⟨ownI_lowD (ownI_blocks HO5.out fun k hk => ?_) (by omega), (HPP.out.blocks fun k hk => ?_).lowD (by omega), HKf.out.1, HKf.out.2.1, HKf.out.2.2, by simp; omega, HSn.out.o.np⟩, by simp; omega, (HSn.out.c.kept ?_), grown_tail HSn.out.g ?_⟩
      · exact (set5_other _ _ _ _ _ _ _ _ (hfar k hk).2).trans (heap_setCell_other _ _ _ _ (hfar k hk).1)
      · exact (set5_other _ _ _ _ _ _ _ _ (by have := HPP.out.lows k hk; omega)).trans (heap_setCell_other _ _ _ _ (by have := HSn.out.far.2 k hk; simp; omega))
      · exact (set5_other _ _ _ _ _ _ _ _ (by omega)).trans ((heap_setCell_other _ _ _ _ (by simp; omega)).trans (HB5.out.block g (by omega)))
      · exact ((HB5.out.mono (by omega)).setCell (by show w.heap.size ≤ w2.heap.size; omega) _).trans (set5_below _ _ _ _ _ _ _ _ (Nat.le_refl _))
  have f0 : (z == 0) = false := by simpa using z0
  have f1 : (z == 1) = false := by simpa using z1
  have f2 : (z == 2) = false := by simpa using z2
  have f3 : (z == 3) = false := by simpa using z3
  clear z0 z1 z2 z3
  have x0 : w3.cell? ⟨w.heap.size, 0, none⟩ = some (.int .i64 0) := cell_of_row w3 _ 0 _ _ (0, 0) HS.out.x
  have z0 : w3.frozen? ⟨w.heap.size, 0, none⟩ = false := frozen_of_row w3 _ 0 _ _ HS.out.x
  have x1 : w3.cell? ⟨w.heap.size, 1, none⟩ = some (.int .i64 0) := cell_of_row w3 _ 1 _ _ (0, 0) HS.out.x
  have z1 : w3.frozen? ⟨w.heap.size, 1, none⟩ = false := frozen_of_row w3 _ 1 _ _ HS.out.x
  have x2 : w3.cell? ⟨w.heap.size, 2, none⟩ = some (.int .i64 0) := cell_of_row w3 _ 2 _ _ (0, 0) HS.out.x
  have z2 : w3.frozen? ⟨w.heap.size, 2, none⟩ = false := frozen_of_row w3 _ 2 _ _ HS.out.x
  have x3 : w3.cell? ⟨w.heap.size, 3, none⟩ = some (.slice none 0 0) := cell_of_row w3 _ 3 _ _ (0, 0) HS.out.x
  have z3 : w3.frozen? ⟨w.heap.size, 3, none⟩ = false := frozen_of_row w3 _ 3 _ _ HS.out.x
  have x4 : w3.cell? ⟨w.heap.size, 4, none⟩ = some (.slice none 0 0) := cell_of_row w3 _ 4 _ _ (0, 0) HS.out.x
  have z4 : w3.frozen? ⟨w.heap.size, 4, none⟩ = false := frozen_of_row w3 _ 4 _ _ HS.out.x
  have y0 : w3.cell? ⟨w2.heap.size, 0, none⟩ = some (.int .i64 t.kind) := cell_of_row w3 _ 0 _ _ (0, 0) HS.out.y
  have y1 : w3.cell? ⟨w2.heap.size, 1, none⟩ = some (.int .i64 t.field) := cell_of_row w3 _ 1 _ _ (0, 0) HS.out.y
  have y2 : w3.cell? ⟨w2.heap.size, 2, none⟩ = some (.int .i64 t.value) := cell_of_row w3 _ 2 _ _ (0, 0) HS.out.y
  have y3 : w3.cell? ⟨w2.heap.size, 3, none⟩ = some (.slice t.LA t.Ln t.Lc) := cell_of_row w3 _ 3 _ _ (0, 0) HS.out.y
  have y4 : w3.cell? ⟨w2.heap.size, 4, none⟩ = some (.slice t.PA t.Pn t.Pc) := cell_of_row w3 _ 4 _ _ (0, 0) HS.out.y
  go_wp2
  refine bodyPost_ret_by (results_cell_row rfl _ _ w.heap.size 39 _ (0, 0) _ rfl (five_set HS.out.x) Tryz.underlying39 rfl (by kernel_rfl)) rfl ?_
  obtain ⟨h1, h2, h3⟩ := HS.out.out hgl hY (w' := set5 w3 w.heap.size (.int .i64 t.kind) (.int .i64 t.field) (.int .i64 t.value) (.slice t.LA t.Ln t.Lc) (.slice t.PA t.Pn t.Pc)) (fun b _ h2 => set5_other _ _ _ _ _ _ _ _ h2) (set5_below _ _ _ _ _ _ _ _ (Nat.le_refl _)) (k := t.kind) (f := t.field) (v := t.value) HKf.out.1 HKf.out.2.1 HKf.out.2.2
  exact ⟨_, rfl, h1, by show t.ls.length ≤ 5; omega, h2, h3⟩
end Go.Proofs.YtadjoiahllekdaaGreatDoor.num
