/-
  The model's draws of an item: contracts.
-/
import Derived.Test.YtceiocdemhkcdaaDrawKit
import Derived.Test.YtceiocdemhkcdaaLawRes
namespace Go.Proofs.Ytceiocdemhkcdaa.num
set_option maxRecDepth 20000
open Go.RowKit Go.Maps
set_option linter.unusedVariables false
set_option linter.unusedSimpArgs false

/-- Two cells stored at block X. -/
def set2 (w : World) (X : Nat) (v0 v1 : Value) : World := (w.setCell ⟨X, 0, none⟩ v0).setCell ⟨X, 1, none⟩ v1
theorem set2_other (w : World) (X b : Nat) (v0 v1 : Value) (h : b ≠ X) : (set2 w X v0 v1).heap[b]? = w.heap[b]? := by
  unfold set2
  rw [heap_setCell_other _ _ _ _ h, heap_setCell_other _ _ _ _ h]
theorem set2_below (w : World) (X B : Nat) (v0 v1 : Value) (h : B ≤ X) : Below B w (set2 w X v0 v1) := by
  unfold set2
  exact ((Below.refl B w).setCell h _).setCell h _
theorem two_setD {w : World} {g : Nat} {t : TypeId} {u0 u1 v0 v1 : Value} (h : w.heap[g]? = some (.cells #[u0, u1] t (0, 0))) : ((w.setCell ⟨g, 0, none⟩ v0).setCell ⟨g, 1, none⟩ v1).heap[g]? = some (.cells #[v0, v1] t (0, 0)) := by
  have h := heap_setCell_same _ g 1 _ _ v1 (heap_setCell_same w g 0 _ _ v0 h)
  simpa using h
def OutItem (N : Nat) (w : World) (g : Nat) (a : Option Addr) (len cap : Nat) (e : Ending) (w' : World) : Prop :=
  ∃ t : It, e = .returned t.val ∧ OwnI w' w.heap.size (.slice t.A t.n t.c) t.xs ∧ 3 ≤ t.xs.length ∧ t.xs.length ≤ N ∧ Cur w' g a len cap ∧ w.grownBy w' (some g)

set_option maxRecDepth 20000 in
set_option maxHeartbeats 3200000 in
theorem item_any (id : Int) (wide : Int) (hw0 : 0 < wide) (hw1 : wide ≤ 1000) (w : World) (g : Nat) (a : Option Addr) (len cap : Nat) (hlen : len ≤ 1048576) (hc : Cur w g a len cap) (B : Nat) (hB : B ≤ g) (hrow : Row w B a len) :
    Calls Try.prog 86 #[.pointer (some ⟨g, 0, none⟩), .int .i64 id, .int .i64 wide] w (OutItem 3 w g a len cap) := by
  have HR := Lib.hid hrow
  have hgl := hc.lt
  have HC1 := Lib.hid ((hc.kept (w' := w.alloc (.cells #[.int .i64 0, .slice none 0 0] 43)) (Below.heap_alloc _ _ _ hc.lt)).kept (w' := (w.alloc (.cells #[.int .i64 0, .slice none 0 0] 43)).alloc (.cells #[.int .i64 id, .slice none 0 0] 43)) (Below.heap_alloc _ _ _ (by simp; have := hc.lt; omega)))
  have HG1 : Hid (w.grownBy ((w.alloc (.cells #[.int .i64 0, .slice none 0 0] 43)).alloc (.cells #[.int .i64 id, .slice none 0 0] 43)) (some g)) := Lib.hid (grown_alloc (World.grownBy_alloc w _ _) _)
  have HY1 := Lib.hid (heap_alloc2_new w (.cells #[.int .i64 0, .slice none 0 0] 43) (.cells #[.int .i64 id, .slice none 0 0] 43))
  have HX0 : Hid (((w.alloc (.cells #[.int .i64 0, .slice none 0 0] 43)).alloc (.cells #[.int .i64 id, .slice none 0 0] 43)).heap[w.heap.size]? = some (.cells #[.int .i64 0, .slice none 0 0] 43 (0, 0))) := Lib.hid ((Below.heap_alloc _ _ _ (by simp)).trans (heap_alloc_new w _))
  clear hc hrow
  go_enter Try.func86, Try.ntmps86
  go_wp2
  go_loopw [8, 9] (fun iv _ wr => ∃ (j : Nat) (A : Option Addr) (n c : Nat) (xs : List Int), j ≤ 3 ∧ iv = .int .i64 j ∧ xs.length = j ∧ wr.heap[w.heap.size + 1]? = some (.cells #[.int .i64 id, .slice A n c] 43 (0, 0)) ∧ OwnI wr (w.heap.size + 2) (.slice A n c) xs ∧ wr.heap[w.heap.size]? = some (.cells #[.int .i64 0, .slice none 0 0] 43 (0, 0)) ∧ Cur wr g a len cap ∧ w.grownBy wr (some g) ∧ w.heap.size + 2 ≤ wr.heap.size) (fun iv _ _ => 3 - (intOf iv).toNat)
  case atStart => exact ⟨0, none, 0, 0, [], by decide, rfl, rfl, HY1.out, ownI_nil _ _, HX0.out, HC1.out, HG1.out, by simp⟩
  case round =>
    clear HX0 HY1 HC1 HG1
    obtain ⟨j, A, n, c, xs, hj, rfl, hxs, hy, hown, hxx, hcur, hgw, hsz⟩ := hrel
    have HYY := Lib.hid hy
    have HXX := Lib.hid hxx
    have HO := Lib.hid hown
    have HCu := Lib.hid hcur
    have HG := Lib.hid hgw
    clear hy hown hxx hcur hgw
    by_cases hj3 : j = 3
    · have hd : decide ((j : Int) < 3) = false := by simp; omega
      have x0 : wr.cell? ⟨w.heap.size, 0, none⟩ = some (.int .i64 0) := cell_of_row wr _ 0 _ _ (0, 0) HXX.out
      have z0 : wr.frozen? ⟨w.heap.size, 0, none⟩ = false := frozen_of_row wr _ 0 _ _ HXX.out
      have x1 : wr.cell? ⟨w.heap.size, 1, none⟩ = some (.slice none 0 0) := cell_of_row wr _ 1 _ _ (0, 0) HXX.out
      have z1 : wr.frozen? ⟨w.heap.size, 1, none⟩ = false := frozen_of_row wr _ 1 _ _ HXX.out
      have y0 : wr.cell? ⟨w.heap.size + 1, 0, none⟩ = some (.int .i64 id) := cell_of_row wr _ 0 _ _ (0, 0) HYY.out
      have y1 : wr.cell? ⟨w.heap.size + 1, 1, none⟩ = some (.slice A n c) := cell_of_row wr _ 1 _ _ (0, 0) HYY.out
      go_wp2
      refine bodyPost_ret_by (results_cell_row rfl _ _ w.heap.size 43 _ (0, 0) _ rfl (two_setD HXX.out) Try.underlying43 rfl (by kernel_rfl)) rfl ?_
      refine ⟨⟨id, A, n, c, xs⟩, rfl, ownI_lowD (ownI_blocks HO.out fun k hk => ?_) (by omega), by show 3 ≤ xs.length; omega, by show xs.length ≤ 3; omega, HCu.out.kept ?_, grown_tail HG.out (set2_below wr w.heap.size w.heap.size (.int .i64 id) (.slice A n c) (Nat.le_refl _))⟩
      · exact set2_other wr w.heap.size k _ _ (by have := ownI_lows HO.out k hk; omega)
      · exact set2_other wr w.heap.size g _ _ (by omega)
    · have hd : decide ((j : Int) < 3) = true := by simp; omega
      go_wp2_with fail
      refine (below_any wide (by omega) _ g a len cap hlen HCu.out B hB (HR.out.below (grown_below HG.out hB (by omega)))).mono ?_
      rintro e w4 ⟨x, rfl, hx, hc4, hg4⟩
      have HC4 := Lib.hid hc4
      have HG4 := Lib.hid (HG.out.trans hg4)
      have HX4 := Lib.hid (row_kept hg4 HXX.out (by omega))
      have HY4 := Lib.hid (row_kept hg4 HYY.out (by omega))
      have HO4 := Lib.hid (ownI_keptg HO.out hg4 (by omega))
      have hs4 : w.heap.size + 2 ≤ w4.heap.size := Nat.le_trans hsz hg4.size
      have H4 : Hid ((xs.length + [x].length) * 8 ≤ 140737488355328) := Lib.hid (by simp only [List.length_cons, List.length_nil]; omega)
      have y1 : w4.cell? ⟨w.heap.size + 1, 1, none⟩ = some (.slice A n c) := cell_of_row w4 _ 1 _ _ (0, 0) HY4.out
      clear hx hc4 hg4 HCu HG HXX HYY HO
      go_wp2_with (at_builtin; refine wp_appI _ (by rfl) (.tmp 20) (.tmp 22) (by rfl) (w.heap.size + 2) _ _ (by rfl) HO4.out _ [x] (by rfl) 1 1 rfl (by rfl) H4.out hs4 ?_)
      intro v1 w6 hown6 hb6
      obtain ⟨A', n', c', rfl, _⟩ := hown6.ints
      have HO6 := Lib.hid hown6
      have HY6 := Lib.hid (row_below hb6 HY4.out (by omega))
      have HX6 := Lib.hid (row_below hb6 HX4.out (by omega))
      have HC6 := Lib.hid (HC4.out.kept (hb6.block g (by omega)))
      have HG6 := Lib.hid (grown_tail HG4.out (hb6.mono (by omega)))
      have hs6 := Lib.hid (Nat.le_trans hs4 hb6.size)
      have y1 : w6.cell? ⟨w.heap.size + 1, 1, none⟩ = some (.slice A n c) := cell_of_row w6 _ 1 _ _ (0, 0) HY6.out
      have u1 : w6.frozen? ⟨w.heap.size + 1, 1, none⟩ = false := frozen_of_row w6 _ 1 _ _ HY6.out
      clear hown6 hb6 HO4 HY4 HX4 HC4 HG4 H4
      go_wp2
      go_roundw
      case rel =>
        refine ⟨j + 1, A', n', c', xs ++ [x], by omega, by first | rfl | (congr 1; omega), by simp; omega, ?_, ownI_blocks HO6.out fun k hk => heap_setCell_other _ _ _ _ (by have := ownI_lows HO6.out k hk; simp; omega), (heap_setCell_other _ _ _ _ (by simp)).trans HX6.out, HC6.out.kept (heap_setCell_other _ _ _ _ (by simp; omega)), grown_tail HG6.out ((Below.refl _ _).setCell (by show w.heap.size ≤ w.heap.size + 1; omega) _), by have := hs6.out; simp; omega⟩
        have h := heap_setCell_same w6 (w.heap.size + 1) 1 _ _ (.slice A' n' c') HY6.out
        simpa using h
      case measure => simp [intOf]; omega

/-- Where any item's draw stands: the result's block still zero, the item in block Y. -/
structure ItSt (w : World) (g : Nat) (a : Option Addr) (len cap : Nat) (Y : Nat) (t : It) (wr : World) : Prop where
  x : wr.heap[w.heap.size]? = some (.cells #[.int .i64 0, .slice none 0 0] 43 (0, 0))
  y : wr.heap[Y]? = some (.cells #[.int .i64 t.id, .slice t.A t.n t.c] 43 (0, 0))
  o : OwnI wr (w.heap.size + 1) (.slice t.A t.n t.c) t.xs
  far : ∀ k, (Value.slice t.A t.n t.c).ownBlock = some k → k < Y
  c : Cur wr g a len cap
  g : w.grownBy wr (some g)
theorem ItSt.kept {w wr w' : World} {g : Nat} {a : Option Addr} {len cap Y : Nat} {t : It} (h : ItSt w g a len cap Y t wr) (hgl : g < w.heap.size) (hY : w.heap.size < Y) (hg : wr.grownBy w' (some g)) (hc : Cur w' g a len cap) : ItSt w g a len cap Y t w' :=
  ⟨row_kept hg h.x (by omega), row_kept hg h.y (by omega), ownI_keptg h.o hg (by omega), h.far, hc, h.g.trans hg⟩
theorem ItSt.alloc {w wr : World} {g : Nat} {a : Option Addr} {len cap Y : Nat} {t : It} (h : ItSt w g a len cap Y t wr) (ob : Obj) : ItSt w g a len cap Y t (wr.alloc ob) :=
  ⟨(Below.heap_alloc _ _ _ (lt_of_block h.x)).trans h.x, (Below.heap_alloc _ _ _ (lt_of_block h.y)).trans h.y, ownI_blocks h.o fun k hk => Below.heap_alloc _ _ _ (ownI_tops h.o k hk), h.far, h.c.kept (Below.heap_alloc _ _ _ h.c.lt), grown_alloc h.g ob⟩
theorem ItSt.drew {w wr : World} {g : Nat} {a : Option Addr} {len cap Y : Nat} {t : It} (h : ItSt w g a len cap Y t wr) : ItSt w g a len cap Y t wr.drew :=
  ⟨h.x, h.y, ownI_blocks h.o fun _ _ => rfl, h.far, h.c, grown_drew h.g⟩
theorem own_set0 {w : World} {B : Nat} {b n c : Nat} {xs : List Int} (h : OwnI w B (.slice (some ⟨b, 0, none⟩) n c) xs) (z : Int) : OwnI (w.setCell ⟨b, 0, none⟩ (.int .i64 z)) B (.slice (some ⟨b, 0, none⟩) n c) (xs.set 0 z) := by
  rcases h.2 with ⟨hv, _⟩ | ⟨g, cp, cur, hv, hgB, hg, h1, h2, h3, h4⟩
  · cases hv
  · injection hv with e1 e2 e3
    injection e1 with e1
    injection e1 with e1
    subst e1
    refine ⟨by simp, .inr ⟨b, c, cur.setIfInBounds 0 (.int .i64 z), by rw [List.length_set, e2], hgB, heap_setCell_same w b 0 _ _ _ hg, by rw [List.length_set]; omega, by omega, by simpa [e3] using h3, ?_⟩⟩
    rw [List.length_set, Array.toList_setIfInBounds, List.take_set, h4, List.map_set]
theorem own_row0 {w : World} {B : Nat} {b n c : Nat} {xs : List Int} (h : OwnI w B (.slice (some ⟨b, 0, none⟩) n c) xs) : ∃ cur, w.heap[b]? = some (.cells cur 3 (0, 0)) ∧ (0 < n → w.cell? ⟨b, 0, none⟩ = some (.int .i64 (xs.getD 0 0))) := by
  have hi := ownI_at h
  rcases h.2 with ⟨hv, _⟩ | ⟨g, cp, cur, hv, hgB, hg, _⟩
  · cases hv
  · injection hv with e1
    injection e1 with e1
    injection e1 with e1
    subst e1
    refine ⟨cur, hg, fun h0 => ?_⟩
    obtain ⟨b', off, e, _, h1⟩ := hi.2 0 h0
    injection e with e
    injection e with e2 e3
    subst e2 e3
    exact h1
theorem wp_appD {ops : Array Oper} {rest : List Oper} {o : Oper} {a : Act} {Q : Exit → Act → World → Prop} (w : World) (hgd : o.guard = none) (s x : Operand)
    (ho : o.op = .call { callee := .builtin .append, args := #[s, x], argTypes := #[25, 25] })
    (B : Nat) (v : Value) (l : List Int) (hs : a.eval s = v) (hown : OwnI w B v l) (cs : Array Value) (new : List Int) (hcs : cs = (new.map (Value.int .i64)).toArray) (n c : Nat) (hn : n = new.length)
    (hx : a.eval x = .slice (some ⟨w.heap.size, 0, none⟩) n c) (hlen : (l.length + new.length) * 8 ≤ 140737488355328) (hB : B ≤ w.heap.size)
    (h : ∀ v' w', OwnI w' B v' (l ++ new) → (w.alloc (.cells cs 3)).grownBy w' v.ownBlock → (v'.ownBlock = v.ownBlock ∨ v'.ownBlock = some (w.alloc (.cells cs 3)).heap.size) → wpList Try.prog ops Q rest (a.put o.dst v') w') :
    wpList Try.prog ops Q (o :: rest) a (w.alloc (.cells cs 3)) := by
  obtain ⟨i0, hi, hz0, hz1, hz2⟩ := info_parts info_int
  subst hcs hn
  refine wpList_append_own_at _ hgd s x 25 ho B 3 i0 (.int .i64 0) 1 8 Try.underlying25 hi hz0 hz1 hz2 rfl (by decide) v l.length (l.map (Value.int .i64)) hs (World.ownsRow.alloc hown _) ⟨w.heap.size, 0, none⟩ new.length c (new.map (Value.int .i64)) hx (by simp) (fun j u hj => ?_) (fun u hu => ?_) (by unfold maxLen; omega) (by omega) (by simp; omega) (fun v' w' h2 h3 _ h5 => h v' w' ?_ h3 h5)
  · have e : (⟨w.heap.size, 0, none⟩ : Addr).add j = ⟨w.heap.size, j, none⟩ := by unfold Addr.add; split <;> simp_all
    rw [e, World.cell?_alloc_at _ _ _ _ rfl]
    simpa using hj
  · obtain ⟨b, _, rfl⟩ := List.mem_map.1 hu
    rfl
  · have e : (l ++ new).length = l.length + new.length := by simp
    unfold OwnI
    rw [e, List.map_append]
    exact h2
set_option maxRecDepth 20000 in
set_option maxHeartbeats 6400000 in
theorem any_item (w : World) (g : Nat) (a : Option Addr) (len cap : Nat) (hlen : len ≤ 1048576) (hc : Cur w g a len cap) (B : Nat) (hB : B ≤ g) (hrow : Row w B a len) :
    Calls Try.prog 55 #[.pointer (some ⟨g, 0, none⟩)] w (OutItem 4 w g a len cap) := by
  have HR := Lib.hid hrow
  have hgl := hc.lt
  have HC1 := Lib.hid (hc.kept (w' := w.alloc (.cells #[.int .i64 0, .slice none 0 0] 43)) (Below.heap_alloc _ _ _ hc.lt))
  have HG1 : Hid (w.grownBy (w.alloc (.cells #[.int .i64 0, .slice none 0 0] 43)) (some g)) := Lib.hid (World.grownBy_alloc w _ _)
  have HX1 := Lib.hid (heap_alloc_new w (.cells #[.int .i64 0, .slice none 0 0] 43))
  clear hc hrow
  go_enter Try.func55, Try.ntmps55
  go_wp2_with fail
  refine (below_any 6 (by omega) _ g a len cap hlen HC1.out B hB (HR.out.below (grown_below HG1.out hB (by omega)))).mono ?_
  rintro e w1 ⟨id, rfl, hid, hc1, hg1⟩
  have HC2 := Lib.hid hc1
  have HG2 := Lib.hid (HG1.out.trans hg1)
  have HX2 := Lib.hid (row_kept hg1 HX1.out (by omega))
  have hs1 : w.heap.size + 1 ≤ w1.heap.size := lt_of_block HX2.out
  clear hid hc1 hg1 HC1 HG1 HX1
  go_wp2_with fail
  refine (item_any id 10 (by decide) (by decide) _ g a len cap hlen HC2.out B hB (HR.out.below (grown_below HG2.out hB (by omega)))).mono ?_
  rintro e w2 ⟨t, rfl, ho, hl3, hl3', hc2, hg2⟩
  have hY : w.heap.size < w2.heap.size := by have := hg2.size; omega
  have HS2 : Hid (ItSt w g a len cap w2.heap.size t (w2.alloc (.cells #[.int .i64 t.id, .slice t.A t.n t.c] 43))) := Lib.hid (by
    have ho' : OwnI w2 (w.heap.size + 1) (.slice t.A t.n t.c) t.xs := ownI_lowD ho hs1
    exact ⟨(Below.heap_alloc _ _ _ (by omega)).trans (row_kept hg2 HX2.out (by omega)), heap_alloc_new w2 _, ownI_blocks ho' fun k hk => Below.heap_alloc _ _ _ (ownI_tops ho' k hk), fun k e => ownI_tops ho' k e, hc2.kept (Below.heap_alloc _ _ _ hc2.lt), grown_alloc (HG2.out.trans hg2) _⟩)
  have HN3 : Hid (t.n = t.xs.length) := Lib.hid (ownI_at ho).1.symm
  clear ho hc2 hg2 HC2 HG2 HX2
  unfold It.val
  go_wp2_with fail
  refine (below_any 8 (by omega) _ g a len cap hlen HS2.out.c B hB (HR.out.below (grown_below HS2.out.g hB (by omega)))).mono ?_
  rintro e w3 ⟨z, rfl, hz, hc3, hg3⟩
  obtain ⟨hz0, hz8⟩ := hz.2 (by omega)
  have HS := Lib.hid (HS2.out.kept hgl hY hg3 hc3)
  clear hz hc3 hg3 HS2
  have hY3 : w2.heap.size < w3.heap.size := lt_of_block HS.out.y
  by_cases z0 : z = 0
  · subst z0
    have HA := Lib.hid (HS.out.alloc (.cells #[.int .i64 (-1), .int .i64 99, .int .i64 100] 3))
    go_wp2_with fail
    refine (pick_any w3.heap.size 3 (by decide) (by decide) _ g a len cap hlen HA.out.c B hB (HR.out.below (grown_below HA.out.g hB (by omega))) (nums3 w3 (-1) (99) (100) ⟨by decide, by decide⟩ ⟨by decide, by decide⟩ ⟨by decide, by decide⟩) (by omega)).mono ?_
    rintro e w4 ⟨u, rfl, hu, hc4, hg4⟩
    have HS4 := Lib.hid (HA.out.kept hgl hY hg4 hc4)
    clear hu hc4 hg4 HS HA
    have x0 : w4.cell? ⟨w.heap.size, 0, none⟩ = some (.int .i64 0) := cell_of_row w4 _ 0 _ _ (0, 0) HS4.out.x
    have z0 : w4.frozen? ⟨w.heap.size, 0, none⟩ = false := frozen_of_row w4 _ 0 _ _ HS4.out.x
    have x1 : w4.cell? ⟨w.heap.size, 1, none⟩ = some (.slice none 0 0) := cell_of_row w4 _ 1 _ _ (0, 0) HS4.out.x
    have z1 : w4.frozen? ⟨w.heap.size, 1, none⟩ = false := frozen_of_row w4 _ 1 _ _ HS4.out.x
    have y0 : w4.cell? ⟨w2.heap.size, 0, none⟩ = some (.int .i64 t.id) := cell_of_row w4 _ 0 _ _ (0, 0) HS4.out.y
    have y1 : w4.cell? ⟨w2.heap.size, 1, none⟩ = some (.slice t.A t.n t.c) := cell_of_row w4 _ 1 _ _ (0, 0) HS4.out.y
    have u0 : w4.frozen? ⟨w2.heap.size, 0, none⟩ = false := frozen_of_row w4 _ 0 _ _ HS4.out.y
    go_wp2
    refine bodyPost_ret_by (results_cell_row rfl _ _ w.heap.size 43 _ (0, 0) _ rfl (two_setD ((heap_setCell_other _ _ _ _ (by simp; omega)).trans HS4.out.x)) Try.underlying43 rfl (by kernel_rfl)) rfl ?_
    refine ⟨⟨u, t.A, t.n, t.c, t.xs⟩, rfl, ownI_lowD (ownI_blocks HS4.out.o fun k hk => ?_) (by omega), by show 3 ≤ t.xs.length; omega, by show t.xs.length ≤ 4; omega, HS4.out.c.kept ?_, grown_tail HS4.out.g ?_⟩
    · exact (set2_other _ w.heap.size k _ _ (by have := ownI_lows HS4.out.o k hk; omega)).trans (heap_setCell_other _ _ _ _ (by have := HS4.out.far k hk; simp; omega))
    · exact (set2_other _ w.heap.size g _ _ (by omega)).trans (heap_setCell_other _ _ _ _ (by simp; omega))
    · exact ((Below.refl _ _).setCell (by show w.heap.size ≤ w2.heap.size; omega) _).trans (set2_below _ w.heap.size w.heap.size _ _ (Nat.le_refl _))
  by_cases z1 : z = 1
  · subst z1
    clear z0
    have hA0 : ∃ b, t.A = some ⟨b, 0, none⟩ ∧ w.heap.size + 1 ≤ b ∧ b < w2.heap.size := by
      rcases HS.out.o.2 with ⟨hv, h0⟩ | ⟨b, cp, cur, hv, hb, _⟩
      · omega
      · injection hv with e1
        exact ⟨b, e1, hb, HS.out.far b (by rw [e1]; rfl)⟩
    obtain ⟨b, hAb, hb0, hb1⟩ := hA0
    have hn0 : 0 < t.n := by have := HN3.out; omega
    have hn1 : (0 : Int) < (t.n : Int) := by omega
    have HAd := Lib.hid (HS.out.alloc (.cells #[.int .i64 (-1), .int .i64 9, .int .i64 10] 3)).drew
    have y0 : w3.cell? ⟨w2.heap.size, 0, none⟩ = some (.int .i64 t.id) := cell_of_row w3 _ 0 _ _ (0, 0) HS.out.y
    have y1 : w3.cell? ⟨w2.heap.size, 1, none⟩ = some (.slice t.A t.n t.c) := cell_of_row w3 _ 1 _ _ (0, 0) HS.out.y
    rw [hAb] at y1
    go_wp2
    go_region_law (go_simp; go_at_call 45; refine (pick_any w3.heap.size 3 (by decide) (by decide) _ g a len cap hlen HAd.out.c B hB (HR.out.below (grown_below HAd.out.g hB (by omega))) (nums3 w3 (-1) 9 10 ⟨by decide, by decide⟩ ⟨by decide, by decide⟩ ⟨by decide, by decide⟩) (by omega)).mono ?_; rintro e wn ⟨u, rfl, hu, hcn, hgn⟩; have HSn := Lib.hid (HAd.out.kept hgl hY hgn hcn); have y1 : wn.cell? ⟨w2.heap.size, 1, none⟩ = some (.slice (some ⟨b, 0, none⟩) t.n t.c) := (cell_of_row wn _ 1 _ _ (0, 0) HSn.out.y).trans (by rw [hAb]; rfl); have hYn : w2.heap.size < wn.heap.size := lt_of_block HSn.out.y; have hOn : OwnI wn (w.heap.size + 1) (.slice (some ⟨b, 0, none⟩) t.n t.c) t.xs := (by have h := HSn.out.o; rw [hAb] at h; exact h); obtain ⟨cur, hcur, hcs⟩ := own_row0 hOn; have f1 : wn.cell? ⟨b, 0, none⟩ = some (.int .i64 (t.xs.getD 0 0)) := hcs (by have := HN3.out; omega); have f2 : wn.frozen? ⟨b, 0, none⟩ = false := frozen_of_row wn _ 0 _ _ hcur; have HOn := Lib.hid hOn; have HCr := Lib.hid hcur; clear hu hcn hgn hOn hcur hcs)
    all_goals
      have x0 : wn.cell? ⟨w.heap.size, 0, none⟩ = some (.int .i64 0) := cell_of_row wn _ 0 _ _ (0, 0) HSn.out.x
      have z0 : wn.frozen? ⟨w.heap.size, 0, none⟩ = false := frozen_of_row wn _ 0 _ _ HSn.out.x
      have x1 : wn.cell? ⟨w.heap.size, 1, none⟩ = some (.slice none 0 0) := cell_of_row wn _ 1 _ _ (0, 0) HSn.out.x
      have z1 : wn.frozen? ⟨w.heap.size, 1, none⟩ = false := frozen_of_row wn _ 1 _ _ HSn.out.x
      have y0 : wn.cell? ⟨w2.heap.size, 0, none⟩ = some (.int .i64 t.id) := cell_of_row wn _ 0 _ _ (0, 0) HSn.out.y
      go_wp2
      refine bodyPost_ret_by (results_cell_row rfl _ _ w.heap.size 43 _ (0, 0) _ rfl (two_setD ((heap_setCell_other _ _ _ _ (by simp; omega)).trans HSn.out.x)) Try.underlying43 rfl (by kernel_rfl)) rfl ?_
      refine ⟨⟨t.id, some ⟨b, 0, none⟩, t.n, t.c, t.xs.set 0 u⟩, rfl, ownI_lowD (ownI_blocks (own_set0 HOn.out u) fun k hk => ?_) (by omega), by simp; omega, by simp; omega, HSn.out.c.kept ?_, grown_tail HSn.out.g ?_⟩
      · exact set2_other _ w.heap.size k _ _ (by have := ownI_lows HOn.out k hk; omega)
      · exact (set2_other _ w.heap.size g _ _ (by omega)).trans (heap_setCell_other _ _ _ _ (by simp; omega))
      · exact ((Below.refl _ _).setCell (by show w.heap.size ≤ b; omega) _).trans (set2_below _ w.heap.size w.heap.size _ _ (Nat.le_refl _))
  by_cases z2 : z = 2
  · subst z2
    clear z0 z1
    have H4 : Hid ((t.xs.length + [(1 : Int)].length) * 8 ≤ 140737488355328) := Lib.hid (by simp only [List.length_cons, List.length_nil]; omega)
    have hB3 : w2.heap.size + 1 ≤ w3.heap.size := hY3
    have y0 : w3.cell? ⟨w2.heap.size, 0, none⟩ = some (.int .i64 t.id) := cell_of_row w3 _ 0 _ _ (0, 0) HS.out.y
    have y1 : w3.cell? ⟨w2.heap.size, 1, none⟩ = some (.slice t.A t.n t.c) := cell_of_row w3 _ 1 _ _ (0, 0) HS.out.y
    have HOy : Hid (w3.ownsRow (w.heap.size + 1) 3 1 (.slice t.A t.n t.c) t.xs.length (t.xs.map (Value.int .i64))) := Lib.hid HS.out.o
    go_wp2_with (at_builtin; refine wp_appD w3 (by rfl) (.tmp 27) (.tmp 28) (by rfl) (w.heap.size + 1) _ t.xs (by rfl) HS.out.o _ [1] (by rfl) 1 1 rfl (by rfl) H4.out (by omega) ?_)
    intro v' w5 hown5 hg5 hv5
    obtain ⟨A', n', c', rfl, _⟩ := hown5.ints
    have HO5 := Lib.hid hown5
    have HV5 := Lib.hid hv5
    have HB5 : Hid (Below (w.heap.size + 1) w3 w5) := Lib.hid (((Below.refl (w.heap.size + 1) w3).alloc (by omega) _).grown hg5 (by simp; omega) (fun k hk => ownI_lows HS.out.o k hk))
    have HXX : Hid (w5.heap[w.heap.size]? = some (.cells #[.int .i64 0, .slice none 0 0] 43 (0, 0))) := Lib.hid (row_below HB5.out HS.out.x (by omega))
    have HYY : Hid (w5.heap[w2.heap.size]? = some (.cells #[.int .i64 t.id, .slice t.A t.n t.c] 43 (0, 0))) := Lib.hid ((hg5.block _ (by simp; omega) (fun e => by have := HS.out.far _ e.symm; omega)).trans ((Below.heap_alloc _ _ _ hY3).trans HS.out.y))
    clear hown5 hg5 hv5
    have x0 : w5.cell? ⟨w.heap.size, 0, none⟩ = some (.int .i64 0) := cell_of_row w5 _ 0 _ _ (0, 0) HXX.out
    have z0 : w5.frozen? ⟨w.heap.size, 0, none⟩ = false := frozen_of_row w5 _ 0 _ _ HXX.out
    have x1 : w5.cell? ⟨w.heap.size, 1, none⟩ = some (.slice none 0 0) := cell_of_row w5 _ 1 _ _ (0, 0) HXX.out
    have z1 : w5.frozen? ⟨w.heap.size, 1, none⟩ = false := frozen_of_row w5 _ 1 _ _ HXX.out
    have y0 : w5.cell? ⟨w2.heap.size, 0, none⟩ = some (.int .i64 t.id) := cell_of_row w5 _ 0 _ _ (0, 0) HYY.out
    have y1 : w5.cell? ⟨w2.heap.size, 1, none⟩ = some (.slice t.A t.n t.c) := cell_of_row w5 _ 1 _ _ (0, 0) HYY.out
    have u1 : w5.frozen? ⟨w2.heap.size, 1, none⟩ = false := frozen_of_row w5 _ 1 _ _ HYY.out
    go_wp2
    refine bodyPost_ret_by (results_cell_row rfl _ _ w.heap.size 43 _ (0, 0) _ rfl (two_setD ((heap_setCell_other _ _ _ _ (by simp; omega)).trans HXX.out)) Try.underlying43 rfl (by kernel_rfl)) rfl ?_
    have hfar : ∀ k, (Value.slice A' n' c').ownBlock = some k → k ≠ w2.heap.size ∧ k ≠ w.heap.size := fun k hk => by
      have h1 := ownI_lows HO5.out k hk
      refine ⟨fun e => ?_, by omega⟩
      rcases HV5.out with h | h
      · rw [h] at hk
        have := HS.out.far k hk
        omega
      · rw [h] at hk
        have h2 := Option.some.inj hk
        try simp only [World.size_alloc] at h2
        omega
    refine ⟨⟨t.id, A', n', c', t.xs ++ [1]⟩, rfl, ownI_lowD (ownI_blocks HO5.out fun k hk => ?_) (by omega), by simp; omega, by simp; omega, HS.out.c.kept ?_, grown_tail HS.out.g ?_⟩
    · exact (set2_other _ w.heap.size k _ _ (hfar k hk).2).trans (heap_setCell_other _ _ _ _ (hfar k hk).1)
    · exact (set2_other _ w.heap.size g _ _ (by omega)).trans ((heap_setCell_other _ _ _ _ (by simp; omega)).trans (HB5.out.block g (by omega)))
    · exact ((HB5.out.mono (by omega)).setCell (by show w.heap.size ≤ w2.heap.size; omega) _).trans (set2_below _ w.heap.size w.heap.size _ _ (Nat.le_refl _))
  have f0 : (z == 0) = false := by simpa using z0
  have f1 : (z == 1) = false := by simpa using z1
  have f2 : (z == 2) = false := by simpa using z2
  clear z0 z1 z2
  have x0 : w3.cell? ⟨w.heap.size, 0, none⟩ = some (.int .i64 0) := cell_of_row w3 _ 0 _ _ (0, 0) HS.out.x
  have z0 : w3.frozen? ⟨w.heap.size, 0, none⟩ = false := frozen_of_row w3 _ 0 _ _ HS.out.x
  have x1 : w3.cell? ⟨w.heap.size, 1, none⟩ = some (.slice none 0 0) := cell_of_row w3 _ 1 _ _ (0, 0) HS.out.x
  have z1 : w3.frozen? ⟨w.heap.size, 1, none⟩ = false := frozen_of_row w3 _ 1 _ _ HS.out.x
  have y0 : w3.cell? ⟨w2.heap.size, 0, none⟩ = some (.int .i64 t.id) := cell_of_row w3 _ 0 _ _ (0, 0) HS.out.y
  have y1 : w3.cell? ⟨w2.heap.size, 1, none⟩ = some (.slice t.A t.n t.c) := cell_of_row w3 _ 1 _ _ (0, 0) HS.out.y
  go_wp2
  refine bodyPost_ret_by (results_cell_row rfl _ _ w.heap.size 43 _ (0, 0) _ rfl (two_setD HS.out.x) Try.underlying43 rfl (by kernel_rfl)) rfl ?_
  refine ⟨⟨t.id, t.A, t.n, t.c, t.xs⟩, rfl, ownI_lowD (ownI_blocks HS.out.o fun k hk => ?_) (by omega), by show 3 ≤ t.xs.length; omega, by show t.xs.length ≤ 4; omega, HS.out.c.kept ?_, grown_tail HS.out.g ?_⟩
  · exact (set2_other _ w.heap.size k _ _ (by have := ownI_lows HS.out.o k hk; omega))
  · exact (set2_other _ w.heap.size g _ _ (by omega))
  · exact set2_below _ w.heap.size w.heap.size _ _ (Nat.le_refl _)
end Go.Proofs.Ytceiocdemhkcdaa.num
