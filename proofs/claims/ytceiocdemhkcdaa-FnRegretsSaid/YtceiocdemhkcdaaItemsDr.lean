/-
  The model's draws of slices of items: contracts.
-/
import Derived.Test.YtceiocdemhkcdaaItemDraw
import Derived.Test.YtceiocdemhkcdaaRowG
import Derived.Test.YtceiocdemhkcdaaGetSnoc
import Derived.Test.YtceiocdemhkcdaaAppG
import Derived.Test.YtceiocdemhkcdaaItemCopy
import Derived.Test.YtceiocdemhkcdaaRunOne
namespace Go.Proofs.Ytceiocdemhkcdaa.num
set_option maxRecDepth 20000
open Go.RowKit
set_option linter.unusedVariables false
set_option linter.unusedSimpArgs false

set_option maxRecDepth 20000 in
/-- A pick tells which numbers it picks from. -/
theorem pick_p (P : Int → Prop) (gl N : Nat) (hN : 0 < N) (hN2 : N ≤ 100) (w : World) (g : Nat) (a : Option Addr) (len cap : Nat) (hlen : len ≤ 1048576) (hc : Cur w g a len cap) (B : Nat) (hB : B ≤ g) (hrow : Row w B a len) (hl : ∀ k, k < N → ∃ z : Int, w.cell? ⟨gl, k, none⟩ = some (.int .i64 z) ∧ P z) (hne : gl ≠ g) :
    Calls Try.prog 45 #[.pointer (some ⟨g, 0, none⟩), .slice (some ⟨gl, 0, none⟩) N N] w (Out P w g a len cap) := by
  have HC := Lib.hid hc
  have HR := Lib.hid hrow
  have HL := Lib.hid hl
  clear hc hrow hl
  go_enter Try.func45, Try.ntmps45
  go_wp2_with fail
  refine (below_any _ (by omega) _ g a len cap hlen HC.out B hB HR.out).mono ?_
  rintro e w1 ⟨x1, rfl, hx, hc1, hg1⟩
  have hx2 := hx.2 (by omega)
  obtain ⟨r, rfl⟩ := Int.eq_ofNat_of_zero_le hx2.1
  have hrN : r < N := by omega
  obtain ⟨z, hz, hzI⟩ := HL.out r hrN
  have hz1 : w1.cell? ⟨gl, r, none⟩ = some (.int .i64 z) := by
    have hlt := World.block_lt_of_cell? w _ hz
    exact (World.cell?_of_block (hg1.block gl hlt (fun e => by injection e; omega))).trans hz
  have HC1 := Lib.hid hc1
  have HG1 := Lib.hid hg1
  have HZ := Lib.hid hzI
  clear hc1 hg1 hzI hz hx hx2
  go_wp2
  go_ret
  exact ⟨z, rfl, HZ.out, HC1.out, HG1.out⟩
def itemCells (t : It) : List Value := [.int .i64 t.id, .slice t.A t.n t.c]
theorem itemCells_len (t : It) : (itemCells t).length = 2 := rfl
theorem itemCells_one (t : It) : ∀ u ∈ itemCells t, u.oneCell' = true := by
  intro u hu
  simp only [itemCells, List.mem_cons, List.not_mem_nil, or_false] at hu
  rcases hu with rfl | rfl <;> rfl
theorem info_itemD : (Try.prog.info? 43).map (fun i => (i.zero, i.size, i.bytes)) = some (some (.agg #[.int .i64 0, .slice none 0 0]), 2, 32) := by kernel_rfl
/-- A slice of items that a draw filled. -/
structure DrI (w : World) (B : Nat) (v : Value) (its : List It) : Prop where
  r : OwnG 43 itemCells 2 w B v its
  x : ∀ t ∈ its, OwnI w B (.slice t.A t.n t.c) t.xs ∧ t.xs.length ≤ 4
  a : ∀ t ∈ its, ∀ b, (Value.slice t.A t.n t.c).ownBlock = some b → v.ownBlock ≠ some b
theorem DrI.blocks {w w' : World} {B : Nat} {v : Value} {its : List It} (h : DrI w B v its) (hb : ∀ b, B ≤ b → b < w.heap.size → w'.heap[b]? = w.heap[b]?) : DrI w' B v its :=
  ⟨h.r.blocks fun k hk => hb k (h.r.lows k hk) (h.r.tops k hk), fun t ht => ⟨ownI_blocks (h.x t ht).1 fun k hk => hb k (ownI_lows (h.x t ht).1 k hk) (ownI_tops (h.x t ht).1 k hk), (h.x t ht).2⟩, h.a⟩
theorem ownI_n {w : World} {B : Nat} {A : Option Addr} {n c : Nat} {l : List Int} (h : OwnI w B (.slice A n c) l) : n = l.length := by
  rcases h.2 with ⟨e, hl⟩ | ⟨g, cap, cur, e, _⟩ <;> (injection e with e1 e2 e3 <;> omega)
theorem DrI.items {w : World} {B : Nat} {A : Option Addr} {n c : Nat} {its : List It} (h : DrI w B (.slice A n c) its) : Items w w.heap.size A n its ∧ ∀ t ∈ its, t.n ≤ 1048576 := by
  have hr := h.r.read itemCells_len
  refine ⟨⟨hr.len, fun k hk => ?_⟩, fun t ht => by have := ownI_n (h.x t ht).1; have := (h.x t ht).2; omega⟩
  obtain ⟨b, off, e, hb, hc⟩ := hr.at' k its[k] (List.getElem?_eq_getElem hk)
  exact ⟨b, off, e, hb, hc 0 _ rfl, hc 1 _ rfl, ownI_at (h.x _ (List.getElem_mem hk)).1⟩
theorem DrI.snoc {w w' : World} {B N : Nat} {v v' : Value} {its : List It} {t : It} (h : DrI w B v its) (hg : w.grownBy w' v.ownBlock) (hat : v'.ownBlock = v.ownBlock ∨ v'.ownBlock = some N) (hN : w.heap.size ≤ N) (hr : OwnG 43 itemCells 2 w' B v' (its ++ [t])) (hx : OwnI w B (.slice t.A t.n t.c) t.xs ∧ t.xs.length ≤ 4) (ha : ∀ b, (Value.slice t.A t.n t.c).ownBlock = some b → v.ownBlock ≠ some b) : DrI w' B v' (its ++ [t]) := by
  have hall : ∀ x ∈ its ++ [t], (OwnI w B (.slice x.A x.n x.c) x.xs ∧ x.xs.length ≤ 4) ∧ ∀ b, (Value.slice x.A x.n x.c).ownBlock = some b → v.ownBlock ≠ some b := fun x hx' => by
    rcases List.mem_append.1 hx' with h1 | h1
    · exact ⟨h.x x h1, h.a x h1⟩
    · rw [List.mem_singleton.1 h1]; exact ⟨hx, ha⟩
  refine ⟨hr, fun x hx' => ⟨ownI_blocks (hall x hx').1.1 fun b hb => hg.block b (ownI_tops (hall x hx').1.1 b hb) fun e => (hall x hx').2 b hb e.symm, (hall x hx').1.2⟩, fun x hx' b hb e => ?_⟩
  rcases hat with q | q
  · exact (hall x hx').2 b hb (q ▸ e)
  · rw [q] at e
    have h1 := Option.some.inj e
    have h2 := ownI_tops (hall x hx').1.1 b hb
    omega
def OutIs (N : Nat) (w : World) (g : Nat) (a : Option Addr) (len cap : Nat) (e : Ending) (w' : World) : Prop :=
  ∃ v its, e = .returned v ∧ DrI w' w.heap.size v its ∧ its.length ≤ N ∧ Cur w' g a len cap ∧ w.grownBy w' (some g)
/-- One item behind those that were drawn. -/
theorem dri_app {w w0 w1 w2 : World} {g : Nat} {a : Option Addr} {len cap : Nat} {v v' : Value} {its : List It} {t : It} (h : DrI w1 w0.heap.size v its) (hx : OwnI w1 w0.heap.size (.slice t.A t.n t.c) t.xs ∧ t.xs.length ≤ 4) (ha : ∀ b, (Value.slice t.A t.n t.c).ownBlock = some b → v.ownBlock ≠ some b) (hga : w1.grownBy w2 v.ownBlock) (hat : v'.ownBlock = v.ownBlock ∨ v'.ownBlock = some (w1.heap.size + 1)) (hr : OwnG 43 itemCells 2 w2 w0.heap.size v' (its ++ [t]))
    (hc : Cur w1 g a len cap) (hg : w.grownBy w1 (some g)) (h0 : w.heap.size ≤ w0.heap.size) (hgl : g < w0.heap.size) (hw0 : w0.heap.size ≤ w1.heap.size) : DrI w2 w0.heap.size v' (its ++ [t]) ∧ Cur w2 g a len cap ∧ w.grownBy w2 (some g) := by
  have hb : Below w0.heap.size w1 w2 := (Below.refl _ w1).grown hga hw0 (fun k hk => h.r.lows k hk)
  exact ⟨h.snoc hga hat (by omega) hr hx ha, hc.kept (hb.block g hgl), grown_tail hg (hb.mono h0)⟩
set_option maxRecDepth 20000 in
set_option maxHeartbeats 3200000 in
theorem items_any (most : Nat) (hm : most ≤ 100) (w : World) (g : Nat) (a : Option Addr) (len cap : Nat) (hlen : len ≤ 1048576) (hc : Cur w g a len cap) (B : Nat) (hB : B ≤ g) (hrow : Row w B a len) :
    Calls Try.prog 71 #[.pointer (some ⟨g, 0, none⟩), .int .i64 most] w (OutIs most w g a len cap) := by
  have hgl := hc.lt
  have HR := Lib.hid hrow
  have HE : Hid (DrI (w.alloc (.cells #[] 43)) w.heap.size (.slice (some ⟨w.heap.size, 0, none⟩) 0 0) []) := Lib.hid ⟨OwnG.empty w _ (Nat.le_refl _), by simp, by simp⟩
  have HC0 : Hid (Cur (w.alloc (.cells #[] 43)) g a len cap) := Lib.hid (hc.kept (Below.heap_alloc _ _ _ hgl))
  have HG0 : Hid (w.grownBy (w.alloc (.cells #[] 43)) (some g)) := Lib.hid (World.grownBy_alloc w _ _)
  clear hc hrow
  have HCa : Hid (Cur ((w.alloc (.cells #[] 43)).alloc (.cells #[.int .i64 2, .int .i64 4, .int .i64 10] 3)) g a len cap) := Lib.hid (HC0.out.kept (Below.heap_alloc _ _ _ (by simp; omega)))
  have HGa : Hid (w.grownBy ((w.alloc (.cells #[] 43)).alloc (.cells #[.int .i64 2, .int .i64 4, .int .i64 10] 3)) (some g)) := Lib.hid (grown_alloc HG0.out _)
  have HEa : Hid (DrI ((w.alloc (.cells #[] 43)).alloc (.cells #[.int .i64 2, .int .i64 4, .int .i64 10] 3)) w.heap.size (.slice (some ⟨w.heap.size, 0, none⟩) 0 0) []) := Lib.hid (HE.out.blocks fun b _ hb => Below.heap_alloc _ _ _ hb)
  have HP := Lib.hid (pick_p (fun z => 0 < z ∧ z ≤ 1000) (w.alloc (.cells #[] 43)).heap.size 3 (by decide) (by decide) ((w.alloc (.cells #[] 43)).alloc (.cells #[.int .i64 2, .int .i64 4, .int .i64 10] 3)) g a len cap hlen HCa.out B hB (HR.out.below (grown_below HGa.out hB (by omega))) (fun k hk => by
    rcases (show k = 0 ∨ k = 1 ∨ k = 2 by omega) with rfl | rfl | rfl
    · exact ⟨2, World.cell?_alloc_at _ _ _ _ rfl, by decide, by decide⟩
    · exact ⟨4, World.cell?_alloc_at _ _ _ _ rfl, by decide, by decide⟩
    · exact ⟨10, World.cell?_alloc_at _ _ _ _ rfl, by decide, by decide⟩) (by simp; omega))
  rw [World.size_alloc] at HP
  have hmw : IntKind.i64.wrap ((most : Int) + 1) = (most : Int) + 1 := IntWalk.i64_in _ ⟨by omega, by omega⟩
  go_enter Try.func71, Try.ntmps71
  go_wp2_with fail
  refine HP.out.mono ?_
  rintro e w1 ⟨wide, rfl, ⟨hw0, hw1⟩, hc1, hg1⟩
  have HC1 := Lib.hid hc1
  have HG1 := Lib.hid (grown_trans HGa.out hg1)
  have HO1 : Hid (DrI w1 w.heap.size (.slice (some ⟨w.heap.size, 0, none⟩) 0 0) []) := Lib.hid (HEa.out.blocks fun b h1 h2 => hg1.block b h2 (fun e => by have := Option.some.inj e; omega))
  clear hc1 hg1 HP HE HC0 HG0 HCa HGa HEa
  go_wp2_with fail
  refine (below_any 3 (by omega) _ g a len cap hlen HC1.out B hB (HR.out.below (grown_below HG1.out hB (by omega)))).mono ?_
  rintro e w2 ⟨id, rfl, hid, hc2, hg2⟩
  obtain ⟨id0, id1⟩ := hid.2 (by omega)
  have HC2 := Lib.hid hc2
  have HG2 := Lib.hid (grown_trans HG1.out hg2)
  have HO2 : Hid (DrI w2 w.heap.size (.slice (some ⟨w.heap.size, 0, none⟩) 0 0) []) := Lib.hid (HO1.out.blocks fun b h1 h2 => hg2.block b h2 (fun e => by have := Option.some.inj e; omega))
  clear hid hc2 hg2
  go_wp2_with fail
  refine (below_any ((most : Int) + 1) (by omega) _ g a len cap hlen HC2.out B hB (HR.out.below (grown_below HG2.out hB (by omega)))).mono ?_
  rintro e w3 ⟨n, rfl, hn, hc3, hg3⟩
  obtain ⟨n0, n1⟩ := hn.2 (by omega)
  have HC3 := Lib.hid hc3
  have HG3 := Lib.hid (grown_trans HG2.out hg3)
  have HO3 : Hid (DrI w3 w.heap.size (.slice (some ⟨w.heap.size, 0, none⟩) 0 0) []) := Lib.hid (HO2.out.blocks fun b h1 h2 => hg3.block b h2 (fun e => by have := Option.some.inj e; omega))
  clear hn hc3 hg3
  go_wp2
  go_loopw [5, 7, 8] (fun v idv nv wr => ∃ (its : List It) (V : Value) (d m : Int), V = v ∧ idv = .int .i64 d ∧ nv = .int .i64 m ∧ 0 ≤ d ∧ d ≤ 3 + 2 * its.length ∧ 0 ≤ m ∧ m + its.length ≤ most ∧ DrI wr w.heap.size V its ∧ Cur wr g a len cap ∧ w.grownBy wr (some g)) (fun _ _ nv _ => (intOf nv).toNat)
  case atStart => exact ⟨[], _, id, n, rfl, rfl, rfl, id0, by simp; omega, n0, by simp; omega, HO3.out, HC3.out, HG3.out⟩
  case round =>
    obtain ⟨its, v, d, m, rfl, rfl, rfl, d0, d1, m0, m1, ho, hc, hg⟩ := hrel
    have HO := Lib.hid ho
    have HC := Lib.hid hc
    have HG := Lib.hid hg
    have hs : w.heap.size ≤ wr.heap.size := hg.size
    clear ho hc hg
    by_cases hpos : 0 < m
    · go_wp2_with fail
      refine (item_any d wide hw0 hw1 _ g a len cap hlen HC.out B hB (HR.out.below (grown_below HG.out hB (by omega)))).mono ?_
      rintro e w4 ⟨t, rfl, hot, t3, t4, hc4, hg4⟩
      have HC4 := Lib.hid hc4
      have HG4 := Lib.hid (grown_trans HG.out hg4)
      have HO4 : Hid (DrI w4 w.heap.size v its) := Lib.hid (HO.out.blocks fun b h1 h2 => hg4.block b h2 (fun e => by have := Option.some.inj e; omega))
      have hs4 : w.heap.size ≤ w4.heap.size := HG4.out.size
      have HT : Hid (OwnI w4 wr.heap.size (.slice t.A t.n t.c) t.xs ∧ t.xs.length ≤ 4) := Lib.hid ⟨hot, by omega⟩
      obtain ⟨v', w5, hr, hown, hga, hat⟩ := run_oneG itemCells_len itemCells_one (ty := 24) (c := 1) Try.underlying24 info_itemD rfl (by decide) (by decide) t (cs := #[.int .i64 t.id, .slice t.A t.n t.c]) rfl HO4.out.r rfl (by omega) hs4
      have HF := Lib.hid (dri_app HO4.out ⟨ownI_lowD HT.out.1 hs, HT.out.2⟩ (fun b h1 h2 => by
        have q1 := ownI_lows HT.out.1 b h1
        have q2 := HO.out.r.tops b h2
        omega) hga hat hown HC4.out HG4.out (Nat.le_refl _) hgl hs4)
      clear hot hc4 hg4 hown hga hat
      unfold It.val
      go_wp2_with (first | (at_builtin; refine Go.Lib.wpList_append_run_sl _ (by rfl) (.tmp 23) (.tmp 28) 24 (by rfl) _ _ (by rfl) (by rfl) hr ?_) | fail)
      refine (below_any 2 (by omega) _ g a len cap hlen HF.out.2.1 B hB (HR.out.below (grown_below HF.out.2.2 hB (by omega)))).mono ?_
      rintro e w6 ⟨u, rfl, hu, hc6, hg6⟩
      obtain ⟨u0, u1⟩ := hu.2 (by omega)
      have HC6 := Lib.hid hc6
      have HG6 := Lib.hid (grown_trans HF.out.2.2 hg6)
      have HO6 : Hid (DrI w6 w.heap.size v' (its ++ [t])) := Lib.hid (HF.out.1.blocks fun b h1 h2 => hg6.block b h2 (fun e => by have := Option.some.inj e; omega))
      have hw2 : IntKind.i64.wrap (d + 1) = d + 1 := IntWalk.i64_in _ ⟨by omega, by omega⟩
      have hw3 : IntKind.i64.wrap (d + 1 + u) = d + 1 + u := IntWalk.i64_in _ ⟨by omega, by omega⟩
      have hw4 : IntKind.i64.wrap (m - 1) = m - 1 := IntWalk.i64_in _ ⟨by omega, by omega⟩
      clear hu hc6 hg6 hr
      go_wp2
      go_roundw
      case rel => exact ⟨its ++ [t], _, d + 1 + u, m - 1, rfl, by first | rfl | go_num, by first | rfl | go_num, by omega, by rw [List.length_append]; simp; omega, by omega, by rw [List.length_append]; simp; omega, HO6.out, HC6.out, HG6.out⟩
      case measure => simp [intOf]; omega
    · have hd : decide (m > 0) = false := by simp; omega
      have hF : OutIs most w g a len cap (.returned v) wr := ⟨v, its, rfl, HO.out, by omega, HC.out, HG.out⟩
      have HF := Lib.hid hF
      have hm' : m = 0 := by omega
      subst hm'
      clear hF
      go_wp2
      go_ret
      exact HF.out
set_option maxRecDepth 20000 in
set_option maxHeartbeats 1600000 in
theorem any_items (w : World) (g : Nat) (a : Option Addr) (len cap : Nat) (hlen : len ≤ 1048576) (hc : Cur w g a len cap) (B : Nat) (hB : B ≤ g) (hrow : Row w B a len) :
    Calls Try.prog 72 #[.pointer (some ⟨g, 0, none⟩)] w (OutIs 8 w g a len cap) := by
  have hgl := hc.lt
  have HR := Lib.hid hrow
  have HI : Hid (Calls Try.prog 71 #[.pointer (some ⟨g, 0, none⟩), .int .i64 7] w (OutIs 7 w g a len cap)) := Lib.hid (items_any 7 (by decide) w g a len cap hlen hc B hB hrow)
  clear hc hrow
  go_enter Try.func72, Try.ntmps72
  go_wp2_with fail
  refine HI.out.mono ?_
  rintro e w1 ⟨v, its, rfl, ho, l1, hc1, hg1⟩
  have HO := Lib.hid ho
  have HC1 := Lib.hid hc1
  have HG1 := Lib.hid hg1
  have hs1 : w.heap.size ≤ w1.heap.size := hg1.size
  clear ho hc1 hg1 HI
  go_wp2_with fail
  refine (once_any 8 (by omega) _ g a len cap hlen HC1.out B hB (HR.out.below (grown_below HG1.out hB (by omega)))).mono ?_
  rintro e w2 ⟨q, rfl, hc2, hg2⟩
  have HC2 := Lib.hid hc2
  have HG2 := Lib.hid (grown_trans HG1.out hg2)
  have HO2 : Hid (DrI w2 w.heap.size v its) := Lib.hid (HO.out.blocks fun b h1 h2 => hg2.block b h2 (fun e => by have := Option.some.inj e; omega))
  have hs2 : w.heap.size ≤ w2.heap.size := HG2.out.size
  clear hc2 hg2
  cases q
  · have HF : Hid (OutIs 8 w g a len cap (.returned v) w2) := Lib.hid ⟨v, its, rfl, HO2.out, by omega, HC2.out, HG2.out⟩
    go_wp2
    go_ret
    exact HF.out
  · go_wp2_with fail
    refine (any_item _ g a len cap hlen HC2.out B hB (HR.out.below (grown_below HG2.out hB (by omega)))).mono ?_
    rintro e w3 ⟨t, rfl, hot, t3, t4, hc3, hg3⟩
    have HC3 := Lib.hid hc3
    have HG3 := Lib.hid (grown_trans HG2.out hg3)
    have HO3 : Hid (DrI w3 w.heap.size v its) := Lib.hid (HO2.out.blocks fun b h1 h2 => hg3.block b h2 (fun e => by have := Option.some.inj e; omega))
    have hs3 : w.heap.size ≤ w3.heap.size := HG3.out.size
    have HT : Hid (OwnI w3 w2.heap.size (.slice t.A t.n t.c) t.xs ∧ t.xs.length ≤ 4) := Lib.hid ⟨hot, t4⟩
    obtain ⟨v', w5, hr, hown, hga, hat⟩ := run_oneG itemCells_len itemCells_one (ty := 24) (c := 1) Try.underlying24 info_itemD rfl (by decide) (by decide) t (cs := #[.int .i64 t.id, .slice t.A t.n t.c]) rfl HO3.out.r rfl (by omega) hs3
    have HA := Lib.hid (dri_app HO3.out ⟨ownI_lowD HT.out.1 hs2, HT.out.2⟩ (fun b h1 h2 => by
      have q1 := ownI_lows HT.out.1 b h1
      have q2 := HO2.out.r.tops b h2
      omega) hga hat hown HC3.out HG3.out (Nat.le_refl _) hgl hs3)
    have HF : Hid (OutIs 8 w g a len cap (.returned v') w5) := Lib.hid ⟨v', _, rfl, HA.out.1, by rw [List.length_append]; simp; omega, HA.out.2.1, HA.out.2.2⟩
    clear hot hc3 hg3 hown hga hat
    unfold It.val
    go_wp2_with (at_builtin; refine Go.Lib.wpList_append_run_sl _ (by rfl) (.tmp 8) (.tmp 11) 24 (by rfl) _ _ (by rfl) (by rfl) hr ?_)
    clear hr
    go_wp2
    go_ret
    exact HF.out
theorem DrI.read {w : World} {B : Nat} {v : Value} {its : List It} (h : DrI w B v its) (h8 : its.length ≤ 8) : ∃ A n c, v = .slice A n c ∧ Items w w.heap.size A n its ∧ (∀ t ∈ its, t.n ≤ 1048576) ∧ n ≤ c ∧ c ≤ maxLen ∧ n ≤ 8 := by
  obtain ⟨A, c, rfl, h1, h2⟩ := h.r.shape
  exact ⟨A, _, c, rfl, h.items.1, h.items.2, h1, h2, h8⟩
end Go.Proofs.Ytceiocdemhkcdaa.num
