/- For every item, where the library's three tables start as the program's text lays them (the card ties that), the law of FormatItem returns true: the program and the model answer the same; what came in reads as it did. -/
import Derived.Test.YtghekfigfjhkeaaDoorCards
import Derived.Test.YtghekfigfjhkeaaDoorTie
import Derived.Test.YtghekfigfjhkeaaDoorItemOpen
import Derived.Test.YtghekfigfjhkeaaDoorItemFmt
import Derived.WalkKit
import Derived.ProofKit
import Derived.OpenShut
import Derived.ShutString
import Derived.Below
import Derived.ChangeOld
import Derived.Deep.DeepHandedRow
import Derived.Lib.LaidTab
import Derived.Stop.LaidErr
namespace Go.Proofs.YtghekfigfjhkeaaDoor.fnExactFormatItem
open Go.ChangeShapes Go.WideShapes Go.ChangeAt Go.RowKit
open Go.ChangeMaps (open_string shut_string)
open Go.Proofs.YtghekfigfjhkeaaDoor.num
set_option linter.unusedVariables false
set_option linter.unusedSimpArgs false

theorem own : ownKnob Tryd.prog.godebug = none := by kernel_rfl
theorem gPowType : (Tryd.prog.globals[3]?).map (·.type) = some 166 := by kernel_rfl
theorem cellsTab : Tryd.prog.cellsOf 166 = 20 := by kernel_rfl
theorem cellsU64 : Tryd.prog.cellsOf 155 = 1 := by kernel_rfl

/-- What the row's list gives: the table of powers of ten. -/
theorem table {W : World} (h : laidMetH Tryd.prog Rows.fnExactFormatItemRow.laid W) : Pow W :=
  Lib.tabIs_of_head (zs := Lib.pow10Tab) (rest := []) gPow gPowType Tryd.underlying166 Tryd.underlying155 cellsU64 cellsTab (show laidMet Tryd.prog (Rows.fnExactFormatItemRow.laid.tail.tail) W from (laidMet.tail (laidMet.tail h)))

theorem walk (t0 : It) (w : World) (n0 : t0.n ≤ 9223372036854775807) (w0 : Ints w w.heap.size t0.A t0.n t0.xs) (hpow : Pow w) :
    Calls Tryd.prog 4 #[t0.val] w fun e w' => e = .returned (.bool true) ∧ Below w.heap.size w w' := by
  obtain ⟨id, A, n, c, xs⟩ := t0
  unfold It.val
  simp only [] at n0 w0
  have HW0 := Lib.hid w0
  have HN0 := Lib.hid n0
  clear w0 n0
  by_cases hle : n ≤ 1048576
  · have hn := Lib.hid hle
    have HPw := Lib.hid hpow
    clear hpow
    go_enter Tryd.func4, Tryd.ntmps4
    go_wp2_with fail
    refine (szItem_yes ⟨id, A, n, c, xs⟩ 1048576 HN0.out (by show (n : Int) ≤ 1048576; have := hn.out; omega) (by decide) _).mono ?_
    rintro e w1 ⟨rfl, hb1⟩
    have HZ := Lib.hid (((Below.refl w.heap.size w).alloc (Nat.le_refl _) (.cells #[.int .i64 id, .slice A n c] 31)).trans (hb1.mono (by simp)))
    have hg : Hid (w.heap.size < w1.heap.size) := Lib.hid (by have := hb1.size; simp at this; omega)
    have Q1 : Hid (w1.cell? ⟨w.heap.size, 0, none⟩ = some (.int .i64 id) ∧ w1.cell? ⟨w.heap.size, 1, none⟩ = some (.slice A n c)) := Lib.hid ⟨(hb1.cell (p := ⟨w.heap.size, 0, none⟩) (by simp)).trans (World.cell?_alloc_at _ _ _ _ rfl), (hb1.cell (p := ⟨w.heap.size, 1, none⟩) (by simp)).trans (World.cell?_alloc_at _ _ _ _ rfl)⟩
    have HW1 := Lib.hid ((HW0.out.below HZ.out).more HZ.out.size)
    have HB1 := Lib.hid (Below.refl w1.heap.size w1)
    clear hb1 hle
    have hge : ¬ ((1048576 : Int) - (n : Int) < 0) := by have := hn.out; omega
    have q0 := Q1.out.1
    have q1 := Q1.out.2
    go_wp2_with fail
    refine (toItem_c w1 w1.heap.size ⟨id, A, n, c, xs⟩ (HW1.out.below HB1.out) HB1.out.size hn.out).mono ?_
    rintro e w2 ⟨bp, rfl, _, hr, hb2⟩
    have HB2 := Lib.hid (HB1.out.trans (hb2.mono HB1.out.size))
    have Rp := Lib.hid hr
    clear hr
    clear hb2 q0 q1
    have q0 := (HB2.out.cell (p := ⟨w.heap.size, 0, none⟩) hg.out).trans Q1.out.1
    have q1 := (HB2.out.cell (p := ⟨w.heap.size, 1, none⟩) hg.out).trans Q1.out.2
    go_wp2_with fail
    refine (sFmt w2 w2.heap.size ⟨id, some ⟨bp, 0, none⟩, n, n, xs⟩ (ints_row HW1.out Rp.out) (Nat.le_refl _) hn.out).mono ?_
    rintro e w3 ⟨rfl, hb3⟩
    have HB3 := Lib.hid (HB2.out.trans (hb3.mono HB2.out.size))
    clear hb3 q0 q1
    have q0 := (HB3.out.cell (p := ⟨w.heap.size, 0, none⟩) hg.out).trans Q1.out.1
    have q1 := (HB3.out.cell (p := ⟨w.heap.size, 1, none⟩) hg.out).trans Q1.out.2
    go_wp2_with fail
    refine (toItem_c w3 w1.heap.size ⟨id, A, n, c, xs⟩ (HW1.out.below HB3.out) HB3.out.size hn.out).mono ?_
    rintro e w4 ⟨bx, rfl, _, hr, hb4⟩
    have HB4 := Lib.hid (HB3.out.trans (hb4.mono HB3.out.size))
    have Rx := Lib.hid hr
    clear hr
    clear hb4 q0 q1
    have q0 := (HB4.out.cell (p := ⟨w.heap.size, 0, none⟩) hg.out).trans Q1.out.1
    have q1 := (HB4.out.cell (p := ⟨w.heap.size, 1, none⟩) hg.out).trans Q1.out.2
    unfold It.val
    go_wp2_with fail
    refine (iFmt _ w4.heap.size ⟨id, some ⟨bx, 0, none⟩, n, n, xs⟩ ((ints_row HW1.out Rx.out).below ((Below.refl _ w4).alloc (Nat.le_refl _) _)) (by simp) (HPw.out.below (HZ.out.trans ((HB4.out.alloc HB4.out.size _).mono HZ.out.size)))).mono ?_
    rintro e w5 ⟨rfl, hx5⟩
    have hb5 := ((Below.refl w4.heap.size w4).alloc (Nat.le_refl _) (.cells #[.int .i64 id, .slice (some ⟨bx, 0, none⟩) n n] 34)).trans (hx5.mono (by simp))
    have HB5 := Lib.hid (HB4.out.trans (hb5.mono HB4.out.size))
    have X5 : Hid (w4.heap.size < w5.heap.size ∧ w5.cell? ⟨w4.heap.size, 0, none⟩ = some (.int .i64 id) ∧ w5.cell? ⟨w4.heap.size, 1, none⟩ = some (.slice (some ⟨bx, 0, none⟩) n n)) := Lib.hid ⟨by have := hx5.size; simp at this; omega, (hx5.cell (p := ⟨w4.heap.size, 0, none⟩) (by simp)).trans (World.cell?_alloc_at _ _ _ _ rfl), (hx5.cell (p := ⟨w4.heap.size, 1, none⟩) (by simp)).trans (World.cell?_alloc_at _ _ _ _ rfl)⟩
    have Ry := Lib.hid (Rx.out.below hb5 Rx.out.lt)
    clear hb5 hx5 q0 q1
    have q0 := (HB5.out.cell (p := ⟨w.heap.size, 0, none⟩) hg.out).trans Q1.out.1
    have q1 := (HB5.out.cell (p := ⟨w.heap.size, 1, none⟩) hg.out).trans Q1.out.2
    have x0 := X5.out.2.1
    have x1 := X5.out.2.2
    simp only [It.dat]
    go_wp2
    have hql : w.heap.size < w5.heap.size := Nat.lt_of_lt_of_le hg.out HB5.out.size
    have hxl := X5.out.1
    have hs0 : Below w5.heap.size w5 w5.drew ∧ w5.drew.cell? ⟨w.heap.size, 0, none⟩ = some (.int .i64 id) ∧ w5.drew.cell? ⟨w.heap.size, 1, none⟩ = some (.slice A n c) ∧ w5.drew.cell? ⟨w4.heap.size, 0, none⟩ = some (.int .i64 id) ∧ w5.drew.cell? ⟨w4.heap.size, 1, none⟩ = some (.slice (some ⟨bx, 0, none⟩) n n) := ⟨(Below.refl _ _).drew, q0, q1, x0, x1⟩
    refine wp_region_held (S := fun w' => Below w5.heap.size w5 w' ∧ w'.cell? ⟨w.heap.size, 0, none⟩ = some (.int .i64 id) ∧ w'.cell? ⟨w.heap.size, 1, none⟩ = some (.slice A n c) ∧ w'.cell? ⟨w4.heap.size, 0, none⟩ = some (.int .i64 id) ∧ w'.cell? ⟨w4.heap.size, 1, none⟩ = some (.slice (some ⟨bx, 0, none⟩) n n)) (by kernel_rfl) ?_
    change wpAnyH _ _ _ _ _ _ _ _ (World.drew _)
    refine takeY 22 (i := 0) (v := ?v0b) rfl rfl (by kernel_rfl) (by kernel_rfl) (by kernel_rfl) (fun _ _ _ h => h) (by kernel_rfl) ?y0b hs0 ?_
    case y0b =>
      intro w' hw'; (try dsimp only at hw'); obtain ⟨e0, e1, e2, e3, e4⟩ := hw'; go_simp; try with_reducible rfl
    simp only [Act.put, List.setIfInBounds_toArray, List.set_cons_zero, List.set_cons_succ]
    refine takeY 23 (i := 1) (v := ?v1b) rfl rfl (by kernel_rfl) (by kernel_rfl) (by kernel_rfl) (fun _ _ _ h => h) (by kernel_rfl) ?y1b hs0 ?_
    case y1b =>
      intro w' hw'; (try dsimp only at hw'); obtain ⟨e0, e1, e2, e3, e4⟩ := hw'; go_simp; try with_reducible rfl
    simp only [Act.put, List.setIfInBounds_toArray, List.set_cons_zero, List.set_cons_succ]
    refine wpAnyH_ready (rs := [2]) (by kernel_rfl) (by simp) ?_
    refine AllReadyH.cons rfl (fun K hK => ?_) AllReadyH.nil
    go_simp; go_at_call 14; refine (toItem_c _ w1.heap.size ⟨id, A, n, c, xs⟩ (HW1.out.below HB5.out.drew) HB5.out.size hn.out).mono ?_; rintro e wy ⟨bz, rfl, _, hr, hy⟩; replace hy := (Below.refl w5.heap.size w5).drew.trans (hy.mono (Nat.le_refl _)); have Rz := Lib.hid hr; have Rv := Lib.hid (Ry.out.below hy Ry.out.lt); clear hr
    refine hK.out _ _ ⟨hy, (hy.cell (p := ⟨w.heap.size, 0, none⟩) hql).trans q0, (hy.cell (p := ⟨w.heap.size, 1, none⟩) hql).trans q1, (hy.cell (p := ⟨w4.heap.size, 0, none⟩) hxl).trans x0, (hy.cell (p := ⟨w4.heap.size, 1, none⟩) hxl).trans x1⟩ (fun hS1 => ?_)
    clear hK K
    try simp only [Act.put, List.setIfInBounds_toArray, List.set_cons_zero, List.set_cons_succ]
    refine wpAnyH_ready (rs := [3]) (by kernel_rfl) (by simp) ?_
    refine AllReadyH.cons rfl (fun K hK => ?_) AllReadyH.nil
    go_simp; go_at_call 16; refine (eqItem_c _ wy.heap.size ⟨id, some ⟨bx, 0, none⟩, n, n, xs⟩ ⟨id, some ⟨bz, 0, none⟩, n, n, xs⟩ (ints_row HW1.out Rv.out) (ints_row HW1.out Rz.out) (Nat.le_refl _) hn.out true (by simp [It.dat])).mono ?_; rintro e wz ⟨rfl, hz⟩; replace hz := hy.trans (hz.mono hy.size)
    refine hK.out _ _ ⟨hz, (hz.cell (p := ⟨w.heap.size, 0, none⟩) hql).trans q0, (hz.cell (p := ⟨w.heap.size, 1, none⟩) hql).trans q1, (hz.cell (p := ⟨w4.heap.size, 0, none⟩) hxl).trans x0, (hz.cell (p := ⟨w4.heap.size, 1, none⟩) hxl).trans x1⟩ (fun hS2 => ?_)
    clear hK K
    try simp only [Act.put, List.setIfInBounds_toArray, List.set_cons_zero, List.set_cons_succ]
    refine takeY 26 (i := 4) (v := ?v4b) rfl rfl (by kernel_rfl) (by kernel_rfl) (by kernel_rfl) (fun _ _ _ h => h) (by kernel_rfl) ?y4b hS2 ?_
    case y4b =>
      intro w' hw'; (try dsimp only at hw'); obtain ⟨e0, e1, e2, e3, e4⟩ := hw'; go_simp; try with_reducible rfl
    simp only [Act.put, List.setIfInBounds_toArray, List.set_cons_zero, List.set_cons_succ]
    refine wpAnyH_done (by kernel_rfl) ?_ _
    have HB6 := Lib.hid (HB5.out.trans (hz.mono HB5.out.size))
    clear hz hy q0 q1 x0 x1 hs0
    go_wp2
    go_ret
    exact ⟨rfl, HZ.out.trans (HB6.out.mono HZ.out.size)⟩
  · go_enter Tryd.func4, Tryd.ntmps4
    go_wp2_with fail
    refine (szItem_no ⟨id, A, n, c, xs⟩ 1048576 HN0.out (by show (1048576 : Int) < n; omega) (by decide) _).mono ?_
    rintro e w1 ⟨rfl, hb1⟩
    have HZ := Lib.hid (((Below.refl w.heap.size w).alloc (Nat.le_refl _) (.cells #[.int .i64 id, .slice A n c] 31)).trans (hb1.mono (by simp)))
    clear hb1
    go_wp2
    go_ret
    exact ⟨rfl, HZ.out⟩

set_option maxRecDepth 100000 in
theorem contract (H : Type) (enc : TypeId × Value → H) (W : World) (base : Nat) (args : Array Value) (ds gs : List (DataW H)) (before : List MemPlace)
    (hval : ∀ (j : Nat) t v, Tryd.f4.params[j]? = some t → args[j]? = some v → Value.okWide Tryd.prog W .any base t v)
    (hW : DataW.Whole enc Tryd.prog Tryd.f4.params.toList Rows.fnExactFormatItemSpec.vars false W args.toList ds gs before) (hL : laidMetH Tryd.prog Rows.fnExactFormatItemRow.laid W) :
    Calls Tryd.prog 4 args W fun e W' => ∃ v, e = .returned v ∧ Rows.fnExactFormatItemSpec.post enc Tryd.prog Tryd.f4 false true false false W args v W' := by
  have hW' := hW
  obtain ⟨p, q, hA0, hV, rfl, hfz, hnd⟩ := hW
  have hA : DataW.TrodAll enc Tryd.prog W 0 (fun _ => true) true Tryd.f4.params.toList args.toList ds p := hA0
  rw [Tryd.params4] at hA hval
  obtain ⟨v0, vs0, d0, ds0, p0, q0, hargs, rfl, rfl, h0, r0⟩ := trodAll_cons hA
  obtain ⟨rfl, rfl, rfl⟩ := trodAll_nil r0
  obtain rfl : args = #[v0] := by cases args; simp_all
  obtain ⟨rfl, rfl⟩ := trodVars_none hV
  have lt0 : ∀ x ∈ p0, x.block < W.heap.size := by obtain ⟨m, hm⟩ := h0; exact DataW.trod_lt m _ _ _ hm
  obtain ⟨t0, rfl, n0, w0⟩ := open_item (hval 0 31 v0 rfl rfl) h0
  clear hA0
  refine (walk t0 W n0 w0 (table hL)).mono fun e W' ⟨he, hb⟩ => ?_
  subst he
  exact ⟨_, rfl, _, _, _, [], _, [], hW', trodAll_mk1 (shut_bool Tryd.underlying4 _), (trodAll_cons_mk (Below.trod laidOut (by kernel_rfl) (of_decide_eq_true (by kernel_rfl)) h0 hb lt0) trodAll_mk0), rfl, hb.frame _, fun h => by cases h⟩

def lay (a : Array Value) : Obj → Obj
  | .cells _ t frozen => .cells a t frozen
  | o => o
/-- A world for the witness: the settled one, the three tables holding what their initialisers lay. -/
noncomputable def laidWorld (os : Os) : World :=
  { World.holding Tryd.prog os ⟨#[], #[], []⟩ with heap := (((World.holding Tryd.prog os ⟨#[], #[], []⟩).heap.modify 6 (lay #[.int .u8 0, .int .u8 1, .int .u8 28, .int .u8 2, .int .u8 29, .int .u8 14, .int .u8 24, .int .u8 3, .int .u8 30, .int .u8 22, .int .u8 20, .int .u8 15, .int .u8 25, .int .u8 17, .int .u8 4, .int .u8 8, .int .u8 31, .int .u8 27, .int .u8 13, .int .u8 23, .int .u8 21, .int .u8 19, .int .u8 16, .int .u8 7, .int .u8 26, .int .u8 12, .int .u8 18, .int .u8 6, .int .u8 11, .int .u8 5, .int .u8 10, .int .u8 9])).modify 7 (lay #[.int .u8 0, .int .u8 1, .int .u8 56, .int .u8 2, .int .u8 57, .int .u8 49, .int .u8 28, .int .u8 3, .int .u8 61, .int .u8 58, .int .u8 42, .int .u8 50, .int .u8 38, .int .u8 29, .int .u8 17, .int .u8 4, .int .u8 62, .int .u8 47, .int .u8 59, .int .u8 36, .int .u8 45, .int .u8 43, .int .u8 51, .int .u8 22, .int .u8 53, .int .u8 39, .int .u8 33, .int .u8 30, .int .u8 24, .int .u8 18, .int .u8 12, .int .u8 5, .int .u8 63, .int .u8 55, .int .u8 48, .int .u8 27, .int .u8 60, .int .u8 41, .int .u8 37, .int .u8 16, .int .u8 46, .int .u8 35, .int .u8 44, .int .u8 21, .int .u8 52, .int .u8 32, .int .u8 23, .int .u8 11, .int .u8 54, .int .u8 26, .int .u8 40, .int .u8 15, .int .u8 34, .int .u8 20, .int .u8 31, .int .u8 10, .int .u8 25, .int .u8 14, .int .u8 19, .int .u8 9, .int .u8 13, .int .u8 8, .int .u8 7, .int .u8 6])).modify 3 (lay #[.int .u64 1, .int .u64 10, .int .u64 100, .int .u64 1000, .int .u64 10000, .int .u64 100000, .int .u64 1000000, .int .u64 10000000, .int .u64 100000000, .int .u64 1000000000, .int .u64 10000000000, .int .u64 100000000000, .int .u64 1000000000000, .int .u64 10000000000000, .int .u64 100000000000000, .int .u64 1000000000000000, .int .u64 10000000000000000, .int .u64 100000000000000000, .int .u64 1000000000000000000, .int .u64 10000000000000000000]) }
set_option maxRecDepth 100000 in
theorem laid_met (os : Os) : laidMet Tryd.prog Rows.fnExactFormatItemRow.laid ((laidWorld os).forCall (fun _ _ => 0) ⟨#[], #[.agg #[.int .i64 0, .slice none 0 0]], []⟩).memory :=
  laidMet_of_run' 8 (by kernel_rfl) (by kernel_rfl)
theorem reads (os : Os) {H : Type} (enc : TypeId × Value → H) : ∃ places, DataW.whole enc Tryd.prog ((laidWorld os).forCall (fun _ _ => 0) ⟨#[], #[.agg #[.int .i64 0, .slice none 0 0]], []⟩).memory Tryd.f4.params.toList Rows.fnExactFormatItemSpec.vars false (#[.agg #[.int .i64 0, .slice none 0 0]] : Array Value).toList 8 = some ([.agg [.lit (.int .i64 0), .nil]], [], places) :=
  ⟨[], by kernel_rfl⟩

set_option maxRecDepth 100000 in
theorem lifted (os : Os) (started : os.Started) (H : Type) (enc : TypeId × Value → H) (F : Stop.Interp) :
    ReturnsInHanded {} Tryd.checked os 4 .any ((OpenSpec.ofChange Rows.fnExactFormatItemSpec).preRow enc Tryd.prog Tryd.f4 Rows.fnExactFormatItemRow.domain false Rows.fnExactFormatItemRow.laid) (((OpenSpec.ofChange Rows.fnExactFormatItemSpec).at F).post enc Tryd.prog Tryd.f4 false true false false) := by
  obtain ⟨places, hx⟩ := reads os enc
  refine returnsInHanded_of_row (C := Tryd.checked) (s := OpenSpec.ofChange Rows.fnExactFormatItemSpec) own started (by kernel_rfl) Tryd.func4
    (witness_row_at (enc := enc) (C := Tryd.checked) false (laidWorld os) #[.agg #[.int .i64 0, .slice none 0 0]] rfl (by kernel_rfl) (by kernel_rfl) (by kernel_rfl)
      (OpenSpec.preRow_of_cond 8 hx (by kernel_rfl) (fun k hk => by cases hk) (by kernel_rfl) (laid_met os))) ?_
  intro W base args ds gs before hval hW _ _ _ hL hS _
  exact contract H enc W base args ds gs before hval hW hL

theorem said : Rows.FnExactFormatItemSaid :=
  OpenClaim.holds_of_cond 4 Tryd.f4 rfl rfl rfl rfl rfl rfl rfl ⟨rfl, rfl, rfl, rfl, rfl⟩ rfl rfl rfl rfl rfl (by kernel_rfl) Tryd.func4 (by kernel_rfl)
    (of_decide_eq_true (by kernel_rfl)) (by unfold Func.isWrapper; first | (rw [if_pos (by decide +kernel)]; kernel_rfl) | (rw [if_neg (by decide +kernel)]; exact ⟨rfl, rfl⟩))
    (fun os started H enc _ F => by rw [OpenClaim.pre_eq_preRow]; exact lifted os started H enc F)

theorem plain (f : FuncId) (fn : Func) (hf : Tryd.pinned.checked.prog.funcNamed "loop.example/g01987/laws.FnExactFormatItem" = some f) (hfn : Tryd.pinned.checked.prog.funcs[f]? = some fn) :
    false = Tryd.pinned.checked.prog.looks [] ∧ ∀ (j : Nat) t, fn.params[j]? = some t → Tryd.pinned.checked.prog.wantsStandIn t = false := by
  obtain rfl : f = 4 := Option.some.inj ((show Tryd.prog.funcNamed "loop.example/g01987/laws.FnExactFormatItem" = some 4 by kernel_rfl).symm.trans hf) |>.symm
  obtain rfl : fn = Tryd.f4 := (Option.some.inj (Tryd.func4.symm.trans hfn)).symm
  refine ⟨by kernel_rfl, fun j t ht => ?_⟩
  rw [Tryd.params4] at ht
  obtain rfl : t = 31 := by simpa using Array.mem_of_getElem? ht
  exact (show Tryd.prog.wantsStandIn 31 = false by kernel_rfl)

theorem holds : Rows.FnExactFormatItemCardSaid :=
  Claim7.holds_tied_plain_at .later [] _ _ _ _ said (fun _ h => by cases h) (by kernel_rfl) (fun _ h => by cases h) fnExactFormatItem_row_tie rfl ⟨rfl, rfl⟩ (by kernel_rfl) rfl plain (by kernel_rfl)

#print axioms holds
end Go.Proofs.YtghekfigfjhkeaaDoor.fnExactFormatItem
