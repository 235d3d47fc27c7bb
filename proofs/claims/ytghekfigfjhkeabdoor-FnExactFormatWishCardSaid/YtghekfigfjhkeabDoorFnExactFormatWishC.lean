/- For every wish, where the library's three tables and the program's list of words start as the program's text lays them (the card ties that), the law of FormatWish returns true: the program and the model answer the same; what came in reads as it did. -/
import Derived.Test.YtghekfigfjhkeabDoorCards
import Derived.Test.YtghekfigfjhkeabDoorTie
import Derived.WalkKit
import Derived.ProofKit
import Derived.OpenShut
import Derived.ShutString
import Derived.Below
import Derived.ChangeOld
import Derived.Deep.DeepHandedRow
import Derived.Lib.LaidTab
import Derived.Stop.LaidErr
import Derived.OpenVars
import Derived.ChangeVars
import Derived.Deep.DeepWitnessRowRef
import Derived.Test.YtghekfigfjhkeabDoorFormatWishP1
import Derived.Test.YtghekfigfjhkeabDoorFormatWishP2
import Derived.Test.YtghekfigfjhkeabDoorFormatWishP3
namespace Go.Proofs.YtghekfigfjhkeabDoor.fnExactFormatWish
open Go.ChangeShapes Go.WideShapes Go.ChangeAt Go.RowKit
open Go.ChangeMaps (open_string shut_string)
open Go.Proofs.YtghekfigfjhkeabDoor.num
set_option linter.unusedVariables false
set_option linter.unusedSimpArgs false

theorem own : ownKnob Tryd.prog.godebug = none := by kernel_rfl
theorem gPowType : (Tryd.prog.globals[2]?).map (·.type) = some 129 := by kernel_rfl
theorem cellsTab : Tryd.prog.cellsOf 129 = 20 := by kernel_rfl
theorem cellsU64 : Tryd.prog.cellsOf 120 = 1 := by kernel_rfl

/-- What the row's list gives: the table of powers of ten. -/
theorem table {W : World} (h : laidMetH Tryd.prog Rows.fnExactFormatWishRow.laid W) : Pow W :=
  Lib.tabIs_of_head (zs := Lib.pow10Tab) (rest := _) gPow gPowType Tryd.underlying129 Tryd.underlying120 cellsU64 cellsTab (show laidMet Tryd.prog (Rows.fnExactFormatWishRow.laid.tail.tail) W from (laidMet.tail (laidMet.tail h)))

/-- What the row's list gives: the list of words. -/
theorem words {W : World} (h : laidMetH Tryd.prog Rows.fnExactFormatWishRow.laid W) : Kw W :=
  kw_of (rest := []) (show laidMet Tryd.prog (Rows.fnExactFormatWishRow.laid.tail.tail.tail) W from laidMet.tail (laidMet.tail (laidMet.tail h)))

theorem walk (t0 : Wi) (w : World) (l0 : t0.Ln ≤ 9223372036854775807) (q0 : t0.Pn ≤ 9223372036854775807) (w0 : WiIn w w.heap.size t0) (hpow : Pow w) (hkw : Kw w) :
    Calls Tryd.prog 4 #[t0.val] w fun e w' => e = .returned (.bool true) ∧ Below w.heap.size w w' := by
  have HPw := Lib.hid hpow
  have HKw := Lib.hid hkw
  clear hpow hkw
  have HM0 := Lib.hid (And.intro l0 q0)
  have HW0 := Lib.hid w0
  clear l0 q0 w0
  have hval0 : t0.val = .agg #[.int .i64 t0.kind, .int .i64 t0.field, .int .i64 t0.value, .slice t0.LA t0.Ln t0.Lc, .slice t0.PA t0.Pn t0.Pc] := rfl
  rw [hval0]
  clear hval0
  go_enter Tryd.func4, Tryd.ntmps4
  go_wp2_with fail
  refine (szWish_c t0 1048576 HM0.out.1 HM0.out.2 (by decide) (by decide) _).mono ?_
  rintro e w1 ⟨⟨r0, rfl, hr0⟩, hb1⟩
  have HB1 := Lib.hid (below_on ((Below.refl w.heap.size w).alloc (Nat.le_refl _) (.cells #[.int .i64 t0.kind, .int .i64 t0.field, .int .i64 t0.value, .slice t0.LA t0.Ln t0.Lc, .slice t0.PA t0.Pn t0.Pc] 31)) hb1)
  have Xa_1 := Lib.hid ((Box5.new w t0 31).below hb1)
  clear hb1
  rcases hr0 with rfl | ⟨hr1, hr2, hr3, hr4⟩
  · go_wp2
    go_ret
    exact ⟨rfl, HB1.out⟩
  have HS0 : Hid t0.Short := Lib.hid ⟨by omega, by omega⟩
  clear hr3 hr4
  obtain ⟨q, hq⟩ := bool_of (IsW t0.dat)
  have HQ := Lib.hid hq
  clear hq
  obtain ⟨a_g, a_0, a_1, a_2, a_3, a_4⟩ := Xa_1.out
  go_wp2_with fail
  refine (toWish_w w1 w.heap.size t0 (HW0.out.below HB1.out) HB1.out.size HS0.out).mono ?_
  rintro e w2 ⟨tp, rfl, hc, hb2⟩
  have HB2 := Lib.hid (below_on HB1.out hb2)
  have Xa_2 := Lib.hid (Xa_1.out.below hb2)
  have Cp_2 := Lib.hid hc
  clear hc
  unfold Wi.val
  clear a_g a_0 a_1 a_2 a_3 a_4
  clear hb2
  obtain ⟨a_g, a_0, a_1, a_2, a_3, a_4⟩ := Xa_2.out
  go_wp2_with fail
  refine (sFmtW w2 _ tp Cp_2.out.at' (Nat.le_refl _) Cp_2.out.short q (by rw [Cp_2.out.dat]; exact HQ.out)).mono ?_
  rintro e w3 ⟨rfl, hb3⟩
  have HB3 := Lib.hid (below_on HB2.out hb3)
  have Xa_3 := Lib.hid (Xa_2.out.below hb3)
  have Cp_3 := Lib.hid (Cp_2.out.step hb3)
  rw [Cp_3.out.dat]
  clear a_g a_0 a_1 a_2 a_3 a_4
  clear hb3
  obtain ⟨a_g, a_0, a_1, a_2, a_3, a_4⟩ := Xa_3.out
  go_wp2_with fail
  refine (toWish_w w3 w.heap.size t0 (HW0.out.below HB3.out) HB3.out.size HS0.out).mono ?_
  rintro e w4 ⟨tx, rfl, hc, hb4⟩
  have HB4 := Lib.hid (below_on HB3.out hb4)
  have Xa_4 := Lib.hid (Xa_3.out.below hb4)
  have Cx_4 := Lib.hid hc
  clear hc
  unfold Wi.val
  clear a_g a_0 a_1 a_2 a_3 a_4
  clear hb4
  obtain ⟨a_g, a_0, a_1, a_2, a_3, a_4⟩ := Xa_4.out
  go_wp2_with fail
  refine (iFmtW _ _ tx (Cx_4.out.step ((Below.refl _ w4).alloc (Nat.le_refl _) _)).at' (Nat.le_refl _) Cx_4.out.short q (by rw [Cx_4.out.dat]; exact HQ.out) (HPw.out.below (HB4.out.alloc HB4.out.size _)) (HKw.out.below (HB4.out.alloc HB4.out.size _))).mono ?_
  rintro e w5 ⟨rfl, hx5⟩
  have hb5 : Below w4.heap.size w4 w5 := below_on ((Below.refl _ w4).alloc (Nat.le_refl _) (.cells #[.int .i64 tx.kind, .int .i64 tx.field, .int .i64 tx.value, .slice tx.LA tx.Ln tx.Lc, .slice tx.PA tx.Pn tx.Pc] 35)) hx5
  have Xx_5 := Lib.hid ((Box5.new w4 tx 35).below hx5)
  have HB5 := Lib.hid (below_on HB4.out hb5)
  have Xa_5 := Lib.hid (Xa_4.out.below hb5)
  have Cx_5 := Lib.hid (Cx_4.out.step hb5)
  rw [Cx_5.out.dat]
  clear a_g a_0 a_1 a_2 a_3 a_4
  clear hb5 hx5
  generalize fmtW t0.dat q = s
  obtain ⟨a_g, a_0, a_1, a_2, a_3, a_4⟩ := Xa_5.out
  obtain ⟨x_g, x_0, x_1, x_2, x_3, x_4⟩ := Xx_5.out
  go_wp2
  have hs0 : (fun w' => Below w5.heap.size w5 w' ∧ w'.cell? ⟨w.heap.size, 0, none⟩ = some (.int .i64 t0.kind) ∧ w'.cell? ⟨w.heap.size, 1, none⟩ = some (.int .i64 t0.field) ∧ w'.cell? ⟨w.heap.size, 2, none⟩ = some (.int .i64 t0.value) ∧ w'.cell? ⟨w.heap.size, 3, none⟩ = some (.slice t0.LA t0.Ln t0.Lc) ∧ w'.cell? ⟨w.heap.size, 4, none⟩ = some (.slice t0.PA t0.Pn t0.Pc) ∧ w'.cell? ⟨w4.heap.size, 0, none⟩ = some (.int .i64 tx.kind) ∧ w'.cell? ⟨w4.heap.size, 1, none⟩ = some (.int .i64 tx.field) ∧ w'.cell? ⟨w4.heap.size, 2, none⟩ = some (.int .i64 tx.value) ∧ w'.cell? ⟨w4.heap.size, 3, none⟩ = some (.slice tx.LA tx.Ln tx.Lc) ∧ w'.cell? ⟨w4.heap.size, 4, none⟩ = some (.slice tx.PA tx.Pn tx.Pc)) w5.drew := ⟨(Below.refl _ _).drew, a_0, a_1, a_2, a_3, a_4, x_0, x_1, x_2, x_3, x_4⟩
  refine wp_region_held (S := fun w' => Below w5.heap.size w5 w' ∧ w'.cell? ⟨w.heap.size, 0, none⟩ = some (.int .i64 t0.kind) ∧ w'.cell? ⟨w.heap.size, 1, none⟩ = some (.int .i64 t0.field) ∧ w'.cell? ⟨w.heap.size, 2, none⟩ = some (.int .i64 t0.value) ∧ w'.cell? ⟨w.heap.size, 3, none⟩ = some (.slice t0.LA t0.Ln t0.Lc) ∧ w'.cell? ⟨w.heap.size, 4, none⟩ = some (.slice t0.PA t0.Pn t0.Pc) ∧ w'.cell? ⟨w4.heap.size, 0, none⟩ = some (.int .i64 tx.kind) ∧ w'.cell? ⟨w4.heap.size, 1, none⟩ = some (.int .i64 tx.field) ∧ w'.cell? ⟨w4.heap.size, 2, none⟩ = some (.int .i64 tx.value) ∧ w'.cell? ⟨w4.heap.size, 3, none⟩ = some (.slice tx.LA tx.Ln tx.Lc) ∧ w'.cell? ⟨w4.heap.size, 4, none⟩ = some (.slice tx.PA tx.Pn tx.Pc)) (by kernel_rfl) ?_
  change wpAnyH _ _ _ _ _ _ _ _ (World.drew _)
  refine takeY 22 (i := 0) (v := ?v0h) rfl rfl (by kernel_rfl) (by kernel_rfl) (by kernel_rfl) (fun _ _ _ h => h) (by kernel_rfl) ?y0h hs0 ?_
  case y0h =>
    intro w' hw'; (try dsimp only at hw'); obtain ⟨e0, e1, e2, e3, e4, e5, e6, e7, e8, e9, e10⟩ := hw'; go_simp; try with_reducible rfl
  simp only [Act.put, List.setIfInBounds_toArray, List.set_cons_zero, List.set_cons_succ]
  refine takeY 23 (i := 1) (v := ?v1h) rfl rfl (by kernel_rfl) (by kernel_rfl) (by kernel_rfl) (fun _ _ _ h => h) (by kernel_rfl) ?y1h hs0 ?_
  case y1h =>
    intro w' hw'; (try dsimp only at hw'); obtain ⟨e0, e1, e2, e3, e4, e5, e6, e7, e8, e9, e10⟩ := hw'; go_simp; try with_reducible rfl
  simp only [Act.put, List.setIfInBounds_toArray, List.set_cons_zero, List.set_cons_succ]
  refine wpAnyH_ready (rs := [2]) (by kernel_rfl) (by simp) ?_
  refine AllReadyH.cons rfl (fun K hK => ?_) AllReadyH.nil
  go_simp; go_at_call 12; refine (toWish_w _ w.heap.size t0 (HW0.out.below HB5.out.drew) HB5.out.size HS0.out).mono ?_; rintro e w6 ⟨tz6, rfl, hc, hy⟩; replace hy := (Below.refl w5.heap.size w5).drew.trans (hy.mono (Nat.le_refl _)); have HCz := Lib.hid hc; have HCx := Lib.hid (Cx_5.out.step hy); clear hc; unfold Wi.val
  refine hK.out _ _ ⟨hy, (hy.cell (p := ⟨w.heap.size, 0, none⟩) a_g).trans a_0, (hy.cell (p := ⟨w.heap.size, 1, none⟩) a_g).trans a_1, (hy.cell (p := ⟨w.heap.size, 2, none⟩) a_g).trans a_2, (hy.cell (p := ⟨w.heap.size, 3, none⟩) a_g).trans a_3, (hy.cell (p := ⟨w.heap.size, 4, none⟩) a_g).trans a_4, (hy.cell (p := ⟨w4.heap.size, 0, none⟩) x_g).trans x_0, (hy.cell (p := ⟨w4.heap.size, 1, none⟩) x_g).trans x_1, (hy.cell (p := ⟨w4.heap.size, 2, none⟩) x_g).trans x_2, (hy.cell (p := ⟨w4.heap.size, 3, none⟩) x_g).trans x_3, (hy.cell (p := ⟨w4.heap.size, 4, none⟩) x_g).trans x_4⟩ (fun hS1 => ?_)
  clear hK K
  try simp only [Act.put, List.setIfInBounds_toArray, List.set_cons_zero, List.set_cons_succ]
  refine wpAnyH_ready (rs := [3]) (by kernel_rfl) (by simp) ?_
  refine AllReadyH.cons rfl (fun K hK => ?_) AllReadyH.nil
  go_simp; go_at_call 14; refine (eqWish_w _ t0 tx tz6 HCx.out HCz.out).mono ?_; rintro e w7 ⟨rfl, hz⟩; replace hz := below_on hy hz
  refine hK.out _ _ ⟨hz, (hz.cell (p := ⟨w.heap.size, 0, none⟩) a_g).trans a_0, (hz.cell (p := ⟨w.heap.size, 1, none⟩) a_g).trans a_1, (hz.cell (p := ⟨w.heap.size, 2, none⟩) a_g).trans a_2, (hz.cell (p := ⟨w.heap.size, 3, none⟩) a_g).trans a_3, (hz.cell (p := ⟨w.heap.size, 4, none⟩) a_g).trans a_4, (hz.cell (p := ⟨w4.heap.size, 0, none⟩) x_g).trans x_0, (hz.cell (p := ⟨w4.heap.size, 1, none⟩) x_g).trans x_1, (hz.cell (p := ⟨w4.heap.size, 2, none⟩) x_g).trans x_2, (hz.cell (p := ⟨w4.heap.size, 3, none⟩) x_g).trans x_3, (hz.cell (p := ⟨w4.heap.size, 4, none⟩) x_g).trans x_4⟩ (fun hS2 => ?_)
  clear hK K
  try simp only [Act.put, List.setIfInBounds_toArray, List.set_cons_zero, List.set_cons_succ]
  refine takeY 26 (i := 4) (v := ?v4h) rfl rfl (by kernel_rfl) (by kernel_rfl) (by kernel_rfl) (fun _ _ _ h => h) (by kernel_rfl) ?y4h hS2 ?_
  case y4h =>
    intro w' hw'; (try dsimp only at hw'); obtain ⟨e0, e1, e2, e3, e4, e5, e6, e7, e8, e9, e10⟩ := hw'; go_simp; try with_reducible rfl
  simp only [Act.put, List.setIfInBounds_toArray, List.set_cons_zero, List.set_cons_succ]
  refine wpAnyH_done (by kernel_rfl) ?_ _
  have HB7 := Lib.hid (below_on HB5.out hz)
  have Xa_7 := Lib.hid (Xa_5.out.below hz)
  have Xx_7 := Lib.hid (Xx_5.out.below hz)
  have Cx_7 := Lib.hid (Cx_5.out.step hz)
  clear a_g a_0 a_1 a_2 a_3 a_4 x_g x_0 x_1 x_2 x_3 x_4
  clear hz hy hs0 hS1 hS2 HCz HCx
  go_wp2
  go_ret
  exact ⟨rfl, HB7.out⟩

set_option maxRecDepth 100000 in
theorem contract (H : Type) (enc : TypeId × Value → H) (W : World) (base : Nat) (args : Array Value) (ds gs : List (DataW H)) (before : List MemPlace)
    (hval : ∀ (j : Nat) t v, Tryd.f4.params[j]? = some t → args[j]? = some v → Value.okWide Tryd.prog W .any base t v)
    (hW : DataW.Whole enc Tryd.prog Tryd.f4.params.toList Rows.fnExactFormatWishSpec.vars false W args.toList ds gs before) (hL : laidMetH Tryd.prog Rows.fnExactFormatWishRow.laid W) :
    Calls Tryd.prog 4 args W fun e W' => ∃ v, e = .returned v ∧ Rows.fnExactFormatWishSpec.post enc Tryd.prog Tryd.f4 false true false false W args v W' := by
  have hW' := hW
  obtain ⟨p, q, hA0, hV, rfl, hfz, hnd⟩ := hW
  have hA : DataW.TrodAll enc Tryd.prog W 0 (fun _ => true) true Tryd.f4.params.toList args.toList ds p := hA0
  rw [Tryd.params4] at hA hval
  obtain ⟨v0, vs0, d0, ds0, p0, q0, hargs, rfl, rfl, h0, r0⟩ := trodAll_cons hA
  obtain ⟨rfl, rfl, rfl⟩ := trodAll_nil r0
  obtain rfl : args = #[v0] := by cases args; simp_all
  have hV1 := hV
  obtain ⟨g9, t9, cs9, fuel9, d9, p9, rfl, _, _, _, _, _⟩ := trodVars_one hV
  have lt0 : ∀ x ∈ p0, x.block < W.heap.size := by obtain ⟨m, hm⟩ := h0; exact DataW.trod_lt m _ _ _ hm
  obtain ⟨t0, rfl, l0, q0, w0⟩ := open_wish (hval 0 31 v0 rfl rfl) h0
  clear hA0
  refine (walk t0 W l0 q0 w0 (table hL) (words hL)).mono fun e W' ⟨he, hb⟩ => ?_
  subst he
  exact ⟨_, rfl, _, _, _, _, _, _, hW', trodAll_mk1 (shut_bool Tryd.underlying4 _), (trodAll_cons_mk (Below.trod laidOut (by kernel_rfl) (of_decide_eq_true (by kernel_rfl)) h0 hb lt0) trodAll_mk0), Below.trodVars laidOut hb (by kernel_rfl) hV1, hb.frame _, fun h => by cases h⟩

def lay (a : Array Value) : Obj → Obj
  | .cells _ t frozen => .cells a t frozen
  | o => o
/-- A world for the witness: the settled one, the tables holding what their initialisers lay. -/
noncomputable def laidWorld (os : Os) : World :=
  { World.holding Tryd.prog os ⟨#[], #[], []⟩ with heap := (((((World.holding Tryd.prog os ⟨#[], #[], []⟩).heap.modify 5 (lay #[.int .u8 0, .int .u8 1, .int .u8 28, .int .u8 2, .int .u8 29, .int .u8 14, .int .u8 24, .int .u8 3, .int .u8 30, .int .u8 22, .int .u8 20, .int .u8 15, .int .u8 25, .int .u8 17, .int .u8 4, .int .u8 8, .int .u8 31, .int .u8 27, .int .u8 13, .int .u8 23, .int .u8 21, .int .u8 19, .int .u8 16, .int .u8 7, .int .u8 26, .int .u8 12, .int .u8 18, .int .u8 6, .int .u8 11, .int .u8 5, .int .u8 10, .int .u8 9])).modify 6 (lay #[.int .u8 0, .int .u8 1, .int .u8 56, .int .u8 2, .int .u8 57, .int .u8 49, .int .u8 28, .int .u8 3, .int .u8 61, .int .u8 58, .int .u8 42, .int .u8 50, .int .u8 38, .int .u8 29, .int .u8 17, .int .u8 4, .int .u8 62, .int .u8 47, .int .u8 59, .int .u8 36, .int .u8 45, .int .u8 43, .int .u8 51, .int .u8 22, .int .u8 53, .int .u8 39, .int .u8 33, .int .u8 30, .int .u8 24, .int .u8 18, .int .u8 12, .int .u8 5, .int .u8 63, .int .u8 55, .int .u8 48, .int .u8 27, .int .u8 60, .int .u8 41, .int .u8 37, .int .u8 16, .int .u8 46, .int .u8 35, .int .u8 44, .int .u8 21, .int .u8 52, .int .u8 32, .int .u8 23, .int .u8 11, .int .u8 54, .int .u8 26, .int .u8 40, .int .u8 15, .int .u8 34, .int .u8 20, .int .u8 31, .int .u8 10, .int .u8 25, .int .u8 14, .int .u8 19, .int .u8 9, .int .u8 13, .int .u8 8, .int .u8 7, .int .u8 6])).modify 2 (lay #[.int .u64 1, .int .u64 10, .int .u64 100, .int .u64 1000, .int .u64 10000, .int .u64 100000, .int .u64 1000000, .int .u64 10000000, .int .u64 100000000, .int .u64 1000000000, .int .u64 10000000000, .int .u64 100000000000, .int .u64 1000000000000, .int .u64 10000000000000, .int .u64 100000000000000, .int .u64 1000000000000000, .int .u64 10000000000000000, .int .u64 100000000000000000, .int .u64 1000000000000000000, .int .u64 10000000000000000000])).modify 0 (lay #[.slice (some ⟨(World.holding Tryd.prog os ⟨#[], #[], []⟩).heap.size, 0, none⟩) 5 5])).push (.cells #[.string (kwB 0), .string (kwB 1), .string (kwB 2), .string (kwB 3), .string (kwB 4)] 9) }
set_option maxRecDepth 100000 in
theorem laid_met (os : Os) : laidMet Tryd.prog Rows.fnExactFormatWishRow.laid ((laidWorld os).forCall (fun _ _ => 0) ⟨#[], #[.agg #[.int .i64 0, .int .i64 0, .int .i64 0, .slice none 0 0, .slice none 0 0]], []⟩).memory :=
  laidMet_of_run' 8 (by kernel_rfl) (by kernel_rfl)
set_option maxRecDepth 100000 in
theorem reads (os : Os) {H : Type} (enc : TypeId × Value → H) : ∃ places, DataW.whole enc Tryd.prog ((laidWorld os).forCall (fun _ _ => 0) ⟨#[], #[.agg #[.int .i64 0, .int .i64 0, .int .i64 0, .slice none 0 0, .slice none 0 0]], []⟩).memory Tryd.f4.params.toList Rows.fnExactFormatWishSpec.vars false (#[.agg #[.int .i64 0, .int .i64 0, .int .i64 0, .slice none 0 0, .slice none 0 0]] : Array Value).toList 8 = some ([.agg [.lit (.int .i64 0), .lit (.int .i64 0), .lit (.int .i64 0), .nil, .nil]], [Rows.laid_loop_example_g01987_impl_kindWords], places) := by
  have h : (DataW.whole enc Tryd.prog ((laidWorld os).forCall (fun _ _ => 0) ⟨#[], #[.agg #[.int .i64 0, .int .i64 0, .int .i64 0, .slice none 0 0, .slice none 0 0]], []⟩).memory Tryd.f4.params.toList Rows.fnExactFormatWishSpec.vars false (#[.agg #[.int .i64 0, .int .i64 0, .int .i64 0, .slice none 0 0, .slice none 0 0]] : Array Value).toList 8).map (fun x => (x.1, x.2.1)) = some ([.agg [.lit (.int .i64 0), .lit (.int .i64 0), .lit (.int .i64 0), .nil, .nil]], [Rows.laid_loop_example_g01987_impl_kindWords]) := by kernel_rfl
  obtain ⟨⟨a, b, c⟩, hx, he⟩ := Option.map_eq_some_iff.1 h
  simp only [Prod.mk.injEq] at he
  obtain ⟨rfl, rfl⟩ := he
  exact ⟨c, hx⟩

set_option maxRecDepth 100000 in
theorem lifted (os : Os) (started : os.Started) (H : Type) (enc : TypeId × Value → H) (F : Stop.Interp) :
    ReturnsInHanded {} Tryd.checked os 4 .any ((OpenSpec.ofChange Rows.fnExactFormatWishSpec).preRow enc Tryd.prog Tryd.f4 Rows.fnExactFormatWishRow.domain false Rows.fnExactFormatWishRow.laid) (((OpenSpec.ofChange Rows.fnExactFormatWishSpec).at F).post enc Tryd.prog Tryd.f4 false true false false) := by
  obtain ⟨places, hx⟩ := reads os enc
  refine returnsInHanded_of_row (C := Tryd.checked) (s := OpenSpec.ofChange Rows.fnExactFormatWishSpec) own started (by kernel_rfl) Tryd.func4
    (witness_row_atRef (enc := enc) (C := Tryd.checked) false (laidWorld os) #[.agg #[.int .i64 0, .int .i64 0, .int .i64 0, .slice none 0 0, .slice none 0 0]] rfl (by kernel_rfl) (by kernel_rfl) (by kernel_rfl)
      (OpenSpec.preRow_of_cond 8 hx (by kernel_rfl) (fun k hk => by cases hk) (by kernel_rfl) (laid_met os))) ?_
  intro W base args ds gs before hval hW _ _ _ hL hS _
  exact contract H enc W base args ds gs before hval hW hL

theorem said : Rows.FnExactFormatWishSaid :=
  OpenClaim.holds_of_cond 4 Tryd.f4 rfl rfl rfl rfl rfl rfl rfl ⟨rfl, rfl, rfl, rfl, rfl⟩ rfl rfl rfl rfl rfl (by kernel_rfl) Tryd.func4 (by kernel_rfl)
    (of_decide_eq_true (by kernel_rfl)) (by unfold Func.isWrapper; first | (rw [if_pos (by decide +kernel)]; kernel_rfl) | (rw [if_neg (by decide +kernel)]; exact ⟨rfl, rfl⟩))
    (fun os started H enc _ F => by rw [OpenClaim.pre_eq_preRow]; exact lifted os started H enc F)

theorem plain (f : FuncId) (fn : Func) (hf : Tryd.pinned.checked.prog.funcNamed "loop.example/g01987/laws.FnExactFormatWish" = some f) (hfn : Tryd.pinned.checked.prog.funcs[f]? = some fn) :
    false = Tryd.pinned.checked.prog.looks [] ∧ ∀ (j : Nat) t, fn.params[j]? = some t → Tryd.pinned.checked.prog.wantsStandIn t = false := by
  obtain rfl : f = 4 := Option.some.inj ((show Tryd.prog.funcNamed "loop.example/g01987/laws.FnExactFormatWish" = some 4 by kernel_rfl).symm.trans hf) |>.symm
  obtain rfl : fn = Tryd.f4 := (Option.some.inj (Tryd.func4.symm.trans hfn)).symm
  refine ⟨by kernel_rfl, fun j t ht => ?_⟩
  rw [Tryd.params4] at ht
  obtain rfl : t = 31 := by simpa using Array.mem_of_getElem? ht
  exact (show Tryd.prog.wantsStandIn 31 = false by kernel_rfl)

theorem holds : Rows.FnExactFormatWishCardSaid :=
  Claim7.holds_tied_plain_at .later [] _ _ _ _ said (fun _ h => by cases h) (by kernel_rfl) (fun _ h => by cases h) fnExactFormatWish_row_tie rfl ⟨rfl, rfl⟩ (by kernel_rfl) rfl plain (by kernel_rfl)

#print axioms holds
end Go.Proofs.YtghekfigfjhkeabDoor.fnExactFormatWish
