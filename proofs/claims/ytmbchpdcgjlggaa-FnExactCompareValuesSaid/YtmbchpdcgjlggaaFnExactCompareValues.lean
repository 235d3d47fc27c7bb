/- The law of CompareValues returns true, whatever the wish and the two values: the program and the model answer the same; what came in reads as it did. -/
import Derived.Test.YtmbchpdcgjlggaaRows
import Derived.Test.YtmbchpdcgjlggaaWishOpen
import Derived.Test.YtmbchpdcgjlggaaWishLaw
import Derived.Test.YtmbchpdcgjlggaaWishSpecD
import Derived.Test.YtmbchpdcgjlggaaWishProgB
import Derived.WalkKit
import Derived.ProofKit
import Derived.OpenShut
import Derived.ShutString
import Derived.Below
namespace Go.Proofs.Ytmbchpdcgjlggaa.fnExactCompareValues
set_option maxRecDepth 20000
open Go.ChangeShapes Go.WideShapes Go.ChangeAt Go.RowKit
open Go.ChangeMaps (open_string shut_string)
open Go.Proofs.Ytmbchpdcgjlggaa.num
set_option linter.unusedVariables false
set_option linter.unusedSimpArgs false

theorem own : ownKnob Try.prog.godebug = none := by kernel_rfl

theorem walk (t0 : Wi) (a1 : Int) (a2 : Int) (w : World) (l0 : t0.Ln ≤ 9223372036854775807) (q0 : t0.Pn ≤ 9223372036854775807) (w0 : WiIn w w.heap.size t0) (w1 : (Lit.int .i64 a1).wf = true) (w2 : (Lit.int .i64 a2).wf = true) :
    Calls Try.prog 4 #[t0.val, .int .i64 a1, .int .i64 a2] w fun e w' => e = .returned (.bool true) ∧ Below w.heap.size w w' := by
  have HM0 := Lib.hid (And.intro l0 q0)
  have HW0 := Lib.hid w0
  clear l0 q0 w0
  clear w1
  clear w2
  have hval0 : t0.val = .agg #[.int .i64 t0.kind, .int .i64 t0.field, .int .i64 t0.value, .slice t0.LA t0.Ln t0.Lc, .slice t0.PA t0.Pn t0.Pc] := rfl
  rw [hval0]
  clear hval0
  go_enter Try.func4, Try.ntmps4
  go_wp2_with fail
  refine (szWish_c t0 1048576 HM0.out.1 HM0.out.2 (by decide) (by decide) _).mono ?_
  rintro e w1 ⟨⟨r0, rfl, hr0⟩, hb1⟩
  have HB1 := Lib.hid (below_on ((Below.refl w.heap.size w).alloc (Nat.le_refl _) (.cells #[.int .i64 t0.kind, .int .i64 t0.field, .int .i64 t0.value, .slice t0.LA t0.Ln t0.Lc, .slice t0.PA t0.Pn t0.Pc] 25)) hb1)
  have Xa_1 := Lib.hid ((Box5.new w t0 25).below hb1)
  clear hb1
  rcases hr0 with rfl | ⟨hr1, hr2, hr3, hr4⟩
  · go_wp2
    go_ret
    exact ⟨rfl, HB1.out⟩
  have HS0 : Hid t0.Short := Lib.hid ⟨by omega, by omega⟩
  clear hr3 hr4
  obtain ⟨q, hq⟩ := bool_of (IsW t0.dat ∧ InR a1 ∧ InR a2)
  have HQ := Lib.hid hq
  clear hq
  obtain ⟨z, hz⟩ : ∃ z, cmpV t0.dat q a1 a2 = z := ⟨_, rfl⟩
  have HZ := Lib.hid hz
  clear hz
  obtain ⟨a_g, a_0, a_1, a_2, a_3, a_4⟩ := Xa_1.out
  go_wp2_with fail
  refine (toWish_w w1 w.heap.size t0 (HW0.out.below HB1.out) HB1.out.size HS0.out).mono ?_
  rintro e w2 ⟨tp, rfl, hc, hb2⟩
  have HB2 := Lib.hid (below_on HB1.out hb2)
  have Xa_2 := Lib.hid (Xa_1.out.below hb2)
  have Cp_2 := Lib.hid hc
  clear hc
  unfold Wi.val
  clear a_g a_0 a_1 a_2 a_3 a_4
  clear hb2
  obtain ⟨a_g, a_0, a_1, a_2, a_3, a_4⟩ := Xa_2.out
  go_wp2_with fail
  refine (sCmpVals w2 _ tp Cp_2.out.at' (Nat.le_refl _) Cp_2.out.short a1 a2 q (by rw [Cp_2.out.dat]; exact HQ.out)).mono ?_
  rintro e w3 ⟨rfl, hb3⟩
  have HB3 := Lib.hid (below_on HB2.out hb3)
  have Xa_3 := Lib.hid (Xa_2.out.below hb3)
  have Cp_3 := Lib.hid (Cp_2.out.step hb3)
  rw [Cp_3.out.dat, HZ.out]
  clear a_g a_0 a_1 a_2 a_3 a_4
  clear hb3
  obtain ⟨a_g, a_0, a_1, a_2, a_3, a_4⟩ := Xa_3.out
  go_wp2_with fail
  refine (toWish_w w3 w.heap.size t0 (HW0.out.below HB3.out) HB3.out.size HS0.out).mono ?_
  rintro e w4 ⟨tx, rfl, hc, hb4⟩
  have HB4 := Lib.hid (below_on HB3.out hb4)
  have Xa_4 := Lib.hid (Xa_3.out.below hb4)
  have Cx_4 := Lib.hid hc
  clear hc
  unfold Wi.val
  clear a_g a_0 a_1 a_2 a_3 a_4
  clear hb4
  obtain ⟨a_g, a_0, a_1, a_2, a_3, a_4⟩ := Xa_4.out
  go_wp2_with fail
  refine (iCmpVals _ _ tx (Cx_4.out.step ((Below.refl _ w4).alloc (Nat.le_refl _) _)).at' (Nat.le_refl _) Cx_4.out.short a1 a2 q (by rw [Cx_4.out.dat]; exact HQ.out)).mono ?_
  rintro e w5 ⟨rfl, hx5⟩
  have hb5 : Below w4.heap.size w4 w5 := below_on ((Below.refl _ w4).alloc (Nat.le_refl _) (.cells #[.int .i64 tx.kind, .int .i64 tx.field, .int .i64 tx.value, .slice tx.LA tx.Ln tx.Lc, .slice tx.PA tx.Pn tx.Pc] 30)) hx5
  have Xx_5 := Lib.hid ((Box5.new w4 tx 30).below hx5)
  have HB5 := Lib.hid (below_on HB4.out hb5)
  have Xa_5 := Lib.hid (Xa_4.out.below hb5)
  have Cx_5 := Lib.hid (Cx_4.out.step hb5)
  rw [Cx_5.out.dat, HZ.out]
  clear a_g a_0 a_1 a_2 a_3 a_4
  clear hb5 hx5
  have hqq : (z != z) = false := by simp
  obtain ⟨a_g, a_0, a_1, a_2, a_3, a_4⟩ := Xa_5.out
  obtain ⟨x_g, x_0, x_1, x_2, x_3, x_4⟩ := Xx_5.out
  go_wp2
  have hs0 : (fun w' => Below w5.heap.size w5 w' ∧ w'.cell? ⟨w.heap.size, 0, none⟩ = some (.int .i64 t0.kind) ∧ w'.cell? ⟨w.heap.size, 1, none⟩ = some (.int .i64 t0.field) ∧ w'.cell? ⟨w.heap.size, 2, none⟩ = some (.int .i64 t0.value) ∧ w'.cell? ⟨w.heap.size, 3, none⟩ = some (.slice t0.LA t0.Ln t0.Lc) ∧ w'.cell? ⟨w.heap.size, 4, none⟩ = some (.slice t0.PA t0.Pn t0.Pc) ∧ w'.cell? ⟨w4.heap.size, 0, none⟩ = some (.int .i64 tx.kind) ∧ w'.cell? ⟨w4.heap.size, 1, none⟩ = some (.int .i64 tx.field) ∧ w'.cell? ⟨w4.heap.size, 2, none⟩ = some (.int .i64 tx.value) ∧ w'.cell? ⟨w4.heap.size, 3, none⟩ = some (.slice tx.LA tx.Ln tx.Lc) ∧ w'.cell? ⟨w4.heap.size, 4, none⟩ = some (.slice tx.PA tx.Pn tx.Pc)) w5.drew := ⟨(Below.refl _ _).drew, a_0, a_1, a_2, a_3, a_4, x_0, x_1, x_2, x_3, x_4⟩
  refine wp_region_held (S := fun w' => Below w5.heap.size w5 w' ∧ w'.cell? ⟨w.heap.size, 0, none⟩ = some (.int .i64 t0.kind) ∧ w'.cell? ⟨w.heap.size, 1, none⟩ = some (.int .i64 t0.field) ∧ w'.cell? ⟨w.heap.size, 2, none⟩ = some (.int .i64 t0.value) ∧ w'.cell? ⟨w.heap.size, 3, none⟩ = some (.slice t0.LA t0.Ln t0.Lc) ∧ w'.cell? ⟨w.heap.size, 4, none⟩ = some (.slice t0.PA t0.Pn t0.Pc) ∧ w'.cell? ⟨w4.heap.size, 0, none⟩ = some (.int .i64 tx.kind) ∧ w'.cell? ⟨w4.heap.size, 1, none⟩ = some (.int .i64 tx.field) ∧ w'.cell? ⟨w4.heap.size, 2, none⟩ = some (.int .i64 tx.value) ∧ w'.cell? ⟨w4.heap.size, 3, none⟩ = some (.slice tx.LA tx.Ln tx.Lc) ∧ w'.cell? ⟨w4.heap.size, 4, none⟩ = some (.slice tx.PA tx.Pn tx.Pc)) (by kernel_rfl) ?_
  change wpAnyH _ _ _ _ _ _ _ _ (World.drew _)
  refine takeY 30 (i := 0) (v := ?v0b) rfl rfl (by kernel_rfl) (by kernel_rfl) (by kernel_rfl) (fun _ _ _ h => h) (by kernel_rfl) ?y0b hs0 ?_
  case y0b =>
    intro w' hw'; (try dsimp only at hw'); obtain ⟨e0, e1, e2, e3, e4, e5, e6, e7, e8, e9, e10⟩ := hw'; go_simp; try with_reducible rfl
  simp only [Act.put, List.setIfInBounds_toArray, List.set_cons_zero, List.set_cons_succ]
  refine takeY 31 (i := 1) (v := ?v1b) rfl rfl (by kernel_rfl) (by kernel_rfl) (by kernel_rfl) (fun _ _ _ h => h) (by kernel_rfl) ?y1b hs0 ?_
  case y1b =>
    intro w' hw'; (try dsimp only at hw'); obtain ⟨e0, e1, e2, e3, e4, e5, e6, e7, e8, e9, e10⟩ := hw'; go_simp; try with_reducible rfl
  simp only [Act.put, List.setIfInBounds_toArray, List.set_cons_zero, List.set_cons_succ]
  refine wpAnyH_ready (rs := [2]) (by kernel_rfl) (by simp) ?_
  refine AllReadyH.cons rfl (fun K hK => ?_) AllReadyH.nil
  go_simp; go_at_call 17; refine (toWish_w _ w.heap.size t0 (HW0.out.below HB5.out.drew) HB5.out.size HS0.out).mono ?_; rintro e w6 ⟨tz6, rfl, hc, hy⟩; replace hy := (Below.refl w5.heap.size w5).drew.trans (hy.mono (Nat.le_refl _)); have HCz := Lib.hid hc; have HCx := Lib.hid (Cx_5.out.step hy); clear hc; unfold Wi.val
  refine hK.out _ _ ⟨hy, (hy.cell (p := ⟨w.heap.size, 0, none⟩) a_g).trans a_0, (hy.cell (p := ⟨w.heap.size, 1, none⟩) a_g).trans a_1, (hy.cell (p := ⟨w.heap.size, 2, none⟩) a_g).trans a_2, (hy.cell (p := ⟨w.heap.size, 3, none⟩) a_g).trans a_3, (hy.cell (p := ⟨w.heap.size, 4, none⟩) a_g).trans a_4, (hy.cell (p := ⟨w4.heap.size, 0, none⟩) x_g).trans x_0, (hy.cell (p := ⟨w4.heap.size, 1, none⟩) x_g).trans x_1, (hy.cell (p := ⟨w4.heap.size, 2, none⟩) x_g).trans x_2, (hy.cell (p := ⟨w4.heap.size, 3, none⟩) x_g).trans x_3, (hy.cell (p := ⟨w4.heap.size, 4, none⟩) x_g).trans x_4⟩ (fun hS1 => ?_)
  clear hK K
  try simp only [Act.put, List.setIfInBounds_toArray, List.set_cons_zero, List.set_cons_succ]
  refine wpAnyH_ready (rs := [3]) (by kernel_rfl) (by simp) ?_
  refine AllReadyH.cons rfl (fun K hK => ?_) AllReadyH.nil
  go_simp; go_at_call 19; refine (eqWish_w _ t0 tx tz6 HCx.out HCz.out).mono ?_; rintro e w7 ⟨rfl, hz⟩; replace hz := below_on hy hz
  refine hK.out _ _ ⟨hz, (hz.cell (p := ⟨w.heap.size, 0, none⟩) a_g).trans a_0, (hz.cell (p := ⟨w.heap.size, 1, none⟩) a_g).trans a_1, (hz.cell (p := ⟨w.heap.size, 2, none⟩) a_g).trans a_2, (hz.cell (p := ⟨w.heap.size, 3, none⟩) a_g).trans a_3, (hz.cell (p := ⟨w.heap.size, 4, none⟩) a_g).trans a_4, (hz.cell (p := ⟨w4.heap.size, 0, none⟩) x_g).trans x_0, (hz.cell (p := ⟨w4.heap.size, 1, none⟩) x_g).trans x_1, (hz.cell (p := ⟨w4.heap.size, 2, none⟩) x_g).trans x_2, (hz.cell (p := ⟨w4.heap.size, 3, none⟩) x_g).trans x_3, (hz.cell (p := ⟨w4.heap.size, 4, none⟩) x_g).trans x_4⟩ (fun hS2 => ?_)
  clear hK K
  try simp only [Act.put, List.setIfInBounds_toArray, List.set_cons_zero, List.set_cons_succ]
  refine takeY 34 (i := 4) (v := ?v4b) rfl rfl (by kernel_rfl) (by kernel_rfl) (by kernel_rfl) (fun _ _ _ h => h) (by kernel_rfl) ?y4b hS2 ?_
  case y4b =>
    intro w' hw'; (try dsimp only at hw'); obtain ⟨e0, e1, e2, e3, e4, e5, e6, e7, e8, e9, e10⟩ := hw'; go_simp; try with_reducible rfl
  simp only [Act.put, List.setIfInBounds_toArray, List.set_cons_zero, List.set_cons_succ]
  refine wpAnyH_done (by kernel_rfl) ?_ _
  have HB7 := Lib.hid (below_on HB5.out hz)
  have Xa_7 := Lib.hid (Xa_5.out.below hz)
  have Xx_7 := Lib.hid (Xx_5.out.below hz)
  have Cx_7 := Lib.hid (Cx_5.out.step hz)
  clear a_g a_0 a_1 a_2 a_3 a_4 x_g x_0 x_1 x_2 x_3 x_4
  clear hz hy hs0 hS1 hS2 HCz HCx
  go_wp2
  go_ret
  exact ⟨rfl, HB7.out⟩

set_option maxRecDepth 100000 in
theorem lifted (os : Os) (started : os.Started) (H : Type) (enc : TypeId × Value → H) :
    ReturnsInHanded {} Try.checked os 4 .any (Rows.fnExactCompareValuesSpec.pre6 enc Try.prog Try.f4 Rows.fnExactCompareValuesRow.domain false) (Rows.fnExactCompareValuesSpec.post enc Try.prog Try.f4 false true false false) := by
  refine returnsInHanded_of_change (C := Try.checked) own started (by kernel_rfl) Try.func4
    (ChangeSpec.witness6 (enc := enc) (C := Try.checked) false ⟨#[], #[.agg #[.int .i64 0, .int .i64 0, .int .i64 0, .slice none 0 0, .slice none 0 0], .int .i64 0, .int .i64 0], []⟩ 8 (by kernel_rfl) (by kernel_rfl) (by kernel_rfl) (by kernel_rfl)) ?_
  intro W base args ds gs before hval0 hW hcnd _
  have hval : ∀ (j : Nat) t v, Try.f4.params[j]? = some t → args[j]? = some v → Value.okWide Try.prog W .any base t v := hval0
  have hW' := hW
  obtain ⟨p, q, hA0, hV, rfl, hfz, hnd⟩ := hW
  have hA : DataW.TrodAll enc Try.prog W 0 (fun _ => true) true Try.f4.params.toList args.toList ds p := hA0
  rw [Try.params4] at hA hval
  obtain ⟨v0, vs0, d0, ds0, p0, q0, hargs, rfl, rfl, h0, r0⟩ := trodAll_cons hA
  obtain ⟨v1, vs1, d1, ds1, p1, q1, rfl, rfl, rfl, h1, r1⟩ := trodAll_cons r0
  obtain ⟨v2, vs2, d2, ds2, p2, q2, rfl, rfl, rfl, h2, r2⟩ := trodAll_cons r1
  obtain ⟨rfl, rfl, rfl⟩ := trodAll_nil r2
  obtain rfl : args = #[v0, v1, v2] := by cases args; simp_all
  obtain ⟨rfl, rfl⟩ := trodVars_none hV
  have lt0 : ∀ x ∈ p0, x.block < W.heap.size := by obtain ⟨m, hm⟩ := h0; exact DataW.trod_lt m _ _ _ hm
  obtain ⟨t0, rfl, l0, q0, w0⟩ := open_wish (hval 0 25 v0 rfl rfl) h0
  obtain ⟨a1, rfl, rfl, rfl, w1⟩ := open_int Try.underlying3 (hval 1 3 v1 rfl rfl) h1
  obtain ⟨a2, rfl, rfl, rfl, w2⟩ := open_int Try.underlying3 (hval 2 3 v2 rfl rfl) h2
  clear hA0 hval0
  refine (walk t0 a1 a2 W l0 q0 w0 w1 w2).mono fun e W' ⟨he, hb⟩ => ?_
  subst he
  exact ⟨_, rfl, _, _, _, [], _, [], hW', trodAll_mk1 (shut_bool Try.underlying4 _), (trodAll_cons_mk (Below.trod laidOut (by kernel_rfl) (of_decide_eq_true (by kernel_rfl)) h0 hb lt0) (trodAll_cons_mk (shut_int Try.underlying3 w1) (trodAll_cons_mk (shut_int Try.underlying3 w2) trodAll_mk0))), rfl, hb.frame _, fun h => by cases h⟩

theorem holds : Rows.FnExactCompareValuesSaid :=
  OpenClaim.holds_of_wide 4 Try.f4 rfl rfl rfl rfl rfl rfl rfl ⟨rfl, rfl, rfl, rfl, rfl⟩ rfl rfl rfl rfl rfl (by kernel_rfl) Try.func4 (by kernel_rfl)
    (of_decide_eq_true (by kernel_rfl)) (by unfold Func.isWrapper; first | (rw [if_pos (by decide +kernel)]; kernel_rfl) | (rw [if_neg (by decide +kernel)]; exact ⟨rfl, rfl⟩))
    (fun os started H enc _ => lifted os started H enc)

#print axioms holds
end Go.Proofs.Ytmbchpdcgjlggaa.fnExactCompareValues
