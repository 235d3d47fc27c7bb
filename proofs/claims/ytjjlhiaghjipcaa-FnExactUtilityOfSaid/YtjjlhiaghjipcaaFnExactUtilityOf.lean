/- The law of UtilityOf returns true, whatever the item and the weights: the program and the model answer the same; what came in reads as it did. -/
import Derived.Test.YtjjlhiaghjipcaaRows
import Derived.Test.YtjjlhiaghjipcaaItemOpen
import Derived.Test.YtjjlhiaghjipcaaLawInts
import Derived.Test.YtjjlhiaghjipcaaLawItem
import Derived.Test.YtjjlhiaghjipcaaLawInts
import Derived.Test.YtjjlhiaghjipcaaRegUtil
import Derived.Test.YtjjlhiaghjipcaaRegion
import Derived.WalkKit
import Derived.ProofKit
import Derived.OpenShut
import Derived.ShutString
import Derived.Below
namespace Go.Proofs.Ytjjlhiaghjipcaa.fnExactUtilityOf
set_option maxRecDepth 20000
open Go.ChangeShapes Go.WideShapes Go.ChangeAt Go.RowKit
open Go.ChangeMaps (open_string shut_string)
open Go.Proofs.Ytjjlhiaghjipcaa.num
set_option linter.unusedVariables false
set_option linter.unusedSimpArgs false

theorem own : ownKnob Try.prog.godebug = none := by kernel_rfl

set_option maxHeartbeats 6400000 in
theorem walk (t0 : It) (A1 : Option Addr) (n1 c1 : Nat) (xs1 : List Int) (w : World) (n0 : t0.n ≤ 9223372036854775807) (w0 : Ints w w.heap.size t0.A t0.n t0.xs) (m1 : n1 ≤ 9223372036854775807) (w1 : Ints w w.heap.size A1 n1 xs1) :
    Calls Try.prog 5 #[t0.val, .slice A1 n1 c1] w fun e w' => e = .returned (.bool true) ∧ Below w.heap.size w w' := by
  have HM0 := Lib.hid n0
  have HW0 := Lib.hid w0
  have HW1 := Lib.hid w1
  clear n0 w0 w1
  have hv : t0.val = .agg #[.int .i64 t0.id, .slice t0.A t0.n t0.c] := rfl
  rw [hv]
  clear hv
  go_enter Try.func5, Try.ntmps5
  have XB0 := Lib.hid (BoxI.new w t0 51)
  have HB0 : Hid (Below w.heap.size w (w.alloc (.cells #[.int .i64 t0.id, .slice t0.A t0.n t0.c] 51))) := Lib.hid ((Below.refl _ w).alloc (Nat.le_refl _) _)
  by_cases hq1 : 1048576 < n1
  · have hd1 : decide ((n1 : Int) > 1048576) = true := by simp; omega
    go_wp2
    go_ret
    exact ⟨rfl, HB0.out⟩
  have hd1 : decide ((n1 : Int) > 1048576) = false := by simp; omega
  have hn1 : n1 ≤ 1048576 := by omega
  clear hq1 m1
  go_wp2_with fail
  refine (szItem_l _ t0 1048576 HM0.out (by decide) (by decide)).mono ?_
  rintro e w1 ⟨⟨r0, rfl, hr0⟩, hb1⟩
  have HB1 := Lib.hid (below_on HB0.out hb1)
  have Xa_1 := Lib.hid (XB0.out.below hb1)
  clear hb1 HB0 XB0
  rcases hr0 with rfl | ⟨hr0a, hr0b, hn0, -⟩
  · go_wp2
    go_ret
    exact ⟨rfl, HB1.out⟩
  have hz0 : decide (r0 < 0) = false := by simp; omega
  obtain ⟨D, hD⟩ : ∃ D, utD xs1 t0.dat = D := ⟨_, rfl⟩
  have HD := Lib.hid hD
  clear hD
  have hdd : (D != D) = false := by simp
  obtain ⟨cXa_g, cXa_0, cXa_1⟩ := Xa_1.out
  go_wp2_with fail
  refine (toItem_w w1 w.heap.size t0 (HW0.out.below HB1.out) HB1.out.size hn0).mono ?_
  rintro e w2 ⟨tp, rfl, hc, hb2⟩
  have HB2 := Lib.hid (below_on HB1.out hb2)
  have Xa_2 := Lib.hid (Xa_1.out.below hb2)
  have Z12 := Lib.hid (Below.size hb2)
  have Ip_2 := Lib.hid hc
  clear hc
  clear hb2
  clear cXa_g cXa_0 cXa_1
  obtain ⟨cXa_g, cXa_0, cXa_1⟩ := Xa_2.out
  go_wp2_with fail
  refine (toInts_r w2 w.heap.size A1 n1 c1 xs1 (HW1.out.below HB2.out) HB2.out.size hn1).mono ?_
  rintro e w3 ⟨⟨rfl, hc⟩, hb3⟩
  have HB3 := Lib.hid (below_on HB2.out hb3)
  have Xa_3 := Lib.hid (Xa_2.out.below hb3)
  have Ip_3 := Lib.hid (Ip_2.out.step hb3)
  have Z23 := Lib.hid (Below.size hb3)
  have Rq_3 := Lib.hid hc
  clear hc
  clear hb3
  clear cXa_g cXa_0 cXa_1
  obtain ⟨cXa_g, cXa_0, cXa_1⟩ := Xa_3.out
  go_wp2_with fail
  refine (sUtilD _ _ tp Ip_3.out.at' Ip_3.out.short (Nat.le_refl _) _ n1 n1 xs1 Rq_3.out.ints hn1 D (by rw [Ip_3.out.dat]; exact HD.out)).mono ?_
  rintro e w4 ⟨rfl, hb4⟩
  have HB4 := Lib.hid (below_on HB3.out hb4)
  have Xa_4 := Lib.hid (Xa_3.out.below hb4)
  have Ip_4 := Lib.hid (Ip_3.out.step hb4)
  have Z34 := Lib.hid (Below.size hb4)
  have Rq_4 := Lib.hid (Rq_3.out.step hb4)
  clear hb4
  clear cXa_g cXa_0 cXa_1
  obtain ⟨cXa_g, cXa_0, cXa_1⟩ := Xa_4.out
  go_wp2_with fail
  refine (toItem_w w4 w.heap.size t0 (HW0.out.below HB4.out) HB4.out.size hn0).mono ?_
  rintro e w5 ⟨tx, rfl, hc, hb5⟩
  have HB5 := Lib.hid (below_on HB4.out hb5)
  have Xa_5 := Lib.hid (Xa_4.out.below hb5)
  have Z45 := Lib.hid (Below.size hb5)
  have Ix_5 := Lib.hid hc
  clear hc
  clear hb5
  clear cXa_g cXa_0 cXa_1
  obtain ⟨cXa_g, cXa_0, cXa_1⟩ := Xa_5.out
  unfold It.val
  go_wp2_with fail
  refine (toInts_r _ w.heap.size A1 n1 c1 xs1 (HW1.out.below (HB5.out.alloc HB5.out.size _)) (by have := HB5.out.size; simp; omega) hn1).mono ?_
  rintro e w6 ⟨⟨rfl, hc⟩, hx6⟩
  rw [World.size_alloc] at hc
  have Ry_6 := Lib.hid hc
  clear hc
  have hb6 : Below w5.heap.size w5 w6 := below_on ((Below.refl _ w5).alloc (Nat.le_refl _) (.cells #[.int .i64 tx.id, .slice tx.A tx.n tx.c] 43)) hx6
  have Xx_6 := Lib.hid ((BoxI.new w5 tx 43).below hx6)
  have HB6 := Lib.hid (below_on HB5.out hb6)
  have Xa_6 := Lib.hid (Xa_5.out.below hb6)
  have Ix_6 := Lib.hid (Ix_5.out.step hb6)
  have Z56 := Lib.hid (Below.size hb6)
  clear cXa_g cXa_0 cXa_1
  clear hb6 hx6
  obtain ⟨cXa_g, cXa_0, cXa_1⟩ := Xa_6.out
  obtain ⟨cXx_g, cXx_0, cXx_1⟩ := Xx_6.out
  go_wp2_with fail
  refine (iUtilD _ _ tx Ix_6.out.at' (Nat.le_refl _) _ n1 n1 xs1 Ry_6.out.ints hn1 D (by rw [Ix_6.out.dat]; exact HD.out)).mono ?_
  rintro e w7 ⟨rfl, hb7⟩
  have HB7 := Lib.hid (below_on HB6.out hb7)
  have Xa_7 := Lib.hid (Xa_6.out.below hb7)
  have Ix_7 := Lib.hid (Ix_6.out.step hb7)
  have Xx_7 := Lib.hid (Xx_6.out.below hb7)
  have Z67 := Lib.hid (Below.size hb7)
  have Ry_7 := Lib.hid (Ry_6.out.step hb7)
  clear hb7
  clear cXa_g cXa_0 cXa_1
  clear cXx_g cXx_0 cXx_1
  obtain ⟨cXa_g, cXa_0, cXa_1⟩ := Xa_7.out
  obtain ⟨cXx_g, cXx_0, cXx_1⟩ := Xx_7.out
  go_wp2
  have hs0 : (fun w' => Below w7.heap.size w7 w' ∧ w'.cell? ⟨w.heap.size, 0, none⟩ = some (.int .i64 t0.id) ∧ w'.cell? ⟨w.heap.size, 1, none⟩ = some (.slice t0.A t0.n t0.c) ∧ w'.cell? ⟨w5.heap.size, 0, none⟩ = some (.int .i64 tx.id) ∧ w'.cell? ⟨w5.heap.size, 1, none⟩ = some (.slice tx.A tx.n tx.c)) w7.drew := ⟨(Below.refl _ _).drew, cXa_0, cXa_1, cXx_0, cXx_1⟩
  refine wp_region_held (S := fun w' => Below w7.heap.size w7 w' ∧ w'.cell? ⟨w.heap.size, 0, none⟩ = some (.int .i64 t0.id) ∧ w'.cell? ⟨w.heap.size, 1, none⟩ = some (.slice t0.A t0.n t0.c) ∧ w'.cell? ⟨w5.heap.size, 0, none⟩ = some (.int .i64 tx.id) ∧ w'.cell? ⟨w5.heap.size, 1, none⟩ = some (.slice tx.A tx.n tx.c)) (by kernel_rfl) ?_
  change wpAnyH _ _ _ _ _ _ _ _ (World.drew _)
  refine takeY 33 (i := 0) (v := ?v0d) rfl rfl (by kernel_rfl) (by kernel_rfl) (by kernel_rfl) (fun _ _ _ h => h) (by kernel_rfl) ?y0d hs0 ?_
  case y0d =>
    intro w' hw'; (try dsimp only at hw'); obtain ⟨e0, e1, e2, e3, e4⟩ := hw'; go_simp; try with_reducible rfl
  simp only [Act.put, List.setIfInBounds_toArray, List.set_cons_zero, List.set_cons_succ]
  refine takeY 34 (i := 1) (v := ?v1d) rfl rfl (by kernel_rfl) (by kernel_rfl) (by kernel_rfl) (fun _ _ _ h => h) (by kernel_rfl) ?y1d hs0 ?_
  case y1d =>
    intro w' hw'; (try dsimp only at hw'); obtain ⟨e0, e1, e2, e3, e4⟩ := hw'; go_simp; try with_reducible rfl
  simp only [Act.put, List.setIfInBounds_toArray, List.set_cons_zero, List.set_cons_succ]
  refine wpAnyH_ready (rs := [2]) (by kernel_rfl) (by simp) ?_
  refine AllReadyH.cons rfl (fun K hK => ?_) AllReadyH.nil
  go_simp; go_at_call 34; refine (toItem_w _ w.heap.size t0 (HW0.out.below HB7.out.drew) HB7.out.size hn0).mono ?_; rintro e wy ⟨ty, rfl, hc, hy⟩; replace hy := (Below.refl w7.heap.size w7).drew.trans (hy.mono (Nat.le_refl _)); have Iy := Lib.hid hc; have Ix2 := Lib.hid (Ix_7.out.step hy); clear hc; unfold It.val
  refine hK.out _ _ ⟨hy, (hy.cell (p := ⟨w.heap.size, 0, none⟩) cXa_g).trans cXa_0, (hy.cell (p := ⟨w.heap.size, 1, none⟩) cXa_g).trans cXa_1, (hy.cell (p := ⟨w5.heap.size, 0, none⟩) cXx_g).trans cXx_0, (hy.cell (p := ⟨w5.heap.size, 1, none⟩) cXx_g).trans cXx_1⟩ (fun hS1 => ?_)
  clear hK K
  try simp only [Act.put, List.setIfInBounds_toArray, List.set_cons_zero, List.set_cons_succ]
  refine wpAnyH_ready (rs := [3]) (by kernel_rfl) (by simp) ?_
  refine AllReadyH.cons rfl (fun K hK => ?_) AllReadyH.nil
  go_simp; go_at_call 36; refine (eqItem_w _ t0 _ _ Ix2.out Iy.out).mono ?_; rintro e w8 ⟨rfl, hz⟩; replace hz := below_on hy hz
  refine hK.out _ _ ⟨hz, (hz.cell (p := ⟨w.heap.size, 0, none⟩) cXa_g).trans cXa_0, (hz.cell (p := ⟨w.heap.size, 1, none⟩) cXa_g).trans cXa_1, (hz.cell (p := ⟨w5.heap.size, 0, none⟩) cXx_g).trans cXx_0, (hz.cell (p := ⟨w5.heap.size, 1, none⟩) cXx_g).trans cXx_1⟩ (fun hS2 => ?_)
  clear hK K
  try simp only [Act.put, List.setIfInBounds_toArray, List.set_cons_zero, List.set_cons_succ]
  refine takeY 37 (i := 4) (v := ?v4d) rfl rfl (by kernel_rfl) (by kernel_rfl) (by kernel_rfl) (fun _ _ _ h => h) (by kernel_rfl) ?y4d hS2 ?_
  case y4d =>
    intro w' hw'; (try dsimp only at hw'); obtain ⟨e0, e1, e2, e3, e4⟩ := hw'; go_simp; try with_reducible rfl
  simp only [Act.put, List.setIfInBounds_toArray, List.set_cons_zero, List.set_cons_succ]
  refine wpAnyH_done (by kernel_rfl) ?_ _
  have HB8 := Lib.hid (below_on HB7.out hz)
  have Xa_8 := Lib.hid (Xa_7.out.below hz)
  have Ix_8 := Lib.hid (Ix_7.out.step hz)
  have Xx_8 := Lib.hid (Xx_7.out.below hz)
  have Z78 := Lib.hid (Below.size hz)
  have Ry_8 := Lib.hid (Ry_7.out.step hz)
  clear cXa_g cXa_0 cXa_1
  clear cXx_g cXx_0 cXx_1
  clear hz hy hs0 hS1 hS2 Iy Ix2
  obtain ⟨cXa_g, cXa_0, cXa_1⟩ := Xa_8.out
  obtain ⟨cXx_g, cXx_0, cXx_1⟩ := Xx_8.out
  go_wp2_with fail
  refine (toInts_r w8 w.heap.size A1 n1 c1 xs1 (HW1.out.below HB8.out) HB8.out.size hn1).mono ?_
  rintro e w9 ⟨⟨rfl, hc⟩, hb9⟩
  have HB9 := Lib.hid (below_on HB8.out hb9)
  have Xa_9 := Lib.hid (Xa_8.out.below hb9)
  have Xx_9 := Lib.hid (Xx_8.out.below hb9)
  have Z89 := Lib.hid (Below.size hb9)
  have Ry_9 := Lib.hid (Ry_8.out.step hb9)
  have Rz_9 := Lib.hid hc
  clear hc
  clear hb9
  clear cXa_g cXa_0 cXa_1
  clear cXx_g cXx_0 cXx_1
  obtain ⟨cXa_g, cXa_0, cXa_1⟩ := Xa_9.out
  obtain ⟨cXx_g, cXx_0, cXx_1⟩ := Xx_9.out
  go_wp2_with fail
  refine (Ry_9.out.eqW Rz_9.out (by have h := HW1.out.1; omega) true (by simp)).mono ?_
  rintro e w10 ⟨rfl, hb10⟩
  have HB10 := Lib.hid (below_on HB9.out hb10)
  have Xa_10 := Lib.hid (Xa_9.out.below hb10)
  have Xx_10 := Lib.hid (Xx_9.out.below hb10)
  have Z910 := Lib.hid (Below.size hb10)
  have Ry_10 := Lib.hid (Ry_9.out.step hb10)
  have Rz_10 := Lib.hid (Rz_9.out.step hb10)
  clear hb10
  clear cXa_g cXa_0 cXa_1
  clear cXx_g cXx_0 cXx_1
  go_wp2
  go_ret
  exact ⟨rfl, HB10.out⟩

set_option maxRecDepth 100000 in
theorem lifted (os : Os) (started : os.Started) (H : Type) (enc : TypeId × Value → H) :
    ReturnsInHanded {} Try.checked os 5 .any (Rows.fnExactUtilityOfSpec.pre6 enc Try.prog Try.f5 Rows.fnExactUtilityOfRow.domain false) (Rows.fnExactUtilityOfSpec.post enc Try.prog Try.f5 false true false false) := by
  refine returnsInHanded_of_change (C := Try.checked) own started (by kernel_rfl) Try.func5
    (ChangeSpec.witness6 (enc := enc) (C := Try.checked) false ⟨#[], #[.agg #[.int .i64 0, .slice none 0 0], .slice none 0 0], []⟩ 8 (by kernel_rfl) (by kernel_rfl) (by kernel_rfl) (by kernel_rfl)) ?_
  intro W base args ds gs before hval0 hW hcnd _
  have hval : ∀ (j : Nat) t v, Try.f5.params[j]? = some t → args[j]? = some v → Value.okWide Try.prog W .any base t v := hval0
  have hW' := hW
  obtain ⟨p, q, hA0, hV, rfl, hfz, hnd⟩ := hW
  have hA : DataW.TrodAll enc Try.prog W 0 (fun _ => true) true Try.f5.params.toList args.toList ds p := hA0
  rw [Try.params5] at hA hval
  obtain ⟨v0, vs0, d0, ds0, p0, q0, hargs, rfl, rfl, h0, r0⟩ := trodAll_cons hA
  obtain ⟨v1, vs1, d1, ds1, p1, q1, rfl, rfl, rfl, h1, r1⟩ := trodAll_cons r0
  obtain ⟨rfl, rfl, rfl⟩ := trodAll_nil r1
  obtain rfl : args = #[v0, v1] := by cases args; simp_all
  obtain ⟨rfl, rfl⟩ := trodVars_none hV
  have lt0 : ∀ x ∈ p0, x.block < W.heap.size := by obtain ⟨m, hm⟩ := h0; exact DataW.trod_lt m _ _ _ hm
  obtain ⟨t0, rfl, n0, w0⟩ := open_item (hval 0 51 v0 rfl rfl) h0
  have lt1 : ∀ x ∈ p1, x.block < W.heap.size := by obtain ⟨m, hm⟩ := h1; exact DataW.trod_lt m _ _ _ hm
  obtain ⟨A1, n1, c1, xs1, rfl, m1, w1⟩ := open_intsN (hval 1 25 v1 rfl rfl) h1
  clear hA0 hval0
  refine (walk t0 A1 n1 c1 xs1 W n0 w0 m1 w1).mono fun e W' ⟨he, hb⟩ => ?_
  subst he
  exact ⟨_, rfl, _, _, _, [], _, [], hW', trodAll_mk1 (shut_bool Try.underlying4 _), (trodAll_cons_mk (Below.trod laidOut (by kernel_rfl) (of_decide_eq_true (by kernel_rfl)) h0 hb lt0) (trodAll_cons_mk (Below.trod laidOut (by kernel_rfl) (of_decide_eq_true (by kernel_rfl)) h1 hb lt1) trodAll_mk0)), rfl, hb.frame _, fun h => by cases h⟩

theorem holds : Rows.FnExactUtilityOfSaid :=
  OpenClaim.holds_of_wide 5 Try.f5 rfl rfl rfl rfl rfl rfl rfl ⟨rfl, rfl, rfl, rfl, rfl⟩ rfl rfl rfl rfl rfl (by kernel_rfl) Try.func5 (by kernel_rfl)
    (of_decide_eq_true (by kernel_rfl)) (by unfold Func.isWrapper; first | (rw [if_pos (by decide +kernel)]; kernel_rfl) | (rw [if_neg (by decide +kernel)]; exact ⟨rfl, rfl⟩))
    (fun os started H enc _ => lifted os started H enc)

#print axioms holds
end Go.Proofs.Ytjjlhiaghjipcaa.fnExactUtilityOf
