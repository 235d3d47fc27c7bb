/- The law FnExactSmallestSet. -/
import Derived.Test.YtjjlhiaghjipcaaRows
import Derived.Test.YtjjlhiaghjipcaaItemOpen
import Derived.Test.YtjjlhiaghjipcaaLawInts
import Derived.Test.YtjjlhiaghjipcaaSmA
import Derived.Test.YtjjlhiaghjipcaaSmB
import Derived.WalkKit
import Derived.ProofKit
import Derived.OpenShut
import Derived.ShutString
import Derived.Below
namespace Go.Proofs.Ytjjlhiaghjipcaa.fnExactSmallestSet
set_option maxRecDepth 20000
open Go.ChangeShapes Go.WideShapes Go.ChangeAt Go.RowKit
open Go.ChangeMaps (open_string shut_string)
open Go.Proofs.Ytjjlhiaghjipcaa.num
set_option linter.unusedVariables false
set_option linter.unusedSimpArgs false

theorem own : ownKnob Try.prog.godebug = none := by kernel_rfl

set_option maxHeartbeats 6400000 in
theorem walk (A0 : Option Addr) (n0 c0 : Nat) (its0 : List It) (a1 : Int) (a2 : Int) (w : World) (m0 : n0 ≤ 9223372036854775807) (N0 : ∀ t ∈ its0, t.n ≤ 9223372036854775807) (w0 : Items w w.heap.size A0 n0 its0) (w1 : (Lit.int .i64 a1).wf = true) (w2 : (Lit.int .i64 a2).wf = true) :
    Calls Try.prog 8 #[.slice A0 n0 c0, .int .i64 a1, .int .i64 a2] w fun e w' => e = .returned (.bool true) ∧ Below w.heap.size w w' := by
  have HM0 := Lib.hid m0
  have HN0 := Lib.hid N0
  have HW0 := Lib.hid w0
  clear m0 N0 w0
  have HI1 := Lib.hid w1
  clear w1
  have HI2 := Lib.hid w2
  clear w2
  go_enter Try.func8, Try.ntmps8
  go_wp2_with fail
  refine (szItems w w.heap.size A0 n0 c0 its0 (HW0.out.below (Below.refl w.heap.size w)) (Below.refl w.heap.size w).size HM0.out HN0.out 1048576 (by decide) (by decide)).mono ?_
  rintro e w1 ⟨⟨r0, rfl, hr0⟩, hb1⟩
  have HB1 := Lib.hid (hb1)
  have Z01 := Lib.hid (Below.size hb1)
  clear hb1
  rcases hr0 with rfl | ⟨hr0a, hr0b, hn0, hs0⟩
  · go_wp2
    go_ret
    exact ⟨rfl, HB1.out⟩
  replace hn0 : n0 ≤ 1048576 := by omega
  have HN0b : Hid (∀ t ∈ its0, t.n ≤ 1048576) := Lib.hid fun t ht => by have := hs0 t ht; omega
  clear hs0
  have hz0 : decide (r0 < 0) = false := by simp; omega
  obtain ⟨D, ok, hD⟩ := SmallP.some (its0.map It.dat) a1 a2
  have HD := Lib.hid hD
  have HDl : Hid (D.length ≤ 4194304) := Lib.hid (by have h1 := hD.small; omega)
  clear hD
  have hoo : (ok != ok) = false := by simp
  go_wp2_with fail
  refine (toItems_w w1 w.heap.size A0 n0 c0 its0 (HW0.out.below HB1.out) HB1.out.size hn0 HN0b.out).mono ?_
  rintro e w2 ⟨ip0, rfl, hc, hb2⟩
  have HB2 := Lib.hid (below_on HB1.out hb2)
  have Z12 := Lib.hid (Below.size hb2)
  have Ip0_2 := Lib.hid hc
  clear hc
  clear hb2
  go_wp2_with fail
  refine (sSmall _ _ _ n0 n0 ip0 Ip0_2.out.c.items (Nat.le_refl _) hn0 Ip0_2.out.c.small a1 a2 D ok (by rw [Ip0_2.out.c.dat]; exact HD.out)).mono ?_
  rintro e w3 ⟨⟨va, rfl, ho⟩, hb3⟩
  have HB3 := Lib.hid (below_on HB2.out hb3)
  have Ip0_3 := Lib.hid (Ip0_2.out.step hb3)
  have Z23 := Lib.hid (Below.size hb3)
  obtain ⟨Aa, na, ca, rfl, -⟩ := ho.ints
  have Ra_3 := Lib.hid (ResI.new ho)
  clear ho
  clear hb3
  go_wp2_with fail
  refine (toItems_w w3 w.heap.size A0 n0 c0 its0 (HW0.out.below HB3.out) HB3.out.size hn0 HN0b.out).mono ?_
  rintro e w4 ⟨ix0, rfl, hc, hb4⟩
  have HB4 := Lib.hid (below_on HB3.out hb4)
  have Z34 := Lib.hid (Below.size hb4)
  have Ra_4 := Lib.hid (Ra_3.out.step hb4)
  have Ix0_4 := Lib.hid hc
  clear hc
  clear hb4
  go_wp2_with fail
  refine (iSmall _ _ _ n0 n0 ix0 Ix0_4.out.c.items (Nat.le_refl _) hn0 a1 a2 D ok (by rw [Ix0_4.out.c.dat]; exact HD.out)).mono ?_
  rintro e w5 ⟨⟨vg, rfl, ho⟩, hb5⟩
  have HB5 := Lib.hid (below_on HB4.out hb5)
  have Ix0_5 := Lib.hid (Ix0_4.out.step hb5)
  have Z45 := Lib.hid (Below.size hb5)
  have Ra_5 := Lib.hid (Ra_4.out.step hb5)
  obtain ⟨Ag, ng, cg, rfl, -⟩ := ho.ints
  have Rg_5 := Lib.hid (ResI.new ho)
  clear ho
  clear hb5
  go_wp2_with fail
  refine (Rg_5.out.eqW Ra_5.out HDl.out true (by simp)).mono ?_
  rintro e w6 ⟨rfl, hb6⟩
  have HB6 := Lib.hid (below_on HB5.out hb6)
  have Ix0_6 := Lib.hid (Ix0_5.out.step hb6)
  have Z56 := Lib.hid (Below.size hb6)
  have Ra_6 := Lib.hid (Ra_5.out.step hb6)
  have Rg_6 := Lib.hid (Rg_5.out.step hb6)
  clear hb6
  go_wp2_with fail
  refine (toItems_w w6 w.heap.size A0 n0 c0 its0 (HW0.out.below HB6.out) HB6.out.size hn0 HN0b.out).mono ?_
  rintro e w7 ⟨iz, rfl, hc, hb7⟩
  have HB7 := Lib.hid (below_on HB6.out hb7)
  have Ix0_7 := Lib.hid (Ix0_6.out.step hb7)
  have Z67 := Lib.hid (Below.size hb7)
  have Ra_7 := Lib.hid (Ra_6.out.step hb7)
  have Rg_7 := Lib.hid (Rg_6.out.step hb7)
  have Iz_7 := Lib.hid hc
  clear hc
  clear hb7
  go_wp2_with fail
  refine (eqItems_w _ _ _ _ _ _ _ _ _ Ix0_7.out Iz_7.out hn0).mono ?_
  rintro e w8 ⟨rfl, hb8⟩
  have HB8 := Lib.hid (below_on HB7.out hb8)
  have Ix0_8 := Lib.hid (Ix0_7.out.step hb8)
  have Iz_8 := Lib.hid (Iz_7.out.step hb8)
  have Z78 := Lib.hid (Below.size hb8)
  have Ra_8 := Lib.hid (Ra_7.out.step hb8)
  have Rg_8 := Lib.hid (Rg_7.out.step hb8)
  clear hb8
  have z2 := Z23.out
  have z3 := Z34.out
  have z4 := Z45.out
  have z1 := HB2.out.size
  go_wp2_with fail
  refine (Ix0_8.out.mark hn0).mono ?_
  rintro e w9 ⟨⟨rk, rfl, hk0, hk9⟩, hon⟩
  have HB9 := Lib.hid (HB8.out.trans (hon.lo (by omega)))
  have Ra_9 := Lib.hid (Ra_8.out.only hon (fun b hb => by obtain ⟨h1, h2⟩ := hb; omega))
  have Rg_9 := Lib.hid (Rg_8.out.only hon (fun b hb => by obtain ⟨h1, h2⟩ := hb; omega))
  clear hon
  have hk1 : decide (((rk : Nat) : Int) < 0) = false := by simp
  go_wp2_with fail
  refine (Rg_9.out.eqW Ra_9.out HDl.out true (by simp)).mono ?_
  rintro e w10 ⟨rfl, hb10⟩
  have HB10 := Lib.hid (below_on HB9.out hb10)
  have Z910 := Lib.hid (Below.size hb10)
  have Ra_10 := Lib.hid (Ra_9.out.step hb10)
  have Rg_10 := Lib.hid (Rg_9.out.step hb10)
  clear hb10
  go_wp2_with fail
  refine (Rg_10.out.markW HDl.out _ 1 (by simp) (by decide)).mono ?_
  rintro e w11 ⟨rfl, hm, hon⟩
  have HB11 := Lib.hid (HB10.out.trans (hon.lo (by omega)))
  have Ra_11 := Lib.hid (Ra_10.out.only hon (fun b hb => by obtain ⟨h1, h2⟩ := hb; omega))
  have Rg_11 := Lib.hid hm
  clear hm hon
  clear z1 hk1 z2 z3 z4
  obtain ⟨M, hM⟩ : ∃ M : Nat, 1 + D.length = M := ⟨_, rfl⟩
  have HM := Lib.hid hM
  rw [hM]
  clear hM
  have hm1 : decide ((M : Int) < 0) = false := by simp
  have hm2 : ((M : Int) != (M : Int)) = false := by simp
  go_wp2_with fail
  refine (Rg_11.out.heldW HDl.out _ (by simp) (by decide)).mono ?_
  rintro e wh ⟨rfl, hw⟩
  rw [← hw, HM.out]
  clear hw wh
  go_wp2_with fail
  refine (toItems_w w11 w.heap.size A0 n0 c0 its0 (HW0.out.below HB11.out) HB11.out.size hn0 HN0b.out).mono ?_
  rintro e w12 ⟨ie0, rfl, hc, hb12⟩
  have HB12 := Lib.hid (below_on HB11.out hb12)
  have Z1112 := Lib.hid (Below.size hb12)
  have Ra_12 := Lib.hid (Ra_11.out.step hb12)
  have Rg_12 := Lib.hid (Rg_11.out.step hb12)
  have Ie0_12 := Lib.hid hc
  clear hc
  clear hb12
  go_wp2_with fail
  refine (iSmall _ _ _ n0 n0 ie0 Ie0_12.out.c.items (Nat.le_refl _) hn0 a1 a2 D ok (by rw [Ie0_12.out.c.dat]; exact HD.out)).mono ?_
  rintro e w13 ⟨⟨vh, rfl, ho⟩, hb13⟩
  have HB13 := Lib.hid (below_on HB12.out hb13)
  have Ie0_13 := Lib.hid (Ie0_12.out.step hb13)
  have Z1213 := Lib.hid (Below.size hb13)
  have Ra_13 := Lib.hid (Ra_12.out.step hb13)
  have Rg_13 := Lib.hid (Rg_12.out.step hb13)
  obtain ⟨Ah, nh, ch, rfl, -⟩ := ho.ints
  have Rh_13 := Lib.hid (ResI.new ho)
  clear ho
  clear hb13
  go_wp2_with fail
  refine (Rh_13.out.eqW Ra_13.out HDl.out true (by simp)).mono ?_
  rintro e w14 ⟨rfl, hb14⟩
  have HB14 := Lib.hid (below_on HB13.out hb14)
  have Z1314 := Lib.hid (Below.size hb14)
  have Ra_14 := Lib.hid (Ra_13.out.step hb14)
  have Rg_14 := Lib.hid (Rg_13.out.step hb14)
  have Rh_14 := Lib.hid (Rh_13.out.step hb14)
  clear hb14
  go_wp2_with fail
  refine (Rg_14.out.heldW HDl.out _ (by simp) (by decide)).mono ?_
  rintro e wh ⟨rfl, hw⟩
  rw [← hw, HM.out]
  clear hw wh
  go_wp2
  go_ret
  exact ⟨rfl, HB14.out⟩

set_option maxRecDepth 100000 in
theorem lifted (os : Os) (started : os.Started) (H : Type) (enc : TypeId × Value → H) :
    ReturnsInHanded {} Try.checked os 8 .any (Rows.fnExactSmallestSetSpec.pre6 enc Try.prog Try.f8 Rows.fnExactSmallestSetRow.domain false) (Rows.fnExactSmallestSetSpec.post enc Try.prog Try.f8 false true false false) := by
  refine returnsInHanded_of_change (C := Try.checked) own started (by kernel_rfl) Try.func8
    (ChangeSpec.witness6 (enc := enc) (C := Try.checked) false ⟨#[], #[.slice none 0 0, .int .i64 0, .int .i64 0], []⟩ 8 (by kernel_rfl) (by kernel_rfl) (by kernel_rfl) (by kernel_rfl)) ?_
  intro W base args ds gs before hval0 hW hcnd _
  have hval : ∀ (j : Nat) t v, Try.f8.params[j]? = some t → args[j]? = some v → Value.okWide Try.prog W .any base t v := hval0
  have hW' := hW
  obtain ⟨p, q, hA0, hV, rfl, hfz, hnd⟩ := hW
  have hA : DataW.TrodAll enc Try.prog W 0 (fun _ => true) true Try.f8.params.toList args.toList ds p := hA0
  rw [Try.params8] at hA hval
  obtain ⟨v0, vs0, d0, ds0, p0, q0, hargs, rfl, rfl, h0, r0⟩ := trodAll_cons hA
  obtain ⟨v1, vs1, d1, ds1, p1, q1, rfl, rfl, rfl, h1, r1⟩ := trodAll_cons r0
  obtain ⟨v2, vs2, d2, ds2, p2, q2, rfl, rfl, rfl, h2, r2⟩ := trodAll_cons r1
  obtain ⟨rfl, rfl, rfl⟩ := trodAll_nil r2
  obtain rfl : args = #[v0, v1, v2] := by cases args; simp_all
  obtain ⟨rfl, rfl⟩ := trodVars_none hV
  have lt0 : ∀ x ∈ p0, x.block < W.heap.size := by obtain ⟨m, hm⟩ := h0; exact DataW.trod_lt m _ _ _ hm
  obtain ⟨A0, n0, c0, its0, rfl, m0, N0, w0⟩ := open_items (hval 0 57 v0 rfl rfl) h0
  obtain ⟨a1, rfl, rfl, rfl, w1⟩ := open_int Try.underlying3 (hval 1 3 v1 rfl rfl) h1
  obtain ⟨a2, rfl, rfl, rfl, w2⟩ := open_int Try.underlying3 (hval 2 3 v2 rfl rfl) h2
  clear hA0 hval0
  refine (walk A0 n0 c0 its0 a1 a2 W m0 N0 w0 w1 w2).mono fun e W' ⟨he, hb⟩ => ?_
  subst he
  exact ⟨_, rfl, _, _, _, [], _, [], hW', trodAll_mk1 (shut_bool Try.underlying4 _), (trodAll_cons_mk (Below.trod laidOut (by kernel_rfl) (of_decide_eq_true (by kernel_rfl)) h0 hb lt0) (trodAll_cons_mk (shut_int Try.underlying3 w1) (trodAll_cons_mk (shut_int Try.underlying3 w2) trodAll_mk0))), rfl, hb.frame _, fun h => by cases h⟩

theorem holds : Rows.FnExactSmallestSetSaid :=
  OpenClaim.holds_of_wide 8 Try.f8 rfl rfl rfl rfl rfl rfl rfl ⟨rfl, rfl, rfl, rfl, rfl⟩ rfl rfl rfl rfl rfl (by kernel_rfl) Try.func8 (by kernel_rfl)
    (of_decide_eq_true (by kernel_rfl)) (by unfold Func.isWrapper; first | (rw [if_pos (by decide +kernel)]; kernel_rfl) | (rw [if_neg (by decide +kernel)]; exact ⟨rfl, rfl⟩))
    (fun os started H enc _ => lifted os started H enc)

#print axioms holds
end Go.Proofs.Ytjjlhiaghjipcaa.fnExactSmallestSet
