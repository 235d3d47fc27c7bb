/- The law FnExactUnanimousBest. -/
import Derived.Test.YtceiocdemhkcdaaGreatRows
import Derived.Test.YtceiocdemhkcdaaGreatItemOpen
import Derived.Test.YtceiocdemhkcdaaGreatVotOpen
import Derived.Test.YtceiocdemhkcdaaGreatUbA
import Derived.Test.YtceiocdemhkcdaaGreatUbB
import Derived.WalkKit
import Derived.ProofKit
import Derived.OpenShut
import Derived.ShutString
import Derived.Below
namespace Go.Proofs.YtceiocdemhkcdaaGreat.fnExactUnanimousBest
set_option maxRecDepth 20000
open Go.ChangeShapes Go.WideShapes Go.ChangeAt Go.RowKit
open Go.ChangeMaps (open_string shut_string)
open Go.Proofs.YtceiocdemhkcdaaGreat.num
set_option linter.unusedVariables false
set_option linter.unusedSimpArgs false

theorem own : ownKnob Tryz.prog.godebug = none := by kernel_rfl

set_option maxHeartbeats 6400000 in
theorem walk (A0 : Option Addr) (n0 c0 : Nat) (its0 : List It) (A1 : Option Addr) (n1 c1 : Nat) (gs1 : List Vo) (w : World) (m0 : n0 ≤ 9223372036854775807) (N0 : ∀ t ∈ its0, t.n ≤ 9223372036854775807) (w0 : Items w w.heap.size A0 n0 its0) (m1 : n1 ≤ 9223372036854775807) (N1 : BigV gs1) (w1 : Votes w w.heap.size A1 n1 gs1) :
    Calls Tryz.prog 8 #[.slice A0 n0 c0, .slice A1 n1 c1] w fun e w' => e = .returned (.bool true) ∧ Below w.heap.size w w' := by
  have HM0 := Lib.hid m0
  have HN0 := Lib.hid N0
  have HW0 := Lib.hid w0
  clear m0 N0 w0
  have HM1 := Lib.hid m1
  have HL1 := Lib.hid N1
  have HW1 := Lib.hid w1
  clear m1 N1 w1
  go_enter Tryz.func8, Tryz.ntmps8
  go_wp2_with fail
  refine (szItems w w.heap.size A0 n0 c0 its0 (HW0.out.below (Below.refl w.heap.size w)) (Below.refl w.heap.size w).size HM0.out HN0.out 1048576 (by decide) (by decide)).mono ?_
  rintro e w1 ⟨⟨r0, rfl, hr0⟩, hb1⟩
  have HB1 := Lib.hid (hb1)
  have Z01 := Lib.hid (Below.size hb1)
  clear hb1
  rcases hr0 with rfl | ⟨hr0a, hr0b, hn0, hs0⟩
  · go_wp2
    go_ret
    exact ⟨rfl, HB1.out⟩
  replace hn0 : n0 ≤ 1048576 := by omega
  have HN0b : Hid (∀ t ∈ its0, t.n ≤ 1048576) := Lib.hid fun t ht => by have := hs0 t ht; omega
  clear hs0
  have hz0 : decide (r0 < 0) = false := by simp; omega
  go_wp2_with fail
  refine (szVotes_c w1 w.heap.size A1 n1 c1 gs1 (HW1.out.below HB1.out) HB1.out.size HM1.out HL1.out r0 (by omega) (by omega)).mono ?_
  rintro e w2 ⟨⟨r1, rfl, hr1⟩, hb2⟩
  have HB2 := Lib.hid (below_on HB1.out hb2)
  have Z12 := Lib.hid (Below.size hb2)
  clear hb2
  rcases hr1 with rfl | ⟨hr1a, hr1b, hn1, hs1⟩
  · go_wp2
    go_ret
    exact ⟨rfl, HB2.out⟩
  have HS1 := Lib.hid hs1
  clear hs1
  have hz1 : decide (r1 < 0) = false := by simp; omega
  obtain ⟨D, hD⟩ := UniP.some (gs1.map Vo.dat) (its0.map It.dat)
  have HD := Lib.hid hD
  have HDl : Hid (D.length ≤ 4194304) := Lib.hid (by have h1 := hD.small; omega)
  clear hD
  go_wp2_with fail
  refine (toItems_w w2 w.heap.size A0 n0 c0 its0 (HW0.out.below HB2.out) HB2.out.size hn0 HN0b.out).mono ?_
  rintro e w3 ⟨ip0, rfl, hc, hb3⟩
  have HB3 := Lib.hid (below_on HB2.out hb3)
  have Z23 := Lib.hid (Below.size hb3)
  have Ip0_3 := Lib.hid hc
  clear hc
  clear hb3
  go_wp2_with fail
  refine (toVotes_w w3 w.heap.size A1 n1 c1 gs1 (HW1.out.below HB3.out) HB3.out.size hn1 HS1.out.1).mono ?_
  rintro e w4 ⟨vp1, rfl, hc, hb4⟩
  have HB4 := Lib.hid (below_on HB3.out hb4)
  have Ip0_4 := Lib.hid (Ip0_3.out.step hb4)
  have Z34 := Lib.hid (Below.size hb4)
  have Vp1_4 := Lib.hid hc
  clear hc
  clear hb4
  go_wp2_with fail
  refine (sUnan _ _ _ n0 n0 ip0 _ n1 n1 vp1 (InG.copies Ip0_4.out Vp1_4.out hn0 hn1) D (by rw [Vp1_4.out.dat, Ip0_4.out.c.dat]; exact HD.out)).mono ?_
  rintro e w5 ⟨⟨va, rfl, ho⟩, hb5⟩
  have HB5 := Lib.hid (below_on HB4.out hb5)
  have Ip0_5 := Lib.hid (Ip0_4.out.step hb5)
  have Vp1_5 := Lib.hid (Vp1_4.out.step hb5)
  have Z45 := Lib.hid (Below.size hb5)
  obtain ⟨Aa, na, ca, rfl, -⟩ := ho.ints
  have Ra_5 := Lib.hid (ResI.new ho)
  clear ho
  clear hb5
  go_wp2_with fail
  refine (toItems_w w5 w.heap.size A0 n0 c0 its0 (HW0.out.below HB5.out) HB5.out.size hn0 HN0b.out).mono ?_
  rintro e w6 ⟨ix0, rfl, hc, hb6⟩
  have HB6 := Lib.hid (below_on HB5.out hb6)
  have Z56 := Lib.hid (Below.size hb6)
  have Ra_6 := Lib.hid (Ra_5.out.step hb6)
  have Ix0_6 := Lib.hid hc
  clear hc
  clear hb6
  go_wp2_with fail
  refine (toVotes_w w6 w.heap.size A1 n1 c1 gs1 (HW1.out.below HB6.out) HB6.out.size hn1 HS1.out.1).mono ?_
  rintro e w7 ⟨vx1, rfl, hc, hb7⟩
  have HB7 := Lib.hid (below_on HB6.out hb7)
  have Ix0_7 := Lib.hid (Ix0_6.out.step hb7)
  have Z67 := Lib.hid (Below.size hb7)
  have Ra_7 := Lib.hid (Ra_6.out.step hb7)
  have Vx1_7 := Lib.hid hc
  clear hc
  clear hb7
  have Rx1_7 := Lib.hid (Vx1_7.out.res)
  go_wp2_with fail
  refine (iUnan _ _ _ n0 n0 ix0 _ n1 n1 vx1 (InG.copies Ix0_7.out Vx1_7.out hn0 hn1) D (by rw [Vx1_7.out.dat, Ix0_7.out.c.dat]; exact HD.out)).mono ?_
  rintro e w8 ⟨⟨vg, rfl, ho⟩, hb8⟩
  have HB8 := Lib.hid (below_on HB7.out hb8)
  have Ix0_8 := Lib.hid (Ix0_7.out.step hb8)
  have Vx1_8 := Lib.hid (Vx1_7.out.step hb8)
  have Z78 := Lib.hid (Below.size hb8)
  have Ra_8 := Lib.hid (Ra_7.out.step hb8)
  have Rx1_8 := Lib.hid (Rx1_7.out.step hb8)
  obtain ⟨Ag, ng, cg, rfl, -⟩ := ho.ints
  have Rg_8 := Lib.hid (ResI.new ho)
  clear ho
  clear hb8
  go_wp2_with fail
  refine (Rg_8.out.eqW Ra_8.out HDl.out true (by simp)).mono ?_
  rintro e w9 ⟨rfl, hb9⟩
  have HB9 := Lib.hid (below_on HB8.out hb9)
  have Ix0_9 := Lib.hid (Ix0_8.out.step hb9)
  have Vx1_9 := Lib.hid (Vx1_8.out.step hb9)
  have Z89 := Lib.hid (Below.size hb9)
  have Ra_9 := Lib.hid (Ra_8.out.step hb9)
  have Rx1_9 := Lib.hid (Rx1_8.out.step hb9)
  have Rg_9 := Lib.hid (Rg_8.out.step hb9)
  clear hb9
  go_wp2_with fail
  refine (toItems_w w9 w.heap.size A0 n0 c0 its0 (HW0.out.below HB9.out) HB9.out.size hn0 HN0b.out).mono ?_
  rintro e w10 ⟨iz, rfl, hc, hb10⟩
  have HB10 := Lib.hid (below_on HB9.out hb10)
  have Ix0_10 := Lib.hid (Ix0_9.out.step hb10)
  have Vx1_10 := Lib.hid (Vx1_9.out.step hb10)
  have Z910 := Lib.hid (Below.size hb10)
  have Ra_10 := Lib.hid (Ra_9.out.step hb10)
  have Rx1_10 := Lib.hid (Rx1_9.out.step hb10)
  have Rg_10 := Lib.hid (Rg_9.out.step hb10)
  have Iz_10 := Lib.hid hc
  clear hc
  clear hb10
  go_wp2_with fail
  refine (eqItems_w _ _ _ _ _ _ _ _ _ Ix0_10.out Iz_10.out hn0).mono ?_
  rintro e w11 ⟨rfl, hb11⟩
  have HB11 := Lib.hid (below_on HB10.out hb11)
  have Ix0_11 := Lib.hid (Ix0_10.out.step hb11)
  have Vx1_11 := Lib.hid (Vx1_10.out.step hb11)
  have Iz_11 := Lib.hid (Iz_10.out.step hb11)
  have Z1011 := Lib.hid (Below.size hb11)
  have Ra_11 := Lib.hid (Ra_10.out.step hb11)
  have Rx1_11 := Lib.hid (Rx1_10.out.step hb11)
  have Rg_11 := Lib.hid (Rg_10.out.step hb11)
  clear hb11
  go_wp2_with fail
  refine (toVotes_w w11 w.heap.size A1 n1 c1 gs1 (HW1.out.below HB11.out) HB11.out.size hn1 HS1.out.1).mono ?_
  rintro e w12 ⟨vz, rfl, hc, hb12⟩
  have HB12 := Lib.hid (below_on HB11.out hb12)
  have Ix0_12 := Lib.hid (Ix0_11.out.step hb12)
  have Vx1_12 := Lib.hid (Vx1_11.out.step hb12)
  have Z1112 := Lib.hid (Below.size hb12)
  have Ra_12 := Lib.hid (Ra_11.out.step hb12)
  have Rx1_12 := Lib.hid (Rx1_11.out.step hb12)
  have Rg_12 := Lib.hid (Rg_11.out.step hb12)
  have Vz_12 := Lib.hid hc
  clear hc
  clear hb12
  go_wp2_with fail
  refine (eqVotes_w _ _ _ _ _ _ _ Vx1_12.out Vz_12.out hn1).mono ?_
  rintro e w13 ⟨rfl, hb13⟩
  have HB13 := Lib.hid (below_on HB12.out hb13)
  have Ix0_13 := Lib.hid (Ix0_12.out.step hb13)
  have Vx1_13 := Lib.hid (Vx1_12.out.step hb13)
  have Vz_13 := Lib.hid (Vz_12.out.step hb13)
  have Z1213 := Lib.hid (Below.size hb13)
  have Ra_13 := Lib.hid (Ra_12.out.step hb13)
  have Rx1_13 := Lib.hid (Rx1_12.out.step hb13)
  have Rg_13 := Lib.hid (Rg_12.out.step hb13)
  clear hb13
  have Sx1 : Hid (ShortV vx1 ∧ sumV vx1 ≤ 1048576) := Lib.hid ⟨Vx1_13.out.short, by rw [Vx1_13.out.sum]; exact HS1.out.2⟩
  have z2 := Z23.out
  have z3 := Z34.out
  have z4 := Z45.out
  have z5 := Z56.out
  have z6 := Z67.out
  have z7 := Z78.out
  have z1 := HB2.out.size
  go_wp2_with fail
  refine (Ix0_13.out.mark hn0).mono ?_
  rintro e w14 ⟨⟨rk, rfl, hk0, hk9⟩, hon⟩
  have HB14 := Lib.hid (HB13.out.trans (hon.lo (by omega)))
  have Ra_14 := Lib.hid (Ra_13.out.only hon (fun b hb => by obtain ⟨h1, h2⟩ := hb; omega))
  have Rx1_14 := Lib.hid (Rx1_13.out.only hon (fun b hb => by obtain ⟨h1, h2⟩ := hb; omega))
  have Rg_14 := Lib.hid (Rg_13.out.only hon (fun b hb => by obtain ⟨h1, h2⟩ := hb; omega))
  clear hon
  go_wp2_with fail
  refine (Rx1_14.out.mark hn1 Sx1.out.1 Sx1.out.2 _ (rk) (by simp) (by omega)).mono ?_
  rintro e w15 ⟨⟨M1, rfl, hMb1⟩, hon⟩
  have HB15 := Lib.hid (HB14.out.trans (hon.lo (by omega)))
  have Ra_15 := Lib.hid (Ra_14.out.only hon (fun b hb => by obtain ⟨h1, h2⟩ := hb; omega))
  have Rg_15 := Lib.hid (Rg_14.out.only hon (fun b hb => by obtain ⟨h1, h2⟩ := hb; omega))
  clear hon
  have hk1 : decide (((M1 : Nat) : Int) < 0) = false := by simp
  go_wp2_with fail
  refine (Rg_15.out.eqW Ra_15.out HDl.out true (by simp)).mono ?_
  rintro e w16 ⟨rfl, hb16⟩
  have HB16 := Lib.hid (below_on HB15.out hb16)
  have Z1516 := Lib.hid (Below.size hb16)
  have Ra_16 := Lib.hid (Ra_15.out.step hb16)
  have Rg_16 := Lib.hid (Rg_15.out.step hb16)
  clear hb16
  go_wp2_with fail
  refine (Rg_16.out.markW HDl.out _ 1 (by simp) (by decide)).mono ?_
  rintro e w17 ⟨rfl, hm, hon⟩
  have HB17 := Lib.hid (HB16.out.trans (hon.lo (by omega)))
  have Ra_17 := Lib.hid (Ra_16.out.only hon (fun b hb => by obtain ⟨h1, h2⟩ := hb; omega))
  have Rg_17 := Lib.hid hm
  clear hm hon
  clear z1 hk1 z2 z3 z4 z5 z6 z7
  obtain ⟨M, hM⟩ : ∃ M : Nat, 1 + D.length = M := ⟨_, rfl⟩
  have HM := Lib.hid hM
  rw [hM]
  clear hM
  have hm1 : decide ((M : Int) < 0) = false := by simp
  have hm2 : ((M : Int) != (M : Int)) = false := by simp
  go_wp2_with fail
  refine (Rg_17.out.heldW HDl.out _ (by simp) (by decide)).mono ?_
  rintro e wh ⟨rfl, hw⟩
  rw [← hw, HM.out]
  clear hw wh
  go_wp2_with fail
  refine (toItems_w w17 w.heap.size A0 n0 c0 its0 (HW0.out.below HB17.out) HB17.out.size hn0 HN0b.out).mono ?_
  rintro e w18 ⟨ie0, rfl, hc, hb18⟩
  have HB18 := Lib.hid (below_on HB17.out hb18)
  have Z1718 := Lib.hid (Below.size hb18)
  have Ra_18 := Lib.hid (Ra_17.out.step hb18)
  have Rg_18 := Lib.hid (Rg_17.out.step hb18)
  have Ie0_18 := Lib.hid hc
  clear hc
  clear hb18
  go_wp2_with fail
  refine (toVotes_w w18 w.heap.size A1 n1 c1 gs1 (HW1.out.below HB18.out) HB18.out.size hn1 HS1.out.1).mono ?_
  rintro e w19 ⟨ve1, rfl, hc, hb19⟩
  have HB19 := Lib.hid (below_on HB18.out hb19)
  have Ie0_19 := Lib.hid (Ie0_18.out.step hb19)
  have Z1819 := Lib.hid (Below.size hb19)
  have Ra_19 := Lib.hid (Ra_18.out.step hb19)
  have Rg_19 := Lib.hid (Rg_18.out.step hb19)
  have Ve1_19 := Lib.hid hc
  clear hc
  clear hb19
  go_wp2_with fail
  refine (iUnan _ _ _ n0 n0 ie0 _ n1 n1 ve1 (InG.copies Ie0_19.out Ve1_19.out hn0 hn1) D (by rw [Ve1_19.out.dat, Ie0_19.out.c.dat]; exact HD.out)).mono ?_
  rintro e w20 ⟨⟨vh, rfl, ho⟩, hb20⟩
  have HB20 := Lib.hid (below_on HB19.out hb20)
  have Ie0_20 := Lib.hid (Ie0_19.out.step hb20)
  have Ve1_20 := Lib.hid (Ve1_19.out.step hb20)
  have Z1920 := Lib.hid (Below.size hb20)
  have Ra_20 := Lib.hid (Ra_19.out.step hb20)
  have Rg_20 := Lib.hid (Rg_19.out.step hb20)
  obtain ⟨Ah, nh, ch, rfl, -⟩ := ho.ints
  have Rh_20 := Lib.hid (ResI.new ho)
  clear ho
  clear hb20
  go_wp2_with fail
  refine (Rh_20.out.eqW Ra_20.out HDl.out true (by simp)).mono ?_
  rintro e w21 ⟨rfl, hb21⟩
  have HB21 := Lib.hid (below_on HB20.out hb21)
  have Z2021 := Lib.hid (Below.size hb21)
  have Ra_21 := Lib.hid (Ra_20.out.step hb21)
  have Rg_21 := Lib.hid (Rg_20.out.step hb21)
  have Rh_21 := Lib.hid (Rh_20.out.step hb21)
  clear hb21
  go_wp2_with fail
  refine (Rg_21.out.heldW HDl.out _ (by simp) (by decide)).mono ?_
  rintro e wh ⟨rfl, hw⟩
  rw [← hw, HM.out]
  clear hw wh
  go_wp2
  go_ret
  exact ⟨rfl, HB21.out⟩

set_option maxRecDepth 100000 in
theorem lifted (os : Os) (started : os.Started) (H : Type) (enc : TypeId × Value → H) :
    ReturnsInHanded {} Tryz.checked os 8 .any (Rows.fnExactUnanimousBestSpec.pre6 enc Tryz.prog Tryz.f8 Rows.fnExactUnanimousBestRow.domain false) (Rows.fnExactUnanimousBestSpec.post enc Tryz.prog Tryz.f8 false true false false) := by
  refine returnsInHanded_of_change (C := Tryz.checked) own started (by kernel_rfl) Tryz.func8
    (ChangeSpec.witness6 (enc := enc) (C := Tryz.checked) false ⟨#[], #[.slice none 0 0, .slice none 0 0], []⟩ 8 (by kernel_rfl) (by kernel_rfl) (by kernel_rfl) (by kernel_rfl)) ?_
  intro W base args ds gs before hval0 hW hcnd _
  have hval : ∀ (j : Nat) t v, Tryz.f8.params[j]? = some t → args[j]? = some v → Value.okWide Tryz.prog W .any base t v := hval0
  have hW' := hW
  obtain ⟨p, q, hA0, hV, rfl, hfz, hnd⟩ := hW
  have hA : DataW.TrodAll enc Tryz.prog W 0 (fun _ => true) true Tryz.f8.params.toList args.toList ds p := hA0
  rw [Tryz.params8] at hA hval
  obtain ⟨v0, vs0, d0, ds0, p0, q0, hargs, rfl, rfl, h0, r0⟩ := trodAll_cons hA
  obtain ⟨v1, vs1, d1, ds1, p1, q1, rfl, rfl, rfl, h1, r1⟩ := trodAll_cons r0
  obtain ⟨rfl, rfl, rfl⟩ := trodAll_nil r1
  obtain rfl : args = #[v0, v1] := by cases args; simp_all
  obtain ⟨rfl, rfl⟩ := trodVars_none hV
  have lt0 : ∀ x ∈ p0, x.block < W.heap.size := by obtain ⟨m, hm⟩ := h0; exact DataW.trod_lt m _ _ _ hm
  obtain ⟨A0, n0, c0, its0, rfl, m0, N0, w0⟩ := open_items (hval 0 43 v0 rfl rfl) h0
  have lt1 : ∀ x ∈ p1, x.block < W.heap.size := by obtain ⟨m, hm⟩ := h1; exact DataW.trod_lt m _ _ _ hm
  obtain ⟨A1, n1, c1, gs1, rfl, m1, N1, w1⟩ := open_votes (hval 1 44 v1 rfl rfl) h1
  clear hA0 hval0
  refine (walk A0 n0 c0 its0 A1 n1 c1 gs1 W m0 N0 w0 m1 N1 w1).mono fun e W' ⟨he, hb⟩ => ?_
  subst he
  exact ⟨_, rfl, _, _, _, [], _, [], hW', trodAll_mk1 (shut_bool Tryz.underlying4 _), (trodAll_cons_mk (Below.trod laidOut (by kernel_rfl) (of_decide_eq_true (by kernel_rfl)) h0 hb lt0) (trodAll_cons_mk (Below.trod laidOut (by kernel_rfl) (of_decide_eq_true (by kernel_rfl)) h1 hb lt1) trodAll_mk0)), rfl, hb.frame _, fun h => by cases h⟩

theorem holds : Rows.FnExactUnanimousBestSaid :=
  OpenClaim.holds_of_wide_leaving 8 Tryz.f8 rfl rfl rfl rfl rfl rfl rfl ⟨rfl, rfl, rfl, rfl, rfl⟩ rfl rfl rfl rfl rfl (by kernel_rfl) Tryz.func8 (by kernel_rfl)
    (of_decide_eq_true (by kernel_rfl)) (by unfold Func.isWrapper; first | (rw [if_pos (by decide +kernel)]; kernel_rfl) | (rw [if_neg (by decide +kernel)]; exact ⟨rfl, rfl⟩))
    (fun os started H enc _ => leaving_handed (lifted os started H enc))

#print axioms holds
end Go.Proofs.YtceiocdemhkcdaaGreat.fnExactUnanimousBest
