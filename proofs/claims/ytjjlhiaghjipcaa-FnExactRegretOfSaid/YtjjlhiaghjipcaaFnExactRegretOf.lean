/- The law of RegretOf returns true, whatever the items and the numbers: the program and the model answer the same; what came in reads as it did; what the program hands back is memory of its own. -/
import Derived.Test.YtjjlhiaghjipcaaRows
import Derived.Test.YtjjlhiaghjipcaaItemOpen
import Derived.Test.YtjjlhiaghjipcaaLawInts
import Derived.Test.YtjjlhiaghjipcaaLawInts
import Derived.Test.YtjjlhiaghjipcaaRegretI
import Derived.Test.YtjjlhiaghjipcaaRegretS
import Derived.WalkKit
import Derived.ProofKit
import Derived.OpenShut
import Derived.ShutString
import Derived.Below
namespace Go.Proofs.Ytjjlhiaghjipcaa.fnExactRegretOf
set_option maxRecDepth 20000
open Go.ChangeShapes Go.WideShapes Go.ChangeAt Go.RowKit
open Go.ChangeMaps (open_string shut_string)
open Go.Proofs.Ytjjlhiaghjipcaa.num
set_option linter.unusedVariables false
set_option linter.unusedSimpArgs false

theorem own : ownKnob Try.prog.godebug = none := by kernel_rfl

set_option maxHeartbeats 6400000 in
theorem walk (A0 : Option Addr) (n0 c0 : Nat) (its0 : List It) (A1 : Option Addr) (n1 c1 : Nat) (xs1 : List Int) (w : World) (m0 : n0 ≤ 9223372036854775807) (N0 : ∀ t ∈ its0, t.n ≤ 9223372036854775807) (w0 : Items w w.heap.size A0 n0 its0) (m1 : n1 ≤ 9223372036854775807) (w1 : Ints w w.heap.size A1 n1 xs1) :
    Calls Try.prog 7 #[.slice A0 n0 c0, .slice A1 n1 c1] w fun e w' => e = .returned (.bool true) ∧ Below w.heap.size w w' := by
  have HM0 := Lib.hid m0
  have HN0 := Lib.hid N0
  have HW0 := Lib.hid w0
  clear m0 N0 w0
  have HM1 := Lib.hid m1
  have HW1 := Lib.hid w1
  clear w1
  go_enter Try.func7, Try.ntmps7
  by_cases hq1 : 1048576 < n1
  · have hd1 : decide ((n1 : Int) > 1048576) = true := by simp; omega
    go_wp2
    go_ret
    exact ⟨rfl, Below.refl _ _⟩
  have hd1 : decide ((n1 : Int) > 1048576) = false := by simp; omega
  have hn1 : n1 ≤ 1048576 := by omega
  clear hq1 m1
  go_wp2_with fail
  refine (szItems w w.heap.size A0 n0 c0 its0 (HW0.out.below (Below.refl w.heap.size w)) (Below.refl w.heap.size w).size HM0.out HN0.out 1048576 (by decide) (by decide)).mono ?_
  rintro e w1 ⟨⟨r0, rfl, hr0⟩, hb1⟩
  have HB1 := Lib.hid (hb1)
  have Z01 := Lib.hid (Below.size hb1)
  clear hb1
  rcases hr0 with rfl | ⟨hr0a, hr0b, hn0, hs0⟩
  · go_wp2
    go_ret
    exact ⟨rfl, HB1.out⟩
  replace hn0 : n0 ≤ 1048576 := by omega
  have HN0b : Hid (∀ t ∈ its0, t.n ≤ 1048576) := Lib.hid fun t ht => by have := hs0 t ht; omega
  clear hs0
  have hz0 : decide (r0 < 0) = false := by simp; omega
  obtain ⟨N, E, D, hD⟩ := RegP.some (its0.map It.dat) xs1
  have HD := Lib.hid hD
  have HDl : Hid (D.length ≤ 4194304) := Lib.hid (by have h1 := hD.small; omega)
  clear hD
  have hnn : (N != N) = false := by simp
  have hee : (E != E) = false := by simp
  go_wp2_with fail
  refine (toItems_w w1 w.heap.size A0 n0 c0 its0 (HW0.out.below HB1.out) HB1.out.size hn0 HN0b.out).mono ?_
  rintro e w2 ⟨ip0, rfl, hc, hb2⟩
  have HB2 := Lib.hid (below_on HB1.out hb2)
  have Z12 := Lib.hid (Below.size hb2)
  have Ip0_2 := Lib.hid hc
  clear hc
  clear hb2
  go_wp2_with fail
  refine (toInts_r w2 w.heap.size A1 n1 c1 xs1 (HW1.out.below HB2.out) HB2.out.size hn1).mono ?_
  rintro e w3 ⟨⟨rfl, hc⟩, hb3⟩
  have HB3 := Lib.hid (below_on HB2.out hb3)
  have Ip0_3 := Lib.hid (Ip0_2.out.step hb3)
  have Z23 := Lib.hid (Below.size hb3)
  have Rp1_3 := Lib.hid hc
  clear hc
  clear hb3
  go_wp2_with fail
  refine (sRegretOf _ _ _ n0 n0 ip0 Ip0_3.out.c.items (Nat.le_refl _) hn0 Ip0_3.out.c.small _ _ n1 n1 xs1 Rp1_3.out.ints (Nat.le_refl _) (by omega) N E D (by rw [Ip0_3.out.c.dat]; exact HD.out)).mono ?_
  rintro e w4 ⟨⟨va, rfl, ho⟩, hb4⟩
  have HB4 := Lib.hid (below_on HB3.out hb4)
  have Ip0_4 := Lib.hid (Ip0_3.out.step hb4)
  have Z34 := Lib.hid (Below.size hb4)
  have Rp1_4 := Lib.hid (Rp1_3.out.step hb4)
  obtain ⟨Aa, na, ca, rfl, -⟩ := ho.ints
  have Ra_4 := Lib.hid (ResI.new ho)
  clear ho
  clear hb4
  go_wp2_with fail
  refine (toItems_w w4 w.heap.size A0 n0 c0 its0 (HW0.out.below HB4.out) HB4.out.size hn0 HN0b.out).mono ?_
  rintro e w5 ⟨ix0, rfl, hc, hb5⟩
  have HB5 := Lib.hid (below_on HB4.out hb5)
  have Z45 := Lib.hid (Below.size hb5)
  have Ra_5 := Lib.hid (Ra_4.out.step hb5)
  have Ix0_5 := Lib.hid hc
  clear hc
  clear hb5
  go_wp2_with fail
  refine (toInts_r w5 w.heap.size A1 n1 c1 xs1 (HW1.out.below HB5.out) HB5.out.size hn1).mono ?_
  rintro e w6 ⟨⟨rfl, hc⟩, hb6⟩
  have HB6 := Lib.hid (below_on HB5.out hb6)
  have Ix0_6 := Lib.hid (Ix0_5.out.step hb6)
  have Z56 := Lib.hid (Below.size hb6)
  have Ra_6 := Lib.hid (Ra_5.out.step hb6)
  have Rx1_6 := Lib.hid hc
  clear hc
  clear hb6
  go_wp2_with fail
  refine (iRegretOf _ _ _ n0 n0 ix0 Ix0_6.out.c.items (Nat.le_refl _) hn0 _ _ n1 n1 xs1 Rx1_6.out.ints (Nat.le_refl _) hn1 N E D (by rw [Ix0_6.out.c.dat]; exact HD.out)).mono ?_
  rintro e w7 ⟨⟨vg, rfl, ho⟩, hb7⟩
  have HB7 := Lib.hid (below_on HB6.out hb7)
  have Ix0_7 := Lib.hid (Ix0_6.out.step hb7)
  have Z67 := Lib.hid (Below.size hb7)
  have Ra_7 := Lib.hid (Ra_6.out.step hb7)
  have Rx1_7 := Lib.hid (Rx1_6.out.step hb7)
  obtain ⟨Ag, ng, cg, rfl, -⟩ := ho.ints
  have Rg_7 := Lib.hid (ResI.new ho)
  clear ho
  clear hb7
  go_wp2_with fail
  refine (Rg_7.out.eqW Ra_7.out HDl.out true (by simp)).mono ?_
  rintro e w8 ⟨rfl, hb8⟩
  have HB8 := Lib.hid (below_on HB7.out hb8)
  have Ix0_8 := Lib.hid (Ix0_7.out.step hb8)
  have Z78 := Lib.hid (Below.size hb8)
  have Ra_8 := Lib.hid (Ra_7.out.step hb8)
  have Rx1_8 := Lib.hid (Rx1_7.out.step hb8)
  have Rg_8 := Lib.hid (Rg_7.out.step hb8)
  clear hb8
  go_wp2_with fail
  refine (toItems_w w8 w.heap.size A0 n0 c0 its0 (HW0.out.below HB8.out) HB8.out.size hn0 HN0b.out).mono ?_
  rintro e w9 ⟨iz, rfl, hc, hb9⟩
  have HB9 := Lib.hid (below_on HB8.out hb9)
  have Ix0_9 := Lib.hid (Ix0_8.out.step hb9)
  have Z89 := Lib.hid (Below.size hb9)
  have Ra_9 := Lib.hid (Ra_8.out.step hb9)
  have Rx1_9 := Lib.hid (Rx1_8.out.step hb9)
  have Rg_9 := Lib.hid (Rg_8.out.step hb9)
  have Iz_9 := Lib.hid hc
  clear hc
  clear hb9
  go_wp2_with fail
  refine (eqItems_w _ _ _ _ _ _ _ _ _ Ix0_9.out Iz_9.out hn0).mono ?_
  rintro e w10 ⟨rfl, hb10⟩
  have HB10 := Lib.hid (below_on HB9.out hb10)
  have Ix0_10 := Lib.hid (Ix0_9.out.step hb10)
  have Iz_10 := Lib.hid (Iz_9.out.step hb10)
  have Z910 := Lib.hid (Below.size hb10)
  have Ra_10 := Lib.hid (Ra_9.out.step hb10)
  have Rx1_10 := Lib.hid (Rx1_9.out.step hb10)
  have Rg_10 := Lib.hid (Rg_9.out.step hb10)
  clear hb10
  go_wp2_with fail
  refine (toInts_r w10 w.heap.size A1 n1 c1 xs1 (HW1.out.below HB10.out) HB10.out.size hn1).mono ?_
  rintro e w11 ⟨⟨rfl, hc⟩, hb11⟩
  have HB11 := Lib.hid (below_on HB10.out hb11)
  have Ix0_11 := Lib.hid (Ix0_10.out.step hb11)
  have Z1011 := Lib.hid (Below.size hb11)
  have Ra_11 := Lib.hid (Ra_10.out.step hb11)
  have Rx1_11 := Lib.hid (Rx1_10.out.step hb11)
  have Rg_11 := Lib.hid (Rg_10.out.step hb11)
  have Rz_11 := Lib.hid hc
  clear hc
  clear hb11
  go_wp2_with fail
  refine (Rx1_11.out.eqW Rz_11.out (by have h := HW1.out.1; omega) true (by simp)).mono ?_
  rintro e w12 ⟨rfl, hb12⟩
  have HB12 := Lib.hid (below_on HB11.out hb12)
  have Ix0_12 := Lib.hid (Ix0_11.out.step hb12)
  have Z1112 := Lib.hid (Below.size hb12)
  have Ra_12 := Lib.hid (Ra_11.out.step hb12)
  have Rx1_12 := Lib.hid (Rx1_11.out.step hb12)
  have Rg_12 := Lib.hid (Rg_11.out.step hb12)
  have Rz_12 := Lib.hid (Rz_11.out.step hb12)
  clear hb12
  have z2 := Z23.out
  have z3 := Z34.out
  have z4 := Z45.out
  have z5 := Z56.out
  have z6 := Z67.out
  have z1 := HB2.out.size
  go_wp2_with fail
  refine (Ix0_12.out.mark hn0).mono ?_
  rintro e w13 ⟨⟨rk, rfl, hk0, hk9⟩, hon⟩
  have HB13 := Lib.hid (HB12.out.trans (hon.lo (by omega)))
  have Ra_13 := Lib.hid (Ra_12.out.only hon (fun b hb => by obtain ⟨h1, h2⟩ := hb; omega))
  have Rx1_13 := Lib.hid (Rx1_12.out.only hon (fun b hb => by obtain ⟨h1, h2⟩ := hb; omega))
  have Rg_13 := Lib.hid (Rg_12.out.only hon (fun b hb => by obtain ⟨h1, h2⟩ := hb; omega))
  clear hon
  go_wp2_with fail
  refine (Rx1_13.out.markW (by have h := HW1.out.1; omega) _ (rk) (by simp) (by omega)).mono ?_
  rintro e w14 ⟨rfl, hm, hon⟩
  have HB14 := Lib.hid (HB13.out.trans (hon.lo (by omega)))
  have Ra_14 := Lib.hid (Ra_13.out.only hon (fun b hb => by obtain ⟨h1, h2⟩ := hb; omega))
  have Rg_14 := Lib.hid (Rg_13.out.only hon (fun b hb => by obtain ⟨h1, h2⟩ := hb; omega))
  clear hm hon
  obtain ⟨M1, hM1⟩ : ∃ M : Nat, rk + xs1.length = M := ⟨_, rfl⟩
  have hMb1 : M1 ≤ 1099513724929 := by have h := HW1.out.1; omega
  rw [hM1]
  clear hM1
  have hk1 : decide (((M1 : Nat) : Int) < 0) = false := by simp
  go_wp2_with fail
  refine (Rg_14.out.eqW Ra_14.out HDl.out true (by simp)).mono ?_
  rintro e w15 ⟨rfl, hb15⟩
  have HB15 := Lib.hid (below_on HB14.out hb15)
  have Z1415 := Lib.hid (Below.size hb15)
  have Ra_15 := Lib.hid (Ra_14.out.step hb15)
  have Rg_15 := Lib.hid (Rg_14.out.step hb15)
  clear hb15
  go_wp2_with fail
  refine (Rg_15.out.markW HDl.out _ 1 (by simp) (by decide)).mono ?_
  rintro e w16 ⟨rfl, hm, hon⟩
  have HB16 := Lib.hid (HB15.out.trans (hon.lo (by omega)))
  have Ra_16 := Lib.hid (Ra_15.out.only hon (fun b hb => by obtain ⟨h1, h2⟩ := hb; omega))
  have Rg_16 := Lib.hid hm
  clear hm hon
  clear z1 hk1 z2 z3 z4 z5 z6
  obtain ⟨M, hM⟩ : ∃ M : Nat, 1 + D.length = M := ⟨_, rfl⟩
  have HM := Lib.hid hM
  rw [hM]
  clear hM
  have hm1 : decide ((M : Int) < 0) = false := by simp
  have hm2 : ((M : Int) != (M : Int)) = false := by simp
  go_wp2_with fail
  refine (Rg_16.out.heldW HDl.out _ (by simp) (by decide)).mono ?_
  rintro e wh ⟨rfl, hw⟩
  rw [← hw, HM.out]
  clear hw wh
  go_wp2_with fail
  refine (toItems_w w16 w.heap.size A0 n0 c0 its0 (HW0.out.below HB16.out) HB16.out.size hn0 HN0b.out).mono ?_
  rintro e w17 ⟨ie0, rfl, hc, hb17⟩
  have HB17 := Lib.hid (below_on HB16.out hb17)
  have Z1617 := Lib.hid (Below.size hb17)
  have Ra_17 := Lib.hid (Ra_16.out.step hb17)
  have Rg_17 := Lib.hid (Rg_16.out.step hb17)
  have Ie0_17 := Lib.hid hc
  clear hc
  clear hb17
  go_wp2_with fail
  refine (toInts_r w17 w.heap.size A1 n1 c1 xs1 (HW1.out.below HB17.out) HB17.out.size hn1).mono ?_
  rintro e w18 ⟨⟨rfl, hc⟩, hb18⟩
  have HB18 := Lib.hid (below_on HB17.out hb18)
  have Ie0_18 := Lib.hid (Ie0_17.out.step hb18)
  have Z1718 := Lib.hid (Below.size hb18)
  have Ra_18 := Lib.hid (Ra_17.out.step hb18)
  have Rg_18 := Lib.hid (Rg_17.out.step hb18)
  have Re1_18 := Lib.hid hc
  clear hc
  clear hb18
  go_wp2_with fail
  refine (iRegretOf _ _ _ n0 n0 ie0 Ie0_18.out.c.items (Nat.le_refl _) hn0 _ _ n1 n1 xs1 Re1_18.out.ints (Nat.le_refl _) hn1 N E D (by rw [Ie0_18.out.c.dat]; exact HD.out)).mono ?_
  rintro e w19 ⟨⟨vh, rfl, ho⟩, hb19⟩
  have HB19 := Lib.hid (below_on HB18.out hb19)
  have Ie0_19 := Lib.hid (Ie0_18.out.step hb19)
  have Z1819 := Lib.hid (Below.size hb19)
  have Ra_19 := Lib.hid (Ra_18.out.step hb19)
  have Rg_19 := Lib.hid (Rg_18.out.step hb19)
  have Re1_19 := Lib.hid (Re1_18.out.step hb19)
  obtain ⟨Ah, nh, ch, rfl, -⟩ := ho.ints
  have Rh_19 := Lib.hid (ResI.new ho)
  clear ho
  clear hb19
  go_wp2_with fail
  refine (Rh_19.out.eqW Ra_19.out HDl.out true (by simp)).mono ?_
  rintro e w20 ⟨rfl, hb20⟩
  have HB20 := Lib.hid (below_on HB19.out hb20)
  have Z1920 := Lib.hid (Below.size hb20)
  have Ra_20 := Lib.hid (Ra_19.out.step hb20)
  have Rg_20 := Lib.hid (Rg_19.out.step hb20)
  have Rh_20 := Lib.hid (Rh_19.out.step hb20)
  clear hb20
  go_wp2_with fail
  refine (Rg_20.out.heldW HDl.out _ (by simp) (by decide)).mono ?_
  rintro e wh ⟨rfl, hw⟩
  rw [← hw, HM.out]
  clear hw wh
  go_wp2
  go_ret
  exact ⟨rfl, HB20.out⟩

set_option maxRecDepth 100000 in
theorem lifted (os : Os) (started : os.Started) (H : Type) (enc : TypeId × Value → H) :
    ReturnsInHanded {} Try.checked os 7 .any (Rows.fnExactRegretOfSpec.pre6 enc Try.prog Try.f7 Rows.fnExactRegretOfRow.domain false) (Rows.fnExactRegretOfSpec.post enc Try.prog Try.f7 false true false false) := by
  refine returnsInHanded_of_change (C := Try.checked) own started (by kernel_rfl) Try.func7
    (ChangeSpec.witness6 (enc := enc) (C := Try.checked) false ⟨#[], #[.slice none 0 0, .slice none 0 0], []⟩ 8 (by kernel_rfl) (by kernel_rfl) (by kernel_rfl) (by kernel_rfl)) ?_
  intro W base args ds gs before hval0 hW hcnd _
  have hval : ∀ (j : Nat) t v, Try.f7.params[j]? = some t → args[j]? = some v → Value.okWide Try.prog W .any base t v := hval0
  have hW' := hW
  obtain ⟨p, q, hA0, hV, rfl, hfz, hnd⟩ := hW
  have hA : DataW.TrodAll enc Try.prog W 0 (fun _ => true) true Try.f7.params.toList args.toList ds p := hA0
  rw [Try.params7] at hA hval
  obtain ⟨v0, vs0, d0, ds0, p0, q0, hargs, rfl, rfl, h0, r0⟩ := trodAll_cons hA
  obtain ⟨v1, vs1, d1, ds1, p1, q1, rfl, rfl, rfl, h1, r1⟩ := trodAll_cons r0
  obtain ⟨rfl, rfl, rfl⟩ := trodAll_nil r1
  obtain rfl : args = #[v0, v1] := by cases args; simp_all
  obtain ⟨rfl, rfl⟩ := trodVars_none hV
  have lt0 : ∀ x ∈ p0, x.block < W.heap.size := by obtain ⟨m, hm⟩ := h0; exact DataW.trod_lt m _ _ _ hm
  obtain ⟨A0, n0, c0, its0, rfl, m0, N0, w0⟩ := open_items (hval 0 57 v0 rfl rfl) h0
  have lt1 : ∀ x ∈ p1, x.block < W.heap.size := by obtain ⟨m, hm⟩ := h1; exact DataW.trod_lt m _ _ _ hm
  obtain ⟨A1, n1, c1, xs1, rfl, m1, w1⟩ := open_intsN (hval 1 25 v1 rfl rfl) h1
  clear hA0 hval0
  refine (walk A0 n0 c0 its0 A1 n1 c1 xs1 W m0 N0 w0 m1 w1).mono fun e W' ⟨he, hb⟩ => ?_
  subst he
  exact ⟨_, rfl, _, _, _, [], _, [], hW', trodAll_mk1 (shut_bool Try.underlying4 _), (trodAll_cons_mk (Below.trod laidOut (by kernel_rfl) (of_decide_eq_true (by kernel_rfl)) h0 hb lt0) (trodAll_cons_mk (Below.trod laidOut (by kernel_rfl) (of_decide_eq_true (by kernel_rfl)) h1 hb lt1) trodAll_mk0)), rfl, hb.frame _, fun h => by cases h⟩

theorem holds : Rows.FnExactRegretOfSaid :=
  OpenClaim.holds_of_wide 7 Try.f7 rfl rfl rfl rfl rfl rfl rfl ⟨rfl, rfl, rfl, rfl, rfl⟩ rfl rfl rfl rfl rfl (by kernel_rfl) Try.func7 (by kernel_rfl)
    (of_decide_eq_true (by kernel_rfl)) (by unfold Func.isWrapper; first | (rw [if_pos (by decide +kernel)]; kernel_rfl) | (rw [if_neg (by decide +kernel)]; exact ⟨rfl, rfl⟩))
    (fun os started H enc _ => lifted os started H enc)

#print axioms holds
end Go.Proofs.Ytjjlhiaghjipcaa.fnExactRegretOf
