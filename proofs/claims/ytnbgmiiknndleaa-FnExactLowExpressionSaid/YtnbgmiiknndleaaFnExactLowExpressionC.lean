/- The law FnExactLowExpression. -/
import Derived.Test.YtnbgmiiknndleaaRows
import Derived.Test.YtnbgmiiknndleaaItemOpen
import Derived.Test.YtnbgmiiknndleaaSoA
import Derived.Test.YtnbgmiiknndleaaSoB
import Derived.WalkKit
import Derived.ProofKit
import Derived.OpenShut
import Derived.ShutString
import Derived.Below
namespace Go.Proofs.Ytnbgmiiknndleaa.fnExactLowExpression
set_option maxRecDepth 20000
open Go.ChangeShapes Go.WideShapes Go.ChangeAt Go.RowKit
open Go.ChangeMaps (open_string shut_string)
open Go.Proofs.Ytnbgmiiknndleaa.num
set_option linter.unusedVariables false
set_option linter.unusedSimpArgs false

theorem own : ownKnob Try.prog.godebug = none := by kernel_rfl

set_option maxHeartbeats 6400000 in
theorem walk (A0 : Option Addr) (n0 c0 : Nat) (xs0 : List Int) (w : World) (m0 : n0 ≤ 9223372036854775807) (w0 : Ints w w.heap.size A0 n0 xs0) :
    Calls Try.prog 4 #[.slice A0 n0 c0] w fun e w' => e = .returned (.bool true) ∧ Below w.heap.size w w' := by
  have HM0 := Lib.hid m0
  have HW0 := Lib.hid w0
  clear w0
  go_enter Try.func4, Try.ntmps4
  by_cases hq0 : 1048576 < n0
  · have hd0 : decide ((n0 : Int) > 1048576) = true := by simp; omega
    go_wp2
    go_ret
    exact ⟨rfl, Below.refl _ _⟩
  have hd0 : decide ((n0 : Int) > 1048576) = false := by simp; omega
  have hn0 : n0 ≤ 1048576 := by omega
  clear hq0 m0
  obtain ⟨q, hq⟩ := bool_of (FL xs0)
  have HQ := Lib.hid hq
  obtain ⟨D, hD⟩ : ∃ D, lowE xs0 q = D := ⟨_, rfl⟩
  have HD := Lib.hid hD
  have HDl : Hid (D.length ≤ 1048576) := Lib.hid (by rw [← hD]; exact lowE_len hq)
  clear hq hD
  have hqq : (q != q) = false := by simp
  go_wp2_with fail
  refine (toInts_r w w.heap.size A0 n0 c0 xs0 (HW0.out.below (Below.refl w.heap.size w)) (Below.refl w.heap.size w).size hn0).mono ?_
  rintro e w1 ⟨⟨rfl, hc⟩, hb1⟩
  have HB1 := Lib.hid (hb1)
  have Z01 := Lib.hid (Below.size hb1)
  have Rp0_1 := Lib.hid hc
  clear hc
  clear hb1
  go_wp2_with fail
  refine (sLowR _ _ _ n0 n0 xs0 Rp0_1.out.ints (Nat.le_refl _) hn0 q HQ.out D HD.out).mono ?_
  rintro e w2 ⟨⟨va, tsa, rfl, hd, hs, ho⟩, hb2⟩
  have HB2 := Lib.hid (below_on HB1.out hb2)
  have Z12 := Lib.hid (Below.size hb2)
  have Rp0_2 := Lib.hid (Rp0_1.out.step hb2)
  obtain ⟨Aa, ca, rfl, -, -⟩ := ho.r.shape
  have Da := Lib.hid hd
  have Sa := Lib.hid hs
  have Ra_2 := Lib.hid (ResN.new ho)
  have Ta := Lib.hid (lensN ho hs)
  clear hd hs ho
  clear hb2
  have La : Hid (tsa.length ≤ 1048576) := Lib.hid (by have h := congrArg List.length Da.out; unfold datN at h; rw [List.length_map] at h; rw [h]; exact HDl.out)
  go_wp2_with fail
  refine (toInts_r w2 w.heap.size A0 n0 c0 xs0 (HW0.out.below HB2.out) HB2.out.size hn0).mono ?_
  rintro e w3 ⟨⟨rfl, hc⟩, hb3⟩
  have HB3 := Lib.hid (below_on HB2.out hb3)
  have Z23 := Lib.hid (Below.size hb3)
  have Ra_3 := Lib.hid (Ra_2.out.step hb3)
  have Rx0_3 := Lib.hid hc
  clear hc
  clear hb3
  go_wp2_with fail
  refine (iLowR _ _ _ n0 n0 xs0 Rx0_3.out.ints (Nat.le_refl _) hn0 q HQ.out D HD.out).mono ?_
  rintro e w4 ⟨⟨vg, tsg, rfl, hd, hs, ho⟩, hb4⟩
  have HB4 := Lib.hid (below_on HB3.out hb4)
  have Z34 := Lib.hid (Below.size hb4)
  have Ra_4 := Lib.hid (Ra_3.out.step hb4)
  have Rx0_4 := Lib.hid (Rx0_3.out.step hb4)
  obtain ⟨Ag, cg, rfl, -, -⟩ := ho.r.shape
  have Dg := Lib.hid hd
  have Sg := Lib.hid hs
  have Rg_4 := Lib.hid (ResN.new ho)
  have Tg := Lib.hid (lensN ho hs)
  clear hd hs ho
  clear hb4
  have Lg : Hid (tsg.length ≤ 1048576) := Lib.hid (by have h := congrArg List.length Dg.out; unfold datN at h; rw [List.length_map] at h; rw [h]; exact HDl.out)
  go_wp2_with fail
  refine (Rg_4.out.eq Ra_4.out Dg.out Da.out HDl.out Sg.out).mono ?_
  rintro e w5 ⟨rfl, hb5⟩
  have HB5 := Lib.hid (below_on HB4.out hb5)
  have Z45 := Lib.hid (Below.size hb5)
  have Ra_5 := Lib.hid (Ra_4.out.step hb5)
  have Rx0_5 := Lib.hid (Rx0_4.out.step hb5)
  have Rg_5 := Lib.hid (Rg_4.out.step hb5)
  clear hb5
  go_wp2_with fail
  refine (toInts_r w5 w.heap.size A0 n0 c0 xs0 (HW0.out.below HB5.out) HB5.out.size hn0).mono ?_
  rintro e w6 ⟨⟨rfl, hc⟩, hb6⟩
  have HB6 := Lib.hid (below_on HB5.out hb6)
  have Z56 := Lib.hid (Below.size hb6)
  have Ra_6 := Lib.hid (Ra_5.out.step hb6)
  have Rx0_6 := Lib.hid (Rx0_5.out.step hb6)
  have Rg_6 := Lib.hid (Rg_5.out.step hb6)
  have Rz_6 := Lib.hid hc
  clear hc
  clear hb6
  go_wp2_with fail
  refine (Rx0_6.out.eqW Rz_6.out (by have h := HW0.out.1; omega) true (by simp)).mono ?_
  rintro e w7 ⟨rfl, hb7⟩
  have HB7 := Lib.hid (below_on HB6.out hb7)
  have Z67 := Lib.hid (Below.size hb7)
  have Ra_7 := Lib.hid (Ra_6.out.step hb7)
  have Rx0_7 := Lib.hid (Rx0_6.out.step hb7)
  have Rg_7 := Lib.hid (Rg_6.out.step hb7)
  have Rz_7 := Lib.hid (Rz_6.out.step hb7)
  clear hb7
  have z2 := Z23.out
  have z3 := Z34.out
  have z1 := HB2.out.size
  go_wp2_with fail
  refine (Rx0_7.out.markW (by have h := HW0.out.1; omega) _ (1) (by simp) (by omega)).mono ?_
  rintro e w8 ⟨rfl, hm, hon⟩
  have HB8 := Lib.hid (HB7.out.trans (hon.lo (by omega)))
  have Ra_8 := Lib.hid (Ra_7.out.only hon (fun b hb => by obtain ⟨h1, h2⟩ := hb; omega))
  have Rg_8 := Lib.hid (Rg_7.out.only hon (fun b hb => by obtain ⟨h1, h2⟩ := hb; omega))
  clear hm hon
  obtain ⟨M0, hM0⟩ : ∃ M : Nat, 1 + xs0.length = M := ⟨_, rfl⟩
  have hMb0 : M0 ≤ 1048577 := by have h := HW0.out.1; omega
  rw [hM0]
  clear hM0
  have hk1 : decide (((M0 : Nat) : Int) < 0) = false := by simp
  go_wp2_with fail
  refine (Rg_8.out.eq Ra_8.out Dg.out Da.out HDl.out Sg.out).mono ?_
  rintro e w9 ⟨rfl, hb9⟩
  have HB9 := Lib.hid (below_on HB8.out hb9)
  have Z89 := Lib.hid (Below.size hb9)
  have Ra_9 := Lib.hid (Ra_8.out.step hb9)
  have Rg_9 := Lib.hid (Rg_8.out.step hb9)
  clear hb9
  go_wp2_with fail
  refine (Rg_9.out.mark Lg.out Sg.out _ 1 (by simp) (by omega)).mono ?_
  rintro e w10 ⟨rfl, hm, hon⟩
  have HB10 := Lib.hid (HB9.out.trans (hon.lo (by omega)))
  have Ra_10 := Lib.hid (Ra_9.out.only hon (fun b hb => by obtain ⟨h1, h2⟩ := hb; omega))
  have Rg_10 := Lib.hid hm
  clear hm hon
  clear z1 hk1 z2 z3
  obtain ⟨M, hM⟩ : ∃ M : Nat, 1 + cntN tsg = M := ⟨_, rfl⟩
  have HM := Lib.hid hM
  rw [hM]
  clear hM
  have hm1 : decide ((M : Int) < 0) = false := by simp
  have hm2 : ((M : Int) != (M : Int)) = false := by simp
  go_wp2_with fail
  refine (Rg_10.out.held Lg.out Tg.out _ (by simp) (by omega)).mono ?_
  rintro e wh ⟨rfl, hw⟩
  rw [← hw, HM.out]
  clear hw wh
  go_wp2_with fail
  refine (toInts_r w10 w.heap.size A0 n0 c0 xs0 (HW0.out.below HB10.out) HB10.out.size hn0).mono ?_
  rintro e w11 ⟨⟨rfl, hc⟩, hb11⟩
  have HB11 := Lib.hid (below_on HB10.out hb11)
  have Z1011 := Lib.hid (Below.size hb11)
  have Ra_11 := Lib.hid (Ra_10.out.step hb11)
  have Rg_11 := Lib.hid (Rg_10.out.step hb11)
  have Re0_11 := Lib.hid hc
  clear hc
  clear hb11
  go_wp2_with fail
  refine (iLowR _ _ _ n0 n0 xs0 Re0_11.out.ints (Nat.le_refl _) hn0 q HQ.out D HD.out).mono ?_
  rintro e w12 ⟨⟨vh, tsh, rfl, hd, hs, ho⟩, hb12⟩
  have HB12 := Lib.hid (below_on HB11.out hb12)
  have Z1112 := Lib.hid (Below.size hb12)
  have Ra_12 := Lib.hid (Ra_11.out.step hb12)
  have Rg_12 := Lib.hid (Rg_11.out.step hb12)
  have Re0_12 := Lib.hid (Re0_11.out.step hb12)
  obtain ⟨Ah, ch, rfl, -, -⟩ := ho.r.shape
  have Dh := Lib.hid hd
  have Sh := Lib.hid hs
  have Rh_12 := Lib.hid (ResN.new ho)
  have Th := Lib.hid (lensN ho hs)
  clear hd hs ho
  clear hb12
  have Lh : Hid (tsh.length ≤ 1048576) := Lib.hid (by have h := congrArg List.length Dh.out; unfold datN at h; rw [List.length_map] at h; rw [h]; exact HDl.out)
  go_wp2_with fail
  refine (Rh_12.out.eq Ra_12.out Dh.out Da.out HDl.out Sh.out).mono ?_
  rintro e w13 ⟨rfl, hb13⟩
  have HB13 := Lib.hid (below_on HB12.out hb13)
  have Z1213 := Lib.hid (Below.size hb13)
  have Ra_13 := Lib.hid (Ra_12.out.step hb13)
  have Rg_13 := Lib.hid (Rg_12.out.step hb13)
  have Rh_13 := Lib.hid (Rh_12.out.step hb13)
  clear hb13
  go_wp2_with fail
  refine (Rg_13.out.held Lg.out Tg.out _ (by simp) (by omega)).mono ?_
  rintro e wh ⟨rfl, hw⟩
  rw [← hw, HM.out]
  clear hw wh
  go_wp2
  go_ret
  exact ⟨rfl, HB13.out⟩

set_option maxRecDepth 100000 in
theorem lifted (os : Os) (started : os.Started) (H : Type) (enc : TypeId × Value → H) :
    ReturnsInHanded {} Try.checked os 4 .any (Rows.fnExactLowExpressionSpec.pre6 enc Try.prog Try.f4 Rows.fnExactLowExpressionRow.domain false) (Rows.fnExactLowExpressionSpec.post enc Try.prog Try.f4 false true false false) := by
  refine returnsInHanded_of_change (C := Try.checked) own started (by kernel_rfl) Try.func4
    (ChangeSpec.witness6 (enc := enc) (C := Try.checked) false ⟨#[], #[.slice none 0 0], []⟩ 8 (by kernel_rfl) (by kernel_rfl) (by kernel_rfl) (by kernel_rfl)) ?_
  intro W base args ds gs before hval0 hW hcnd _
  have hval : ∀ (j : Nat) t v, Try.f4.params[j]? = some t → args[j]? = some v → Value.okWide Try.prog W .any base t v := hval0
  have hW' := hW
  obtain ⟨p, q, hA0, hV, rfl, hfz, hnd⟩ := hW
  have hA : DataW.TrodAll enc Try.prog W 0 (fun _ => true) true Try.f4.params.toList args.toList ds p := hA0
  rw [Try.params4] at hA hval
  obtain ⟨v0, vs0, d0, ds0, p0, q0, hargs, rfl, rfl, h0, r0⟩ := trodAll_cons hA
  obtain ⟨rfl, rfl, rfl⟩ := trodAll_nil r0
  obtain rfl : args = #[v0] := by cases args; simp_all
  obtain ⟨rfl, rfl⟩ := trodVars_none hV
  have lt0 : ∀ x ∈ p0, x.block < W.heap.size := by obtain ⟨m, hm⟩ := h0; exact DataW.trod_lt m _ _ _ hm
  obtain ⟨A0, n0, c0, xs0, rfl, m0, w0⟩ := open_intsN (hval 0 22 v0 rfl rfl) h0
  clear hA0 hval0
  refine (walk A0 n0 c0 xs0 W m0 w0).mono fun e W' ⟨he, hb⟩ => ?_
  subst he
  exact ⟨_, rfl, _, _, _, [], _, [], hW', trodAll_mk1 (shut_bool Try.underlying4 _), (trodAll_cons_mk (Below.trod laidOut (by kernel_rfl) (of_decide_eq_true (by kernel_rfl)) h0 hb lt0) trodAll_mk0), rfl, hb.frame _, fun h => by cases h⟩

theorem holds : Rows.FnExactLowExpressionSaid :=
  OpenClaim.holds_of_wide 4 Try.f4 rfl rfl rfl rfl rfl rfl rfl ⟨rfl, rfl, rfl, rfl, rfl⟩ rfl rfl rfl rfl rfl (by kernel_rfl) Try.func4 (by kernel_rfl)
    (of_decide_eq_true (by kernel_rfl)) (by unfold Func.isWrapper; first | (rw [if_pos (by decide +kernel)]; kernel_rfl) | (rw [if_neg (by decide +kernel)]; exact ⟨rfl, rfl⟩))
    (fun os started H enc _ => lifted os started H enc)

#print axioms holds
end Go.Proofs.Ytnbgmiiknndleaa.fnExactLowExpression
