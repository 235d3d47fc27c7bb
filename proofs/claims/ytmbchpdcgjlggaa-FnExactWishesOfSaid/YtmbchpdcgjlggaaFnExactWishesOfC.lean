/- The law FnExactWishesOf. -/
import Derived.Test.YtmbchpdcgjlggaaRows
import Derived.Test.YtmbchpdcgjlggaaExpOpen
import Derived.Test.YtmbchpdcgjlggaaExpRes
import Derived.Test.YtmbchpdcgjlggaaWoA
import Derived.WalkKit
import Derived.ProofKit
import Derived.OpenShut
import Derived.ShutString
import Derived.Below
namespace Go.Proofs.Ytmbchpdcgjlggaa.fnExactWishesOf
set_option maxRecDepth 20000
open Go.ChangeShapes Go.WideShapes Go.ChangeAt Go.RowKit
open Go.ChangeMaps (open_string shut_string)
open Go.Proofs.Ytmbchpdcgjlggaa.num
set_option linter.unusedVariables false
set_option linter.unusedSimpArgs false

theorem own : ownKnob Try.prog.godebug = none := by kernel_rfl

set_option maxHeartbeats 3200000 in
theorem walk (A0 : Option Addr) (n0 c0 : Nat) (ns0 : List Nd) (w : World) (m0 : n0 ≤ 9223372036854775807) (N0 : ∀ x ∈ ns0, x.t.Ln ≤ 9223372036854775807 ∧ x.t.Pn ≤ 9223372036854775807) (w0 : Nodes w w.heap.size A0 n0 ns0) :
    Calls Try.prog 9 #[.slice A0 n0 c0] w fun e w' => e = .returned (.bool true) ∧ Below w.heap.size w w' := by
  have HM0 := Lib.hid m0
  have HL0 := Lib.hid N0
  have HW0 := Lib.hid w0
  clear m0 N0 w0
  go_enter Try.func9, Try.ntmps9
  go_wp2_with fail
  refine (szNodes_c w w.heap.size A0 n0 c0 ns0 (HW0.out.below (Below.refl w.heap.size w)) (Below.refl w.heap.size w).size HM0.out HL0.out 1048576 (by decide) (by decide)).mono ?_
  rintro e w1 ⟨⟨r0, rfl, hr0⟩, hb1⟩
  have HB1 := Lib.hid (hb1)
  clear hb1
  rcases hr0 with rfl | ⟨hr0a, hr0b, hn0, hs0⟩
  · go_wp2
    go_ret
    exact ⟨rfl, HB1.out⟩
  have HS0 := Lib.hid hs0
  clear hs0
  have hz0 : decide (r0 < 0) = false := by simp; omega
  obtain ⟨q, hq⟩ := bool_of (IsE (datN ns0))
  have HQ := Lib.hid hq
  clear hq
  obtain ⟨D, hD⟩ : ∃ D, wishesE q (datN ns0) = D := ⟨_, rfl⟩
  have HD := Lib.hid hD
  clear hD
  have HDl : Hid (D.length ≤ 1048576) := Lib.hid (by
    rw [← HD.out]
    cases q
    · simp [wishesE]
    · have h1 := wishL_len (datN ns0)
      have h2 : (datN ns0).length ≤ 1048576 := by unfold datN; rw [List.length_map, HW0.out.len]; exact hn0
      exact Nat.le_trans h1 h2)
  go_wp2_with fail
  refine (toNodes_w w1 w.heap.size A0 n0 c0 ns0 (HW0.out.below HB1.out) HB1.out.size hn0 HS0.out).mono ?_
  rintro e w2 ⟨nsp, rfl, hc, hb2⟩
  have HB2 := Lib.hid (below_on HB1.out hb2)
  have Z12 := Lib.hid (Below.size hb2)
  have Cp_2 := Lib.hid hc
  clear hc
  clear hb2
  go_wp2_with fail
  refine (sWishesOf _ _ _ n0 n0 nsp Cp_2.out.nodes (Nat.le_refl _) hn0 Cp_2.out.short q (by rw [Cp_2.out.dat]; exact HQ.out)).mono ?_
  rintro e w3 ⟨va, tsa, rfl, hd, hs, ho, hb3⟩
  have HB3 := Lib.hid (below_on HB2.out hb3)
  have Cp_3 := Lib.hid (Cp_2.out.step hb3)
  have Z23 := Lib.hid (Below.size hb3)
  obtain ⟨Aa, ca, rfl, -, -⟩ := ho.r.shape
  have Da := Lib.hid hd
  have Sa := Lib.hid hs
  have Ra_3 := Lib.hid (ResWs.new ho)
  have Ta := Lib.hid (lensWs ho hs)
  clear hd hs ho
  clear hb3
  have Da := Lib.hid ((Da.out.trans (by rw [Cp_3.out.dat])).trans HD.out)
  have La : Hid (tsa.length ≤ 1048576) := Lib.hid (by have h := congrArg List.length Da.out; unfold datWs at h; rw [List.length_map] at h; rw [h]; exact HDl.out)
  go_wp2_with fail
  refine (toNodes_w w3 w.heap.size A0 n0 c0 ns0 (HW0.out.below HB3.out) HB3.out.size hn0 HS0.out).mono ?_
  rintro e w4 ⟨nsx, rfl, hc, hb4⟩
  have HB4 := Lib.hid (below_on HB3.out hb4)
  have Z34 := Lib.hid (Below.size hb4)
  have Ra_4 := Lib.hid (Ra_3.out.step hb4)
  have Cx_4 := Lib.hid hc
  clear hc
  clear hb4
  have Rx_4 := Lib.hid Cx_4.out.res
  go_wp2_with fail
  refine (iWishesOf _ _ _ n0 n0 nsx Cx_4.out.nodes (Nat.le_refl _) (Nat.le_refl _) hn0 Cx_4.out.short q (by rw [Cx_4.out.dat]; exact HQ.out)).mono ?_
  rintro e w5 ⟨vg, tsg, rfl, hd, hs, ho, hb5⟩
  have HB5 := Lib.hid (below_on HB4.out hb5)
  have Cx_5 := Lib.hid (Cx_4.out.step hb5)
  have Z45 := Lib.hid (Below.size hb5)
  have Ra_5 := Lib.hid (Ra_4.out.step hb5)
  have Rx_5 := Lib.hid (Rx_4.out.step hb5)
  obtain ⟨Ag, cg, rfl, -, -⟩ := ho.r.shape
  have Dg := Lib.hid hd
  have Sg := Lib.hid hs
  have Rg_5 := Lib.hid (ResWs.new ho)
  have Tg := Lib.hid (lensWs ho hs)
  clear hd hs ho
  clear hb5
  have Dg := Lib.hid ((Dg.out.trans (by rw [Cx_5.out.dat])).trans HD.out)
  have Lg : Hid (tsg.length ≤ 1048576) := Lib.hid (by have h := congrArg List.length Dg.out; unfold datWs at h; rw [List.length_map] at h; rw [h]; exact HDl.out)
  go_wp2_with fail
  refine (Rg_5.out.eq Ra_5.out Dg.out Da.out HDl.out Sg.out).mono ?_
  rintro e w6 ⟨rfl, hb6⟩
  have HB6 := Lib.hid (below_on HB5.out hb6)
  have Cx_6 := Lib.hid (Cx_5.out.step hb6)
  have Z56 := Lib.hid (Below.size hb6)
  have Ra_6 := Lib.hid (Ra_5.out.step hb6)
  have Rx_6 := Lib.hid (Rx_5.out.step hb6)
  have Rg_6 := Lib.hid (Rg_5.out.step hb6)
  clear hb6
  go_wp2_with fail
  refine (toNodes_w w6 w.heap.size A0 n0 c0 ns0 (HW0.out.below HB6.out) HB6.out.size hn0 HS0.out).mono ?_
  rintro e w7 ⟨nsz, rfl, hc, hb7⟩
  have HB7 := Lib.hid (below_on HB6.out hb7)
  have Cx_7 := Lib.hid (Cx_6.out.step hb7)
  have Z67 := Lib.hid (Below.size hb7)
  have Ra_7 := Lib.hid (Ra_6.out.step hb7)
  have Rx_7 := Lib.hid (Rx_6.out.step hb7)
  have Rg_7 := Lib.hid (Rg_6.out.step hb7)
  have Cz_7 := Lib.hid hc
  clear hc
  clear hb7
  go_wp2_with fail
  refine (eqNodes_w _ _ _ _ _ _ _ Cx_7.out Cz_7.out hn0).mono ?_
  rintro e w8 ⟨rfl, hb8⟩
  have HB8 := Lib.hid (below_on HB7.out hb8)
  have Cx_8 := Lib.hid (Cx_7.out.step hb8)
  have Cz_8 := Lib.hid (Cz_7.out.step hb8)
  have Z78 := Lib.hid (Below.size hb8)
  have Ra_8 := Lib.hid (Ra_7.out.step hb8)
  have Rx_8 := Lib.hid (Rx_7.out.step hb8)
  have Rg_8 := Lib.hid (Rg_7.out.step hb8)
  clear hb8
  have Sx : Hid (ShortN nsx) := Lib.hid Cx_8.out.short
  have Lx : Hid (nsx.length ≤ 1048576) := Lib.hid (by rw [Cx_8.out.len]; exact hn0)
  have hz1 : w2.heap.size ≤ w3.heap.size ∧ w3.heap.size ≤ w4.heap.size ∧ w4.heap.size ≤ w5.heap.size ∧ w.heap.size ≤ w2.heap.size := by
    have a1 := Ra_3.out.own.r
    exact ⟨Z23.out, Z34.out, Z45.out, HB2.out.size⟩
  go_wp2_with fail
  refine (Rx_8.out.mark Lx.out Sx.out _ 1 (by simp) (by omega)).mono ?_
  rintro e w9 ⟨rfl, hm, hon⟩
  have HB9 := Lib.hid (HB8.out.trans (hon.lo (Nat.le_trans hz1.2.2.2 hz1.1)))
  have Ra_9 := Lib.hid (Ra_8.out.only hon (fun b hb => by obtain ⟨h1, h2⟩ := hb; omega))
  have Rg_9 := Lib.hid (Rg_8.out.only hon (fun b hb => by obtain ⟨h1, h2⟩ := hb; omega))
  have Rx_9 := Lib.hid hm
  clear hm hon
  have hk1 : decide (((1 + cntN nsx : Nat) : Int) < 0) = false := by simp; omega
  go_wp2_with fail
  refine (Rg_9.out.eq Ra_9.out Dg.out Da.out HDl.out Sg.out).mono ?_
  rintro e w10 ⟨rfl, hb10⟩
  have HB10 := Lib.hid (below_on HB9.out hb10)
  have Z910 := Lib.hid (Below.size hb10)
  have Ra_10 := Lib.hid (Ra_9.out.step hb10)
  have Rg_10 := Lib.hid (Rg_9.out.step hb10)
  clear hb10
  go_wp2_with fail
  refine (Rg_10.out.mark Lg.out Sg.out _ 1 (by simp) (by omega)).mono ?_
  rintro e w11 ⟨rfl, hm, hon⟩
  have HB11 := Lib.hid (HB10.out.trans (hon.lo (by omega)))
  have Ra_11 := Lib.hid (Ra_10.out.only hon (fun b hb => by obtain ⟨h1, h2⟩ := hb; omega))
  have Rg_11 := Lib.hid hm
  clear hm hon
  obtain ⟨M, hM⟩ : ∃ M : Nat, 1 + cntWs tsg = M := ⟨_, rfl⟩
  have HM := Lib.hid hM
  rw [hM]
  clear hM
  have hm1 : decide ((M : Int) < 0) = false := by simp
  have hm2 : ((M : Int) != (M : Int)) = false := by simp
  go_wp2_with fail
  refine (Rg_11.out.held Lg.out Tg.out _ (by simp) (by omega)).mono ?_
  rintro e wh ⟨rfl, hw⟩
  rw [← hw, HM.out]
  clear hw wh
  go_wp2_with fail
  refine (toNodes_w w11 w.heap.size A0 n0 c0 ns0 (HW0.out.below HB11.out) HB11.out.size hn0 HS0.out).mono ?_
  rintro e w12 ⟨nsy, rfl, hc, hb12⟩
  have HB12 := Lib.hid (below_on HB11.out hb12)
  have Z1112 := Lib.hid (Below.size hb12)
  have Ra_12 := Lib.hid (Ra_11.out.step hb12)
  have Rg_12 := Lib.hid (Rg_11.out.step hb12)
  have Cy_12 := Lib.hid hc
  clear hc
  clear hb12
  go_wp2_with fail
  refine (iWishesOf _ _ _ n0 n0 nsy Cy_12.out.nodes (Nat.le_refl _) (Nat.le_refl _) hn0 Cy_12.out.short q (by rw [Cy_12.out.dat]; exact HQ.out)).mono ?_
  rintro e w13 ⟨vh, tsh, rfl, hd, hs, ho, hb13⟩
  have HB13 := Lib.hid (below_on HB12.out hb13)
  have Cy_13 := Lib.hid (Cy_12.out.step hb13)
  have Z1213 := Lib.hid (Below.size hb13)
  have Ra_13 := Lib.hid (Ra_12.out.step hb13)
  have Rg_13 := Lib.hid (Rg_12.out.step hb13)
  obtain ⟨Ah, ch, rfl, -, -⟩ := ho.r.shape
  have Dh := Lib.hid hd
  have Sh := Lib.hid hs
  have Rh_13 := Lib.hid (ResWs.new ho)
  have Th := Lib.hid (lensWs ho hs)
  clear hd hs ho
  clear hb13
  have Dh := Lib.hid ((Dh.out.trans (by rw [Cy_13.out.dat])).trans HD.out)
  have Lh : Hid (tsh.length ≤ 1048576) := Lib.hid (by have h := congrArg List.length Dh.out; unfold datWs at h; rw [List.length_map] at h; rw [h]; exact HDl.out)
  go_wp2_with fail
  refine (Rh_13.out.eq Ra_13.out Dh.out Da.out HDl.out Sh.out).mono ?_
  rintro e w14 ⟨rfl, hb14⟩
  have HB14 := Lib.hid (below_on HB13.out hb14)
  have Cy_14 := Lib.hid (Cy_13.out.step hb14)
  have Z1314 := Lib.hid (Below.size hb14)
  have Ra_14 := Lib.hid (Ra_13.out.step hb14)
  have Rg_14 := Lib.hid (Rg_13.out.step hb14)
  have Rh_14 := Lib.hid (Rh_13.out.step hb14)
  clear hb14
  go_wp2_with fail
  refine (Rg_14.out.held Lg.out Tg.out _ (by simp) (by omega)).mono ?_
  rintro e wh ⟨rfl, hw⟩
  rw [← hw, HM.out]
  clear hw wh
  go_wp2
  go_ret
  exact ⟨rfl, HB14.out⟩

set_option maxRecDepth 100000 in
theorem lifted (os : Os) (started : os.Started) (H : Type) (enc : TypeId × Value → H) :
    ReturnsInHanded {} Try.checked os 9 .any (Rows.fnExactWishesOfSpec.pre6 enc Try.prog Try.f9 Rows.fnExactWishesOfRow.domain false) (Rows.fnExactWishesOfSpec.post enc Try.prog Try.f9 false true false false) := by
  refine returnsInHanded_of_change (C := Try.checked) own started (by kernel_rfl) Try.func9
    (ChangeSpec.witness6 (enc := enc) (C := Try.checked) false ⟨#[], #[.slice none 0 0], []⟩ 8 (by kernel_rfl) (by kernel_rfl) (by kernel_rfl) (by kernel_rfl)) ?_
  intro W base args ds gs before hval0 hW hcnd _
  have hval : ∀ (j : Nat) t v, Try.f9.params[j]? = some t → args[j]? = some v → Value.okWide Try.prog W .any base t v := hval0
  have hW' := hW
  obtain ⟨p, q, hA0, hV, rfl, hfz, hnd⟩ := hW
  have hA : DataW.TrodAll enc Try.prog W 0 (fun _ => true) true Try.f9.params.toList args.toList ds p := hA0
  rw [Try.params9] at hA hval
  obtain ⟨v0, vs0, d0, ds0, p0, q0, hargs, rfl, rfl, h0, r0⟩ := trodAll_cons hA
  obtain ⟨rfl, rfl, rfl⟩ := trodAll_nil r0
  obtain rfl : args = #[v0] := by cases args; simp_all
  obtain ⟨rfl, rfl⟩ := trodVars_none hV
  have lt0 : ∀ x ∈ p0, x.block < W.heap.size := by obtain ⟨m, hm⟩ := h0; exact DataW.trod_lt m _ _ _ hm
  obtain ⟨A0, n0, c0, ns0, rfl, m0, N0, w0⟩ := open_nodes (hval 0 47 v0 rfl rfl) h0
  clear hA0 hval0
  refine (walk A0 n0 c0 ns0 W m0 N0 w0).mono fun e W' ⟨he, hb⟩ => ?_
  subst he
  exact ⟨_, rfl, _, _, _, [], _, [], hW', trodAll_mk1 (shut_bool Try.underlying4 _), (trodAll_cons_mk (Below.trod laidOut (by kernel_rfl) (of_decide_eq_true (by kernel_rfl)) h0 hb lt0) trodAll_mk0), rfl, hb.frame _, fun h => by cases h⟩

theorem holds : Rows.FnExactWishesOfSaid :=
  OpenClaim.holds_of_wide 9 Try.f9 rfl rfl rfl rfl rfl rfl rfl ⟨rfl, rfl, rfl, rfl, rfl⟩ rfl rfl rfl rfl rfl (by kernel_rfl) Try.func9 (by kernel_rfl)
    (of_decide_eq_true (by kernel_rfl)) (by unfold Func.isWrapper; first | (rw [if_pos (by decide +kernel)]; kernel_rfl) | (rw [if_neg (by decide +kernel)]; exact ⟨rfl, rfl⟩))
    (fun os started H enc _ => lifted os started H enc)

#print axioms holds
end Go.Proofs.Ytmbchpdcgjlggaa.fnExactWishesOf
