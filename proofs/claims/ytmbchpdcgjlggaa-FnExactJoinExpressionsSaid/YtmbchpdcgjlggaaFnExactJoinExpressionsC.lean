/- The law FnExactJoinExpressions. -/
import Derived.Test.YtmbchpdcgjlggaaRows
import Derived.Test.YtmbchpdcgjlggaaExpOpen
import Derived.Test.YtmbchpdcgjlggaaExpRes
import Derived.Test.YtmbchpdcgjlggaaJeA
import Derived.WalkKit
import Derived.ProofKit
import Derived.OpenShut
import Derived.ShutString
import Derived.Below
namespace Go.Proofs.Ytmbchpdcgjlggaa.fnExactJoinExpressions
set_option maxRecDepth 20000
open Go.ChangeShapes Go.WideShapes Go.ChangeAt Go.RowKit
open Go.ChangeMaps (open_string shut_string)
open Go.Proofs.Ytmbchpdcgjlggaa.num
set_option linter.unusedVariables false
set_option linter.unusedSimpArgs false

theorem own : ownKnob Try.prog.godebug = none := by kernel_rfl

set_option maxHeartbeats 6400000 in
theorem walk (A0 : Option Addr) (n0 c0 : Nat) (ns0 : List Nd) (A1 : Option Addr) (n1 c1 : Nat) (ns1 : List Nd) (a2 : Int) (w : World) (m0 : n0 ≤ 9223372036854775807) (N0 : ∀ x ∈ ns0, x.t.Ln ≤ 9223372036854775807 ∧ x.t.Pn ≤ 9223372036854775807) (w0 : Nodes w w.heap.size A0 n0 ns0) (m1 : n1 ≤ 9223372036854775807) (N1 : ∀ x ∈ ns1, x.t.Ln ≤ 9223372036854775807 ∧ x.t.Pn ≤ 9223372036854775807) (w1 : Nodes w w.heap.size A1 n1 ns1) (w2 : (Lit.int .i64 a2).wf = true) :
    Calls Try.prog 10 #[.slice A0 n0 c0, .slice A1 n1 c1, .int .i64 a2] w fun e w' => e = .returned (.bool true) ∧ Below w.heap.size w w' := by
  have HM0 := Lib.hid m0
  have HL0 := Lib.hid N0
  have HW0 := Lib.hid w0
  clear m0 N0 w0
  have HM1 := Lib.hid m1
  have HL1 := Lib.hid N1
  have HW1 := Lib.hid w1
  clear m1 N1 w1
  have HI2 := Lib.hid w2
  clear w2
  go_enter Try.func10, Try.ntmps10
  go_wp2_with fail
  refine (szNodes_c w w.heap.size A0 n0 c0 ns0 (HW0.out.below (Below.refl w.heap.size w)) (Below.refl w.heap.size w).size HM0.out HL0.out 1048576 (by decide) (by decide)).mono ?_
  rintro e w1 ⟨⟨r0, rfl, hr0⟩, hb1⟩
  have HB1 := Lib.hid (hb1)
  clear hb1
  rcases hr0 with rfl | ⟨hr0a, hr0b, hn0, hs0⟩
  · go_wp2
    go_ret
    exact ⟨rfl, HB1.out⟩
  have HS0 := Lib.hid hs0
  clear hs0
  have hz0 : decide (r0 < 0) = false := by simp; omega
  go_wp2_with fail
  refine (szNodes_c w1 w.heap.size A1 n1 c1 ns1 (HW1.out.below HB1.out) HB1.out.size HM1.out HL1.out r0 hr0a (by omega)).mono ?_
  rintro e w2 ⟨⟨r1, rfl, hr1⟩, hb2⟩
  have HB2 := Lib.hid (below_on HB1.out hb2)
  clear hb2
  rcases hr1 with rfl | ⟨hr1a, hr1b, hn1, hs1⟩
  · go_wp2
    go_ret
    exact ⟨rfl, HB2.out⟩
  have HS1 := Lib.hid hs1
  clear hs1
  have hz1 : decide (r1 < 0) = false := by simp; omega
  obtain ⟨r, hr⟩ := bool_of (IsE (datN ns0) ∧ IsE (datN ns1) ∧ Bin a2 ∧ n0 + n1 < 9)
  have HR := Lib.hid hr
  obtain ⟨D, hD⟩ : ∃ D, joinD r (datN ns0) (datN ns1) a2 = D := ⟨_, rfl⟩
  have HD := Lib.hid hD
  have HDl : Hid (D.length ≤ 1048576) := Lib.hid (by
    rw [← HD.out]
    cases r
    · simp [joinD]
    · have h := (hr.1 rfl).2.2.2
      have l1 : (datN ns0).length = n0 := by unfold datN; rw [List.length_map, HW0.out.len]
      have l2 : (datN ns1).length = n1 := by unfold datN; rw [List.length_map, HW1.out.len]
      simp only [joinD, if_true, List.length_append, l1, l2, List.length_singleton]
      omega)
  clear hD hr
  have hrr : (r != r) = false := by simp
  go_wp2_with fail
  refine (toNodes_w w2 w.heap.size A0 n0 c0 ns0 (HW0.out.below HB2.out) HB2.out.size hn0 HS0.out).mono ?_
  rintro e w3 ⟨nsp, rfl, hc, hb3⟩
  have HB3 := Lib.hid (below_on HB2.out hb3)
  have Z23 := Lib.hid (Below.size hb3)
  have Cp_3 := Lib.hid hc
  clear hc
  clear hb3
  go_wp2_with fail
  refine (toNodes_w w3 w.heap.size A1 n1 c1 ns1 (HW1.out.below HB3.out) HB3.out.size hn1 HS1.out).mono ?_
  rintro e w4 ⟨nsu, rfl, hc, hb4⟩
  have HB4 := Lib.hid (below_on HB3.out hb4)
  have Cp_4 := Lib.hid (Cp_3.out.step hb4)
  have Z34 := Lib.hid (Below.size hb4)
  have Cu_4 := Lib.hid hc
  clear hc
  clear hb4
  go_wp2_with fail
  refine (sJoin _ _ _ _ n0 n1 n0 n1 nsp nsu a2 Cp_4.out.nodes Cu_4.out.nodes (Nat.le_refl _) Cp_4.out.short Cu_4.out.short HI2.out hn0 hn1 r (by rw [Cp_4.out.dat, Cu_4.out.dat]; exact HR.out)).mono ?_
  rintro e w5 ⟨va, tsa, rfl, hd, hs, ho, hb5⟩
  have HB5 := Lib.hid (below_on HB4.out hb5)
  have Cp_5 := Lib.hid (Cp_4.out.step hb5)
  have Cu_5 := Lib.hid (Cu_4.out.step hb5)
  have Z45 := Lib.hid (Below.size hb5)
  obtain ⟨Aa, ca, rfl, -, -⟩ := ho.r.shape
  have Da := Lib.hid hd
  have Sa := Lib.hid hs
  have Ra_5 := Lib.hid (ResN.new ho)
  have Ta := Lib.hid (lensN ho hs)
  clear hd hs ho
  clear hb5
  have Da := Lib.hid ((Da.out.trans (by rw [Cp_5.out.dat, Cu_5.out.dat])).trans HD.out)
  have La : Hid (tsa.length ≤ 1048576) := Lib.hid (by have h := congrArg List.length Da.out; unfold datN at h; rw [List.length_map] at h; rw [h]; exact HDl.out)
  go_wp2_with fail
  refine (toNodes_w w5 w.heap.size A0 n0 c0 ns0 (HW0.out.below HB5.out) HB5.out.size hn0 HS0.out).mono ?_
  rintro e w6 ⟨nsx, rfl, hc, hb6⟩
  have HB6 := Lib.hid (below_on HB5.out hb6)
  have Z56 := Lib.hid (Below.size hb6)
  have Ra_6 := Lib.hid (Ra_5.out.step hb6)
  have Cx_6 := Lib.hid hc
  clear hc
  clear hb6
  have Rx_6 := Lib.hid Cx_6.out.res
  go_wp2_with fail
  refine (toNodes_w w6 w.heap.size A1 n1 c1 ns1 (HW1.out.below HB6.out) HB6.out.size hn1 HS1.out).mono ?_
  rintro e w7 ⟨nsy, rfl, hc, hb7⟩
  have HB7 := Lib.hid (below_on HB6.out hb7)
  have Cx_7 := Lib.hid (Cx_6.out.step hb7)
  have Z67 := Lib.hid (Below.size hb7)
  have Ra_7 := Lib.hid (Ra_6.out.step hb7)
  have Rx_7 := Lib.hid (Rx_6.out.step hb7)
  have Cy_7 := Lib.hid hc
  clear hc
  clear hb7
  have Ry_7 := Lib.hid Cy_7.out.res
  go_wp2_with fail
  refine (iJoin2 _ _ _ _ n0 n1 n0 n1 nsx nsy a2 Cx_7.out.nodes Cy_7.out.nodes (Nat.le_refl _) Cx_7.out.short Cy_7.out.short HI2.out (Nat.le_refl _) (Nat.le_refl _) hn0 hn1 r (by rw [Cx_7.out.dat, Cy_7.out.dat]; exact HR.out)).mono ?_
  rintro e w8 ⟨vg, tsg, rfl, hd, hs, ho, hb8⟩
  have HB8 := Lib.hid (below_on HB7.out hb8)
  have Cx_8 := Lib.hid (Cx_7.out.step hb8)
  have Cy_8 := Lib.hid (Cy_7.out.step hb8)
  have Z78 := Lib.hid (Below.size hb8)
  have Ra_8 := Lib.hid (Ra_7.out.step hb8)
  have Rx_8 := Lib.hid (Rx_7.out.step hb8)
  have Ry_8 := Lib.hid (Ry_7.out.step hb8)
  obtain ⟨Ag, cg, rfl, -, -⟩ := ho.r.shape
  have Dg := Lib.hid hd
  have Sg := Lib.hid hs
  have Rg_8 := Lib.hid (ResN.new ho)
  have Tg := Lib.hid (lensN ho hs)
  clear hd hs ho
  clear hb8
  have Dg := Lib.hid ((Dg.out.trans (by rw [Cx_8.out.dat, Cy_8.out.dat])).trans HD.out)
  have Lg : Hid (tsg.length ≤ 1048576) := Lib.hid (by have h := congrArg List.length Dg.out; unfold datN at h; rw [List.length_map] at h; rw [h]; exact HDl.out)
  go_wp2_with fail
  refine (Rg_8.out.eq Ra_8.out Dg.out Da.out HDl.out Sg.out).mono ?_
  rintro e w9 ⟨rfl, hb9⟩
  have HB9 := Lib.hid (below_on HB8.out hb9)
  have Cx_9 := Lib.hid (Cx_8.out.step hb9)
  have Cy_9 := Lib.hid (Cy_8.out.step hb9)
  have Z89 := Lib.hid (Below.size hb9)
  have Ra_9 := Lib.hid (Ra_8.out.step hb9)
  have Rx_9 := Lib.hid (Rx_8.out.step hb9)
  have Ry_9 := Lib.hid (Ry_8.out.step hb9)
  have Rg_9 := Lib.hid (Rg_8.out.step hb9)
  clear hb9
  go_wp2_with fail
  refine (toNodes_w w9 w.heap.size A0 n0 c0 ns0 (HW0.out.below HB9.out) HB9.out.size hn0 HS0.out).mono ?_
  rintro e w10 ⟨nsz, rfl, hc, hb10⟩
  have HB10 := Lib.hid (below_on HB9.out hb10)
  have Cx_10 := Lib.hid (Cx_9.out.step hb10)
  have Cy_10 := Lib.hid (Cy_9.out.step hb10)
  have Z910 := Lib.hid (Below.size hb10)
  have Ra_10 := Lib.hid (Ra_9.out.step hb10)
  have Rx_10 := Lib.hid (Rx_9.out.step hb10)
  have Ry_10 := Lib.hid (Ry_9.out.step hb10)
  have Rg_10 := Lib.hid (Rg_9.out.step hb10)
  have Cz_10 := Lib.hid hc
  clear hc
  clear hb10
  go_wp2_with fail
  refine (eqNodes_w _ _ _ _ _ _ _ Cx_10.out Cz_10.out hn0).mono ?_
  rintro e w11 ⟨rfl, hb11⟩
  have HB11 := Lib.hid (below_on HB10.out hb11)
  have Cx_11 := Lib.hid (Cx_10.out.step hb11)
  have Cy_11 := Lib.hid (Cy_10.out.step hb11)
  have Cz_11 := Lib.hid (Cz_10.out.step hb11)
  have Z1011 := Lib.hid (Below.size hb11)
  have Ra_11 := Lib.hid (Ra_10.out.step hb11)
  have Rx_11 := Lib.hid (Rx_10.out.step hb11)
  have Ry_11 := Lib.hid (Ry_10.out.step hb11)
  have Rg_11 := Lib.hid (Rg_10.out.step hb11)
  clear hb11
  go_wp2_with fail
  refine (toNodes_w w11 w.heap.size A1 n1 c1 ns1 (HW1.out.below HB11.out) HB11.out.size hn1 HS1.out).mono ?_
  rintro e w12 ⟨nsz, rfl, hc, hb12⟩
  have HB12 := Lib.hid (below_on HB11.out hb12)
  have Cx_12 := Lib.hid (Cx_11.out.step hb12)
  have Cy_12 := Lib.hid (Cy_11.out.step hb12)
  have Z1112 := Lib.hid (Below.size hb12)
  have Ra_12 := Lib.hid (Ra_11.out.step hb12)
  have Rx_12 := Lib.hid (Rx_11.out.step hb12)
  have Ry_12 := Lib.hid (Ry_11.out.step hb12)
  have Rg_12 := Lib.hid (Rg_11.out.step hb12)
  have Cz_12 := Lib.hid hc
  clear hc
  clear hb12
  go_wp2_with fail
  refine (eqNodes_w _ _ _ _ _ _ _ Cy_12.out Cz_12.out hn1).mono ?_
  rintro e w13 ⟨rfl, hb13⟩
  have HB13 := Lib.hid (below_on HB12.out hb13)
  have Cx_13 := Lib.hid (Cx_12.out.step hb13)
  have Cy_13 := Lib.hid (Cy_12.out.step hb13)
  have Cz_13 := Lib.hid (Cz_12.out.step hb13)
  have Z1213 := Lib.hid (Below.size hb13)
  have Ra_13 := Lib.hid (Ra_12.out.step hb13)
  have Rx_13 := Lib.hid (Rx_12.out.step hb13)
  have Ry_13 := Lib.hid (Ry_12.out.step hb13)
  have Rg_13 := Lib.hid (Rg_12.out.step hb13)
  clear hb13
  have Sx : Hid (ShortN nsx) := Lib.hid Cx_13.out.short
  have Lx : Hid (nsx.length ≤ 1048576) := Lib.hid (by rw [Cx_13.out.len]; exact hn0)
  have Sy : Hid (ShortN nsy) := Lib.hid Cy_13.out.short
  have Ly : Hid (nsy.length ≤ 1048576) := Lib.hid (by rw [Cy_13.out.len]; exact hn1)
  have HMx : Hid (1 + cntN nsx ≤ 562949953421312 ∧ cntN nsy ≤ 562949953421312) := Lib.hid (by
    have h1 := cntN_le (lensN Rx_13.out.own Sx.out)
    have h2 := cntN_le (lensN Ry_13.out.own Sy.out)
    have h3 := Nat.mul_le_mul_right 3145732 Lx.out
    have h4 := Nat.mul_le_mul_right 3145732 Ly.out
    omega)
  have z2 := Z23.out
  have z3 := Z34.out
  have z4 := Z45.out
  have z5 := Z56.out
  have z6 := Z67.out
  have z7 := Z78.out
  have z1 := HB2.out.size
  go_wp2_with fail
  refine (Rx_13.out.mark Lx.out Sx.out _ 1 (by simp) (by omega)).mono ?_
  rintro e w14 ⟨rfl, hm, hon⟩
  have HB14 := Lib.hid (HB13.out.trans (hon.lo (by omega)))
  have Ra_14 := Lib.hid (Ra_13.out.only hon (fun b hb => by obtain ⟨h1, h2⟩ := hb; omega))
  have Ry_14 := Lib.hid (Ry_13.out.only hon (fun b hb => by obtain ⟨h1, h2⟩ := hb; omega))
  have Rg_14 := Lib.hid (Rg_13.out.only hon (fun b hb => by obtain ⟨h1, h2⟩ := hb; omega))
  have Rx_14 := Lib.hid hm
  clear hm hon
  obtain ⟨M1, hM1⟩ : ∃ M : Nat, 1 + cntN nsx = M := ⟨_, rfl⟩
  have hM2 : M1 ≤ 1125899906842624 := by have h := HMx.out.1; omega
  rw [hM1]
  clear hM1
  go_wp2_with fail
  refine (Ry_14.out.mark Ly.out Sy.out _ M1 (by simp) (by omega)).mono ?_
  rintro e w15 ⟨rfl, hm, hon⟩
  have HB15 := Lib.hid (HB14.out.trans (hon.lo (by omega)))
  have Ra_15 := Lib.hid (Ra_14.out.only hon (fun b hb => by obtain ⟨h1, h2⟩ := hb; omega))
  have Rg_15 := Lib.hid (Rg_14.out.only hon (fun b hb => by obtain ⟨h1, h2⟩ := hb; omega))
  have Ry_15 := Lib.hid hm
  clear hm hon
  obtain ⟨M2, hM3⟩ : ∃ M : Nat, M1 + cntN nsy = M := ⟨_, rfl⟩
  rw [hM3]
  clear hM3 hM2
  have hk1 : decide ((M2 : Int) < 0) = false := by simp
  go_wp2_with fail
  refine (Rg_15.out.eq Ra_15.out Dg.out Da.out HDl.out Sg.out).mono ?_
  rintro e w16 ⟨rfl, hb16⟩
  have HB16 := Lib.hid (below_on HB15.out hb16)
  have Z1516 := Lib.hid (Below.size hb16)
  have Ra_16 := Lib.hid (Ra_15.out.step hb16)
  have Rg_16 := Lib.hid (Rg_15.out.step hb16)
  clear hb16
  go_wp2_with fail
  refine (Rg_16.out.mark Lg.out Sg.out _ 1 (by simp) (by omega)).mono ?_
  rintro e w17 ⟨rfl, hm, hon⟩
  have HB17 := Lib.hid (HB16.out.trans (hon.lo (by omega)))
  have Ra_17 := Lib.hid (Ra_16.out.only hon (fun b hb => by obtain ⟨h1, h2⟩ := hb; omega))
  have Rg_17 := Lib.hid hm
  clear hm hon
  clear z1 z2 z3 z4 z5 z6 z7
  obtain ⟨M, hM⟩ : ∃ M : Nat, 1 + cntN tsg = M := ⟨_, rfl⟩
  have HM := Lib.hid hM
  rw [hM]
  clear hM
  have hm1 : decide ((M : Int) < 0) = false := by simp
  have hm2 : ((M : Int) != (M : Int)) = false := by simp
  go_wp2_with fail
  refine (Rg_17.out.held Lg.out Tg.out _ (by simp) (by omega)).mono ?_
  rintro e wh ⟨rfl, hw⟩
  rw [← hw, HM.out]
  clear hw wh
  go_wp2_with fail
  refine (toNodes_w w17 w.heap.size A0 n0 c0 ns0 (HW0.out.below HB17.out) HB17.out.size hn0 HS0.out).mono ?_
  rintro e w18 ⟨nse, rfl, hc, hb18⟩
  have HB18 := Lib.hid (below_on HB17.out hb18)
  have Z1718 := Lib.hid (Below.size hb18)
  have Ra_18 := Lib.hid (Ra_17.out.step hb18)
  have Rg_18 := Lib.hid (Rg_17.out.step hb18)
  have Ce_18 := Lib.hid hc
  clear hc
  clear hb18
  go_wp2_with fail
  refine (toNodes_w w18 w.heap.size A1 n1 c1 ns1 (HW1.out.below HB18.out) HB18.out.size hn1 HS1.out).mono ?_
  rintro e w19 ⟨nsf, rfl, hc, hb19⟩
  have HB19 := Lib.hid (below_on HB18.out hb19)
  have Ce_19 := Lib.hid (Ce_18.out.step hb19)
  have Z1819 := Lib.hid (Below.size hb19)
  have Ra_19 := Lib.hid (Ra_18.out.step hb19)
  have Rg_19 := Lib.hid (Rg_18.out.step hb19)
  have Cf_19 := Lib.hid hc
  clear hc
  clear hb19
  go_wp2_with fail
  refine (iJoin2 _ _ _ _ n0 n1 n0 n1 nse nsf a2 Ce_19.out.nodes Cf_19.out.nodes (Nat.le_refl _) Ce_19.out.short Cf_19.out.short HI2.out (Nat.le_refl _) (Nat.le_refl _) hn0 hn1 r (by rw [Ce_19.out.dat, Cf_19.out.dat]; exact HR.out)).mono ?_
  rintro e w20 ⟨vh, tsh, rfl, hd, hs, ho, hb20⟩
  have HB20 := Lib.hid (below_on HB19.out hb20)
  have Ce_20 := Lib.hid (Ce_19.out.step hb20)
  have Cf_20 := Lib.hid (Cf_19.out.step hb20)
  have Z1920 := Lib.hid (Below.size hb20)
  have Ra_20 := Lib.hid (Ra_19.out.step hb20)
  have Rg_20 := Lib.hid (Rg_19.out.step hb20)
  obtain ⟨Ah, ch, rfl, -, -⟩ := ho.r.shape
  have Dh := Lib.hid hd
  have Sh := Lib.hid hs
  have Rh_20 := Lib.hid (ResN.new ho)
  have Th := Lib.hid (lensN ho hs)
  clear hd hs ho
  clear hb20
  have Dh := Lib.hid ((Dh.out.trans (by rw [Ce_20.out.dat, Cf_20.out.dat])).trans HD.out)
  have Lh : Hid (tsh.length ≤ 1048576) := Lib.hid (by have h := congrArg List.length Dh.out; unfold datN at h; rw [List.length_map] at h; rw [h]; exact HDl.out)
  go_wp2_with fail
  refine (Rh_20.out.eq Ra_20.out Dh.out Da.out HDl.out Sh.out).mono ?_
  rintro e w21 ⟨rfl, hb21⟩
  have HB21 := Lib.hid (below_on HB20.out hb21)
  have Ce_21 := Lib.hid (Ce_20.out.step hb21)
  have Cf_21 := Lib.hid (Cf_20.out.step hb21)
  have Z2021 := Lib.hid (Below.size hb21)
  have Ra_21 := Lib.hid (Ra_20.out.step hb21)
  have Rg_21 := Lib.hid (Rg_20.out.step hb21)
  have Rh_21 := Lib.hid (Rh_20.out.step hb21)
  clear hb21
  go_wp2_with fail
  refine (Rg_21.out.held Lg.out Tg.out _ (by simp) (by omega)).mono ?_
  rintro e wh ⟨rfl, hw⟩
  rw [← hw, HM.out]
  clear hw wh
  go_wp2
  go_ret
  exact ⟨rfl, HB21.out⟩

set_option maxRecDepth 100000 in
theorem lifted (os : Os) (started : os.Started) (H : Type) (enc : TypeId × Value → H) :
    ReturnsInHanded {} Try.checked os 10 .any (Rows.fnExactJoinExpressionsSpec.pre6 enc Try.prog Try.f10 Rows.fnExactJoinExpressionsRow.domain false) (Rows.fnExactJoinExpressionsSpec.post enc Try.prog Try.f10 false true false false) := by
  refine returnsInHanded_of_change (C := Try.checked) own started (by kernel_rfl) Try.func10
    (ChangeSpec.witness6 (enc := enc) (C := Try.checked) false ⟨#[], #[.slice none 0 0, .slice none 0 0, .int .i64 0], []⟩ 8 (by kernel_rfl) (by kernel_rfl) (by kernel_rfl) (by kernel_rfl)) ?_
  intro W base args ds gs before hval0 hW hcnd _
  have hval : ∀ (j : Nat) t v, Try.f10.params[j]? = some t → args[j]? = some v → Value.okWide Try.prog W .any base t v := hval0
  have hW' := hW
  obtain ⟨p, q, hA0, hV, rfl, hfz, hnd⟩ := hW
  have hA : DataW.TrodAll enc Try.prog W 0 (fun _ => true) true Try.f10.params.toList args.toList ds p := hA0
  rw [Try.params10] at hA hval
  obtain ⟨v0, vs0, d0, ds0, p0, q0, hargs, rfl, rfl, h0, r0⟩ := trodAll_cons hA
  obtain ⟨v1, vs1, d1, ds1, p1, q1, rfl, rfl, rfl, h1, r1⟩ := trodAll_cons r0
  obtain ⟨v2, vs2, d2, ds2, p2, q2, rfl, rfl, rfl, h2, r2⟩ := trodAll_cons r1
  obtain ⟨rfl, rfl, rfl⟩ := trodAll_nil r2
  obtain rfl : args = #[v0, v1, v2] := by cases args; simp_all
  obtain ⟨rfl, rfl⟩ := trodVars_none hV
  have lt0 : ∀ x ∈ p0, x.block < W.heap.size := by obtain ⟨m, hm⟩ := h0; exact DataW.trod_lt m _ _ _ hm
  obtain ⟨A0, n0, c0, ns0, rfl, m0, N0, w0⟩ := open_nodes (hval 0 47 v0 rfl rfl) h0
  have lt1 : ∀ x ∈ p1, x.block < W.heap.size := by obtain ⟨m, hm⟩ := h1; exact DataW.trod_lt m _ _ _ hm
  obtain ⟨A1, n1, c1, ns1, rfl, m1, N1, w1⟩ := open_nodes (hval 1 47 v1 rfl rfl) h1
  obtain ⟨a2, rfl, rfl, rfl, w2⟩ := open_int Try.underlying3 (hval 2 3 v2 rfl rfl) h2
  clear hA0 hval0
  refine (walk A0 n0 c0 ns0 A1 n1 c1 ns1 a2 W m0 N0 w0 m1 N1 w1 w2).mono fun e W' ⟨he, hb⟩ => ?_
  subst he
  exact ⟨_, rfl, _, _, _, [], _, [], hW', trodAll_mk1 (shut_bool Try.underlying4 _), (trodAll_cons_mk (Below.trod laidOut (by kernel_rfl) (of_decide_eq_true (by kernel_rfl)) h0 hb lt0) (trodAll_cons_mk (Below.trod laidOut (by kernel_rfl) (of_decide_eq_true (by kernel_rfl)) h1 hb lt1) (trodAll_cons_mk (shut_int Try.underlying3 w2) trodAll_mk0))), rfl, hb.frame _, fun h => by cases h⟩

theorem holds : Rows.FnExactJoinExpressionsSaid :=
  OpenClaim.holds_of_wide 10 Try.f10 rfl rfl rfl rfl rfl rfl rfl ⟨rfl, rfl, rfl, rfl, rfl⟩ rfl rfl rfl rfl rfl (by kernel_rfl) Try.func10 (by kernel_rfl)
    (of_decide_eq_true (by kernel_rfl)) (by unfold Func.isWrapper; first | (rw [if_pos (by decide +kernel)]; kernel_rfl) | (rw [if_neg (by decide +kernel)]; exact ⟨rfl, rfl⟩))
    (fun os started H enc _ => lifted os started H enc)

#print axioms holds
end Go.Proofs.Ytmbchpdcgjlggaa.fnExactJoinExpressions
