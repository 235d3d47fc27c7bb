/- The law FnExactMergeBest. -/
import Derived.Test.YtclpnhdpojkjpaaGreatRows
import Derived.Test.YtclpnhdpojkjpaaGreatExpOpen
import Derived.Test.YtclpnhdpojkjpaaGreatBkA
import Derived.Test.YtclpnhdpojkjpaaGreatBkB
import Derived.Test.YtclpnhdpojkjpaaGreatBkC
import Derived.WalkKit
import Derived.ProofKit
import Derived.OpenShut
import Derived.ShutString
import Derived.Below
namespace Go.Proofs.YtclpnhdpojkjpaaGreat.fnExactMergeBest
set_option maxRecDepth 20000
open Go.ChangeShapes Go.WideShapes Go.ChangeAt Go.RowKit
open Go.ChangeMaps (open_string shut_string)
open Go.Proofs.YtclpnhdpojkjpaaGreat.num
set_option linter.unusedVariables false
set_option linter.unusedSimpArgs false

theorem own : ownKnob Tryz.prog.godebug = none := by kernel_rfl

set_option maxHeartbeats 6400000 in
theorem walk (A0 : Option Addr) (n0 c0 : Nat) (its0 : List It) (A1 : Option Addr) (n1 c1 : Nat) (ns1 : List Nd) (A2 : Option Addr) (n2 c2 : Nat) (xs2 : List Int) (A3 : Option Addr) (n3 c3 : Nat) (xs3 : List Int) (w : World) (m0 : n0 ≤ 9223372036854775807) (N0 : ∀ t ∈ its0, t.n ≤ 9223372036854775807) (w0 : Items w w.heap.size A0 n0 its0) (m1 : n1 ≤ 9223372036854775807) (N1 : ∀ x ∈ ns1, x.t.Ln ≤ 9223372036854775807 ∧ x.t.Pn ≤ 9223372036854775807) (w1 : Nodes w w.heap.size A1 n1 ns1) (m2 : n2 ≤ 9223372036854775807) (w2 : Ints w w.heap.size A2 n2 xs2) (m3 : n3 ≤ 9223372036854775807) (w3 : Ints w w.heap.size A3 n3 xs3) :
    Calls Tryz.prog 6 #[.slice A0 n0 c0, .slice A1 n1 c1, .slice A2 n2 c2, .slice A3 n3 c3] w fun e w' => e = .returned (.bool true) ∧ Below w.heap.size w w' := by
  have HM0 := Lib.hid m0
  have HN0 := Lib.hid N0
  have HW0 := Lib.hid w0
  clear m0 N0 w0
  have HM1 := Lib.hid m1
  have HL1 := Lib.hid N1
  have HW1 := Lib.hid w1
  clear m1 N1 w1
  have HM2 := Lib.hid m2
  have HW2 := Lib.hid w2
  clear w2
  have HM3 := Lib.hid m3
  have HW3 := Lib.hid w3
  clear w3
  go_enter Tryz.func6, Tryz.ntmps6
  by_cases hq2 : 1048576 < n2
  · have hd2 : decide ((n2 : Int) > 1048576) = true := by simp; omega
    go_wp2
    go_ret
    exact ⟨rfl, Below.refl _ _⟩
  have hd2 : decide ((n2 : Int) > 1048576) = false := by simp; omega
  have hn2 : n2 ≤ 1048576 := by omega
  clear hq2 m2
  by_cases hq3 : 1048576 < n3
  · have hd3 : decide ((n3 : Int) > 1048576) = true := by simp; omega
    go_wp2
    go_ret
    exact ⟨rfl, Below.refl _ _⟩
  have hd3 : decide ((n3 : Int) > 1048576) = false := by simp; omega
  have hn3 : n3 ≤ 1048576 := by omega
  clear hq3 m3
  go_wp2_with fail
  refine (szItems w w.heap.size A0 n0 c0 its0 (HW0.out.below (Below.refl w.heap.size w)) (Below.refl w.heap.size w).size HM0.out HN0.out 1048576 (by decide) (by decide)).mono ?_
  rintro e w1 ⟨⟨r0, rfl, hr0⟩, hb1⟩
  have HB1 := Lib.hid (hb1)
  have Z01 := Lib.hid (Below.size hb1)
  clear hb1
  rcases hr0 with rfl | ⟨hr0a, hr0b, hn0, hs0⟩
  · go_wp2
    go_ret
    exact ⟨rfl, HB1.out⟩
  replace hn0 : n0 ≤ 1048576 := by omega
  have HN0b : Hid (∀ t ∈ its0, t.n ≤ 1048576) := Lib.hid fun t ht => by have := hs0 t ht; omega
  clear hs0
  have hz0 : decide (r0 < 0) = false := by simp; omega
  go_wp2_with fail
  refine (szNodes_c w1 w.heap.size A1 n1 c1 ns1 (HW1.out.below HB1.out) HB1.out.size HM1.out HL1.out r0 (by omega) (by omega)).mono ?_
  rintro e w2 ⟨⟨r1, rfl, hr1⟩, hb2⟩
  have HB2 := Lib.hid (below_on HB1.out hb2)
  have Z12 := Lib.hid (Below.size hb2)
  clear hb2
  rcases hr1 with rfl | ⟨hr1a, hr1b, hn1, hs1⟩
  · go_wp2
    go_ret
    exact ⟨rfl, HB2.out⟩
  have HS1 := Lib.hid hs1
  clear hs1
  have hz1 : decide (r1 < 0) = false := by simp; omega
  obtain ⟨D, hD⟩ := MergeP.some (datN ns1) (its0.map It.dat) xs2 xs3
  have HD := Lib.hid hD
  have HDl : Hid (D.length ≤ 4194304) := Lib.hid (by have h1 := hD.small; have h2 := HW2.out.1; have h3 := HW3.out.1; omega)
  clear hD
  go_wp2_with fail
  refine (toItems_w w2 w.heap.size A0 n0 c0 its0 (HW0.out.below HB2.out) HB2.out.size hn0 HN0b.out).mono ?_
  rintro e w3 ⟨ip0, rfl, hc, hb3⟩
  have HB3 := Lib.hid (below_on HB2.out hb3)
  have Z23 := Lib.hid (Below.size hb3)
  have Ip0_3 := Lib.hid hc
  clear hc
  clear hb3
  go_wp2_with fail
  refine (toNodes_w w3 w.heap.size A1 n1 c1 ns1 (HW1.out.below HB3.out) HB3.out.size hn1 HS1.out).mono ?_
  rintro e w4 ⟨nsp1, rfl, hc, hb4⟩
  have HB4 := Lib.hid (below_on HB3.out hb4)
  have Ip0_4 := Lib.hid (Ip0_3.out.step hb4)
  have Z34 := Lib.hid (Below.size hb4)
  have Cp1_4 := Lib.hid hc
  clear hc
  clear hb4
  go_wp2_with fail
  refine (toInts_r w4 w.heap.size A2 n2 c2 xs2 (HW2.out.below HB4.out) HB4.out.size hn2).mono ?_
  rintro e w5 ⟨⟨rfl, hc⟩, hb5⟩
  have HB5 := Lib.hid (below_on HB4.out hb5)
  have Cp1_5 := Lib.hid (Cp1_4.out.step hb5)
  have Ip0_5 := Lib.hid (Ip0_4.out.step hb5)
  have Z45 := Lib.hid (Below.size hb5)
  have Rp2_5 := Lib.hid hc
  clear hc
  clear hb5
  go_wp2_with fail
  refine (toInts_r w5 w.heap.size A3 n3 c3 xs3 (HW3.out.below HB5.out) HB5.out.size hn3).mono ?_
  rintro e w6 ⟨⟨rfl, hc⟩, hb6⟩
  have HB6 := Lib.hid (below_on HB5.out hb6)
  have Cp1_6 := Lib.hid (Cp1_5.out.step hb6)
  have Ip0_6 := Lib.hid (Ip0_5.out.step hb6)
  have Z56 := Lib.hid (Below.size hb6)
  have Rp2_6 := Lib.hid (Rp2_5.out.step hb6)
  have Rp3_6 := Lib.hid hc
  clear hc
  clear hb6
  go_wp2_with fail
  refine (sMergeBest _ _ _ n0 n0 ip0 _ n1 n1 nsp1 (InB.copies Ip0_6.out Cp1_6.out hn0 hn1) _ n2 n2 xs2 Rp2_6.out.ints hn2 _ n3 n3 xs3 Rp3_6.out.ints hn3 D (by rw [Cp1_6.out.dat, Ip0_6.out.c.dat]; exact HD.out)).mono ?_
  rintro e w7 ⟨⟨va, rfl, ho⟩, hb7⟩
  have HB7 := Lib.hid (below_on HB6.out hb7)
  have Cp1_7 := Lib.hid (Cp1_6.out.step hb7)
  have Ip0_7 := Lib.hid (Ip0_6.out.step hb7)
  have Z67 := Lib.hid (Below.size hb7)
  have Rp2_7 := Lib.hid (Rp2_6.out.step hb7)
  have Rp3_7 := Lib.hid (Rp3_6.out.step hb7)
  obtain ⟨Aa, na, ca, rfl, -⟩ := ho.ints
  have Ra_7 := Lib.hid (ResI.new ho)
  clear ho
  clear hb7
  go_wp2_with fail
  refine (toItems_w w7 w.heap.size A0 n0 c0 its0 (HW0.out.below HB7.out) HB7.out.size hn0 HN0b.out).mono ?_
  rintro e w8 ⟨ix0, rfl, hc, hb8⟩
  have HB8 := Lib.hid (below_on HB7.out hb8)
  have Z78 := Lib.hid (Below.size hb8)
  have Ra_8 := Lib.hid (Ra_7.out.step hb8)
  have Ix0_8 := Lib.hid hc
  clear hc
  clear hb8
  go_wp2_with fail
  refine (toNodes_w w8 w.heap.size A1 n1 c1 ns1 (HW1.out.below HB8.out) HB8.out.size hn1 HS1.out).mono ?_
  rintro e w9 ⟨nsx1, rfl, hc, hb9⟩
  have HB9 := Lib.hid (below_on HB8.out hb9)
  have Ix0_9 := Lib.hid (Ix0_8.out.step hb9)
  have Z89 := Lib.hid (Below.size hb9)
  have Ra_9 := Lib.hid (Ra_8.out.step hb9)
  have Cx1_9 := Lib.hid hc
  clear hc
  clear hb9
  have Rx1_9 := Lib.hid Cx1_9.out.res
  go_wp2_with fail
  refine (toInts_r w9 w.heap.size A2 n2 c2 xs2 (HW2.out.below HB9.out) HB9.out.size hn2).mono ?_
  rintro e w10 ⟨⟨rfl, hc⟩, hb10⟩
  have HB10 := Lib.hid (below_on HB9.out hb10)
  have Cx1_10 := Lib.hid (Cx1_9.out.step hb10)
  have Ix0_10 := Lib.hid (Ix0_9.out.step hb10)
  have Z910 := Lib.hid (Below.size hb10)
  have Ra_10 := Lib.hid (Ra_9.out.step hb10)
  have Rx1_10 := Lib.hid (Rx1_9.out.step hb10)
  have Rx2_10 := Lib.hid hc
  clear hc
  clear hb10
  go_wp2_with fail
  refine (toInts_r w10 w.heap.size A3 n3 c3 xs3 (HW3.out.below HB10.out) HB10.out.size hn3).mono ?_
  rintro e w11 ⟨⟨rfl, hc⟩, hb11⟩
  have HB11 := Lib.hid (below_on HB10.out hb11)
  have Cx1_11 := Lib.hid (Cx1_10.out.step hb11)
  have Ix0_11 := Lib.hid (Ix0_10.out.step hb11)
  have Z1011 := Lib.hid (Below.size hb11)
  have Ra_11 := Lib.hid (Ra_10.out.step hb11)
  have Rx1_11 := Lib.hid (Rx1_10.out.step hb11)
  have Rx2_11 := Lib.hid (Rx2_10.out.step hb11)
  have Rx3_11 := Lib.hid hc
  clear hc
  clear hb11
  go_wp2_with fail
  refine (iMergeBest _ _ _ n0 n0 ix0 _ n1 n1 nsx1 (InB.copies Ix0_11.out Cx1_11.out hn0 hn1) _ n2 n2 xs2 Rx2_11.out.ints hn2 _ n3 n3 xs3 Rx3_11.out.ints hn3 D (by rw [Cx1_11.out.dat, Ix0_11.out.c.dat]; exact HD.out)).mono ?_
  rintro e w12 ⟨⟨vg, rfl, ho⟩, hb12⟩
  have HB12 := Lib.hid (below_on HB11.out hb12)
  have Cx1_12 := Lib.hid (Cx1_11.out.step hb12)
  have Ix0_12 := Lib.hid (Ix0_11.out.step hb12)
  have Z1112 := Lib.hid (Below.size hb12)
  have Ra_12 := Lib.hid (Ra_11.out.step hb12)
  have Rx1_12 := Lib.hid (Rx1_11.out.step hb12)
  have Rx2_12 := Lib.hid (Rx2_11.out.step hb12)
  have Rx3_12 := Lib.hid (Rx3_11.out.step hb12)
  obtain ⟨Ag, ng, cg, rfl, -⟩ := ho.ints
  have Rg_12 := Lib.hid (ResI.new ho)
  clear ho
  clear hb12
  go_wp2_with fail
  refine (Rg_12.out.eqW Ra_12.out HDl.out true (by simp)).mono ?_
  rintro e w13 ⟨rfl, hb13⟩
  have HB13 := Lib.hid (below_on HB12.out hb13)
  have Cx1_13 := Lib.hid (Cx1_12.out.step hb13)
  have Ix0_13 := Lib.hid (Ix0_12.out.step hb13)
  have Z1213 := Lib.hid (Below.size hb13)
  have Ra_13 := Lib.hid (Ra_12.out.step hb13)
  have Rx1_13 := Lib.hid (Rx1_12.out.step hb13)
  have Rx2_13 := Lib.hid (Rx2_12.out.step hb13)
  have Rx3_13 := Lib.hid (Rx3_12.out.step hb13)
  have Rg_13 := Lib.hid (Rg_12.out.step hb13)
  clear hb13
  go_wp2_with fail
  refine (toItems_w w13 w.heap.size A0 n0 c0 its0 (HW0.out.below HB13.out) HB13.out.size hn0 HN0b.out).mono ?_
  rintro e w14 ⟨iz, rfl, hc, hb14⟩
  have HB14 := Lib.hid (below_on HB13.out hb14)
  have Cx1_14 := Lib.hid (Cx1_13.out.step hb14)
  have Ix0_14 := Lib.hid (Ix0_13.out.step hb14)
  have Z1314 := Lib.hid (Below.size hb14)
  have Ra_14 := Lib.hid (Ra_13.out.step hb14)
  have Rx1_14 := Lib.hid (Rx1_13.out.step hb14)
  have Rx2_14 := Lib.hid (Rx2_13.out.step hb14)
  have Rx3_14 := Lib.hid (Rx3_13.out.step hb14)
  have Rg_14 := Lib.hid (Rg_13.out.step hb14)
  have Iz_14 := Lib.hid hc
  clear hc
  clear hb14
  go_wp2_with fail
  refine (eqItems_w _ _ _ _ _ _ _ _ _ Ix0_14.out Iz_14.out hn0).mono ?_
  rintro e w15 ⟨rfl, hb15⟩
  have HB15 := Lib.hid (below_on HB14.out hb15)
  have Cx1_15 := Lib.hid (Cx1_14.out.step hb15)
  have Ix0_15 := Lib.hid (Ix0_14.out.step hb15)
  have Iz_15 := Lib.hid (Iz_14.out.step hb15)
  have Z1415 := Lib.hid (Below.size hb15)
  have Ra_15 := Lib.hid (Ra_14.out.step hb15)
  have Rx1_15 := Lib.hid (Rx1_14.out.step hb15)
  have Rx2_15 := Lib.hid (Rx2_14.out.step hb15)
  have Rx3_15 := Lib.hid (Rx3_14.out.step hb15)
  have Rg_15 := Lib.hid (Rg_14.out.step hb15)
  clear hb15
  go_wp2_with fail
  refine (toNodes_w w15 w.heap.size A1 n1 c1 ns1 (HW1.out.below HB15.out) HB15.out.size hn1 HS1.out).mono ?_
  rintro e w16 ⟨nsz, rfl, hc, hb16⟩
  have HB16 := Lib.hid (below_on HB15.out hb16)
  have Cx1_16 := Lib.hid (Cx1_15.out.step hb16)
  have Ix0_16 := Lib.hid (Ix0_15.out.step hb16)
  have Z1516 := Lib.hid (Below.size hb16)
  have Ra_16 := Lib.hid (Ra_15.out.step hb16)
  have Rx1_16 := Lib.hid (Rx1_15.out.step hb16)
  have Rx2_16 := Lib.hid (Rx2_15.out.step hb16)
  have Rx3_16 := Lib.hid (Rx3_15.out.step hb16)
  have Rg_16 := Lib.hid (Rg_15.out.step hb16)
  have Cz_16 := Lib.hid hc
  clear hc
  clear hb16
  go_wp2_with fail
  refine (eqNodes_w _ _ _ _ _ _ _ Cx1_16.out Cz_16.out hn1).mono ?_
  rintro e w17 ⟨rfl, hb17⟩
  have HB17 := Lib.hid (below_on HB16.out hb17)
  have Cx1_17 := Lib.hid (Cx1_16.out.step hb17)
  have Cz_17 := Lib.hid (Cz_16.out.step hb17)
  have Ix0_17 := Lib.hid (Ix0_16.out.step hb17)
  have Z1617 := Lib.hid (Below.size hb17)
  have Ra_17 := Lib.hid (Ra_16.out.step hb17)
  have Rx1_17 := Lib.hid (Rx1_16.out.step hb17)
  have Rx2_17 := Lib.hid (Rx2_16.out.step hb17)
  have Rx3_17 := Lib.hid (Rx3_16.out.step hb17)
  have Rg_17 := Lib.hid (Rg_16.out.step hb17)
  clear hb17
  go_wp2_with fail
  refine (toInts_r w17 w.heap.size A2 n2 c2 xs2 (HW2.out.below HB17.out) HB17.out.size hn2).mono ?_
  rintro e w18 ⟨⟨rfl, hc⟩, hb18⟩
  have HB18 := Lib.hid (below_on HB17.out hb18)
  have Cx1_18 := Lib.hid (Cx1_17.out.step hb18)
  have Ix0_18 := Lib.hid (Ix0_17.out.step hb18)
  have Z1718 := Lib.hid (Below.size hb18)
  have Ra_18 := Lib.hid (Ra_17.out.step hb18)
  have Rx1_18 := Lib.hid (Rx1_17.out.step hb18)
  have Rx2_18 := Lib.hid (Rx2_17.out.step hb18)
  have Rx3_18 := Lib.hid (Rx3_17.out.step hb18)
  have Rg_18 := Lib.hid (Rg_17.out.step hb18)
  have Rz_18 := Lib.hid hc
  clear hc
  clear hb18
  go_wp2_with fail
  refine (Rx2_18.out.eqW Rz_18.out (by have h := HW2.out.1; omega) true (by simp)).mono ?_
  rintro e w19 ⟨rfl, hb19⟩
  have HB19 := Lib.hid (below_on HB18.out hb19)
  have Cx1_19 := Lib.hid (Cx1_18.out.step hb19)
  have Ix0_19 := Lib.hid (Ix0_18.out.step hb19)
  have Z1819 := Lib.hid (Below.size hb19)
  have Ra_19 := Lib.hid (Ra_18.out.step hb19)
  have Rx1_19 := Lib.hid (Rx1_18.out.step hb19)
  have Rx2_19 := Lib.hid (Rx2_18.out.step hb19)
  have Rx3_19 := Lib.hid (Rx3_18.out.step hb19)
  have Rg_19 := Lib.hid (Rg_18.out.step hb19)
  have Rz_19 := Lib.hid (Rz_18.out.step hb19)
  clear hb19
  go_wp2_with fail
  refine (toInts_r w19 w.heap.size A3 n3 c3 xs3 (HW3.out.below HB19.out) HB19.out.size hn3).mono ?_
  rintro e w20 ⟨⟨rfl, hc⟩, hb20⟩
  have HB20 := Lib.hid (below_on HB19.out hb20)
  have Cx1_20 := Lib.hid (Cx1_19.out.step hb20)
  have Ix0_20 := Lib.hid (Ix0_19.out.step hb20)
  have Z1920 := Lib.hid (Below.size hb20)
  have Ra_20 := Lib.hid (Ra_19.out.step hb20)
  have Rx1_20 := Lib.hid (Rx1_19.out.step hb20)
  have Rx2_20 := Lib.hid (Rx2_19.out.step hb20)
  have Rx3_20 := Lib.hid (Rx3_19.out.step hb20)
  have Rg_20 := Lib.hid (Rg_19.out.step hb20)
  have Rz_20 := Lib.hid hc
  clear hc
  clear hb20
  go_wp2_with fail
  refine (Rx3_20.out.eqW Rz_20.out (by have h := HW3.out.1; omega) true (by simp)).mono ?_
  rintro e w21 ⟨rfl, hb21⟩
  have HB21 := Lib.hid (below_on HB20.out hb21)
  have Cx1_21 := Lib.hid (Cx1_20.out.step hb21)
  have Ix0_21 := Lib.hid (Ix0_20.out.step hb21)
  have Z2021 := Lib.hid (Below.size hb21)
  have Ra_21 := Lib.hid (Ra_20.out.step hb21)
  have Rx1_21 := Lib.hid (Rx1_20.out.step hb21)
  have Rx2_21 := Lib.hid (Rx2_20.out.step hb21)
  have Rx3_21 := Lib.hid (Rx3_20.out.step hb21)
  have Rg_21 := Lib.hid (Rg_20.out.step hb21)
  have Rz_21 := Lib.hid (Rz_20.out.step hb21)
  clear hb21
  have Sx1 : Hid (ShortN nsx1) := Lib.hid Cx1_21.out.short
  have Lx1 : Hid (nsx1.length ≤ 1048576) := Lib.hid (by rw [Cx1_21.out.len]; exact hn1)
  have HMx1 : Hid (cntN nsx1 ≤ 562949953421312000) := Lib.hid (by
    have h1 := cntN_le (lensN Rx1_21.out.own Sx1.out)
    have h2 := Nat.mul_le_mul_right 3145732 Lx1.out
    omega)
  have z2 := Z23.out
  have z3 := Z34.out
  have z4 := Z45.out
  have z5 := Z56.out
  have z6 := Z67.out
  have z7 := Z78.out
  have z8 := Z89.out
  have z9 := Z910.out
  have z10 := Z1011.out
  have z11 := Z1112.out
  have z1 := HB2.out.size
  go_wp2_with fail
  refine (Ix0_21.out.mark hn0).mono ?_
  rintro e w22 ⟨⟨rk, rfl, hk0, hk9⟩, hon⟩
  have HB22 := Lib.hid (HB21.out.trans (hon.lo (by omega)))
  have Ra_22 := Lib.hid (Ra_21.out.only hon (fun b hb => by obtain ⟨h1, h2⟩ := hb; omega))
  have Rx1_22 := Lib.hid (Rx1_21.out.only hon (fun b hb => by obtain ⟨h1, h2⟩ := hb; omega))
  have Rx2_22 := Lib.hid (Rx2_21.out.only hon (fun b hb => by obtain ⟨h1, h2⟩ := hb; omega))
  have Rx3_22 := Lib.hid (Rx3_21.out.only hon (fun b hb => by obtain ⟨h1, h2⟩ := hb; omega))
  have Rg_22 := Lib.hid (Rg_21.out.only hon (fun b hb => by obtain ⟨h1, h2⟩ := hb; omega))
  clear hon
  go_wp2_with fail
  refine (Rx1_22.out.mark Lx1.out Sx1.out _ (rk) (by simp) (by omega)).mono ?_
  rintro e w23 ⟨rfl, hm, hon⟩
  have HB23 := Lib.hid (HB22.out.trans (hon.lo (by omega)))
  have Ra_23 := Lib.hid (Ra_22.out.only hon (fun b hb => by obtain ⟨h1, h2⟩ := hb; omega))
  have Rx2_23 := Lib.hid (Rx2_22.out.only hon (fun b hb => by obtain ⟨h1, h2⟩ := hb; omega))
  have Rx3_23 := Lib.hid (Rx3_22.out.only hon (fun b hb => by obtain ⟨h1, h2⟩ := hb; omega))
  have Rg_23 := Lib.hid (Rg_22.out.only hon (fun b hb => by obtain ⟨h1, h2⟩ := hb; omega))
  clear hm hon
  obtain ⟨M1, hM1⟩ : ∃ M : Nat, rk + cntN nsx1 = M := ⟨_, rfl⟩
  have hMb1 : M1 ≤ 562951052933988353 := by have h := HMx1.out; omega
  rw [hM1]
  clear hM1
  go_wp2_with fail
  refine (Rx2_23.out.markW (by have h := HW2.out.1; omega) _ (M1) (by simp) (by omega)).mono ?_
  rintro e w24 ⟨rfl, hm, hon⟩
  have HB24 := Lib.hid (HB23.out.trans (hon.lo (by omega)))
  have Ra_24 := Lib.hid (Ra_23.out.only hon (fun b hb => by obtain ⟨h1, h2⟩ := hb; omega))
  have Rx3_24 := Lib.hid (Rx3_23.out.only hon (fun b hb => by obtain ⟨h1, h2⟩ := hb; omega))
  have Rg_24 := Lib.hid (Rg_23.out.only hon (fun b hb => by obtain ⟨h1, h2⟩ := hb; omega))
  clear hm hon
  obtain ⟨M2, hM2⟩ : ∃ M : Nat, M1 + xs2.length = M := ⟨_, rfl⟩
  have hMb2 : M2 ≤ 562951052935036929 := by have h := HW2.out.1; omega
  rw [hM2]
  clear hM2
  go_wp2_with fail
  refine (Rx3_24.out.markW (by have h := HW3.out.1; omega) _ (M2) (by simp) (by omega)).mono ?_
  rintro e w25 ⟨rfl, hm, hon⟩
  have HB25 := Lib.hid (HB24.out.trans (hon.lo (by omega)))
  have Ra_25 := Lib.hid (Ra_24.out.only hon (fun b hb => by obtain ⟨h1, h2⟩ := hb; omega))
  have Rg_25 := Lib.hid (Rg_24.out.only hon (fun b hb => by obtain ⟨h1, h2⟩ := hb; omega))
  clear hm hon
  obtain ⟨M3, hM3⟩ : ∃ M : Nat, M2 + xs3.length = M := ⟨_, rfl⟩
  have hMb3 : M3 ≤ 562951052936085505 := by have h := HW3.out.1; omega
  rw [hM3]
  clear hM3
  have hk1 : decide (((M3 : Nat) : Int) < 0) = false := by simp
  go_wp2_with fail
  refine (Rg_25.out.eqW Ra_25.out HDl.out true (by simp)).mono ?_
  rintro e w26 ⟨rfl, hb26⟩
  have HB26 := Lib.hid (below_on HB25.out hb26)
  have Z2526 := Lib.hid (Below.size hb26)
  have Ra_26 := Lib.hid (Ra_25.out.step hb26)
  have Rg_26 := Lib.hid (Rg_25.out.step hb26)
  clear hb26
  go_wp2_with fail
  refine (Rg_26.out.markW HDl.out _ 1 (by simp) (by decide)).mono ?_
  rintro e w27 ⟨rfl, hm, hon⟩
  have HB27 := Lib.hid (HB26.out.trans (hon.lo (by omega)))
  have Ra_27 := Lib.hid (Ra_26.out.only hon (fun b hb => by obtain ⟨h1, h2⟩ := hb; omega))
  have Rg_27 := Lib.hid hm
  clear hm hon
  clear z1 hk1 z2 z3 z4 z5 z6 z7 z8 z9 z10 z11
  obtain ⟨M, hM⟩ : ∃ M : Nat, 1 + D.length = M := ⟨_, rfl⟩
  have HM := Lib.hid hM
  rw [hM]
  clear hM
  have hm1 : decide ((M : Int) < 0) = false := by simp
  have hm2 : ((M : Int) != (M : Int)) = false := by simp
  go_wp2_with fail
  refine (Rg_27.out.heldW HDl.out _ (by simp) (by decide)).mono ?_
  rintro e wh ⟨rfl, hw⟩
  rw [← hw, HM.out]
  clear hw wh
  go_wp2_with fail
  refine (toItems_w w27 w.heap.size A0 n0 c0 its0 (HW0.out.below HB27.out) HB27.out.size hn0 HN0b.out).mono ?_
  rintro e w28 ⟨ie0, rfl, hc, hb28⟩
  have HB28 := Lib.hid (below_on HB27.out hb28)
  have Z2728 := Lib.hid (Below.size hb28)
  have Ra_28 := Lib.hid (Ra_27.out.step hb28)
  have Rg_28 := Lib.hid (Rg_27.out.step hb28)
  have Ie0_28 := Lib.hid hc
  clear hc
  clear hb28
  go_wp2_with fail
  refine (toNodes_w w28 w.heap.size A1 n1 c1 ns1 (HW1.out.below HB28.out) HB28.out.size hn1 HS1.out).mono ?_
  rintro e w29 ⟨nse1, rfl, hc, hb29⟩
  have HB29 := Lib.hid (below_on HB28.out hb29)
  have Ie0_29 := Lib.hid (Ie0_28.out.step hb29)
  have Z2829 := Lib.hid (Below.size hb29)
  have Ra_29 := Lib.hid (Ra_28.out.step hb29)
  have Rg_29 := Lib.hid (Rg_28.out.step hb29)
  have Ce1_29 := Lib.hid hc
  clear hc
  clear hb29
  go_wp2_with fail
  refine (toInts_r w29 w.heap.size A2 n2 c2 xs2 (HW2.out.below HB29.out) HB29.out.size hn2).mono ?_
  rintro e w30 ⟨⟨rfl, hc⟩, hb30⟩
  have HB30 := Lib.hid (below_on HB29.out hb30)
  have Ce1_30 := Lib.hid (Ce1_29.out.step hb30)
  have Ie0_30 := Lib.hid (Ie0_29.out.step hb30)
  have Z2930 := Lib.hid (Below.size hb30)
  have Ra_30 := Lib.hid (Ra_29.out.step hb30)
  have Rg_30 := Lib.hid (Rg_29.out.step hb30)
  have Re2_30 := Lib.hid hc
  clear hc
  clear hb30
  go_wp2_with fail
  refine (toInts_r w30 w.heap.size A3 n3 c3 xs3 (HW3.out.below HB30.out) HB30.out.size hn3).mono ?_
  rintro e w31 ⟨⟨rfl, hc⟩, hb31⟩
  have HB31 := Lib.hid (below_on HB30.out hb31)
  have Ce1_31 := Lib.hid (Ce1_30.out.step hb31)
  have Ie0_31 := Lib.hid (Ie0_30.out.step hb31)
  have Z3031 := Lib.hid (Below.size hb31)
  have Ra_31 := Lib.hid (Ra_30.out.step hb31)
  have Rg_31 := Lib.hid (Rg_30.out.step hb31)
  have Re2_31 := Lib.hid (Re2_30.out.step hb31)
  have Re3_31 := Lib.hid hc
  clear hc
  clear hb31
  go_wp2_with fail
  refine (iMergeBest _ _ _ n0 n0 ie0 _ n1 n1 nse1 (InB.copies Ie0_31.out Ce1_31.out hn0 hn1) _ n2 n2 xs2 Re2_31.out.ints hn2 _ n3 n3 xs3 Re3_31.out.ints hn3 D (by rw [Ce1_31.out.dat, Ie0_31.out.c.dat]; exact HD.out)).mono ?_
  rintro e w32 ⟨⟨vh, rfl, ho⟩, hb32⟩
  have HB32 := Lib.hid (below_on HB31.out hb32)
  have Ce1_32 := Lib.hid (Ce1_31.out.step hb32)
  have Ie0_32 := Lib.hid (Ie0_31.out.step hb32)
  have Z3132 := Lib.hid (Below.size hb32)
  have Ra_32 := Lib.hid (Ra_31.out.step hb32)
  have Rg_32 := Lib.hid (Rg_31.out.step hb32)
  have Re2_32 := Lib.hid (Re2_31.out.step hb32)
  have Re3_32 := Lib.hid (Re3_31.out.step hb32)
  obtain ⟨Ah, nh, ch, rfl, -⟩ := ho.ints
  have Rh_32 := Lib.hid (ResI.new ho)
  clear ho
  clear hb32
  go_wp2_with fail
  refine (Rh_32.out.eqW Ra_32.out HDl.out true (by simp)).mono ?_
  rintro e w33 ⟨rfl, hb33⟩
  have HB33 := Lib.hid (below_on HB32.out hb33)
  have Z3233 := Lib.hid (Below.size hb33)
  have Ra_33 := Lib.hid (Ra_32.out.step hb33)
  have Rg_33 := Lib.hid (Rg_32.out.step hb33)
  have Rh_33 := Lib.hid (Rh_32.out.step hb33)
  clear hb33
  go_wp2_with fail
  refine (Rg_33.out.heldW HDl.out _ (by simp) (by decide)).mono ?_
  rintro e wh ⟨rfl, hw⟩
  rw [← hw, HM.out]
  clear hw wh
  go_wp2
  go_ret
  exact ⟨rfl, HB33.out⟩

set_option maxRecDepth 100000 in
theorem lifted (os : Os) (started : os.Started) (H : Type) (enc : TypeId × Value → H) :
    ReturnsInHanded {} Tryz.checked os 6 .any (Rows.fnExactMergeBestSpec.pre6 enc Tryz.prog Tryz.f6 Rows.fnExactMergeBestRow.domain false) (Rows.fnExactMergeBestSpec.post enc Tryz.prog Tryz.f6 false true false false) := by
  refine returnsInHanded_of_change (C := Tryz.checked) own started (by kernel_rfl) Tryz.func6
    (ChangeSpec.witness6 (enc := enc) (C := Tryz.checked) false ⟨#[], #[.slice none 0 0, .slice none 0 0, .slice none 0 0, .slice none 0 0], []⟩ 8 (by kernel_rfl) (by kernel_rfl) (by kernel_rfl) (by kernel_rfl)) ?_
  intro W base args ds gs before hval0 hW hcnd _
  have hval : ∀ (j : Nat) t v, Tryz.f6.params[j]? = some t → args[j]? = some v → Value.okWide Tryz.prog W .any base t v := hval0
  have hW' := hW
  obtain ⟨p, q, hA0, hV, rfl, hfz, hnd⟩ := hW
  have hA : DataW.TrodAll enc Tryz.prog W 0 (fun _ => true) true Tryz.f6.params.toList args.toList ds p := hA0
  rw [Tryz.params6] at hA hval
  obtain ⟨v0, vs0, d0, ds0, p0, q0, hargs, rfl, rfl, h0, r0⟩ := trodAll_cons hA
  obtain ⟨v1, vs1, d1, ds1, p1, q1, rfl, rfl, rfl, h1, r1⟩ := trodAll_cons r0
  obtain ⟨v2, vs2, d2, ds2, p2, q2, rfl, rfl, rfl, h2, r2⟩ := trodAll_cons r1
  obtain ⟨v3, vs3, d3, ds3, p3, q3, rfl, rfl, rfl, h3, r3⟩ := trodAll_cons r2
  obtain ⟨rfl, rfl, rfl⟩ := trodAll_nil r3
  obtain rfl : args = #[v0, v1, v2, v3] := by cases args; simp_all
  obtain ⟨rfl, rfl⟩ := trodVars_none hV
  have lt0 : ∀ x ∈ p0, x.block < W.heap.size := by obtain ⟨m, hm⟩ := h0; exact DataW.trod_lt m _ _ _ hm
  obtain ⟨A0, n0, c0, its0, rfl, m0, N0, w0⟩ := open_items (hval 0 40 v0 rfl rfl) h0
  have lt1 : ∀ x ∈ p1, x.block < W.heap.size := by obtain ⟨m, hm⟩ := h1; exact DataW.trod_lt m _ _ _ hm
  obtain ⟨A1, n1, c1, ns1, rfl, m1, N1, w1⟩ := open_nodes (hval 1 41 v1 rfl rfl) h1
  have lt2 : ∀ x ∈ p2, x.block < W.heap.size := by obtain ⟨m, hm⟩ := h2; exact DataW.trod_lt m _ _ _ hm
  obtain ⟨A2, n2, c2, xs2, rfl, m2, w2⟩ := open_intsN (hval 2 28 v2 rfl rfl) h2
  have lt3 : ∀ x ∈ p3, x.block < W.heap.size := by obtain ⟨m, hm⟩ := h3; exact DataW.trod_lt m _ _ _ hm
  obtain ⟨A3, n3, c3, xs3, rfl, m3, w3⟩ := open_intsN (hval 3 28 v3 rfl rfl) h3
  clear hA0 hval0
  refine (walk A0 n0 c0 its0 A1 n1 c1 ns1 A2 n2 c2 xs2 A3 n3 c3 xs3 W m0 N0 w0 m1 N1 w1 m2 w2 m3 w3).mono fun e W' ⟨he, hb⟩ => ?_
  subst he
  exact ⟨_, rfl, _, _, _, [], _, [], hW', trodAll_mk1 (shut_bool Tryz.underlying4 _), (trodAll_cons_mk (Below.trod laidOut (by kernel_rfl) (of_decide_eq_true (by kernel_rfl)) h0 hb lt0) (trodAll_cons_mk (Below.trod laidOut (by kernel_rfl) (of_decide_eq_true (by kernel_rfl)) h1 hb lt1) (trodAll_cons_mk (Below.trod laidOut (by kernel_rfl) (of_decide_eq_true (by kernel_rfl)) h2 hb lt2) (trodAll_cons_mk (Below.trod laidOut (by kernel_rfl) (of_decide_eq_true (by kernel_rfl)) h3 hb lt3) trodAll_mk0)))), rfl, hb.frame _, fun h => by cases h⟩

theorem holds : Rows.FnExactMergeBestSaid :=
  OpenClaim.holds_of_wide_leaving 6 Tryz.f6 rfl rfl rfl rfl rfl rfl rfl ⟨rfl, rfl, rfl, rfl, rfl⟩ rfl rfl rfl rfl rfl (by kernel_rfl) Tryz.func6 (by kernel_rfl)
    (of_decide_eq_true (by kernel_rfl)) (by unfold Func.isWrapper; first | (rw [if_pos (by decide +kernel)]; kernel_rfl) | (rw [if_neg (by decide +kernel)]; exact ⟨rfl, rfl⟩))
    (fun os started H enc _ => leaving_handed (lifted os started H enc))

#print axioms holds
end Go.Proofs.YtclpnhdpojkjpaaGreat.fnExactMergeBest
