/- The law FnExactWidthOf. -/
import Derived.Test.YtiipkgneighefaaRows
import Derived.Test.YtiipkgneighefaaExpOpen
import Derived.Test.YtiipkgneighefaaAhB
import Derived.Test.YtiipkgneighefaaAhC
import Derived.WalkKit
import Derived.ProofKit
import Derived.OpenShut
import Derived.ShutString
import Derived.Below
namespace Go.Proofs.Ytiipkgneighefaa.fnExactWidthOf
set_option maxRecDepth 20000
open Go.ChangeShapes Go.WideShapes Go.ChangeAt Go.RowKit
open Go.ChangeMaps (open_string shut_string)
open Go.Proofs.Ytiipkgneighefaa.num
set_option linter.unusedVariables false
set_option linter.unusedSimpArgs false

theorem own : ownKnob Try.prog.godebug = none := by kernel_rfl

set_option maxHeartbeats 3200000 in
theorem walk (A0 : Option Addr) (n0 c0 : Nat) (its0 : List It) (A1 : Option Addr) (n1 c1 : Nat) (ns1 : List Nd) (w : World) (m0 : n0 ≤ 9223372036854775807) (N0 : ∀ t ∈ its0, t.n ≤ 9223372036854775807) (w0 : Items w w.heap.size A0 n0 its0) (m1 : n1 ≤ 9223372036854775807) (N1 : ∀ x ∈ ns1, x.t.Ln ≤ 9223372036854775807 ∧ x.t.Pn ≤ 9223372036854775807) (w1 : Nodes w w.heap.size A1 n1 ns1) :
    Calls Try.prog 4 #[.slice A0 n0 c0, .slice A1 n1 c1] w fun e w' => e = .returned (.bool true) ∧ Below w.heap.size w w' := by
  have HM0 := Lib.hid m0
  have HN0 := Lib.hid N0
  have HW0 := Lib.hid w0
  clear m0 N0 w0
  have HM1 := Lib.hid m1
  have HL1 := Lib.hid N1
  have HW1 := Lib.hid w1
  clear m1 N1 w1
  go_enter Try.func4, Try.ntmps4
  go_wp2_with fail
  refine (szItems w w.heap.size A0 n0 c0 its0 (HW0.out.below (Below.refl w.heap.size w)) (Below.refl w.heap.size w).size HM0.out HN0.out 1048576 (by decide) (by decide)).mono ?_
  rintro e w1 ⟨⟨r0, rfl, hr0⟩, hb1⟩
  have HB1 := Lib.hid (hb1)
  have Z01 := Lib.hid (Below.size hb1)
  clear hb1
  rcases hr0 with rfl | ⟨hr0a, hr0b, hn0, hs0⟩
  · go_wp2
    go_ret
    exact ⟨rfl, HB1.out⟩
  replace hn0 : n0 ≤ 1048576 := by omega
  have HN0b : Hid (∀ t ∈ its0, t.n ≤ 1048576) := Lib.hid fun t ht => by have := hs0 t ht; omega
  clear hs0
  have hz0 : decide (r0 < 0) = false := by simp; omega
  go_wp2_with fail
  refine (szNodes_c w1 w.heap.size A1 n1 c1 ns1 (HW1.out.below HB1.out) HB1.out.size HM1.out HL1.out r0 (by omega) (by omega)).mono ?_
  rintro e w2 ⟨⟨r1, rfl, hr1⟩, hb2⟩
  have HB2 := Lib.hid (below_on HB1.out hb2)
  have Z12 := Lib.hid (Below.size hb2)
  clear hb2
  rcases hr1 with rfl | ⟨hr1a, hr1b, hn1, hs1⟩
  · go_wp2
    go_ret
    exact ⟨rfl, HB2.out⟩
  have HS1 := Lib.hid hs1
  clear hs1
  have hz1 : decide (r1 < 0) = false := by simp; omega
  obtain ⟨D, hD⟩ := AnsP.some (datN ns1) (its0.map It.dat) (fun t => ((mostD t (its0.map It.dat) (its0.map It.dat) : Nat) : Int)) 0
  replace hD : WidP (datN ns1) (its0.map It.dat) D := hD
  have HD := Lib.hid hD
  clear hD
  have hdd : (D != D) = false := by simp
  go_wp2_with fail
  refine (toItems_w w2 w.heap.size A0 n0 c0 its0 (HW0.out.below HB2.out) HB2.out.size hn0 HN0b.out).mono ?_
  rintro e w3 ⟨ip, rfl, hc, hb3⟩
  have HB3 := Lib.hid (below_on HB2.out hb3)
  have Z23 := Lib.hid (Below.size hb3)
  have Ip_3 := Lib.hid hc
  clear hc
  clear hb3
  go_wp2_with fail
  refine (toNodes_w w3 w.heap.size A1 n1 c1 ns1 (HW1.out.below HB3.out) HB3.out.size hn1 HS1.out).mono ?_
  rintro e w4 ⟨nsq, rfl, hc, hb4⟩
  have HB4 := Lib.hid (below_on HB3.out hb4)
  have Ip_4 := Lib.hid (Ip_3.out.step hb4)
  have Z34 := Lib.hid (Below.size hb4)
  have Cq_4 := Lib.hid hc
  clear hc
  clear hb4
  go_wp2_with fail
  refine (sWidth _ _ _ n0 n0 ip _ n1 n1 nsq (InB.copies Ip_4.out Cq_4.out hn0 hn1) D (by rw [Cq_4.out.dat, Ip_4.out.c.dat]; exact HD.out)).mono ?_
  rintro e w5 ⟨rfl, hb5⟩
  have HB5 := Lib.hid (below_on HB4.out hb5)
  have Cq_5 := Lib.hid (Cq_4.out.step hb5)
  have Ip_5 := Lib.hid (Ip_4.out.step hb5)
  have Z45 := Lib.hid (Below.size hb5)
  clear hb5
  go_wp2_with fail
  refine (toItems_w w5 w.heap.size A0 n0 c0 its0 (HW0.out.below HB5.out) HB5.out.size hn0 HN0b.out).mono ?_
  rintro e w6 ⟨ix, rfl, hc, hb6⟩
  have HB6 := Lib.hid (below_on HB5.out hb6)
  have Z56 := Lib.hid (Below.size hb6)
  have Ix_6 := Lib.hid hc
  clear hc
  clear hb6
  go_wp2_with fail
  refine (toNodes_w w6 w.heap.size A1 n1 c1 ns1 (HW1.out.below HB6.out) HB6.out.size hn1 HS1.out).mono ?_
  rintro e w7 ⟨nsy, rfl, hc, hb7⟩
  have HB7 := Lib.hid (below_on HB6.out hb7)
  have Ix_7 := Lib.hid (Ix_6.out.step hb7)
  have Z67 := Lib.hid (Below.size hb7)
  have Cy_7 := Lib.hid hc
  clear hc
  clear hb7
  go_wp2_with fail
  refine (iWidth _ _ _ n0 n0 ix _ n1 n1 nsy (InB.copies Ix_7.out Cy_7.out hn0 hn1) D (by rw [Cy_7.out.dat, Ix_7.out.c.dat]; exact HD.out)).mono ?_
  rintro e w8 ⟨rfl, hb8⟩
  have HB8 := Lib.hid (below_on HB7.out hb8)
  have Cy_8 := Lib.hid (Cy_7.out.step hb8)
  have Ix_8 := Lib.hid (Ix_7.out.step hb8)
  have Z78 := Lib.hid (Below.size hb8)
  clear hb8
  go_wp2_with fail
  refine (toItems_w w8 w.heap.size A0 n0 c0 its0 (HW0.out.below HB8.out) HB8.out.size hn0 HN0b.out).mono ?_
  rintro e w9 ⟨iz, rfl, hc, hb9⟩
  have HB9 := Lib.hid (below_on HB8.out hb9)
  have Cy_9 := Lib.hid (Cy_8.out.step hb9)
  have Ix_9 := Lib.hid (Ix_8.out.step hb9)
  have Z89 := Lib.hid (Below.size hb9)
  have Iz_9 := Lib.hid hc
  clear hc
  clear hb9
  go_wp2_with fail
  refine (eqItems_w _ _ _ _ _ _ _ _ _ Ix_9.out Iz_9.out hn0).mono ?_
  rintro e w10 ⟨rfl, hb10⟩
  have HB10 := Lib.hid (below_on HB9.out hb10)
  have Cy_10 := Lib.hid (Cy_9.out.step hb10)
  have Ix_10 := Lib.hid (Ix_9.out.step hb10)
  have Iz_10 := Lib.hid (Iz_9.out.step hb10)
  have Z910 := Lib.hid (Below.size hb10)
  clear hb10
  go_wp2_with fail
  refine (toNodes_w w10 w.heap.size A1 n1 c1 ns1 (HW1.out.below HB10.out) HB10.out.size hn1 HS1.out).mono ?_
  rintro e w11 ⟨nsz, rfl, hc, hb11⟩
  have HB11 := Lib.hid (below_on HB10.out hb11)
  have Cy_11 := Lib.hid (Cy_10.out.step hb11)
  have Z1011 := Lib.hid (Below.size hb11)
  have Cz_11 := Lib.hid hc
  clear hc
  clear hb11
  go_wp2_with fail
  refine (eqNodes_w _ _ _ _ _ _ _ Cy_11.out Cz_11.out hn1).mono ?_
  rintro e w12 ⟨rfl, hb12⟩
  have HB12 := Lib.hid (below_on HB11.out hb12)
  have Cy_12 := Lib.hid (Cy_11.out.step hb12)
  have Cz_12 := Lib.hid (Cz_11.out.step hb12)
  have Z1112 := Lib.hid (Below.size hb12)
  clear hb12
  go_wp2
  go_ret
  exact ⟨rfl, HB12.out⟩

set_option maxRecDepth 100000 in
theorem lifted (os : Os) (started : os.Started) (H : Type) (enc : TypeId × Value → H) :
    ReturnsInHanded {} Try.checked os 4 .any (Rows.fnExactWidthOfSpec.pre6 enc Try.prog Try.f4 Rows.fnExactWidthOfRow.domain false) (Rows.fnExactWidthOfSpec.post enc Try.prog Try.f4 false true false false) := by
  refine returnsInHanded_of_change (C := Try.checked) own started (by kernel_rfl) Try.func4
    (ChangeSpec.witness6 (enc := enc) (C := Try.checked) false ⟨#[], #[.slice none 0 0, .slice none 0 0], []⟩ 8 (by kernel_rfl) (by kernel_rfl) (by kernel_rfl) (by kernel_rfl)) ?_
  intro W base args ds gs before hval0 hW hcnd _
  have hval : ∀ (j : Nat) t v, Try.f4.params[j]? = some t → args[j]? = some v → Value.okWide Try.prog W .any base t v := hval0
  have hW' := hW
  obtain ⟨p, q, hA0, hV, rfl, hfz, hnd⟩ := hW
  have hA : DataW.TrodAll enc Try.prog W 0 (fun _ => true) true Try.f4.params.toList args.toList ds p := hA0
  rw [Try.params4] at hA hval
  obtain ⟨v0, vs0, d0, ds0, p0, q0, hargs, rfl, rfl, h0, r0⟩ := trodAll_cons hA
  obtain ⟨v1, vs1, d1, ds1, p1, q1, rfl, rfl, rfl, h1, r1⟩ := trodAll_cons r0
  obtain ⟨rfl, rfl, rfl⟩ := trodAll_nil r1
  obtain rfl : args = #[v0, v1] := by cases args; simp_all
  obtain ⟨rfl, rfl⟩ := trodVars_none hV
  have lt0 : ∀ x ∈ p0, x.block < W.heap.size := by obtain ⟨m, hm⟩ := h0; exact DataW.trod_lt m _ _ _ hm
  obtain ⟨A0, n0, c0, its0, rfl, m0, N0, w0⟩ := open_items (hval 0 22 v0 rfl rfl) h0
  have lt1 : ∀ x ∈ p1, x.block < W.heap.size := by obtain ⟨m, hm⟩ := h1; exact DataW.trod_lt m _ _ _ hm
  obtain ⟨A1, n1, c1, ns1, rfl, m1, N1, w1⟩ := open_nodes (hval 1 23 v1 rfl rfl) h1
  clear hA0 hval0
  refine (walk A0 n0 c0 its0 A1 n1 c1 ns1 W m0 N0 w0 m1 N1 w1).mono fun e W' ⟨he, hb⟩ => ?_
  subst he
  exact ⟨_, rfl, _, _, _, [], _, [], hW', trodAll_mk1 (shut_bool Try.underlying4 _), (trodAll_cons_mk (Below.trod laidOut (by kernel_rfl) (of_decide_eq_true (by kernel_rfl)) h0 hb lt0) (trodAll_cons_mk (Below.trod laidOut (by kernel_rfl) (of_decide_eq_true (by kernel_rfl)) h1 hb lt1) trodAll_mk0)), rfl, hb.frame _, fun h => by cases h⟩

theorem holds : Rows.FnExactWidthOfSaid :=
  OpenClaim.holds_of_wide 4 Try.f4 rfl rfl rfl rfl rfl rfl rfl ⟨rfl, rfl, rfl, rfl, rfl⟩ rfl rfl rfl rfl rfl (by kernel_rfl) Try.func4 (by kernel_rfl)
    (of_decide_eq_true (by kernel_rfl)) (by unfold Func.isWrapper; first | (rw [if_pos (by decide +kernel)]; kernel_rfl) | (rw [if_neg (by decide +kernel)]; exact ⟨rfl, rfl⟩))
    (fun os started H enc _ => lifted os started H enc)

#print axioms holds
end Go.Proofs.Ytiipkgneighefaa.fnExactWidthOf
