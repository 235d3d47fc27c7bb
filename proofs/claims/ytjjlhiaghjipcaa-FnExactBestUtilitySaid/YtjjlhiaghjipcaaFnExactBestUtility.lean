/- The law of BestUtility returns true, whatever the items, the numbers and the weights: the program and the model answer the same; what came in reads as it did; what the program hands back is memory of its own. -/
import Derived.Test.YtjjlhiaghjipcaaRows
import Derived.Test.YtjjlhiaghjipcaaItemOpen
import Derived.Test.YtjjlhiaghjipcaaLawInts
import Derived.Test.YtjjlhiaghjipcaaLawInts
import Derived.Test.YtjjlhiaghjipcaaItemPick
import Derived.WalkKit
import Derived.ProofKit
import Derived.OpenShut
import Derived.ShutString
import Derived.Below
namespace Go.Proofs.Ytjjlhiaghjipcaa.fnExactBestUtility
set_option maxRecDepth 20000
open Go.ChangeShapes Go.WideShapes Go.ChangeAt Go.RowKit
open Go.ChangeMaps (open_string shut_string)
open Go.Proofs.Ytjjlhiaghjipcaa.num
set_option linter.unusedVariables false
set_option linter.unusedSimpArgs false

theorem own : ownKnob Try.prog.godebug = none := by kernel_rfl

set_option maxHeartbeats 3200000 in
theorem walk (A0 : Option Addr) (n0 c0 : Nat) (its0 : List It) (A1 : Option Addr) (n1 c1 : Nat) (xs1 : List Int) (A2 : Option Addr) (n2 c2 : Nat) (xs2 : List Int) (w : World) (m0 : n0 ≤ 9223372036854775807) (N0 : ∀ t ∈ its0, t.n ≤ 9223372036854775807) (w0 : Items w w.heap.size A0 n0 its0) (m1 : n1 ≤ 9223372036854775807) (w1 : Ints w w.heap.size A1 n1 xs1) (m2 : n2 ≤ 9223372036854775807) (w2 : Ints w w.heap.size A2 n2 xs2) :
    Calls Try.prog 6 #[.slice A0 n0 c0, .slice A1 n1 c1, .slice A2 n2 c2] w fun e w' => e = .returned (.bool true) ∧ Below w.heap.size w w' := by
  have HM0 := Lib.hid m0
  have HN0 := Lib.hid N0
  have HW0 := Lib.hid w0
  clear m0 N0 w0
  have HM1 := Lib.hid m1
  have HW1 := Lib.hid w1
  clear w1
  have HM2 := Lib.hid m2
  have HW2 := Lib.hid w2
  clear w2
  go_enter Try.func6, Try.ntmps6
  by_cases hq1 : 1048576 < n1
  · have hd1 : decide ((n1 : Int) > 1048576) = true := by simp; omega
    go_wp2
    go_ret
    exact ⟨rfl, Below.refl _ _⟩
  have hd1 : decide ((n1 : Int) > 1048576) = false := by simp; omega
  have hn1 : n1 ≤ 1048576 := by omega
  clear hq1 m1
  by_cases hq2 : 1048576 < n2
  · have hd2 : decide ((n2 : Int) > 1048576) = true := by simp; omega
    go_wp2
    go_ret
    exact ⟨rfl, Below.refl _ _⟩
  have hd2 : decide ((n2 : Int) > 1048576) = false := by simp; omega
  have hn2 : n2 ≤ 1048576 := by omega
  clear hq2 m2
  go_wp2_with fail
  refine (szItems w w.heap.size A0 n0 c0 its0 (HW0.out.below (Below.refl w.heap.size w)) (Below.refl w.heap.size w).size HM0.out HN0.out 1048576 (by decide) (by decide)).mono ?_
  rintro e w1 ⟨⟨r0, rfl, hr0⟩, hb1⟩
  have HB1 := Lib.hid (hb1)
  have Z01 := Lib.hid (Below.size hb1)
  clear hb1
  rcases hr0 with rfl | ⟨hr0a, hr0b, hn0, hs0⟩
  · go_wp2
    go_ret
    exact ⟨rfl, HB1.out⟩
  replace hn0 : n0 ≤ 1048576 := by omega
  have HN0b : Hid (∀ t ∈ its0, t.n ≤ 1048576) := Lib.hid fun t ht => by have := hs0 t ht; omega
  clear hs0
  have hz0 : decide (r0 < 0) = false := by simp; omega
  obtain ⟨D, hD⟩ : ∃ D, gu xs2 (pk xs1 (its0.map It.dat)) = D := ⟨_, rfl⟩
  have HD := Lib.hid hD
  clear hD
  have hdd : (D != D) = false := by simp
  go_wp2_with fail
  refine (toItems_w w1 w.heap.size A0 n0 c0 its0 (HW0.out.below HB1.out) HB1.out.size hn0 HN0b.out).mono ?_
  rintro e w2 ⟨ip0, rfl, hc, hb2⟩
  have HB2 := Lib.hid (below_on HB1.out hb2)
  have Z12 := Lib.hid (Below.size hb2)
  have Ip0_2 := Lib.hid hc
  clear hc
  clear hb2
  go_wp2_with fail
  refine (toInts_r w2 w.heap.size A1 n1 c1 xs1 (HW1.out.below HB2.out) HB2.out.size hn1).mono ?_
  rintro e w3 ⟨⟨rfl, hc⟩, hb3⟩
  have HB3 := Lib.hid (below_on HB2.out hb3)
  have Ip0_3 := Lib.hid (Ip0_2.out.step hb3)
  have Z23 := Lib.hid (Below.size hb3)
  have Rp1_3 := Lib.hid hc
  clear hc
  clear hb3
  go_wp2_with fail
  refine (toInts_r w3 w.heap.size A2 n2 c2 xs2 (HW2.out.below HB3.out) HB3.out.size hn2).mono ?_
  rintro e w4 ⟨⟨rfl, hc⟩, hb4⟩
  have HB4 := Lib.hid (below_on HB3.out hb4)
  have Ip0_4 := Lib.hid (Ip0_3.out.step hb4)
  have Z34 := Lib.hid (Below.size hb4)
  have Rp1_4 := Lib.hid (Rp1_3.out.step hb4)
  have Rp2_4 := Lib.hid hc
  clear hc
  clear hb4
  go_wp2_with fail
  refine (sBestU _ _ _ n0 n0 ip0 Ip0_4.out.c.items (Nat.le_refl _) hn0 Ip0_4.out.c.small _ _ n1 n1 xs1 Rp1_4.out.ints (Nat.le_refl _) (by omega) _ _ n2 n2 xs2 Rp2_4.out.ints (Nat.le_refl _) hn2 D (by rw [Ip0_4.out.c.dat]; exact HD.out)).mono ?_
  rintro e w5 ⟨rfl, hb5⟩
  have HB5 := Lib.hid (below_on HB4.out hb5)
  have Ip0_5 := Lib.hid (Ip0_4.out.step hb5)
  have Z45 := Lib.hid (Below.size hb5)
  have Rp1_5 := Lib.hid (Rp1_4.out.step hb5)
  have Rp2_5 := Lib.hid (Rp2_4.out.step hb5)
  clear hb5
  go_wp2_with fail
  refine (toItems_w w5 w.heap.size A0 n0 c0 its0 (HW0.out.below HB5.out) HB5.out.size hn0 HN0b.out).mono ?_
  rintro e w6 ⟨ix0, rfl, hc, hb6⟩
  have HB6 := Lib.hid (below_on HB5.out hb6)
  have Z56 := Lib.hid (Below.size hb6)
  have Ix0_6 := Lib.hid hc
  clear hc
  clear hb6
  go_wp2_with fail
  refine (toInts_r w6 w.heap.size A1 n1 c1 xs1 (HW1.out.below HB6.out) HB6.out.size hn1).mono ?_
  rintro e w7 ⟨⟨rfl, hc⟩, hb7⟩
  have HB7 := Lib.hid (below_on HB6.out hb7)
  have Ix0_7 := Lib.hid (Ix0_6.out.step hb7)
  have Z67 := Lib.hid (Below.size hb7)
  have Rx1_7 := Lib.hid hc
  clear hc
  clear hb7
  go_wp2_with fail
  refine (toInts_r w7 w.heap.size A2 n2 c2 xs2 (HW2.out.below HB7.out) HB7.out.size hn2).mono ?_
  rintro e w8 ⟨⟨rfl, hc⟩, hb8⟩
  have HB8 := Lib.hid (below_on HB7.out hb8)
  have Ix0_8 := Lib.hid (Ix0_7.out.step hb8)
  have Z78 := Lib.hid (Below.size hb8)
  have Rx1_8 := Lib.hid (Rx1_7.out.step hb8)
  have Rx2_8 := Lib.hid hc
  clear hc
  clear hb8
  go_wp2_with fail
  refine (iBestU _ _ _ n0 n0 ix0 Ix0_8.out.c.items (Nat.le_refl _) hn0 _ _ n1 n1 xs1 Rx1_8.out.ints (Nat.le_refl _) hn1 _ _ n2 n2 xs2 Rx2_8.out.ints (Nat.le_refl _) hn2 D (by rw [Ix0_8.out.c.dat]; exact HD.out)).mono ?_
  rintro e w9 ⟨rfl, hb9⟩
  have HB9 := Lib.hid (below_on HB8.out hb9)
  have Ix0_9 := Lib.hid (Ix0_8.out.step hb9)
  have Z89 := Lib.hid (Below.size hb9)
  have Rx1_9 := Lib.hid (Rx1_8.out.step hb9)
  have Rx2_9 := Lib.hid (Rx2_8.out.step hb9)
  clear hb9
  go_wp2_with fail
  refine (toItems_w w9 w.heap.size A0 n0 c0 its0 (HW0.out.below HB9.out) HB9.out.size hn0 HN0b.out).mono ?_
  rintro e w10 ⟨iz, rfl, hc, hb10⟩
  have HB10 := Lib.hid (below_on HB9.out hb10)
  have Ix0_10 := Lib.hid (Ix0_9.out.step hb10)
  have Z910 := Lib.hid (Below.size hb10)
  have Rx1_10 := Lib.hid (Rx1_9.out.step hb10)
  have Rx2_10 := Lib.hid (Rx2_9.out.step hb10)
  have Iz_10 := Lib.hid hc
  clear hc
  clear hb10
  go_wp2_with fail
  refine (eqItems_w _ _ _ _ _ _ _ _ _ Ix0_10.out Iz_10.out hn0).mono ?_
  rintro e w11 ⟨rfl, hb11⟩
  have HB11 := Lib.hid (below_on HB10.out hb11)
  have Ix0_11 := Lib.hid (Ix0_10.out.step hb11)
  have Iz_11 := Lib.hid (Iz_10.out.step hb11)
  have Z1011 := Lib.hid (Below.size hb11)
  have Rx1_11 := Lib.hid (Rx1_10.out.step hb11)
  have Rx2_11 := Lib.hid (Rx2_10.out.step hb11)
  clear hb11
  go_wp2_with fail
  refine (toInts_r w11 w.heap.size A1 n1 c1 xs1 (HW1.out.below HB11.out) HB11.out.size hn1).mono ?_
  rintro e w12 ⟨⟨rfl, hc⟩, hb12⟩
  have HB12 := Lib.hid (below_on HB11.out hb12)
  have Ix0_12 := Lib.hid (Ix0_11.out.step hb12)
  have Z1112 := Lib.hid (Below.size hb12)
  have Rx1_12 := Lib.hid (Rx1_11.out.step hb12)
  have Rx2_12 := Lib.hid (Rx2_11.out.step hb12)
  have Rz_12 := Lib.hid hc
  clear hc
  clear hb12
  go_wp2_with fail
  refine (Rx1_12.out.eqW Rz_12.out (by have h := HW1.out.1; omega) true (by simp)).mono ?_
  rintro e w13 ⟨rfl, hb13⟩
  have HB13 := Lib.hid (below_on HB12.out hb13)
  have Ix0_13 := Lib.hid (Ix0_12.out.step hb13)
  have Z1213 := Lib.hid (Below.size hb13)
  have Rx1_13 := Lib.hid (Rx1_12.out.step hb13)
  have Rx2_13 := Lib.hid (Rx2_12.out.step hb13)
  have Rz_13 := Lib.hid (Rz_12.out.step hb13)
  clear hb13
  go_wp2_with fail
  refine (toInts_r w13 w.heap.size A2 n2 c2 xs2 (HW2.out.below HB13.out) HB13.out.size hn2).mono ?_
  rintro e w14 ⟨⟨rfl, hc⟩, hb14⟩
  have HB14 := Lib.hid (below_on HB13.out hb14)
  have Ix0_14 := Lib.hid (Ix0_13.out.step hb14)
  have Z1314 := Lib.hid (Below.size hb14)
  have Rx1_14 := Lib.hid (Rx1_13.out.step hb14)
  have Rx2_14 := Lib.hid (Rx2_13.out.step hb14)
  have Rz_14 := Lib.hid hc
  clear hc
  clear hb14
  go_wp2_with fail
  refine (Rx2_14.out.eqW Rz_14.out (by have h := HW2.out.1; omega) true (by simp)).mono ?_
  rintro e w15 ⟨rfl, hb15⟩
  have HB15 := Lib.hid (below_on HB14.out hb15)
  have Ix0_15 := Lib.hid (Ix0_14.out.step hb15)
  have Z1415 := Lib.hid (Below.size hb15)
  have Rx1_15 := Lib.hid (Rx1_14.out.step hb15)
  have Rx2_15 := Lib.hid (Rx2_14.out.step hb15)
  have Rz_15 := Lib.hid (Rz_14.out.step hb15)
  clear hb15
  go_wp2
  go_ret
  exact ⟨rfl, HB15.out⟩

set_option maxRecDepth 100000 in
theorem lifted (os : Os) (started : os.Started) (H : Type) (enc : TypeId × Value → H) :
    ReturnsInHanded {} Try.checked os 6 .any (Rows.fnExactBestUtilitySpec.pre6 enc Try.prog Try.f6 Rows.fnExactBestUtilityRow.domain false) (Rows.fnExactBestUtilitySpec.post enc Try.prog Try.f6 false true false false) := by
  refine returnsInHanded_of_change (C := Try.checked) own started (by kernel_rfl) Try.func6
    (ChangeSpec.witness6 (enc := enc) (C := Try.checked) false ⟨#[], #[.slice none 0 0, .slice none 0 0, .slice none 0 0], []⟩ 8 (by kernel_rfl) (by kernel_rfl) (by kernel_rfl) (by kernel_rfl)) ?_
  intro W base args ds gs before hval0 hW hcnd _
  have hval : ∀ (j : Nat) t v, Try.f6.params[j]? = some t → args[j]? = some v → Value.okWide Try.prog W .any base t v := hval0
  have hW' := hW
  obtain ⟨p, q, hA0, hV, rfl, hfz, hnd⟩ := hW
  have hA : DataW.TrodAll enc Try.prog W 0 (fun _ => true) true Try.f6.params.toList args.toList ds p := hA0
  rw [Try.params6] at hA hval
  obtain ⟨v0, vs0, d0, ds0, p0, q0, hargs, rfl, rfl, h0, r0⟩ := trodAll_cons hA
  obtain ⟨v1, vs1, d1, ds1, p1, q1, rfl, rfl, rfl, h1, r1⟩ := trodAll_cons r0
  obtain ⟨v2, vs2, d2, ds2, p2, q2, rfl, rfl, rfl, h2, r2⟩ := trodAll_cons r1
  obtain ⟨rfl, rfl, rfl⟩ := trodAll_nil r2
  obtain rfl : args = #[v0, v1, v2] := by cases args; simp_all
  obtain ⟨rfl, rfl⟩ := trodVars_none hV
  have lt0 : ∀ x ∈ p0, x.block < W.heap.size := by obtain ⟨m, hm⟩ := h0; exact DataW.trod_lt m _ _ _ hm
  obtain ⟨A0, n0, c0, its0, rfl, m0, N0, w0⟩ := open_items (hval 0 57 v0 rfl rfl) h0
  have lt1 : ∀ x ∈ p1, x.block < W.heap.size := by obtain ⟨m, hm⟩ := h1; exact DataW.trod_lt m _ _ _ hm
  obtain ⟨A1, n1, c1, xs1, rfl, m1, w1⟩ := open_intsN (hval 1 25 v1 rfl rfl) h1
  have lt2 : ∀ x ∈ p2, x.block < W.heap.size := by obtain ⟨m, hm⟩ := h2; exact DataW.trod_lt m _ _ _ hm
  obtain ⟨A2, n2, c2, xs2, rfl, m2, w2⟩ := open_intsN (hval 2 25 v2 rfl rfl) h2
  clear hA0 hval0
  refine (walk A0 n0 c0 its0 A1 n1 c1 xs1 A2 n2 c2 xs2 W m0 N0 w0 m1 w1 m2 w2).mono fun e W' ⟨he, hb⟩ => ?_
  subst he
  exact ⟨_, rfl, _, _, _, [], _, [], hW', trodAll_mk1 (shut_bool Try.underlying4 _), (trodAll_cons_mk (Below.trod laidOut (by kernel_rfl) (of_decide_eq_true (by kernel_rfl)) h0 hb lt0) (trodAll_cons_mk (Below.trod laidOut (by kernel_rfl) (of_decide_eq_true (by kernel_rfl)) h1 hb lt1) (trodAll_cons_mk (Below.trod laidOut (by kernel_rfl) (of_decide_eq_true (by kernel_rfl)) h2 hb lt2) trodAll_mk0))), rfl, hb.frame _, fun h => by cases h⟩

theorem holds : Rows.FnExactBestUtilitySaid :=
  OpenClaim.holds_of_wide 6 Try.f6 rfl rfl rfl rfl rfl rfl rfl ⟨rfl, rfl, rfl, rfl, rfl⟩ rfl rfl rfl rfl rfl (by kernel_rfl) Try.func6 (by kernel_rfl)
    (of_decide_eq_true (by kernel_rfl)) (by unfold Func.isWrapper; first | (rw [if_pos (by decide +kernel)]; kernel_rfl) | (rw [if_neg (by decide +kernel)]; exact ⟨rfl, rfl⟩))
    (fun os started H enc _ => lifted os started H enc)

#print axioms holds
end Go.Proofs.Ytjjlhiaghjipcaa.fnExactBestUtility
