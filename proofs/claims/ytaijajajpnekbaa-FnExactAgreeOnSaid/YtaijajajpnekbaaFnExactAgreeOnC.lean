/- The law FnExactAgreeOn. -/
import Derived.Test.YtaijajajpnekbaaRows
import Derived.Test.YtaijajajpnekbaaExpOpen
import Derived.Test.YtaijajajpnekbaaExpLaw
import Derived.Test.YtaijajajpnekbaaCmpA
import Derived.WalkKit
import Derived.ProofKit
import Derived.OpenShut
import Derived.ShutString
import Derived.Below
namespace Go.Proofs.Ytaijajajpnekbaa.fnExactAgreeOn
set_option maxRecDepth 20000
open Go.ChangeShapes Go.WideShapes Go.ChangeAt Go.RowKit
open Go.ChangeMaps (open_string shut_string)
open Go.Proofs.Ytaijajajpnekbaa.num
set_option linter.unusedVariables false
set_option linter.unusedSimpArgs false

theorem own : ownKnob Try.prog.godebug = none := by kernel_rfl

set_option maxHeartbeats 3200000 in
theorem walk (A0 : Option Addr) (n0 c0 : Nat) (ns0 : List Nd) (A1 : Option Addr) (n1 c1 : Nat) (ns1 : List Nd) (A2 : Option Addr) (n2 c2 : Nat) (its2 : List It) (w : World) (m0 : n0 ≤ 9223372036854775807) (N0 : ∀ x ∈ ns0, x.t.Ln ≤ 9223372036854775807 ∧ x.t.Pn ≤ 9223372036854775807) (w0 : Nodes w w.heap.size A0 n0 ns0) (m1 : n1 ≤ 9223372036854775807) (N1 : ∀ x ∈ ns1, x.t.Ln ≤ 9223372036854775807 ∧ x.t.Pn ≤ 9223372036854775807) (w1 : Nodes w w.heap.size A1 n1 ns1) (m2 : n2 ≤ 9223372036854775807) (N2 : ∀ t ∈ its2, t.n ≤ 9223372036854775807) (w2 : Items w w.heap.size A2 n2 its2) :
    Calls Try.prog 7 #[.slice A0 n0 c0, .slice A1 n1 c1, .slice A2 n2 c2] w fun e w' => e = .returned (.bool true) ∧ Below w.heap.size w w' := by
  have HM2 := Lib.hid m2
  have HN2 := Lib.hid N2
  have HW2 := Lib.hid w2
  clear m2 N2 w2
  have HM0 := Lib.hid m0
  have HL0 := Lib.hid N0
  have HW0 := Lib.hid w0
  clear m0 N0 w0
  have HM1 := Lib.hid m1
  have HL1 := Lib.hid N1
  have HW1 := Lib.hid w1
  clear m1 N1 w1
  go_enter Try.func7, Try.ntmps7
  go_wp2_with fail
  refine (szNodes_c w w.heap.size A0 n0 c0 ns0 (HW0.out.below (Below.refl w.heap.size w)) (Below.refl w.heap.size w).size HM0.out HL0.out 1048576 (by decide) (by decide)).mono ?_
  rintro e w1 ⟨⟨r0, rfl, hr0⟩, hb1⟩
  have HB1 := Lib.hid (hb1)
  clear hb1
  rcases hr0 with rfl | ⟨hr0a, hr0b, hn0, hs0⟩
  · go_wp2
    go_ret
    exact ⟨rfl, HB1.out⟩
  have HS0 := Lib.hid hs0
  clear hs0
  have hz0 : decide (r0 < 0) = false := by simp; omega
  go_wp2_with fail
  refine (szNodes_c w1 w.heap.size A1 n1 c1 ns1 (HW1.out.below HB1.out) HB1.out.size HM1.out HL1.out r0 hr0a (by omega)).mono ?_
  rintro e w2 ⟨⟨r1, rfl, hr1⟩, hb2⟩
  have HB2 := Lib.hid (below_on HB1.out hb2)
  clear hb2
  rcases hr1 with rfl | ⟨hr1a, hr1b, hn1, hs1⟩
  · go_wp2
    go_ret
    exact ⟨rfl, HB2.out⟩
  have HS1 := Lib.hid hs1
  clear hs1
  have hz1 : decide (r1 < 0) = false := by simp; omega
  go_wp2_with fail
  refine (szItems w2 w.heap.size A2 n2 c2 its2 (HW2.out.below HB2.out) HB2.out.size HM2.out HN2.out r1 (by omega) (by omega)).mono ?_
  rintro e w3 ⟨⟨r2, rfl, hr2⟩, hb3⟩
  have HB3 := Lib.hid (below_on HB2.out hb3)
  clear hb3
  rcases hr2 with rfl | ⟨hr2a, hr2b, hn2, hN2⟩
  · go_wp2
    go_ret
    exact ⟨rfl, HB3.out⟩
  have hn2' : n2 ≤ 1048576 := by omega
  have HN2b : Hid (∀ t ∈ its2, t.n ≤ 1048576) := Lib.hid fun t ht => by have := hN2 t ht; omega
  clear hn2 hN2
  have hz2 : decide (r2 < 0) = false := by simp; omega
  obtain ⟨q, hq⟩ := bool_of (AgreeP (datN ns0) (datN ns1) its2)
  have HQ := Lib.hid hq
  clear hq
  have hqq : (q != q) = false := by simp
  go_wp2_with fail
  refine (toNodes_w w3 w.heap.size A0 n0 c0 ns0 (HW0.out.below HB3.out) HB3.out.size hn0 HS0.out).mono ?_
  rintro e w4 ⟨nsp, rfl, hc, hb4⟩
  have HB4 := Lib.hid (below_on HB3.out hb4)
  have Cp_4 := Lib.hid hc
  clear hc
  clear hb4
  go_wp2_with fail
  refine (toNodes_w w4 w.heap.size A1 n1 c1 ns1 (HW1.out.below HB4.out) HB4.out.size hn1 HS1.out).mono ?_
  rintro e w5 ⟨nsu, rfl, hc, hb5⟩
  have HB5 := Lib.hid (below_on HB4.out hb5)
  have Cp_5 := Lib.hid (Cp_4.out.step hb5)
  have Cu_5 := Lib.hid hc
  clear hc
  clear hb5
  go_wp2_with fail
  refine (toItems w5 w.heap.size A2 n2 c2 its2 (HW2.out.below HB5.out) HB5.out.size hn2' HN2b.out).mono ?_
  rintro e w6 ⟨iz, rfl, hd, hf, hb6⟩
  have HB6 := Lib.hid (below_on HB5.out hb6)
  have Cp_6 := Lib.hid (Cp_5.out.step hb6)
  have Cu_6 := Lib.hid (Cu_5.out.step hb6)
  have Iz_6 := Lib.hid (copy_of hn2' HN2b.out HW2.out hd hf)
  clear hd hf
  clear hb6
  go_wp2_with fail
  refine (sAgree _ _ _ _ _ n0 n1 n2 n0 n1 n2 nsp nsu iz Cp_6.out.nodes Cu_6.out.nodes Iz_6.out.items (Nat.le_refl _) hn0 hn1 Cp_6.out.short Cu_6.out.short Iz_6.out.small hn2' q (by rw [Cp_6.out.dat, Cu_6.out.dat]; exact HQ.out.trans ⟨fun h => h.to (Iz_6.out.dat), fun h => h.to (Iz_6.out.dat.symm)⟩)).mono ?_
  rintro e w7 ⟨rfl, hb7⟩
  have HB7 := Lib.hid (below_on HB6.out hb7)
  have Cp_7 := Lib.hid (Cp_6.out.step hb7)
  have Cu_7 := Lib.hid (Cu_6.out.step hb7)
  have Iz_7 := Lib.hid (Iz_6.out.below hb7)
  clear hb7
  go_wp2_with fail
  refine (toNodes_w w7 w.heap.size A0 n0 c0 ns0 (HW0.out.below HB7.out) HB7.out.size hn0 HS0.out).mono ?_
  rintro e w8 ⟨nsx, rfl, hc, hb8⟩
  have HB8 := Lib.hid (below_on HB7.out hb8)
  have Cx_8 := Lib.hid hc
  clear hc
  clear hb8
  go_wp2_with fail
  refine (toNodes_w w8 w.heap.size A1 n1 c1 ns1 (HW1.out.below HB8.out) HB8.out.size hn1 HS1.out).mono ?_
  rintro e w9 ⟨nsy, rfl, hc, hb9⟩
  have HB9 := Lib.hid (below_on HB8.out hb9)
  have Cx_9 := Lib.hid (Cx_8.out.step hb9)
  have Cy_9 := Lib.hid hc
  clear hc
  clear hb9
  go_wp2_with fail
  refine (toItems w9 w.heap.size A2 n2 c2 its2 (HW2.out.below HB9.out) HB9.out.size hn2' HN2b.out).mono ?_
  rintro e w10 ⟨iv, rfl, hd, hf, hb10⟩
  have HB10 := Lib.hid (below_on HB9.out hb10)
  have Cx_10 := Lib.hid (Cx_9.out.step hb10)
  have Cy_10 := Lib.hid (Cy_9.out.step hb10)
  have Iv_10 := Lib.hid (copy_of hn2' HN2b.out HW2.out hd hf)
  clear hd hf
  clear hb10
  go_wp2_with fail
  refine (iAgree _ _ _ _ _ n0 n1 n2 n0 n1 n2 nsx nsy iv Cx_10.out.nodes Cy_10.out.nodes Iv_10.out.items (Nat.le_refl _) (Nat.le_refl _) (Nat.le_trans hn0 (by decide)) (Nat.le_refl _) (Nat.le_trans hn1 (by decide)) Cx_10.out.short Cy_10.out.short hn2' q (by rw [Cx_10.out.dat, Cy_10.out.dat]; exact HQ.out.trans ⟨fun h => h.to (Iv_10.out.dat), fun h => h.to (Iv_10.out.dat.symm)⟩)).mono ?_
  rintro e w11 ⟨rfl, hb11⟩
  have HB11 := Lib.hid (below_on HB10.out hb11)
  have Cx_11 := Lib.hid (Cx_10.out.step hb11)
  have Cy_11 := Lib.hid (Cy_10.out.step hb11)
  have Iv_11 := Lib.hid (Iv_10.out.below hb11)
  clear hb11
  go_wp2_with fail
  refine (toNodes_w w11 w.heap.size A0 n0 c0 ns0 (HW0.out.below HB11.out) HB11.out.size hn0 HS0.out).mono ?_
  rintro e w12 ⟨nsz, rfl, hc, hb12⟩
  have HB12 := Lib.hid (below_on HB11.out hb12)
  have Cx_12 := Lib.hid (Cx_11.out.step hb12)
  have Cy_12 := Lib.hid (Cy_11.out.step hb12)
  have Iv_12 := Lib.hid (Iv_11.out.below hb12)
  have Cz_12 := Lib.hid hc
  clear hc
  clear hb12
  go_wp2_with fail
  refine (eqNodes_w _ _ _ _ _ _ _ Cx_12.out Cz_12.out hn0).mono ?_
  rintro e w13 ⟨rfl, hb13⟩
  have HB13 := Lib.hid (below_on HB12.out hb13)
  have Cx_13 := Lib.hid (Cx_12.out.step hb13)
  have Cy_13 := Lib.hid (Cy_12.out.step hb13)
  have Cz_13 := Lib.hid (Cz_12.out.step hb13)
  have Iv_13 := Lib.hid (Iv_12.out.below hb13)
  clear hb13
  go_wp2_with fail
  refine (toNodes_w w13 w.heap.size A1 n1 c1 ns1 (HW1.out.below HB13.out) HB13.out.size hn1 HS1.out).mono ?_
  rintro e w14 ⟨nsz, rfl, hc, hb14⟩
  have HB14 := Lib.hid (below_on HB13.out hb14)
  have Cx_14 := Lib.hid (Cx_13.out.step hb14)
  have Cy_14 := Lib.hid (Cy_13.out.step hb14)
  have Iv_14 := Lib.hid (Iv_13.out.below hb14)
  have Cz_14 := Lib.hid hc
  clear hc
  clear hb14
  go_wp2_with fail
  refine (eqNodes_w _ _ _ _ _ _ _ Cy_14.out Cz_14.out hn1).mono ?_
  rintro e w15 ⟨rfl, hb15⟩
  have HB15 := Lib.hid (below_on HB14.out hb15)
  have Cx_15 := Lib.hid (Cx_14.out.step hb15)
  have Cy_15 := Lib.hid (Cy_14.out.step hb15)
  have Cz_15 := Lib.hid (Cz_14.out.step hb15)
  have Iv_15 := Lib.hid (Iv_14.out.below hb15)
  clear hb15
  go_wp2_with fail
  refine (toItems w15 w.heap.size A2 n2 c2 its2 (HW2.out.below HB15.out) HB15.out.size hn2' HN2b.out).mono ?_
  rintro e w16 ⟨it, rfl, hd, hf, hb16⟩
  have HB16 := Lib.hid (below_on HB15.out hb16)
  have Cx_16 := Lib.hid (Cx_15.out.step hb16)
  have Cy_16 := Lib.hid (Cy_15.out.step hb16)
  have Iv_16 := Lib.hid (Iv_15.out.below hb16)
  have It_16 := Lib.hid (copy_of hn2' HN2b.out HW2.out hd hf)
  clear hd hf
  clear hb16
  go_wp2_with fail
  refine (eqItems w16 w16.heap.size _ _ n2 n2 n2 n2 iv it Iv_16.out.items It_16.out.items (Nat.le_refl _) hn2' Iv_16.out.small true (by rw [Iv_16.out.dat, It_16.out.dat]; simp)).mono ?_
  rintro e w17 ⟨rfl, hb17⟩
  have HB17 := Lib.hid (below_on HB16.out hb17)
  have Cx_17 := Lib.hid (Cx_16.out.step hb17)
  have Cy_17 := Lib.hid (Cy_16.out.step hb17)
  have Iv_17 := Lib.hid (Iv_16.out.below hb17)
  have It_17 := Lib.hid (It_16.out.below hb17)
  clear hb17
  go_wp2
  go_ret
  exact ⟨rfl, HB17.out⟩

set_option maxRecDepth 100000 in
theorem lifted (os : Os) (started : os.Started) (H : Type) (enc : TypeId × Value → H) :
    ReturnsInHanded {} Try.checked os 7 .any (Rows.fnExactAgreeOnSpec.pre6 enc Try.prog Try.f7 Rows.fnExactAgreeOnRow.domain false) (Rows.fnExactAgreeOnSpec.post enc Try.prog Try.f7 false true false false) := by
  refine returnsInHanded_of_change (C := Try.checked) own started (by kernel_rfl) Try.func7
    (ChangeSpec.witness6 (enc := enc) (C := Try.checked) false ⟨#[], #[.slice none 0 0, .slice none 0 0, .slice none 0 0], []⟩ 8 (by kernel_rfl) (by kernel_rfl) (by kernel_rfl) (by kernel_rfl)) ?_
  intro W base args ds gs before hval0 hW hcnd _
  have hval : ∀ (j : Nat) t v, Try.f7.params[j]? = some t → args[j]? = some v → Value.okWide Try.prog W .any base t v := hval0
  have hW' := hW
  obtain ⟨p, q, hA0, hV, rfl, hfz, hnd⟩ := hW
  have hA : DataW.TrodAll enc Try.prog W 0 (fun _ => true) true Try.f7.params.toList args.toList ds p := hA0
  rw [Try.params7] at hA hval
  obtain ⟨v0, vs0, d0, ds0, p0, q0, hargs, rfl, rfl, h0, r0⟩ := trodAll_cons hA
  obtain ⟨v1, vs1, d1, ds1, p1, q1, rfl, rfl, rfl, h1, r1⟩ := trodAll_cons r0
  obtain ⟨v2, vs2, d2, ds2, p2, q2, rfl, rfl, rfl, h2, r2⟩ := trodAll_cons r1
  obtain ⟨rfl, rfl, rfl⟩ := trodAll_nil r2
  obtain rfl : args = #[v0, v1, v2] := by cases args; simp_all
  obtain ⟨rfl, rfl⟩ := trodVars_none hV
  have lt0 : ∀ x ∈ p0, x.block < W.heap.size := by obtain ⟨m, hm⟩ := h0; exact DataW.trod_lt m _ _ _ hm
  obtain ⟨A0, n0, c0, ns0, rfl, m0, N0, w0⟩ := open_nodes (hval 0 22 v0 rfl rfl) h0
  have lt1 : ∀ x ∈ p1, x.block < W.heap.size := by obtain ⟨m, hm⟩ := h1; exact DataW.trod_lt m _ _ _ hm
  obtain ⟨A1, n1, c1, ns1, rfl, m1, N1, w1⟩ := open_nodes (hval 1 22 v1 rfl rfl) h1
  have lt2 : ∀ x ∈ p2, x.block < W.heap.size := by obtain ⟨m, hm⟩ := h2; exact DataW.trod_lt m _ _ _ hm
  obtain ⟨A2, n2, c2, its2, rfl, m2, N2, w2⟩ := open_items (hval 2 39 v2 rfl rfl) h2
  clear hA0 hval0
  refine (walk A0 n0 c0 ns0 A1 n1 c1 ns1 A2 n2 c2 its2 W m0 N0 w0 m1 N1 w1 m2 N2 w2).mono fun e W' ⟨he, hb⟩ => ?_
  subst he
  exact ⟨_, rfl, _, _, _, [], _, [], hW', trodAll_mk1 (shut_bool Try.underlying4 _), (trodAll_cons_mk (Below.trod laidOut (by kernel_rfl) (of_decide_eq_true (by kernel_rfl)) h0 hb lt0) (trodAll_cons_mk (Below.trod laidOut (by kernel_rfl) (of_decide_eq_true (by kernel_rfl)) h1 hb lt1) (trodAll_cons_mk (Below.trod laidOut (by kernel_rfl) (of_decide_eq_true (by kernel_rfl)) h2 hb lt2) trodAll_mk0))), rfl, hb.frame _, fun h => by cases h⟩

theorem holds : Rows.FnExactAgreeOnSaid :=
  OpenClaim.holds_of_wide 7 Try.f7 rfl rfl rfl rfl rfl rfl rfl ⟨rfl, rfl, rfl, rfl, rfl⟩ rfl rfl rfl rfl rfl (by kernel_rfl) Try.func7 (by kernel_rfl)
    (of_decide_eq_true (by kernel_rfl)) (by unfold Func.isWrapper; first | (rw [if_pos (by decide +kernel)]; kernel_rfl) | (rw [if_neg (by decide +kernel)]; exact ⟨rfl, rfl⟩))
    (fun os started H enc _ => lifted os started H enc)

#print axioms holds
end Go.Proofs.Ytaijajajpnekbaa.fnExactAgreeOn
