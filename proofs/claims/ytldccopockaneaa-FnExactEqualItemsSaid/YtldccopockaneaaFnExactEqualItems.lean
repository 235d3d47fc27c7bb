/- The law of EqualItems returns true, whatever the two slices of items: the program and the model answer the same; what came in reads as it did. -/
import Derived.Test.YtldccopockaneaaRows
import Derived.Test.YtldccopockaneaaItemOpen
import Derived.Test.YtldccopockaneaaItemSame
import Derived.WalkKit
import Derived.ProofKit
import Derived.OpenShut
import Derived.ShutString
import Derived.Below
namespace Go.Proofs.Ytldccopockaneaa.fnExactEqualItems
open Go.ChangeShapes Go.WideShapes Go.ChangeAt Go.RowKit
open Go.ChangeMaps (open_string shut_string)
open Go.Proofs.Ytldccopockaneaa.num
set_option linter.unusedVariables false
set_option linter.unusedSimpArgs false

theorem own : ownKnob Try.prog.godebug = none := by kernel_rfl

theorem walk (A0 : Option Addr) (n0 c0 : Nat) (its0 : List It) (A1 : Option Addr) (n1 c1 : Nat) (its1 : List It) (w : World) (m0 : n0 ≤ 9223372036854775807) (N0 : ∀ t ∈ its0, t.n ≤ 9223372036854775807) (w0 : Items w w.heap.size A0 n0 its0) (m1 : n1 ≤ 9223372036854775807) (N1 : ∀ t ∈ its1, t.n ≤ 9223372036854775807) (w1 : Items w w.heap.size A1 n1 its1) :
    Calls Try.prog 7 #[.slice A0 n0 c0, .slice A1 n1 c1] w fun e w' => e = .returned (.bool true) ∧ Below w.heap.size w w' := by
  have HW0 := Lib.hid w0
  have HN0 := Lib.hid N0
  have HM0 := Lib.hid m0
  clear w0 N0 m0
  have HW1 := Lib.hid w1
  have HN1 := Lib.hid N1
  have HM1 := Lib.hid m1
  clear w1 N1 m1
  go_enter Try.func7, Try.ntmps7
  go_wp2_with fail
  refine (szItems _ w.heap.size A0 n0 c0 its0 (HW0.out) (Nat.le_refl _) HM0.out HN0.out 1048576 (by decide) (by decide)).mono ?_
  rintro e w1 ⟨⟨r0, rfl, hr0⟩, hb1⟩
  have HB1 := Lib.hid hb1
  clear hb1
  rcases hr0 with rfl | ⟨hr00, hr01, hrn0, hrN0⟩
  · go_wp2
    go_ret
    exact ⟨rfl, HB1.out⟩
  · have hn0 : n0 ≤ 1048576 := by omega
    have HN0b : Hid (∀ t ∈ its0, t.n ≤ 1048576) := Lib.hid fun t ht => by have := hrN0 t ht; omega
    clear hrn0 hrN0
    go_wp2_with fail
    refine (szItems w1 w.heap.size A1 n1 c1 its1 (HW1.out.below HB1.out) HB1.out.size HM1.out HN1.out r0 (by omega) (by omega)).mono ?_
    rintro e w2 ⟨⟨r1, rfl, hr1⟩, hb2⟩
    have HB2 := Lib.hid (HB1.out.trans (hb2.mono HB1.out.size))
    clear hb2
    rcases hr1 with rfl | ⟨hr10, hr11, hrn1, hrN1⟩
    · go_wp2
      go_ret
      exact ⟨rfl, HB2.out⟩
    · have hn1 : n1 ≤ 1048576 := by omega
      have HN1b : Hid (∀ t ∈ its1, t.n ≤ 1048576) := Lib.hid fun t ht => by have := hrN1 t ht; omega
      clear hrn1 hrN1
      obtain ⟨q, hq⟩ := bool_of (its0.map It.dat = its1.map It.dat)
      have HQ := Lib.hid hq
      clear hq
      go_wp2_with fail
      refine (toItems w2 w.heap.size A0 n0 c0 its0 (HW0.out.below HB2.out) HB2.out.size hn0 HN0b.out).mono ?_
      rintro e w3 ⟨p, rfl, hd, hf, hb3⟩
      have HB3 := Lib.hid (HB2.out.trans (hb3.mono HB2.out.size))
      have Cp := Lib.hid (copy_of hn0 HN0b.out HW0.out hd hf)
      clear hd hf
      clear hb3
      go_wp2_with fail
      refine (toItems w3 w.heap.size A1 n1 c1 its1 (HW1.out.below HB3.out) HB3.out.size hn1 HN1b.out).mono ?_
      rintro e w4 ⟨s, rfl, hd, hf, hb4⟩
      have HB4 := Lib.hid (HB3.out.trans (hb4.mono HB3.out.size))
      have Cs := Lib.hid (copy_of hn1 HN1b.out HW1.out hd hf)
      clear hd hf
      have Cp' := Lib.hid (Cp.out.below hb4)
      clear Cp
      clear hb4
      go_wp2_with fail
      refine (sEq w4 w4.heap.size _ _ n0 n1 n0 n1 p s Cp'.out.items Cs.out.items (Nat.le_refl _) hn0 Cp'.out.small q (by rw [Cp'.out.dat, Cs.out.dat]; exact HQ.out)).mono ?_
      rintro e w5 ⟨rfl, hb5⟩
      have HB5 := Lib.hid (HB4.out.trans (hb5.mono HB4.out.size))
      clear hb5
      go_wp2_with fail
      refine (toItems w5 w.heap.size A0 n0 c0 its0 (HW0.out.below HB5.out) HB5.out.size hn0 HN0b.out).mono ?_
      rintro e w6 ⟨x, rfl, hd, hf, hb6⟩
      have HB6 := Lib.hid (HB5.out.trans (hb6.mono HB5.out.size))
      have Cx := Lib.hid (copy_of hn0 HN0b.out HW0.out hd hf)
      clear hd hf
      clear hb6
      go_wp2_with fail
      refine (toItems w6 w.heap.size A1 n1 c1 its1 (HW1.out.below HB6.out) HB6.out.size hn1 HN1b.out).mono ?_
      rintro e w7 ⟨y, rfl, hd, hf, hb7⟩
      have HB7 := Lib.hid (HB6.out.trans (hb7.mono HB6.out.size))
      have Cy := Lib.hid (copy_of hn1 HN1b.out HW1.out hd hf)
      clear hd hf
      have Cx' := Lib.hid (Cx.out.below hb7)
      clear Cx
      clear hb7
      go_wp2_with fail
      refine (iEq w7 w7.heap.size _ _ n0 n1 n0 n1 x y Cx'.out.items Cy.out.items (Nat.le_refl _) hn0 Cx'.out.small q (by rw [Cx'.out.dat, Cy.out.dat]; exact HQ.out)).mono ?_
      rintro e w8 ⟨rfl, hb8⟩
      have HB8 := Lib.hid (HB7.out.trans (hb8.mono HB7.out.size))
      have Cu := Lib.hid (Cx'.out.below hb8)
      have Cv := Lib.hid (Cy.out.below hb8)
      clear Cx' Cy
      clear hb8
      have hqq : (q != q) = false := by simp
      go_wp2_with fail
      refine (toItems w8 w.heap.size A0 n0 c0 its0 (HW0.out.below HB8.out) HB8.out.size hn0 HN0b.out).mono ?_
      rintro e w9 ⟨z, rfl, hd, hf, hb9⟩
      have HB9 := Lib.hid (HB8.out.trans (hb9.mono HB8.out.size))
      have Cz := Lib.hid (copy_of hn0 HN0b.out HW0.out hd hf)
      clear hd hf
      have Cx := Lib.hid (Cu.out.below hb9)
      have Cy := Lib.hid (Cv.out.below hb9)
      clear hb9
      go_wp2_with fail
      refine (eqItems w9 w9.heap.size _ _ n0 n0 n0 n0 x z Cx.out.items Cz.out.items (Nat.le_refl _) hn0 Cx.out.small true (by rw [Cx.out.dat, Cz.out.dat]; simp)).mono ?_
      rintro e w10 ⟨rfl, hb10⟩
      have HB10 := Lib.hid (HB9.out.trans (hb10.mono HB9.out.size))
      have Ct := Lib.hid (Cy.out.below hb10)
      clear Cy
      clear hb10
      go_wp2_with fail
      refine (toItems w10 w.heap.size A1 n1 c1 its1 (HW1.out.below HB10.out) HB10.out.size hn1 HN1b.out).mono ?_
      rintro e w11 ⟨r, rfl, hd, hf, hb11⟩
      have HB11 := Lib.hid (HB10.out.trans (hb11.mono HB10.out.size))
      have Cr := Lib.hid (copy_of hn1 HN1b.out HW1.out hd hf)
      clear hd hf
      have Cy := Lib.hid (Ct.out.below hb11)
      clear hb11
      go_wp2_with fail
      refine (eqItems w11 w11.heap.size _ _ n1 n1 n1 n1 y r Cy.out.items Cr.out.items (Nat.le_refl _) hn1 Cy.out.small true (by rw [Cy.out.dat, Cr.out.dat]; simp)).mono ?_
      rintro e w12 ⟨rfl, hb12⟩
      have HB12 := Lib.hid (HB11.out.trans (hb12.mono HB11.out.size))
      clear hb12
      go_wp2
      go_ret
      exact ⟨rfl, HB12.out⟩

set_option maxRecDepth 100000 in
theorem lifted (os : Os) (started : os.Started) (H : Type) (enc : TypeId × Value → H) :
    ReturnsInHanded {} Try.checked os 7 .any (Rows.fnExactEqualItemsSpec.pre6 enc Try.prog Try.f7 Rows.fnExactEqualItemsRow.domain false) (Rows.fnExactEqualItemsSpec.post enc Try.prog Try.f7 false true false false) := by
  refine returnsInHanded_of_change (C := Try.checked) own started (by kernel_rfl) Try.func7
    (ChangeSpec.witness6 (enc := enc) (C := Try.checked) false ⟨#[], #[.slice none 0 0, .slice none 0 0], []⟩ 8 (by kernel_rfl) (by kernel_rfl) (by kernel_rfl) (by kernel_rfl)) ?_
  intro W base args ds gs before hval0 hW hcnd _
  have hval : ∀ (j : Nat) t v, Try.f7.params[j]? = some t → args[j]? = some v → Value.okWide Try.prog W .any base t v := hval0
  have hW' := hW
  obtain ⟨p, q, hA0, hV, rfl, hfz, hnd⟩ := hW
  have hA : DataW.TrodAll enc Try.prog W 0 (fun _ => true) true Try.f7.params.toList args.toList ds p := hA0
  rw [Try.params7] at hA hval
  obtain ⟨v0, vs0, d0, ds0, p0, q0, hargs, rfl, rfl, h0, r0⟩ := trodAll_cons hA
  obtain ⟨v1, vs1, d1, ds1, p1, q1, rfl, rfl, rfl, h1, r1⟩ := trodAll_cons r0
  obtain ⟨rfl, rfl, rfl⟩ := trodAll_nil r1
  obtain rfl : args = #[v0, v1] := by cases args; simp_all
  obtain ⟨rfl, rfl⟩ := trodVars_none hV
  have lt0 : ∀ x ∈ p0, x.block < W.heap.size := by obtain ⟨m, hm⟩ := h0; exact DataW.trod_lt m _ _ _ hm
  obtain ⟨A0, n0, c0, its0, rfl, m0, N0, w0⟩ := open_items (hval 0 31 v0 rfl rfl) h0
  have lt1 : ∀ x ∈ p1, x.block < W.heap.size := by obtain ⟨m, hm⟩ := h1; exact DataW.trod_lt m _ _ _ hm
  obtain ⟨A1, n1, c1, its1, rfl, m1, N1, w1⟩ := open_items (hval 1 31 v1 rfl rfl) h1
  clear hA0 hval0
  refine (walk A0 n0 c0 its0 A1 n1 c1 its1 W m0 N0 w0 m1 N1 w1).mono fun e W' ⟨he, hb⟩ => ?_
  subst he
  exact ⟨_, rfl, _, _, _, [], _, [], hW', trodAll_mk1 (shut_bool Try.underlying4 _), (trodAll_cons_mk (Below.trod laidOut (by kernel_rfl) (of_decide_eq_true (by kernel_rfl)) h0 hb lt0) (trodAll_cons_mk (Below.trod laidOut (by kernel_rfl) (of_decide_eq_true (by kernel_rfl)) h1 hb lt1) trodAll_mk0)), rfl, hb.frame _, fun h => by cases h⟩

theorem holds : Rows.FnExactEqualItemsSaid :=
  OpenClaim.holds_of_wide 7 Try.f7 rfl rfl rfl rfl rfl rfl rfl ⟨rfl, rfl, rfl, rfl, rfl⟩ rfl rfl rfl rfl rfl (by kernel_rfl) Try.func7 (by kernel_rfl)
    (of_decide_eq_true (by kernel_rfl)) (by unfold Func.isWrapper; first | (rw [if_pos (by decide +kernel)]; kernel_rfl) | (rw [if_neg (by decide +kernel)]; exact ⟨rfl, rfl⟩))
    (fun os started H enc _ => lifted os started H enc)

#print axioms holds
end Go.Proofs.Ytldccopockaneaa.fnExactEqualItems
