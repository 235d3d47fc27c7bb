/- The law FnExactIsFieldList. -/
import Derived.Test.YtnbgmiiknndleaaRows
import Derived.Test.YtnbgmiiknndleaaItemOpen
import Derived.Test.YtnbgmiiknndleaaSoA
import Derived.WalkKit
import Derived.ProofKit
import Derived.OpenShut
import Derived.ShutString
import Derived.Below
namespace Go.Proofs.Ytnbgmiiknndleaa.fnExactIsFieldList
set_option maxRecDepth 20000
open Go.ChangeShapes Go.WideShapes Go.ChangeAt Go.RowKit
open Go.ChangeMaps (open_string shut_string)
open Go.Proofs.Ytnbgmiiknndleaa.num
set_option linter.unusedVariables false
set_option linter.unusedSimpArgs false

theorem own : ownKnob Try.prog.godebug = none := by kernel_rfl

set_option maxHeartbeats 3200000 in
theorem walk (A0 : Option Addr) (n0 c0 : Nat) (xs0 : List Int) (w : World) (m0 : n0 ≤ 9223372036854775807) (w0 : Ints w w.heap.size A0 n0 xs0) :
    Calls Try.prog 3 #[.slice A0 n0 c0] w fun e w' => e = .returned (.bool true) ∧ Below w.heap.size w w' := by
  have HM0 := Lib.hid m0
  have HW0 := Lib.hid w0
  clear w0
  go_enter Try.func3, Try.ntmps3
  by_cases hq0 : 1048576 < n0
  · have hd0 : decide ((n0 : Int) > 1048576) = true := by simp; omega
    go_wp2
    go_ret
    exact ⟨rfl, Below.refl _ _⟩
  have hd0 : decide ((n0 : Int) > 1048576) = false := by simp; omega
  have hn0 : n0 ≤ 1048576 := by omega
  clear hq0 m0
  obtain ⟨q, hq⟩ := bool_of (AscP InF xs0)
  have HQ := Lib.hid hq
  clear hq
  go_wp2_with fail
  refine (toInts_r w w.heap.size A0 n0 c0 xs0 (HW0.out.below (Below.refl w.heap.size w)) (Below.refl w.heap.size w).size hn0).mono ?_
  rintro e w1 ⟨⟨rfl, hc⟩, hb1⟩
  have HB1 := Lib.hid (hb1)
  have Z01 := Lib.hid (Below.size hb1)
  have Rp0_1 := Lib.hid hc
  clear hc
  clear hb1
  go_wp2_with fail
  refine (sIsF _ _ _ n0 n0 xs0 Rp0_1.out.ints hn0 q HQ.out).mono ?_
  rintro e w2 ⟨rfl, hb2⟩
  have HB2 := Lib.hid (below_on HB1.out hb2)
  have Z12 := Lib.hid (Below.size hb2)
  have Rp0_2 := Lib.hid (Rp0_1.out.step hb2)
  clear hb2
  go_wp2_with fail
  refine (toInts_r w2 w.heap.size A0 n0 c0 xs0 (HW0.out.below HB2.out) HB2.out.size hn0).mono ?_
  rintro e w3 ⟨⟨rfl, hc⟩, hb3⟩
  have HB3 := Lib.hid (below_on HB2.out hb3)
  have Z23 := Lib.hid (Below.size hb3)
  have Rx0_3 := Lib.hid hc
  clear hc
  clear hb3
  go_wp2_with fail
  refine (iIsF _ _ _ n0 n0 xs0 Rx0_3.out.ints hn0 q HQ.out).mono ?_
  rintro e w4 ⟨rfl, hb4⟩
  have HB4 := Lib.hid (below_on HB3.out hb4)
  have Z34 := Lib.hid (Below.size hb4)
  have Rx0_4 := Lib.hid (Rx0_3.out.step hb4)
  clear hb4
  go_wp2_with fail
  refine (toInts_r w4 w.heap.size A0 n0 c0 xs0 (HW0.out.below HB4.out) HB4.out.size hn0).mono ?_
  rintro e w5 ⟨⟨rfl, hc⟩, hb5⟩
  have HB5 := Lib.hid (below_on HB4.out hb5)
  have Z45 := Lib.hid (Below.size hb5)
  have Rx0_5 := Lib.hid (Rx0_4.out.step hb5)
  have Rz_5 := Lib.hid hc
  clear hc
  clear hb5
  go_wp2_with fail
  refine (Rx0_5.out.eqW Rz_5.out (by have h := HW0.out.1; omega) true (by simp)).mono ?_
  rintro e w6 ⟨rfl, hb6⟩
  have HB6 := Lib.hid (below_on HB5.out hb6)
  have Z56 := Lib.hid (Below.size hb6)
  have Rx0_6 := Lib.hid (Rx0_5.out.step hb6)
  have Rz_6 := Lib.hid (Rz_5.out.step hb6)
  clear hb6
  go_wp2
  go_ret
  exact ⟨rfl, HB6.out⟩

set_option maxRecDepth 100000 in
theorem lifted (os : Os) (started : os.Started) (H : Type) (enc : TypeId × Value → H) :
    ReturnsInHanded {} Try.checked os 3 .any (Rows.fnExactIsFieldListSpec.pre6 enc Try.prog Try.f3 Rows.fnExactIsFieldListRow.domain false) (Rows.fnExactIsFieldListSpec.post enc Try.prog Try.f3 false true false false) := by
  refine returnsInHanded_of_change (C := Try.checked) own started (by kernel_rfl) Try.func3
    (ChangeSpec.witness6 (enc := enc) (C := Try.checked) false ⟨#[], #[.slice none 0 0], []⟩ 8 (by kernel_rfl) (by kernel_rfl) (by kernel_rfl) (by kernel_rfl)) ?_
  intro W base args ds gs before hval0 hW hcnd _
  have hval : ∀ (j : Nat) t v, Try.f3.params[j]? = some t → args[j]? = some v → Value.okWide Try.prog W .any base t v := hval0
  have hW' := hW
  obtain ⟨p, q, hA0, hV, rfl, hfz, hnd⟩ := hW
  have hA : DataW.TrodAll enc Try.prog W 0 (fun _ => true) true Try.f3.params.toList args.toList ds p := hA0
  rw [Try.params3] at hA hval
  obtain ⟨v0, vs0, d0, ds0, p0, q0, hargs, rfl, rfl, h0, r0⟩ := trodAll_cons hA
  obtain ⟨rfl, rfl, rfl⟩ := trodAll_nil r0
  obtain rfl : args = #[v0] := by cases args; simp_all
  obtain ⟨rfl, rfl⟩ := trodVars_none hV
  have lt0 : ∀ x ∈ p0, x.block < W.heap.size := by obtain ⟨m, hm⟩ := h0; exact DataW.trod_lt m _ _ _ hm
  obtain ⟨A0, n0, c0, xs0, rfl, m0, w0⟩ := open_intsN (hval 0 22 v0 rfl rfl) h0
  clear hA0 hval0
  refine (walk A0 n0 c0 xs0 W m0 w0).mono fun e W' ⟨he, hb⟩ => ?_
  subst he
  exact ⟨_, rfl, _, _, _, [], _, [], hW', trodAll_mk1 (shut_bool Try.underlying4 _), (trodAll_cons_mk (Below.trod laidOut (by kernel_rfl) (of_decide_eq_true (by kernel_rfl)) h0 hb lt0) trodAll_mk0), rfl, hb.frame _, fun h => by cases h⟩

theorem holds : Rows.FnExactIsFieldListSaid :=
  OpenClaim.holds_of_wide 3 Try.f3 rfl rfl rfl rfl rfl rfl rfl ⟨rfl, rfl, rfl, rfl, rfl⟩ rfl rfl rfl rfl rfl (by kernel_rfl) Try.func3 (by kernel_rfl)
    (of_decide_eq_true (by kernel_rfl)) (by unfold Func.isWrapper; first | (rw [if_pos (by decide +kernel)]; kernel_rfl) | (rw [if_neg (by decide +kernel)]; exact ⟨rfl, rfl⟩))
    (fun os started H enc _ => lifted os started H enc)

#print axioms holds
end Go.Proofs.Ytnbgmiiknndleaa.fnExactIsFieldList
