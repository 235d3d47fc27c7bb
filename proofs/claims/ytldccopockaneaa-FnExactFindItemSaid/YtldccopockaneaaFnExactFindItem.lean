/- The law of FindItem returns true, whatever the slice of items and the number: the program and the model answer the same; what came in reads as it did. -/
import Derived.Test.YtldccopockaneaaRows
import Derived.Test.YtldccopockaneaaItemOpen
import Derived.Test.YtldccopockaneaaItemFind
import Derived.WalkKit
import Derived.ProofKit
import Derived.OpenShut
import Derived.ShutString
import Derived.Below
namespace Go.Proofs.Ytldccopockaneaa.fnExactFindItem
open Go.ChangeShapes Go.WideShapes Go.ChangeAt Go.RowKit
open Go.ChangeMaps (open_string shut_string)
open Go.Proofs.Ytldccopockaneaa.num
set_option linter.unusedVariables false

theorem own : ownKnob Try.prog.godebug = none := by kernel_rfl

theorem walk (A0 : Option Addr) (n0 c0 : Nat) (its0 : List It) (a1 : Int) (w : World) (m0 : n0 ≤ 9223372036854775807) (N0 : ∀ t ∈ its0, t.n ≤ 9223372036854775807) (w0 : Items w w.heap.size A0 n0 its0) (w1 : (Lit.int .i64 a1).wf = true) :
    Calls Try.prog 5 #[.slice A0 n0 c0, .int .i64 a1] w fun e w' => e = .returned (.bool true) ∧ Below w.heap.size w w' := by
  have HW0 := Lib.hid w0
  have HN := Lib.hid N0
  have HM := Lib.hid m0
  clear w0 N0 m0
  go_enter Try.func5, Try.ntmps5
  go_wp2_with fail
  refine (szItems _ w.heap.size A0 n0 c0 its0 HW0.out (Nat.le_refl _) HM.out HN.out 1048576 (by decide) (by decide) ).mono ?_
  rintro e w1 ⟨⟨r, rfl, hr⟩, hb1⟩
  have HB1 := Lib.hid hb1
  clear hb1
  rcases hr with rfl | ⟨hr0, hr1, hrn, hrN⟩
  · go_wp2
    go_ret
    exact ⟨rfl, HB1.out⟩
  · have hn : n0 ≤ 1048576 := by omega
    have HNb : Hid (∀ t ∈ its0, t.n ≤ 1048576) := Lib.hid fun t ht => by have := hrN t ht; omega
    clear hrn hrN hr1
    go_wp2_with fail
    refine (toItems w1 w.heap.size A0 n0 c0 its0 (HW0.out.below HB1.out) HB1.out.size hn HNb.out).mono ?_
    rintro e w2 ⟨its1, rfl, hd1, hf1, hb2⟩
    have C1 := Lib.hid (copy_of hn HNb.out HW0.out hd1 hf1)
    have HB2 := Lib.hid (HB1.out.trans (hb2.mono HB1.out.size))
    clear hd1 hf1 hb2
    go_wp2_with fail
    refine (sFind w2 w2.heap.size _ n0 n0 its1 C1.out.items (Nat.le_refl _) hn a1).mono ?_
    rintro e w3 ⟨⟨r0, rfl, hr0⟩, hb3⟩
    have HB3 := Lib.hid (HB2.out.trans (hb3.mono HB2.out.size))
    clear hb3
    have HR0 := Lib.hid hr0
    clear hr0
    go_wp2_with fail
    refine (toItems w3 w.heap.size A0 n0 c0 its0 (HW0.out.below HB3.out) HB3.out.size hn HNb.out).mono ?_
    rintro e w4 ⟨its2, rfl, hd2, hf2, hb4⟩
    have C2 := Lib.hid (copy_of hn HNb.out HW0.out hd2 hf2)
    have HB4 := Lib.hid (HB3.out.trans (hb4.mono HB3.out.size))
    clear hd2 hf2 hb4
    go_wp2_with fail
    refine (iFind w4 w4.heap.size _ n0 n0 its2 C2.out.items (Nat.le_refl _) hn a1).mono ?_
    rintro e w5 ⟨⟨r1, rfl, hr1⟩, hb5⟩
    obtain rfl : r1 = r0 := by
      have h0 := HR0.out
      rw [C1.out.dat, ← C2.out.dat] at h0
      exact hr1.one h0
    have C2' := Lib.hid (C2.out.below hb5)
    have HB5 := Lib.hid (HB4.out.trans (hb5.mono HB4.out.size))
    clear hb5 hr1
    go_wp2_with fail
    refine (toItems w5 w.heap.size A0 n0 c0 its0 (HW0.out.below HB5.out) HB5.out.size hn HNb.out).mono ?_
    rintro e w6 ⟨its3, rfl, hd3, hf3, hb6⟩
    have C3 := Lib.hid (copy_of hn HNb.out HW0.out hd3 hf3)
    have C2'' := Lib.hid (C2'.out.below hb6)
    have HB6 := Lib.hid (HB5.out.trans (hb6.mono HB5.out.size))
    clear hd3 hf3 hb6
    go_wp2_with fail
    refine (eqItems w6 w6.heap.size _ _ n0 n0 n0 n0 its2 its3 C2''.out.items C3.out.items (Nat.le_refl _) hn C2''.out.small true (by rw [C2''.out.dat, C3.out.dat]; simp)).mono ?_
    rintro e w7 ⟨rfl, hb7⟩
    have HB7 := Lib.hid (HB6.out.trans (hb7.mono HB6.out.size))
    clear hb7
    go_wp2
    go_ret
    exact ⟨rfl, HB7.out⟩

set_option maxRecDepth 100000 in
theorem lifted (os : Os) (started : os.Started) (H : Type) (enc : TypeId × Value → H) :
    ReturnsInHanded {} Try.checked os 5 .any (Rows.fnExactFindItemSpec.pre6 enc Try.prog Try.f5 Rows.fnExactFindItemRow.domain false) (Rows.fnExactFindItemSpec.post enc Try.prog Try.f5 false true false false) := by
  refine returnsInHanded_of_change (C := Try.checked) own started (by kernel_rfl) Try.func5
    (ChangeSpec.witness6 (enc := enc) (C := Try.checked) false ⟨#[], #[.slice none 0 0, .int .i64 0], []⟩ 8 (by kernel_rfl) (by kernel_rfl) (by kernel_rfl) (by kernel_rfl)) ?_
  intro W base args ds gs before hval0 hW hcnd _
  have hval : ∀ (j : Nat) t v, Try.f5.params[j]? = some t → args[j]? = some v → Value.okWide Try.prog W .any base t v := hval0
  have hW' := hW
  obtain ⟨p, q, hA0, hV, rfl, hfz, hnd⟩ := hW
  have hA : DataW.TrodAll enc Try.prog W 0 (fun _ => true) true Try.f5.params.toList args.toList ds p := hA0
  rw [Try.params5] at hA hval
  obtain ⟨v0, vs0, d0, ds0, p0, q0, hargs, rfl, rfl, h0, r0⟩ := trodAll_cons hA
  obtain ⟨v1, vs1, d1, ds1, p1, q1, rfl, rfl, rfl, h1, r1⟩ := trodAll_cons r0
  obtain ⟨rfl, rfl, rfl⟩ := trodAll_nil r1
  obtain rfl : args = #[v0, v1] := by cases args; simp_all
  obtain ⟨rfl, rfl⟩ := trodVars_none hV
  have lt0 : ∀ x ∈ p0, x.block < W.heap.size := by obtain ⟨m, hm⟩ := h0; exact DataW.trod_lt m _ _ _ hm
  obtain ⟨A0, n0, c0, its0, rfl, m0, N0, w0⟩ := open_items (hval 0 31 v0 rfl rfl) h0
  obtain ⟨a1, rfl, rfl, rfl, w1⟩ := open_int Try.underlying3 (hval 1 3 v1 rfl rfl) h1
  clear hA0 hval0
  refine (walk A0 n0 c0 its0 a1 W m0 N0 w0 w1).mono fun e W' ⟨he, hb⟩ => ?_
  subst he
  exact ⟨_, rfl, _, _, _, [], _, [], hW', trodAll_mk1 (shut_bool Try.underlying4 _), (trodAll_cons_mk (Below.trod laidOut (by kernel_rfl) (of_decide_eq_true (by kernel_rfl)) h0 hb lt0) (trodAll_cons_mk (shut_int Try.underlying3 w1) trodAll_mk0)), rfl, hb.frame _, fun h => by cases h⟩

theorem holds : Rows.FnExactFindItemSaid :=
  OpenClaim.holds_of_wide 5 Try.f5 rfl rfl rfl rfl rfl rfl rfl ⟨rfl, rfl, rfl, rfl, rfl⟩ rfl rfl rfl rfl rfl (by kernel_rfl) Try.func5 (by kernel_rfl)
    (of_decide_eq_true (by kernel_rfl)) (by unfold Func.isWrapper; first | (rw [if_pos (by decide +kernel)]; kernel_rfl) | (rw [if_neg (by decide +kernel)]; exact ⟨rfl, rfl⟩))
    (fun os started H enc _ => lifted os started H enc)

#print axioms holds
end Go.Proofs.Ytldccopockaneaa.fnExactFindItem
