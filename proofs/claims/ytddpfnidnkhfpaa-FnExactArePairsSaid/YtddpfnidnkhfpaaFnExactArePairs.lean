/- The law of ArePairs returns true, whatever the slice of pairs: the program and the model answer the same; what came in reads as it did. -/
import Derived.Test.YtddpfnidnkhfpaaRows
import Derived.Test.YtddpfnidnkhfpaaPairOpen
import Derived.Test.YtddpfnidnkhfpaaPairLaw
import Derived.Test.YtddpfnidnkhfpaaPairProg
import Derived.WalkKit
import Derived.ProofKit
import Derived.OpenShut
import Derived.ShutString
import Derived.Below
namespace Go.Proofs.Ytddpfnidnkhfpaa.fnExactArePairs
open Go.ChangeShapes Go.WideShapes Go.ChangeAt Go.RowKit
open Go.ChangeMaps (open_string shut_string)
open Go.Proofs.Ytddpfnidnkhfpaa.num
set_option linter.unusedVariables false
set_option linter.unusedSimpArgs false

theorem own : ownKnob Try.prog.godebug = none := by kernel_rfl

theorem walk (A0 : Option Addr) (n0 c0 : Nat) (ps0 : List (Int × Int)) (w : World) (m0 : n0 ≤ 9223372036854775807) (w0 : Pairs w w.heap.size A0 n0 ps0) :
    Calls Try.prog 4 #[.slice A0 n0 c0] w fun e w' => e = .returned (.bool true) ∧ Below w.heap.size w w' := by
  have HW0 := Lib.hid w0
  have HM0 := Lib.hid m0
  clear w0 m0
  go_enter Try.func4, Try.ntmps4
  go_wp2_with fail
  refine (szPairs A0 n0 c0 1048576 HM0.out (by decide) (by decide) _).mono ?_
  rintro e w1 ⟨⟨r0, rfl, hr0⟩, hw1⟩
  have hb1 : Below w.heap.size w w1 := by rw [← hw1]; exact Below.refl _ _
  have HB1 := Lib.hid hb1
  clear hb1 hw1
  rcases hr0 with rfl | ⟨hr00, hr01, hrn0⟩
  · go_wp2
    go_ret
    exact ⟨rfl, HB1.out⟩
  · have hn : n0 ≤ 1048576 := by omega
    clear hrn0
    obtain ⟨q, hq⟩ := bool_of (OkP ps0)
    have HQ := Lib.hid hq
    clear hq
    go_wp2_with fail
    refine (toPairs w1 w.heap.size A0 n0 c0 ps0 (HW0.out.below HB1.out) HB1.out.size hn).mono ?_
    rintro e w2 ⟨rfl, hrow, hb2⟩
    have HB2 := Lib.hid (HB1.out.trans (hb2.mono HB1.out.size))
    have Rp_2 := Lib.hid hrow
    clear hb2 hrow
    go_wp2_with fail
    refine (sArePairs w2 w2.heap.size _ n0 n0 ps0 (Rp_2.out.pairsN (B := w2.heap.size) Rp_2.out.lt HW0.out.1) (Nat.le_refl _) hn q HQ.out).mono ?_
    rintro e w3 ⟨rfl, hb3⟩
    have HB3 := Lib.hid (HB2.out.trans (hb3.mono HB2.out.size))
    have Rp_3 := Lib.hid (Rp_2.out.below hb3 Rp_2.out.lt)
    clear hb3
    go_wp2_with fail
    refine (toPairs w3 w.heap.size A0 n0 c0 ps0 (HW0.out.below HB3.out) HB3.out.size hn).mono ?_
    rintro e w4 ⟨rfl, hrow, hb4⟩
    have HB4 := Lib.hid (HB3.out.trans (hb4.mono HB3.out.size))
    have Rx_4 := Lib.hid hrow
    clear hb4 hrow
    go_wp2_with fail
    refine (iArePairs w4 w4.heap.size _ n0 n0 ps0 (Rx_4.out.pairsN (B := w4.heap.size) Rx_4.out.lt HW0.out.1) (Nat.le_refl _) hn q HQ.out).mono ?_
    rintro e w5 ⟨rfl, hb5⟩
    have HB5 := Lib.hid (HB4.out.trans (hb5.mono HB4.out.size))
    have Rx_5 := Lib.hid (Rx_4.out.below hb5 Rx_4.out.lt)
    clear hb5
    have hqq : (q != q) = false := by simp
    go_wp2_with fail
    refine (toPairs w5 w.heap.size A0 n0 c0 ps0 (HW0.out.below HB5.out) HB5.out.size hn).mono ?_
    rintro e w6 ⟨rfl, hrow, hb6⟩
    have HB6 := Lib.hid (HB5.out.trans (hb6.mono HB5.out.size))
    have Rx_6 := Lib.hid (Rx_5.out.below hb6 Rx_5.out.lt)
    have Rz_6 := Lib.hid hrow
    clear hb6 hrow
    go_wp2_with fail
    refine (eqPairs w6 w6.heap.size _ _ n0 n0 n0 n0 ps0 ps0 (Rx_6.out.pairsN (B := w6.heap.size) Rx_6.out.lt HW0.out.1) (Rz_6.out.pairsN (B := w6.heap.size) Rz_6.out.lt HW0.out.1) (Nat.le_refl _) hn true (by simp)).mono ?_
    rintro e w7 ⟨rfl, hb7⟩
    have HB7 := Lib.hid (HB6.out.trans (hb7.mono HB6.out.size))
    have Rx_7 := Lib.hid (Rx_6.out.below hb7 Rx_6.out.lt)
    have Rz_7 := Lib.hid (Rz_6.out.below hb7 Rz_6.out.lt)
    clear hb7
    go_wp2
    go_ret
    exact ⟨rfl, HB7.out⟩

set_option maxRecDepth 100000 in
theorem lifted (os : Os) (started : os.Started) (H : Type) (enc : TypeId × Value → H) :
    ReturnsInHanded {} Try.checked os 4 .any (Rows.fnExactArePairsSpec.pre6 enc Try.prog Try.f4 Rows.fnExactArePairsRow.domain false) (Rows.fnExactArePairsSpec.post enc Try.prog Try.f4 false true false false) := by
  refine returnsInHanded_of_change (C := Try.checked) own started (by kernel_rfl) Try.func4
    (ChangeSpec.witness6 (enc := enc) (C := Try.checked) false ⟨#[], #[.slice none 0 0], []⟩ 8 (by kernel_rfl) (by kernel_rfl) (by kernel_rfl) (by kernel_rfl)) ?_
  intro W base args ds gs before hval0 hW hcnd _
  have hval : ∀ (j : Nat) t v, Try.f4.params[j]? = some t → args[j]? = some v → Value.okWide Try.prog W .any base t v := hval0
  have hW' := hW
  obtain ⟨p, q, hA0, hV, rfl, hfz, hnd⟩ := hW
  have hA : DataW.TrodAll enc Try.prog W 0 (fun _ => true) true Try.f4.params.toList args.toList ds p := hA0
  rw [Try.params4] at hA hval
  obtain ⟨v0, vs0, d0, ds0, p0, q0, hargs, rfl, rfl, h0, r0⟩ := trodAll_cons hA
  obtain ⟨rfl, rfl, rfl⟩ := trodAll_nil r0
  obtain rfl : args = #[v0] := by cases args; simp_all
  obtain ⟨rfl, rfl⟩ := trodVars_none hV
  have lt0 : ∀ x ∈ p0, x.block < W.heap.size := by obtain ⟨m, hm⟩ := h0; exact DataW.trod_lt m _ _ _ hm
  obtain ⟨A0, n0, c0, ps0, rfl, m0, w0⟩ := open_pairs (hval 0 39 v0 rfl rfl) h0
  clear hA0 hval0
  refine (walk A0 n0 c0 ps0 W m0 w0).mono fun e W' ⟨he, hb⟩ => ?_
  subst he
  exact ⟨_, rfl, _, _, _, [], _, [], hW', trodAll_mk1 (shut_bool Try.underlying4 _), (trodAll_cons_mk (Below.trod laidOut (by kernel_rfl) (of_decide_eq_true (by kernel_rfl)) h0 hb lt0) trodAll_mk0), rfl, hb.frame _, fun h => by cases h⟩

theorem holds : Rows.FnExactArePairsSaid :=
  OpenClaim.holds_of_wide 4 Try.f4 rfl rfl rfl rfl rfl rfl rfl ⟨rfl, rfl, rfl, rfl, rfl⟩ rfl rfl rfl rfl rfl (by kernel_rfl) Try.func4 (by kernel_rfl)
    (of_decide_eq_true (by kernel_rfl)) (by unfold Func.isWrapper; first | (rw [if_pos (by decide +kernel)]; kernel_rfl) | (rw [if_neg (by decide +kernel)]; exact ⟨rfl, rfl⟩))
    (fun os started H enc _ => lifted os started H enc)

#print axioms holds
end Go.Proofs.Ytddpfnidnkhfpaa.fnExactArePairs
