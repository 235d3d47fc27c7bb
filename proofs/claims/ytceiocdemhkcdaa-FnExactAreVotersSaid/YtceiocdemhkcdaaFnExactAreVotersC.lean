/- The law FnExactAreVoters. -/
import Derived.Test.YtceiocdemhkcdaaRows
import Derived.Test.YtceiocdemhkcdaaItemOpen
import Derived.Test.YtceiocdemhkcdaaVotOpen
import Derived.Test.YtceiocdemhkcdaaVotCopy
import Derived.Test.YtceiocdemhkcdaaAvA
import Derived.WalkKit
import Derived.ProofKit
import Derived.OpenShut
import Derived.ShutString
import Derived.Below
namespace Go.Proofs.Ytceiocdemhkcdaa.fnExactAreVoters
set_option maxRecDepth 20000
open Go.ChangeShapes Go.WideShapes Go.ChangeAt Go.RowKit
open Go.ChangeMaps (open_string shut_string)
open Go.Proofs.Ytceiocdemhkcdaa.num
set_option linter.unusedVariables false
set_option linter.unusedSimpArgs false

theorem own : ownKnob Try.prog.godebug = none := by kernel_rfl

set_option maxHeartbeats 3200000 in
theorem walk (A0 : Option Addr) (n0 c0 : Nat) (gs0 : List Vo) (w : World) (m0 : n0 ≤ 9223372036854775807) (N0 : BigV gs0) (w0 : Votes w w.heap.size A0 n0 gs0) :
    Calls Try.prog 4 #[.slice A0 n0 c0] w fun e w' => e = .returned (.bool true) ∧ Below w.heap.size w w' := by
  have HM0 := Lib.hid m0
  have HL0 := Lib.hid N0
  have HW0 := Lib.hid w0
  clear m0 N0 w0
  go_enter Try.func4, Try.ntmps4
  go_wp2_with fail
  refine (szVotes_c w w.heap.size A0 n0 c0 gs0 (HW0.out.below (Below.refl w.heap.size w)) (Below.refl w.heap.size w).size HM0.out HL0.out 1048576 (by decide) (by decide)).mono ?_
  rintro e w1 ⟨⟨r0, rfl, hr0⟩, hb1⟩
  have HB1 := Lib.hid (hb1)
  have Z01 := Lib.hid (Below.size hb1)
  clear hb1
  rcases hr0 with rfl | ⟨hr0a, hr0b, hn0, hs0⟩
  · go_wp2
    go_ret
    exact ⟨rfl, HB1.out⟩
  have HS0 := Lib.hid hs0
  clear hs0
  have hz0 : decide (r0 < 0) = false := by simp; omega
  obtain ⟨D, hD⟩ := bool_of (VoP (gs0.map Vo.dat))
  have HD := Lib.hid hD
  clear hD
  have hdd : (D != D) = false := by simp
  go_wp2_with fail
  refine (toVotes_w w1 w.heap.size A0 n0 c0 gs0 (HW0.out.below HB1.out) HB1.out.size hn0 HS0.out.1).mono ?_
  rintro e w2 ⟨vp0, rfl, hc, hb2⟩
  have HB2 := Lib.hid (below_on HB1.out hb2)
  have Z12 := Lib.hid (Below.size hb2)
  have Vp0_2 := Lib.hid hc
  clear hc
  clear hb2
  go_wp2_with fail
  refine (sVoters _ _ _ n0 n0 vp0 Vp0_2.out.votes (Nat.le_refl _) hn0 Vp0_2.out.short D (by rw [Vp0_2.out.dat]; exact HD.out)).mono ?_
  rintro e w3 ⟨rfl, hb3⟩
  have HB3 := Lib.hid (below_on HB2.out hb3)
  have Vp0_3 := Lib.hid (Vp0_2.out.step hb3)
  have Z23 := Lib.hid (Below.size hb3)
  clear hb3
  go_wp2_with fail
  refine (toVotes_w w3 w.heap.size A0 n0 c0 gs0 (HW0.out.below HB3.out) HB3.out.size hn0 HS0.out.1).mono ?_
  rintro e w4 ⟨vx0, rfl, hc, hb4⟩
  have HB4 := Lib.hid (below_on HB3.out hb4)
  have Z34 := Lib.hid (Below.size hb4)
  have Vx0_4 := Lib.hid hc
  clear hc
  clear hb4
  go_wp2_with fail
  refine (iVoters _ _ _ n0 n0 vx0 Vx0_4.out.votes (Nat.le_refl _) hn0 Vx0_4.out.short Vx0_4.out.caps D (by rw [Vx0_4.out.dat]; exact HD.out)).mono ?_
  rintro e w5 ⟨rfl, hb5⟩
  have HB5 := Lib.hid (below_on HB4.out hb5)
  have Vx0_5 := Lib.hid (Vx0_4.out.step hb5)
  have Z45 := Lib.hid (Below.size hb5)
  clear hb5
  go_wp2_with fail
  refine (toVotes_w w5 w.heap.size A0 n0 c0 gs0 (HW0.out.below HB5.out) HB5.out.size hn0 HS0.out.1).mono ?_
  rintro e w6 ⟨vz, rfl, hc, hb6⟩
  have HB6 := Lib.hid (below_on HB5.out hb6)
  have Vx0_6 := Lib.hid (Vx0_5.out.step hb6)
  have Z56 := Lib.hid (Below.size hb6)
  have Vz_6 := Lib.hid hc
  clear hc
  clear hb6
  go_wp2_with fail
  refine (eqVotes_w _ _ _ _ _ _ _ Vx0_6.out Vz_6.out hn0).mono ?_
  rintro e w7 ⟨rfl, hb7⟩
  have HB7 := Lib.hid (below_on HB6.out hb7)
  have Vx0_7 := Lib.hid (Vx0_6.out.step hb7)
  have Vz_7 := Lib.hid (Vz_6.out.step hb7)
  have Z67 := Lib.hid (Below.size hb7)
  clear hb7
  go_wp2
  go_ret
  exact ⟨rfl, HB7.out⟩

set_option maxRecDepth 100000 in
theorem lifted (os : Os) (started : os.Started) (H : Type) (enc : TypeId × Value → H) :
    ReturnsInHanded {} Try.checked os 4 .any (Rows.fnExactAreVotersSpec.pre6 enc Try.prog Try.f4 Rows.fnExactAreVotersRow.domain false) (Rows.fnExactAreVotersSpec.post enc Try.prog Try.f4 false true false false) := by
  refine returnsInHanded_of_change (C := Try.checked) own started (by kernel_rfl) Try.func4
    (ChangeSpec.witness6 (enc := enc) (C := Try.checked) false ⟨#[], #[.slice none 0 0], []⟩ 8 (by kernel_rfl) (by kernel_rfl) (by kernel_rfl) (by kernel_rfl)) ?_
  intro W base args ds gs before hval0 hW hcnd _
  have hval : ∀ (j : Nat) t v, Try.f4.params[j]? = some t → args[j]? = some v → Value.okWide Try.prog W .any base t v := hval0
  have hW' := hW
  obtain ⟨p, q, hA0, hV, rfl, hfz, hnd⟩ := hW
  have hA : DataW.TrodAll enc Try.prog W 0 (fun _ => true) true Try.f4.params.toList args.toList ds p := hA0
  rw [Try.params4] at hA hval
  obtain ⟨v0, vs0, d0, ds0, p0, q0, hargs, rfl, rfl, h0, r0⟩ := trodAll_cons hA
  obtain ⟨rfl, rfl, rfl⟩ := trodAll_nil r0
  obtain rfl : args = #[v0] := by cases args; simp_all
  obtain ⟨rfl, rfl⟩ := trodVars_none hV
  have lt0 : ∀ x ∈ p0, x.block < W.heap.size := by obtain ⟨m, hm⟩ := h0; exact DataW.trod_lt m _ _ _ hm
  obtain ⟨A0, n0, c0, gs0, rfl, m0, N0, w0⟩ := open_votes (hval 0 48 v0 rfl rfl) h0
  clear hA0 hval0
  refine (walk A0 n0 c0 gs0 W m0 N0 w0).mono fun e W' ⟨he, hb⟩ => ?_
  subst he
  exact ⟨_, rfl, _, _, _, [], _, [], hW', trodAll_mk1 (shut_bool Try.underlying4 _), (trodAll_cons_mk (Below.trod laidOut (by kernel_rfl) (of_decide_eq_true (by kernel_rfl)) h0 hb lt0) trodAll_mk0), rfl, hb.frame _, fun h => by cases h⟩

theorem holds : Rows.FnExactAreVotersSaid :=
  OpenClaim.holds_of_wide 4 Try.f4 rfl rfl rfl rfl rfl rfl rfl ⟨rfl, rfl, rfl, rfl, rfl⟩ rfl rfl rfl rfl rfl (by kernel_rfl) Try.func4 (by kernel_rfl)
    (of_decide_eq_true (by kernel_rfl)) (by unfold Func.isWrapper; first | (rw [if_pos (by decide +kernel)]; kernel_rfl) | (rw [if_neg (by decide +kernel)]; exact ⟨rfl, rfl⟩))
    (fun os started H enc _ => lifted os started H enc)

#print axioms holds
end Go.Proofs.Ytceiocdemhkcdaa.fnExactAreVoters
