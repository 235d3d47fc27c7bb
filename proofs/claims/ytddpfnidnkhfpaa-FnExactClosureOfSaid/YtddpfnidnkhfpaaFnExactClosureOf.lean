/- The law of ClosureOf returns true, whatever the slice of pairs: the program and the model answer the same; what came in reads as it did; the answer owns its memory. -/
import Derived.Test.YtddpfnidnkhfpaaRows
import Derived.Test.YtddpfnidnkhfpaaPairOpen
import Derived.Test.YtddpfnidnkhfpaaPairLaw
import Derived.Test.YtddpfnidnkhfpaaPairProg
import Derived.WalkKit
import Derived.ProofKit
import Derived.OpenShut
import Derived.ShutString
import Derived.Below
namespace Go.Proofs.Ytddpfnidnkhfpaa.fnExactClosureOf
open Go.ChangeShapes Go.WideShapes Go.ChangeAt Go.RowKit
open Go.ChangeMaps (open_string shut_string)
open Go.Proofs.Ytddpfnidnkhfpaa.num
set_option linter.unusedVariables false
set_option linter.unusedSimpArgs false

theorem own : ownKnob Try.prog.godebug = none := by kernel_rfl

theorem walk (A0 : Option Addr) (n0 c0 : Nat) (ps0 : List (Int × Int)) (w : World) (m0 : n0 ≤ 9223372036854775807) (w0 : Pairs w w.heap.size A0 n0 ps0) :
    Calls Try.prog 6 #[.slice A0 n0 c0] w fun e w' => e = .returned (.bool true) ∧ Below w.heap.size w w' := by
  have HW0 := Lib.hid w0
  have HM0 := Lib.hid m0
  clear w0 m0
  go_enter Try.func6, Try.ntmps6
  go_wp2_with fail
  refine (szPairs A0 n0 c0 1048576 HM0.out (by decide) (by decide) _).mono ?_
  rintro e w1 ⟨⟨r0, rfl, hr0⟩, hw1⟩
  have hb1 : Below w.heap.size w w1 := by rw [← hw1]; exact Below.refl _ _
  have HB1 := Lib.hid hb1
  clear hb1 hw1
  rcases hr0 with rfl | ⟨hr00, hr01, hrn0⟩
  · go_wp2
    go_ret
    exact ⟨rfl, HB1.out⟩
  · have hn : n0 ≤ 1048576 := by omega
    clear hrn0
    obtain ⟨q, hq⟩ := bool_of (OkP ps0)
    have HQ := Lib.hid hq
    clear hq
    obtain ⟨L, hL⟩ : ∃ L, L = cloOf ps0 q := ⟨_, rfl⟩
    have HL := Lib.hid hL
    have hlen : L.length ≤ 1048576 := by rw [hL]; exact cloOf_len _ _
    have HLen := Lib.hid hlen
    clear hL hlen
    go_wp2_with fail
    refine (toPairs w1 w.heap.size A0 n0 c0 ps0 (HW0.out.below HB1.out) HB1.out.size hn).mono ?_
    rintro e w2 ⟨rfl, hrow, hb2⟩
    have HB2 := Lib.hid (HB1.out.trans (hb2.mono HB1.out.size))
    have Rp_2 := Lib.hid hrow
    clear hb2 hrow
    go_wp2_with fail
    refine (sClosure w2 w2.heap.size _ n0 n0 ps0 (Rp_2.out.pairsN (B := w2.heap.size) Rp_2.out.lt HW0.out.1) (Nat.le_refl _) hn q HQ.out).mono ?_
    rintro e w3 ⟨⟨vw, rfl, ho⟩, hb3⟩
    have HB3 := Lib.hid (HB2.out.trans (hb3.mono HB2.out.size))
    have Rp_3 := Lib.hid (Rp_2.out.below hb3 Rp_2.out.lt)
    rw [← HL.out] at ho
    obtain ⟨Aw, nw, cw, rfl, hp⟩ := ho.pairs
    have Nw := Lib.hid hp.1
    have HPw := Lib.hid hp
    clear hb3 ho hp
    have T3_3 := Lib.hid (Below.refl w3.heap.size w3)
    go_wp2_with fail
    refine (toPairs w3 w.heap.size A0 n0 c0 ps0 (HW0.out.below HB3.out) HB3.out.size hn).mono ?_
    rintro e w4 ⟨rfl, hrow, hb4⟩
    have HB4 := Lib.hid (HB3.out.trans (hb4.mono HB3.out.size))
    have T3_4 := Lib.hid (T3_3.out.trans (hb4.mono T3_3.out.size))
    have Rx_4 := Lib.hid hrow
    clear hb4 hrow
    go_wp2_with fail
    refine (iClosureOf w4 w4.heap.size _ n0 n0 ps0 (Rx_4.out.pairsN (B := w4.heap.size) Rx_4.out.lt HW0.out.1) (Nat.le_refl _) hn q HQ.out).mono ?_
    rintro e w5 ⟨⟨vg, rfl, ho⟩, hb5⟩
    have HB5 := Lib.hid (HB4.out.trans (hb5.mono HB4.out.size))
    have T3_5 := Lib.hid (T3_4.out.trans (hb5.mono T3_4.out.size))
    have Rx_5 := Lib.hid (Rx_4.out.below hb5 Rx_4.out.lt)
    rw [← HL.out] at ho
    obtain ⟨Ag, ng, cg, rfl, hp⟩ := ho.pairs
    have Ng := Lib.hid hp.1
    have Gg_5 := Lib.hid ho
    clear hb5 ho hp
    go_wp2_with fail
    refine (eqPairs w5 w5.heap.size _ _ ng nw cg cw L L (OwnP.at Gg_5.out) ((HPw.out.below T3_5.out).more T3_5.out.size) (Nat.le_refl _) (by have := Ng.out; have := HLen.out; omega) true (by simp)).mono ?_
    rintro e w6 ⟨rfl, hb6⟩
    have HB6 := Lib.hid (HB5.out.trans (hb6.mono HB5.out.size))
    have T3_6 := Lib.hid (T3_5.out.trans (hb6.mono T3_5.out.size))
    have Rx_6 := Lib.hid (Rx_5.out.below hb6 Rx_5.out.lt)
    have Gg_6 := Lib.hid (OwnP.below Gg_5.out hb6)
    clear hb6
    go_wp2_with fail
    refine (toPairs w6 w.heap.size A0 n0 c0 ps0 (HW0.out.below HB6.out) HB6.out.size hn).mono ?_
    rintro e w7 ⟨rfl, hrow, hb7⟩
    have HB7 := Lib.hid (HB6.out.trans (hb7.mono HB6.out.size))
    have T3_7 := Lib.hid (T3_6.out.trans (hb7.mono T3_6.out.size))
    have Rx_7 := Lib.hid (Rx_6.out.below hb7 Rx_6.out.lt)
    have Gg_7 := Lib.hid (OwnP.below Gg_6.out hb7)
    have Rz_7 := Lib.hid hrow
    clear hb7 hrow
    go_wp2_with fail
    refine (eqPairs w7 w7.heap.size _ _ n0 n0 n0 n0 ps0 ps0 (Rx_7.out.pairsN (B := w7.heap.size) Rx_7.out.lt HW0.out.1) (Rz_7.out.pairsN (B := w7.heap.size) Rz_7.out.lt HW0.out.1) (Nat.le_refl _) hn true (by simp)).mono ?_
    rintro e w8 ⟨rfl, hb8⟩
    have HB8 := Lib.hid (HB7.out.trans (hb8.mono HB7.out.size))
    have T3_8 := Lib.hid (T3_7.out.trans (hb8.mono T3_7.out.size))
    have Rx_8 := Lib.hid (Rx_7.out.below hb8 Rx_7.out.lt)
    have Rz_8 := Lib.hid (Rz_7.out.below hb8 Rz_7.out.lt)
    have Gg_8 := Lib.hid (OwnP.below Gg_7.out hb8)
    clear hb8
    go_wp2_with fail
    refine (markP w8 w3.heap.size _ ps0 (Rx_8.out.own (Nat.le_refl _) HW0.out.1 hn) (by rw [HW0.out.1]; exact hn) 1 (by decide)).mono ?_
    rintro e w9 ⟨he, _, ho⟩
    obtain ⟨r1, hr1⟩ : ∃ r1 : Nat, 1 + 2 * ps0.length = r1 := ⟨_, rfl⟩
    rw [hr1] at he
    subst he
    clear hr1
    have hb9 : Below w3.heap.size w8 w9 := ho.below (fun i hi => by cases hi; exact Nat.le_refl _)
    have HB9 := Lib.hid (HB8.out.trans (hb9.mono HB3.out.size))
    have T3_9 := Lib.hid (T3_8.out.trans (hb9.mono T3_3.out.size))
    have Gg_9 := Lib.hid (OwnP.blocks Gg_8.out fun i hi => ho.high (B := w4.heap.size) (fun i hi => by cases hi; exact Rx_4.out.lt) i (OwnP.lows Gg_8.out i hi))
    clear hb9 ho
    go_wp2_with fail
    refine (eqPairs w9 w9.heap.size _ _ ng nw cg cw L L (OwnP.at Gg_9.out) ((HPw.out.below T3_9.out).more T3_9.out.size) (Nat.le_refl _) (by have := Ng.out; have := HLen.out; omega) true (by simp)).mono ?_
    rintro e w10 ⟨rfl, hb10⟩
    have HB10 := Lib.hid (HB9.out.trans (hb10.mono HB9.out.size))
    have T3_10 := Lib.hid (T3_9.out.trans (hb10.mono T3_9.out.size))
    have Gg_10 := Lib.hid (OwnP.below Gg_9.out hb10)
    clear hb10
    go_wp2_with fail
    refine (markP w10 w4.heap.size _ L Gg_10.out HLen.out 1 (by decide)).mono ?_
    rintro e w11 ⟨he, hown, ho⟩
    obtain ⟨r2, hr2⟩ : ∃ r2 : Nat, 1 + 2 * L.length = r2 := ⟨_, rfl⟩
    rw [hr2] at he
    subst he
    have HR2 := Lib.hid hr2
    clear hr2
    have hb11 : Below w4.heap.size w10 w11 := ho.below (OwnP.lows Gg_10.out)
    have HB11 := Lib.hid (HB10.out.trans (hb11.mono HB4.out.size))
    have T3_11 := Lib.hid (T3_10.out.trans (hb11.mono T3_4.out.size))
    have Gg_11 := Lib.hid hown
    clear hb11 ho hown
    go_wp2_with fail
    refine (heldP w11 w4.heap.size _ 1 L.length Gg_11.out HLen.out (by decide)).mono ?_
    rintro e w12 ⟨he, hw12⟩
    have hb12 : Below w11.heap.size w11 w12 := by rw [← hw12]; exact Below.refl _ _
    have HB12 := Lib.hid (HB11.out.trans (hb12.mono HB11.out.size))
    have T3_12 := Lib.hid (T3_11.out.trans (hb12.mono T3_11.out.size))
    have Gg_12 := Lib.hid (OwnP.below Gg_11.out hb12)
    rw [HR2.out] at he
    subst he
    clear hb12 hw12
    have hr2z : ((r2 : Int) != (r2 : Int)) = false := by simp
    go_wp2_with fail
    refine (toPairs w12 w.heap.size A0 n0 c0 ps0 (HW0.out.below HB12.out) HB12.out.size hn).mono ?_
    rintro e w13 ⟨rfl, hrow, hb13⟩
    have HB13 := Lib.hid (HB12.out.trans (hb13.mono HB12.out.size))
    have T3_13 := Lib.hid (T3_12.out.trans (hb13.mono T3_12.out.size))
    have Gg_13 := Lib.hid (OwnP.below Gg_12.out hb13)
    have Ry_13 := Lib.hid hrow
    clear hb13 hrow
    go_wp2_with fail
    refine (iClosureOf w13 w13.heap.size _ n0 n0 ps0 (Ry_13.out.pairsN (B := w13.heap.size) Ry_13.out.lt HW0.out.1) (Nat.le_refl _) hn q HQ.out).mono ?_
    rintro e w14 ⟨⟨vh, rfl, ho⟩, hb14⟩
    have HB14 := Lib.hid (HB13.out.trans (hb14.mono HB13.out.size))
    have T3_14 := Lib.hid (T3_13.out.trans (hb14.mono T3_13.out.size))
    have Ry_14 := Lib.hid (Ry_13.out.below hb14 Ry_13.out.lt)
    have Gg_14 := Lib.hid (OwnP.below Gg_13.out hb14)
    rw [← HL.out] at ho
    obtain ⟨Ah, nh, ch, rfl, hp⟩ := ho.pairs
    have Nh := Lib.hid hp.1
    have Gh_14 := Lib.hid ho
    clear hb14 ho hp
    go_wp2_with fail
    refine (eqPairs w14 w14.heap.size _ _ nh nw ch cw L L (OwnP.at Gh_14.out) ((HPw.out.below T3_14.out).more T3_14.out.size) (Nat.le_refl _) (by have := Nh.out; have := HLen.out; omega) true (by simp)).mono ?_
    rintro e w15 ⟨rfl, hb15⟩
    have HB15 := Lib.hid (HB14.out.trans (hb15.mono HB14.out.size))
    have T3_15 := Lib.hid (T3_14.out.trans (hb15.mono T3_14.out.size))
    have Gg_15 := Lib.hid (OwnP.below Gg_14.out hb15)
    have Gh_15 := Lib.hid (OwnP.below Gh_14.out hb15)
    clear hb15
    go_wp2_with fail
    refine (heldP w15 w4.heap.size _ 1 L.length Gg_15.out HLen.out (by decide)).mono ?_
    rintro e w16 ⟨he, hw16⟩
    have hb16 : Below w15.heap.size w15 w16 := by rw [← hw16]; exact Below.refl _ _
    have HB16 := Lib.hid (HB15.out.trans (hb16.mono HB15.out.size))
    have T3_16 := Lib.hid (T3_15.out.trans (hb16.mono T3_15.out.size))
    have Gg_16 := Lib.hid (OwnP.below Gg_15.out hb16)
    have Gh_16 := Lib.hid (OwnP.below Gh_15.out hb16)
    rw [HR2.out] at he
    subst he
    clear hb16 hw16
    go_wp2
    go_ret
    exact ⟨rfl, HB16.out⟩

set_option maxRecDepth 100000 in
theorem lifted (os : Os) (started : os.Started) (H : Type) (enc : TypeId × Value → H) :
    ReturnsInHanded {} Try.checked os 6 .any (Rows.fnExactClosureOfSpec.pre6 enc Try.prog Try.f6 Rows.fnExactClosureOfRow.domain false) (Rows.fnExactClosureOfSpec.post enc Try.prog Try.f6 false true false false) := by
  refine returnsInHanded_of_change (C := Try.checked) own started (by kernel_rfl) Try.func6
    (ChangeSpec.witness6 (enc := enc) (C := Try.checked) false ⟨#[], #[.slice none 0 0], []⟩ 8 (by kernel_rfl) (by kernel_rfl) (by kernel_rfl) (by kernel_rfl)) ?_
  intro W base args ds gs before hval0 hW hcnd _
  have hval : ∀ (j : Nat) t v, Try.f6.params[j]? = some t → args[j]? = some v → Value.okWide Try.prog W .any base t v := hval0
  have hW' := hW
  obtain ⟨p, q, hA0, hV, rfl, hfz, hnd⟩ := hW
  have hA : DataW.TrodAll enc Try.prog W 0 (fun _ => true) true Try.f6.params.toList args.toList ds p := hA0
  rw [Try.params6] at hA hval
  obtain ⟨v0, vs0, d0, ds0, p0, q0, hargs, rfl, rfl, h0, r0⟩ := trodAll_cons hA
  obtain ⟨rfl, rfl, rfl⟩ := trodAll_nil r0
  obtain rfl : args = #[v0] := by cases args; simp_all
  obtain ⟨rfl, rfl⟩ := trodVars_none hV
  have lt0 : ∀ x ∈ p0, x.block < W.heap.size := by obtain ⟨m, hm⟩ := h0; exact DataW.trod_lt m _ _ _ hm
  obtain ⟨A0, n0, c0, ps0, rfl, m0, w0⟩ := open_pairs (hval 0 39 v0 rfl rfl) h0
  clear hA0 hval0
  refine (walk A0 n0 c0 ps0 W m0 w0).mono fun e W' ⟨he, hb⟩ => ?_
  subst he
  exact ⟨_, rfl, _, _, _, [], _, [], hW', trodAll_mk1 (shut_bool Try.underlying4 _), (trodAll_cons_mk (Below.trod laidOut (by kernel_rfl) (of_decide_eq_true (by kernel_rfl)) h0 hb lt0) trodAll_mk0), rfl, hb.frame _, fun h => by cases h⟩

theorem holds : Rows.FnExactClosureOfSaid :=
  OpenClaim.holds_of_wide 6 Try.f6 rfl rfl rfl rfl rfl rfl rfl ⟨rfl, rfl, rfl, rfl, rfl⟩ rfl rfl rfl rfl rfl (by kernel_rfl) Try.func6 (by kernel_rfl)
    (of_decide_eq_true (by kernel_rfl)) (by unfold Func.isWrapper; first | (rw [if_pos (by decide +kernel)]; kernel_rfl) | (rw [if_neg (by decide +kernel)]; exact ⟨rfl, rfl⟩))
    (fun os started H enc _ => lifted os started H enc)

#print axioms holds
end Go.Proofs.Ytddpfnidnkhfpaa.fnExactClosureOf
