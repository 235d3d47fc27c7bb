/- The law of IdsOf returns true, whatever the slice of items: the program and the model answer the same; what came in reads as it did; the answer owns its memory. -/
import Derived.Test.YtldccopockaneaaRows
import Derived.Test.YtldccopockaneaaItemOpen
import Derived.Test.YtldccopockaneaaItemIds
import Derived.WalkKit
import Derived.ProofKit
import Derived.OpenShut
import Derived.ShutString
import Derived.Below
namespace Go.Proofs.Ytldccopockaneaa.fnExactIdsOf
open Go.ChangeShapes Go.WideShapes Go.ChangeAt Go.RowKit
open Go.ChangeMaps (open_string shut_string)
open Go.Proofs.Ytldccopockaneaa.num
set_option linter.unusedVariables false
set_option linter.unusedSimpArgs false

theorem own : ownKnob Try.prog.godebug = none := by kernel_rfl

theorem walk (A0 : Option Addr) (n0 c0 : Nat) (its0 : List It) (w : World) (m0 : n0 ≤ 9223372036854775807) (N0 : ∀ t ∈ its0, t.n ≤ 9223372036854775807) (w0 : Items w w.heap.size A0 n0 its0) :
    Calls Try.prog 6 #[.slice A0 n0 c0] w fun e w' => e = .returned (.bool true) ∧ Below w.heap.size w w' := by
  have HW0 := Lib.hid w0
  have HN0 := Lib.hid N0
  have HM0 := Lib.hid m0
  clear w0 N0 m0
  go_enter Try.func6, Try.ntmps6
  go_wp2_with fail
  refine (szItems _ w.heap.size A0 n0 c0 its0 (HW0.out) (Nat.le_refl _) HM0.out HN0.out 1048576 (by decide) (by decide)).mono ?_
  rintro e w1 ⟨⟨r0, rfl, hr0⟩, hb1⟩
  have HB1 := Lib.hid hb1
  clear hb1
  rcases hr0 with rfl | ⟨hr00, hr01, hrn0, hrN0⟩
  · go_wp2
    go_ret
    exact ⟨rfl, HB1.out⟩
  · have hn0 : n0 ≤ 1048576 := by omega
    have HN0b : Hid (∀ t ∈ its0, t.n ≤ 1048576) := Lib.hid fun t ht => by have := hrN0 t ht; omega
    clear hrn0 hrN0
    go_wp2_with fail
    refine (toItems w1 w.heap.size A0 n0 c0 its0 (HW0.out.below HB1.out) HB1.out.size hn0 HN0b.out).mono ?_
    rintro e w2 ⟨p, rfl, hd, hf, hb2⟩
    have HB2 := Lib.hid (HB1.out.trans (hb2.mono HB1.out.size))
    have Cp := Lib.hid (copy_of hn0 HN0b.out HW0.out hd hf)
    clear hd hf
    clear hb2
    go_wp2_with fail
    refine (sIds w2 w2.heap.size _ n0 n0 p Cp.out.items (Nat.le_refl _) hn0).mono ?_
    rintro e w3 ⟨⟨Aw, nw, cw, rfl, hiw⟩, hb3⟩
    have HB3 := Lib.hid (HB2.out.trans (hb3.mono HB2.out.size))
    have HIw := Lib.hid hiw
    clear hiw
    clear hb3
    have T3_3 := Lib.hid (Below.refl w3.heap.size w3)
    go_wp2_with fail
    refine (toItems w3 w.heap.size A0 n0 c0 its0 (HW0.out.below HB3.out) HB3.out.size hn0 HN0b.out).mono ?_
    rintro e w4 ⟨x, rfl, hd, hf, hb4⟩
    have HB4 := Lib.hid (HB3.out.trans (hb4.mono HB3.out.size))
    have T3_4 := Lib.hid (T3_3.out.trans (hb4.mono T3_3.out.size))
    have Cx := Lib.hid (copy_of hn0 HN0b.out HW0.out hd hf)
    clear hd hf
    clear hb4
    have T4_4 := Lib.hid (Below.refl w4.heap.size w4)
    go_wp2_with fail
    refine (iIds w4 w4.heap.size _ n0 n0 x Cx.out.items (Nat.le_refl _) hn0).mono ?_
    rintro e w5 ⟨rfl, hg, hb5⟩
    have HB5 := Lib.hid (HB4.out.trans (hb5.mono HB4.out.size))
    have T3_5 := Lib.hid (T3_4.out.trans (hb5.mono T3_4.out.size))
    have T4_5 := Lib.hid (T4_4.out.trans (hb5.mono T4_4.out.size))
    have HG := Lib.hid hg
    clear hg
    have Cx' := Lib.hid (Cx.out.below hb5)
    clear hb5
    have hidl : Hid (idL x = idL p) := Lib.hid (idL_dat (by rw [Cx.out.dat, Cp.out.dat]))
    have hlx : Hid ((idL x).length = n0) := Lib.hid (by rw [idL_len]; exact Cx.out.len)
    go_wp2_with fail
    refine (eqInts_b w5 w5.heap.size _ _ n0 nw n0 cw _ _ (hlx.out ▸ HG.out.ints HG.out.lt) ((HIw.out.below T3_5.out).more T3_5.out.size) hn0 true (by rw [hidl.out]; simp)).mono ?_
    rintro e w6 ⟨rfl, hb6⟩
    have HB6 := Lib.hid (HB5.out.trans (hb6.mono HB5.out.size))
    have T3_6 := Lib.hid (T3_5.out.trans (hb6.mono T3_5.out.size))
    have T4_6 := Lib.hid (T4_5.out.trans (hb6.mono T4_5.out.size))
    have HG' := Lib.hid (HG.out.below hb6 HG.out.lt)
    have Cx'' := Lib.hid (Cx'.out.below hb6)
    clear hb6
    go_wp2_with fail
    refine (toItems w6 w.heap.size A0 n0 c0 its0 (HW0.out.below HB6.out) HB6.out.size hn0 HN0b.out).mono ?_
    rintro e w7 ⟨z, rfl, hd, hf, hb7⟩
    have HB7 := Lib.hid (HB6.out.trans (hb7.mono HB6.out.size))
    have T3_7 := Lib.hid (T3_6.out.trans (hb7.mono T3_6.out.size))
    have T4_7 := Lib.hid (T4_6.out.trans (hb7.mono T4_6.out.size))
    have Cz := Lib.hid (copy_of hn0 HN0b.out HW0.out hd hf)
    clear hd hf
    have HG'' := Lib.hid (HG'.out.below hb7 HG'.out.lt)
    have Cu := Lib.hid (Cx''.out.below hb7)
    clear hb7
    clear Cx''
    go_wp2_with fail
    refine (eqItems w7 w7.heap.size _ _ n0 n0 n0 n0 x z Cu.out.items Cz.out.items (Nat.le_refl _) hn0 Cu.out.small true (by rw [Cu.out.dat, Cz.out.dat]; simp)).mono ?_
    rintro e w8 ⟨rfl, hb8⟩
    have HB8 := Lib.hid (HB7.out.trans (hb8.mono HB7.out.size))
    have T3_8 := Lib.hid (T3_7.out.trans (hb8.mono T3_7.out.size))
    have T4_8 := Lib.hid (T4_7.out.trans (hb8.mono T4_7.out.size))
    have HG3 := Lib.hid (HG''.out.below hb8 HG''.out.lt)
    have Cv := Lib.hid (Cu.out.below hb8)
    clear hb8
    go_wp2_with fail
    refine (markItems w8 w3.heap.size n0 n0 w4.heap.size x (mark_start Cv.out) (fun t ht => (slot_start Cx.out t ht).below T4_8.out) Cv.out.len Cx.out.fresh.lt hn0 Cv.out.small).mono ?_
    rintro e w9 ⟨⟨r1, rfl⟩, hm⟩
    have HB9 := Lib.hid (HB8.out.trans (hm.below.mono HB3.out.size))
    have T3_9 := Lib.hid (T3_8.out.trans hm.below)
    have HG4 := Lib.hid (hm.row HG3.out (Nat.le_refl _))
    clear hm
    go_wp2_with fail
    refine (eqInts_b w9 w9.heap.size _ _ n0 nw n0 cw _ _ (hlx.out ▸ HG4.out.ints HG4.out.lt) ((HIw.out.below T3_9.out).more T3_9.out.size) hn0 true (by rw [hidl.out]; simp)).mono ?_
    rintro e w10 ⟨rfl, hb10⟩
    have HB10 := Lib.hid (HB9.out.trans (hb10.mono HB9.out.size))
    have T3_10 := Lib.hid (T3_9.out.trans (hb10.mono T3_9.out.size))
    have HG5 := Lib.hid (HG4.out.below hb10 HG4.out.lt)
    clear hb10
    go_wp2_with fail
    refine (markInts w10 w4.heap.size n0 n0 (idL x) HG5.out hlx.out hn0 1 (by decide)).mono ?_
    rintro e w11 ⟨rfl, hm, ho⟩
    have HB11 := Lib.hid (HB10.out.trans (ho.below HB4.out.size))
    have T3_11 := Lib.hid (T3_10.out.trans (ho.below T3_4.out.size))
    have HG6 := Lib.hid hm
    clear hm ho
    go_wp2_with fail
    refine (heldInts w11 w4.heap.size n0 n0 1 HG6.out hn0 (by decide)).mono ?_
    rintro e wq ⟨rfl, rfl⟩
    go_wp2_with fail
    refine (toItems w11 w.heap.size A0 n0 c0 its0 (HW0.out.below HB11.out) HB11.out.size hn0 HN0b.out).mono ?_
    rintro e w12 ⟨y, rfl, hd, hf, hb12⟩
    have HB12 := Lib.hid (HB11.out.trans (hb12.mono HB11.out.size))
    have T3_12 := Lib.hid (T3_11.out.trans (hb12.mono T3_11.out.size))
    have Cy := Lib.hid (copy_of hn0 HN0b.out HW0.out hd hf)
    clear hd hf
    have HG7 := Lib.hid (HG6.out.below hb12 HG6.out.lt)
    clear hb12
    go_wp2_with fail
    refine (iIds w12 w12.heap.size _ n0 n0 y Cy.out.items (Nat.le_refl _) hn0).mono ?_
    rintro e w13 ⟨rfl, hg, hb13⟩
    have HB13 := Lib.hid (HB12.out.trans (hb13.mono HB12.out.size))
    have T3_13 := Lib.hid (T3_12.out.trans (hb13.mono T3_12.out.size))
    have HH := Lib.hid hg
    clear hg
    have HG8 := Lib.hid (HG7.out.below hb13 HG7.out.lt)
    clear hb13
    have hidy : Hid (idL y = idL p) := Lib.hid (idL_dat (by rw [Cy.out.dat, Cp.out.dat]))
    have hly : Hid ((idL y).length = n0) := Lib.hid (by rw [idL_len]; exact Cy.out.len)
    go_wp2_with fail
    refine (eqInts_b w13 w13.heap.size _ _ n0 nw n0 cw _ _ (hly.out ▸ HH.out.ints HH.out.lt) ((HIw.out.below T3_13.out).more T3_13.out.size) hn0 true (by rw [hidy.out]; simp)).mono ?_
    rintro e w14 ⟨rfl, hb14⟩
    have HB14 := Lib.hid (HB13.out.trans (hb14.mono HB13.out.size))
    have T3_14 := Lib.hid (T3_13.out.trans (hb14.mono T3_13.out.size))
    have HG9 := Lib.hid (HG8.out.below hb14 HG8.out.lt)
    clear hb14
    go_wp2_with fail
    refine (heldInts w14 w4.heap.size n0 n0 1 HG9.out hn0 (by decide)).mono ?_
    rintro e wq ⟨rfl, rfl⟩
    go_wp2
    go_ret
    exact ⟨rfl, HB14.out⟩

set_option maxRecDepth 100000 in
theorem lifted (os : Os) (started : os.Started) (H : Type) (enc : TypeId × Value → H) :
    ReturnsInHanded {} Try.checked os 6 .any (Rows.fnExactIdsOfSpec.pre6 enc Try.prog Try.f6 Rows.fnExactIdsOfRow.domain false) (Rows.fnExactIdsOfSpec.post enc Try.prog Try.f6 false true false false) := by
  refine returnsInHanded_of_change (C := Try.checked) own started (by kernel_rfl) Try.func6
    (ChangeSpec.witness6 (enc := enc) (C := Try.checked) false ⟨#[], #[.slice none 0 0], []⟩ 8 (by kernel_rfl) (by kernel_rfl) (by kernel_rfl) (by kernel_rfl)) ?_
  intro W base args ds gs before hval0 hW hcnd _
  have hval : ∀ (j : Nat) t v, Try.f6.params[j]? = some t → args[j]? = some v → Value.okWide Try.prog W .any base t v := hval0
  have hW' := hW
  obtain ⟨p, q, hA0, hV, rfl, hfz, hnd⟩ := hW
  have hA : DataW.TrodAll enc Try.prog W 0 (fun _ => true) true Try.f6.params.toList args.toList ds p := hA0
  rw [Try.params6] at hA hval
  obtain ⟨v0, vs0, d0, ds0, p0, q0, hargs, rfl, rfl, h0, r0⟩ := trodAll_cons hA
  obtain ⟨rfl, rfl, rfl⟩ := trodAll_nil r0
  obtain rfl : args = #[v0] := by cases args; simp_all
  obtain ⟨rfl, rfl⟩ := trodVars_none hV
  have lt0 : ∀ x ∈ p0, x.block < W.heap.size := by obtain ⟨m, hm⟩ := h0; exact DataW.trod_lt m _ _ _ hm
  obtain ⟨A0, n0, c0, its0, rfl, m0, N0, w0⟩ := open_items (hval 0 31 v0 rfl rfl) h0
  clear hA0 hval0
  refine (walk A0 n0 c0 its0 W m0 N0 w0).mono fun e W' ⟨he, hb⟩ => ?_
  subst he
  exact ⟨_, rfl, _, _, _, [], _, [], hW', trodAll_mk1 (shut_bool Try.underlying4 _), (trodAll_cons_mk (Below.trod laidOut (by kernel_rfl) (of_decide_eq_true (by kernel_rfl)) h0 hb lt0) trodAll_mk0), rfl, hb.frame _, fun h => by cases h⟩

theorem holds : Rows.FnExactIdsOfSaid :=
  OpenClaim.holds_of_wide 6 Try.f6 rfl rfl rfl rfl rfl rfl rfl ⟨rfl, rfl, rfl, rfl, rfl⟩ rfl rfl rfl rfl rfl (by kernel_rfl) Try.func6 (by kernel_rfl)
    (of_decide_eq_true (by kernel_rfl)) (by unfold Func.isWrapper; first | (rw [if_pos (by decide +kernel)]; kernel_rfl) | (rw [if_neg (by decide +kernel)]; exact ⟨rfl, rfl⟩))
    (fun os started H enc _ => lifted os started H enc)

#print axioms holds
end Go.Proofs.Ytldccopockaneaa.fnExactIdsOf
