/- The law of WeightLists returns true: the program and the model answer the same; what the program hands back is memory of its own. -/
import Derived.Test.YtjjlhiaghjipcaaRows
import Derived.Test.YtjjlhiaghjipcaaItemOpen
import Derived.Test.YtjjlhiaghjipcaaLawRows
import Derived.Test.YtjjlhiaghjipcaaWeightI
import Derived.Test.YtjjlhiaghjipcaaWeightS
import Derived.WalkKit
import Derived.ProofKit
import Derived.OpenShut
import Derived.ShutString
import Derived.Below
namespace Go.Proofs.Ytjjlhiaghjipcaa.fnExactWeightLists
set_option maxRecDepth 20000
open Go.ChangeShapes Go.WideShapes Go.ChangeAt Go.RowKit
open Go.ChangeMaps (open_string shut_string)
open Go.Proofs.Ytjjlhiaghjipcaa.num
set_option linter.unusedVariables false
set_option linter.unusedSimpArgs false

theorem own : ownKnob Try.prog.godebug = none := by kernel_rfl

set_option maxHeartbeats 3200000 in
theorem walk  (w : World)  :
    Calls Try.prog 4 #[] w fun e w' => e = .returned (.bool true) ∧ Below w.heap.size w w' := by
  go_enter Try.func4, Try.ntmps4
  go_wp2_with fail
  refine (sWL w).mono ?_
  rintro e w1 ⟨⟨Aa, ca, ra, rfl, hxa, hoa⟩, hb1⟩
  have HB1 := Lib.hid hb1
  have HXa := Lib.hid hxa
  have Ra_1 := Lib.hid (ResV.new hoa.view (by decide))
  clear hxa hoa hb1
  go_wp2_with fail
  refine (iWL w1).mono ?_
  rintro e w2 ⟨⟨bg, og, cg, rg, rfl, -, -, hxg, hog⟩, hb2⟩
  have HB2 := Lib.hid (below_on HB1.out hb2)
  have HXg := Lib.hid hxg
  have Ra_2 := Lib.hid (Ra_1.out.step hb2)
  have Rg_2 := Lib.hid (ResV.new hog (by decide))
  have HSg : Hid (∀ x ∈ rg, x.xs.length ≤ 1000) := Lib.hid fun x hx => by
    have h := (wl_ok (w := x.xs) (by rw [← hxg]; exact List.mem_map_of_mem hx)).1
    omega
  have HL12 : Hid (w1.heap.size ≤ w2.heap.size ∧ w.heap.size ≤ w1.heap.size) := Lib.hid ⟨hb2.size, HB1.out.size⟩
  clear hxg hog hb2
  go_wp2_with fail
  refine (eqRows w2 _ _ _ _ 63 _ _ rg ra Rg_2.out.own Ra_2.out.own (HXg.out.trans HXa.out.symm) (by decide) (fun x hx => by have := HSg.out x hx; omega)).mono ?_
  rintro e w3 ⟨rfl, hb3⟩
  have HB3 := Lib.hid (below_on HB2.out hb3)
  have Ra_3 := Lib.hid (Ra_2.out.step hb3)
  have Rg_3 := Lib.hid (Rg_2.out.step hb3)
  clear hb3
  go_wp2_with fail
  refine (markRowsZ w3 _ _ 63 _ rg Rg_3.out.own (by decide) HSg.out _ 1 (by simp) (by decide)).mono ?_
  rintro e w4 ⟨rfl, hmk, hon⟩
  have HB4 := Lib.hid (HB3.out.trans (hon.below (B := w.heap.size) fun k hk => by
    obtain ⟨x, hx, hk⟩ := hk
    obtain ⟨i, hi, rfl⟩ := List.getElem_of_mem hx
    have h1 := ownI_lows (Rg_3.out.own.x i _ (List.getElem?_eq_getElem hi)) k hk
    have h2 := HL12.out
    omega))
  have Ra_4 := Lib.hid (Ra_3.out.only hon (fun b hb => by
    obtain ⟨x, hx, hk⟩ := hb
    obtain ⟨i, hi, rfl⟩ := List.getElem_of_mem hx
    exact .inr (ownI_lows (Rg_3.out.own.x i _ (List.getElem?_eq_getElem hi)) b hk)))
  have Mg_4 := Lib.hid hmk
  clear hmk hon
  obtain ⟨M, hM⟩ : ∃ M : Nat, 1 + cntG cntR1 rg = M := ⟨_, rfl⟩
  have HM := Lib.hid hM
  rw [hM]
  clear hM
  have hm1 : decide ((M : Int) < 0) = false := by simp
  have hm2 : ((M : Int) != (M : Int)) = false := by simp
  go_wp2_with fail
  refine (heldRowsZ w4 _ _ 63 _ rg _ 1 (by simp) Mg_4.out (by decide) HSg.out (by decide)).mono ?_
  rintro e wh ⟨rfl, hw⟩
  rw [← hw, HM.out]
  clear hw wh
  go_wp2_with fail
  refine (iWL w4).mono ?_
  rintro e w5 ⟨⟨bh, oh, ch, rh, rfl, -, -, hxh, hoh⟩, hb5⟩
  have HB5 := Lib.hid (below_on HB4.out hb5)
  have HXh := Lib.hid hxh
  have Ra_5 := Lib.hid (Ra_4.out.step hb5)
  have Mg_5 := Lib.hid (Mg_4.out.below hb5)
  have Rh_5 := Lib.hid (ResV.new hoh (by decide))
  have HSh : Hid (∀ x ∈ rh, x.xs.length ≤ 1000) := Lib.hid fun x hx => by
    have h := (wl_ok (w := x.xs) (by rw [← hxh]; exact List.mem_map_of_mem hx)).1
    omega
  clear hxh hoh hb5
  go_wp2_with fail
  refine (eqRows w5 _ _ _ _ 63 _ _ rh ra Rh_5.out.own Ra_5.out.own (HXh.out.trans HXa.out.symm) (by decide) (fun x hx => by have := HSh.out x hx; omega)).mono ?_
  rintro e w6 ⟨rfl, hb6⟩
  have HB6 := Lib.hid (below_on HB5.out hb6)
  have Mg_6 := Lib.hid (Mg_5.out.below hb6)
  clear hb6
  go_wp2_with fail
  refine (heldRowsZ w6 _ _ 63 _ rg _ 1 (by simp) Mg_6.out (by decide) HSg.out (by decide)).mono ?_
  rintro e wh ⟨rfl, hw⟩
  rw [← hw, HM.out]
  clear hw wh
  go_wp2
  go_ret
  exact ⟨rfl, HB6.out⟩

set_option maxRecDepth 100000 in
theorem lifted (os : Os) (started : os.Started) (H : Type) (enc : TypeId × Value → H) :
    ReturnsInHanded {} Try.checked os 4 .any (Rows.fnExactWeightListsSpec.pre6 enc Try.prog Try.f4 Rows.fnExactWeightListsRow.domain false) (Rows.fnExactWeightListsSpec.post enc Try.prog Try.f4 false true false false) := by
  refine returnsInHanded_of_change (C := Try.checked) own started (by kernel_rfl) Try.func4
    (ChangeSpec.witness6 (enc := enc) (C := Try.checked) false ⟨#[], #[], []⟩ 8 (by kernel_rfl) (by kernel_rfl) (by kernel_rfl) (by kernel_rfl)) ?_
  intro W base args ds gs before hval0 hW hcnd _
  have hval : ∀ (j : Nat) t v, Try.f4.params[j]? = some t → args[j]? = some v → Value.okWide Try.prog W .any base t v := hval0
  have hW' := hW
  obtain ⟨p, q, hA0, hV, rfl, hfz, hnd⟩ := hW
  have hA : DataW.TrodAll enc Try.prog W 0 (fun _ => true) true Try.f4.params.toList args.toList ds p := hA0
  rw [Try.params4] at hA hval
  obtain ⟨ha0, rfl, rfl⟩ := trodAll_nil hA
  obtain rfl : args = #[] := by cases args; simp_all
  obtain ⟨rfl, rfl⟩ := trodVars_none hV
  clear hA0 hval0
  refine (walk  W ).mono fun e W' ⟨he, hb⟩ => ?_
  subst he
  exact ⟨_, rfl, _, _, _, [], _, [], hW', trodAll_mk1 (shut_bool Try.underlying4 _), trodAll_mk0, rfl, hb.frame _, fun h => by cases h⟩

theorem holds : Rows.FnExactWeightListsSaid :=
  OpenClaim.holds_of_wide 4 Try.f4 rfl rfl rfl rfl rfl rfl rfl ⟨rfl, rfl, rfl, rfl, rfl⟩ rfl rfl rfl rfl rfl (by kernel_rfl) Try.func4 (by kernel_rfl)
    (of_decide_eq_true (by kernel_rfl)) (by unfold Func.isWrapper; first | (rw [if_pos (by decide +kernel)]; kernel_rfl) | (rw [if_neg (by decide +kernel)]; exact ⟨rfl, rfl⟩))
    (fun os started H enc _ => lifted os started H enc)

#print axioms holds
end Go.Proofs.Ytjjlhiaghjipcaa.fnExactWeightLists
