/- The law of IsItem returns true, whatever the item: the program and the model answer the same; what came in reads as it did. -/
import Derived.Test.YtldccopockaneaaRows
import Derived.Test.YtldccopockaneaaItemOpen
import Derived.Test.YtldccopockaneaaItemImpl
import Derived.WalkKit
import Derived.ProofKit
import Derived.OpenShut
import Derived.ShutString
import Derived.Below
namespace Go.Proofs.Ytldccopockaneaa.fnExactIsItem
open Go.ChangeShapes Go.WideShapes Go.ChangeAt Go.RowKit
open Go.ChangeMaps (open_string shut_string)
open Go.Proofs.Ytldccopockaneaa.num
set_option linter.unusedVariables false
set_option linter.unusedSimpArgs false

theorem own : ownKnob Try.prog.godebug = none := by kernel_rfl

theorem walk (t0 : It) (w : World) (n0 : t0.n ≤ 9223372036854775807) (w0 : Ints w w.heap.size t0.A t0.n t0.xs) :
    Calls Try.prog 3 #[t0.val] w fun e w' => e = .returned (.bool true) ∧ Below w.heap.size w w' := by
  obtain ⟨id, A, n, c, xs⟩ := t0
  unfold It.val
  simp only [] at n0 w0
  have HW0 := Lib.hid w0
  have HN0 := Lib.hid n0
  clear w0 n0
  by_cases hle : n ≤ 1048576
  · have hn := Lib.hid hle
    obtain ⟨q, hq⟩ := bool_of (IsP (id, xs))
    have HQ := Lib.hid hq
    clear hq
    go_enter Try.func3, Try.ntmps3
    go_wp2_with fail
    refine (szItem_yes ⟨id, A, n, c, xs⟩ 1048576 HN0.out (by show (n : Int) ≤ 1048576; have := hn.out; omega) (by decide) _).mono ?_
    rintro e w1 ⟨rfl, hb1⟩
    have HZ := Lib.hid (((Below.refl w.heap.size w).alloc (Nat.le_refl _) (.cells #[.int .i64 id, .slice A n c] 24)).trans (hb1.mono (by simp)))
    have hg : Hid (w.heap.size < w1.heap.size) := Lib.hid (by have := hb1.size; simp at this; omega)
    have Q1 : Hid (w1.cell? ⟨w.heap.size, 0, none⟩ = some (.int .i64 id) ∧ w1.cell? ⟨w.heap.size, 1, none⟩ = some (.slice A n c)) := Lib.hid ⟨(hb1.cell (p := ⟨w.heap.size, 0, none⟩) (by simp)).trans (World.cell?_alloc_at _ _ _ _ rfl), (hb1.cell (p := ⟨w.heap.size, 1, none⟩) (by simp)).trans (World.cell?_alloc_at _ _ _ _ rfl)⟩
    have HW1 := Lib.hid ((HW0.out.below HZ.out).more HZ.out.size)
    have HB1 := Lib.hid (Below.refl w1.heap.size w1)
    clear hb1 hle
    have hge : ¬ ((1048576 : Int) - (n : Int) < 0) := by have := hn.out; omega
    have q0 := Q1.out.1
    have q1 := Q1.out.2
    go_wp2_with fail
    refine (toItem_c w1 w1.heap.size ⟨id, A, n, c, xs⟩ (HW1.out.below HB1.out) HB1.out.size hn.out).mono ?_
    rintro e w2 ⟨bp, rfl, _, hr, hb2⟩
    have HB2 := Lib.hid (HB1.out.trans (hb2.mono HB1.out.size))
    have Rp := Lib.hid hr
    clear hr
    clear hb2 q0 q1
    have q0 := (HB2.out.cell (p := ⟨w.heap.size, 0, none⟩) hg.out).trans Q1.out.1
    have q1 := (HB2.out.cell (p := ⟨w.heap.size, 1, none⟩) hg.out).trans Q1.out.2
    go_wp2_with fail
    refine (sIsItem w2 w2.heap.size ⟨id, some ⟨bp, 0, none⟩, n, n, xs⟩ (ints_row HW1.out Rp.out) (Nat.le_refl _) hn.out q HQ.out).mono ?_
    rintro e w3 ⟨rfl, hb3⟩
    have HB3 := Lib.hid (HB2.out.trans (hb3.mono HB2.out.size))
    clear hb3 q0 q1
    have q0 := (HB3.out.cell (p := ⟨w.heap.size, 0, none⟩) hg.out).trans Q1.out.1
    have q1 := (HB3.out.cell (p := ⟨w.heap.size, 1, none⟩) hg.out).trans Q1.out.2
    go_wp2_with fail
    refine (toItem_c w3 w1.heap.size ⟨id, A, n, c, xs⟩ (HW1.out.below HB3.out) HB3.out.size hn.out).mono ?_
    rintro e w4 ⟨bx, rfl, _, hr, hb4⟩
    have HB4 := Lib.hid (HB3.out.trans (hb4.mono HB3.out.size))
    have Rx := Lib.hid hr
    clear hr
    clear hb4 q0 q1
    have q0 := (HB4.out.cell (p := ⟨w.heap.size, 0, none⟩) hg.out).trans Q1.out.1
    have q1 := (HB4.out.cell (p := ⟨w.heap.size, 1, none⟩) hg.out).trans Q1.out.2
    unfold It.val
    go_wp2_with fail
    refine (iIsItem _ w4.heap.size ⟨id, some ⟨bx, 0, none⟩, n, n, xs⟩ ((ints_row HW1.out Rx.out).below ((Below.refl _ w4).alloc (Nat.le_refl _) _)) (by simp) q HQ.out).mono ?_
    rintro e w5 ⟨rfl, hx5⟩
    have hb5 := ((Below.refl w4.heap.size w4).alloc (Nat.le_refl _) (.cells #[.int .i64 id, .slice (some ⟨bx, 0, none⟩) n n] 27)).trans (hx5.mono (by simp))
    have HB5 := Lib.hid (HB4.out.trans (hb5.mono HB4.out.size))
    have X5 : Hid (w4.heap.size < w5.heap.size ∧ w5.cell? ⟨w4.heap.size, 0, none⟩ = some (.int .i64 id) ∧ w5.cell? ⟨w4.heap.size, 1, none⟩ = some (.slice (some ⟨bx, 0, none⟩) n n)) := Lib.hid ⟨by have := hx5.size; simp at this; omega, (hx5.cell (p := ⟨w4.heap.size, 0, none⟩) (by simp)).trans (World.cell?_alloc_at _ _ _ _ rfl), (hx5.cell (p := ⟨w4.heap.size, 1, none⟩) (by simp)).trans (World.cell?_alloc_at _ _ _ _ rfl)⟩
    have Ry := Lib.hid (Rx.out.below hb5 Rx.out.lt)
    clear hb5 hx5 q0 q1
    have q0 := (HB5.out.cell (p := ⟨w.heap.size, 0, none⟩) hg.out).trans Q1.out.1
    have q1 := (HB5.out.cell (p := ⟨w.heap.size, 1, none⟩) hg.out).trans Q1.out.2
    have x0 := X5.out.2.1
    have x1 := X5.out.2.2
    have hqq : (q != q) = false := by simp
    go_wp2
    have hql : w.heap.size < w5.heap.size := Nat.lt_of_lt_of_le hg.out HB5.out.size
    have hxl := X5.out.1
    have hs0 : Below w5.heap.size w5 w5.drew ∧ w5.drew.cell? ⟨w.heap.size, 0, none⟩ = some (.int .i64 id) ∧ w5.drew.cell? ⟨w.heap.size, 1, none⟩ = some (.slice A n c) ∧ w5.drew.cell? ⟨w4.heap.size, 0, none⟩ = some (.int .i64 id) ∧ w5.drew.cell? ⟨w4.heap.size, 1, none⟩ = some (.slice (some ⟨bx, 0, none⟩) n n) := ⟨(Below.refl _ _).drew, q0, q1, x0, x1⟩
    refine wp_region_held (S := fun w' => Below w5.heap.size w5 w' ∧ w'.cell? ⟨w.heap.size, 0, none⟩ = some (.int .i64 id) ∧ w'.cell? ⟨w.heap.size, 1, none⟩ = some (.slice A n c) ∧ w'.cell? ⟨w4.heap.size, 0, none⟩ = some (.int .i64 id) ∧ w'.cell? ⟨w4.heap.size, 1, none⟩ = some (.slice (some ⟨bx, 0, none⟩) n n)) (by kernel_rfl) ?_
    change wpAnyH _ _ _ _ _ _ _ _ (World.drew _)
    refine takeY 22 (i := 0) (v := ?v0a) rfl rfl (by kernel_rfl) (by kernel_rfl) (by kernel_rfl) (fun _ _ _ h => h) (by kernel_rfl) ?y0a hs0 ?_
    case y0a =>
      intro w' hw'; (try dsimp only at hw'); obtain ⟨e0, e1, e2, e3, e4⟩ := hw'; go_simp; try with_reducible rfl
    simp only [Act.put, List.setIfInBounds_toArray, List.set_cons_zero, List.set_cons_succ]
    refine takeY 23 (i := 1) (v := ?v1a) rfl rfl (by kernel_rfl) (by kernel_rfl) (by kernel_rfl) (fun _ _ _ h => h) (by kernel_rfl) ?y1a hs0 ?_
    case y1a =>
      intro w' hw'; (try dsimp only at hw'); obtain ⟨e0, e1, e2, e3, e4⟩ := hw'; go_simp; try with_reducible rfl
    simp only [Act.put, List.setIfInBounds_toArray, List.set_cons_zero, List.set_cons_succ]
    refine wpAnyH_ready (rs := [2]) (by kernel_rfl) (by simp) ?_
    refine AllReadyH.cons rfl (fun K hK => ?_) AllReadyH.nil
    go_simp; go_at_call 10; refine (toItem_c _ w1.heap.size ⟨id, A, n, c, xs⟩ (HW1.out.below HB5.out.drew) HB5.out.size hn.out).mono ?_; rintro e wy ⟨bz, rfl, _, hr, hy⟩; replace hy := (Below.refl w5.heap.size w5).drew.trans (hy.mono (Nat.le_refl _)); have Rz := Lib.hid hr; have Rv := Lib.hid (Ry.out.below hy Ry.out.lt); clear hr
    refine hK.out _ _ ⟨hy, (hy.cell (p := ⟨w.heap.size, 0, none⟩) hql).trans q0, (hy.cell (p := ⟨w.heap.size, 1, none⟩) hql).trans q1, (hy.cell (p := ⟨w4.heap.size, 0, none⟩) hxl).trans x0, (hy.cell (p := ⟨w4.heap.size, 1, none⟩) hxl).trans x1⟩ (fun hS1 => ?_)
    clear hK K
    try simp only [Act.put, List.setIfInBounds_toArray, List.set_cons_zero, List.set_cons_succ]
    refine wpAnyH_ready (rs := [3]) (by kernel_rfl) (by simp) ?_
    refine AllReadyH.cons rfl (fun K hK => ?_) AllReadyH.nil
    go_simp; go_at_call 12; refine (eqItem_c _ wy.heap.size ⟨id, some ⟨bx, 0, none⟩, n, n, xs⟩ ⟨id, some ⟨bz, 0, none⟩, n, n, xs⟩ (ints_row HW1.out Rv.out) (ints_row HW1.out Rz.out) (Nat.le_refl _) hn.out true (by simp [It.dat])).mono ?_; rintro e wz ⟨rfl, hz⟩; replace hz := hy.trans (hz.mono hy.size)
    refine hK.out _ _ ⟨hz, (hz.cell (p := ⟨w.heap.size, 0, none⟩) hql).trans q0, (hz.cell (p := ⟨w.heap.size, 1, none⟩) hql).trans q1, (hz.cell (p := ⟨w4.heap.size, 0, none⟩) hxl).trans x0, (hz.cell (p := ⟨w4.heap.size, 1, none⟩) hxl).trans x1⟩ (fun hS2 => ?_)
    clear hK K
    try simp only [Act.put, List.setIfInBounds_toArray, List.set_cons_zero, List.set_cons_succ]
    refine takeY 26 (i := 4) (v := ?v4a) rfl rfl (by kernel_rfl) (by kernel_rfl) (by kernel_rfl) (fun _ _ _ h => h) (by kernel_rfl) ?y4a hS2 ?_
    case y4a =>
      intro w' hw'; (try dsimp only at hw'); obtain ⟨e0, e1, e2, e3, e4⟩ := hw'; go_simp; try with_reducible rfl
    simp only [Act.put, List.setIfInBounds_toArray, List.set_cons_zero, List.set_cons_succ]
    refine wpAnyH_done (by kernel_rfl) ?_ _
    have HB6 := Lib.hid (HB5.out.trans (hz.mono HB5.out.size))
    clear hz hy q0 q1 x0 x1 hs0
    go_wp2
    go_ret
    exact ⟨rfl, HZ.out.trans (HB6.out.mono HZ.out.size)⟩
  · go_enter Try.func3, Try.ntmps3
    go_wp2_with fail
    refine (szItem_no ⟨id, A, n, c, xs⟩ 1048576 HN0.out (by show (1048576 : Int) < n; omega) (by decide) _).mono ?_
    rintro e w1 ⟨rfl, hb1⟩
    have HZ := Lib.hid (((Below.refl w.heap.size w).alloc (Nat.le_refl _) (.cells #[.int .i64 id, .slice A n c] 24)).trans (hb1.mono (by simp)))
    clear hb1
    go_wp2
    go_ret
    exact ⟨rfl, HZ.out⟩

set_option maxRecDepth 100000 in
theorem lifted (os : Os) (started : os.Started) (H : Type) (enc : TypeId × Value → H) :
    ReturnsInHanded {} Try.checked os 3 .any (Rows.fnExactIsItemSpec.pre6 enc Try.prog Try.f3 Rows.fnExactIsItemRow.domain false) (Rows.fnExactIsItemSpec.post enc Try.prog Try.f3 false true false false) := by
  refine returnsInHanded_of_change (C := Try.checked) own started (by kernel_rfl) Try.func3
    (ChangeSpec.witness6 (enc := enc) (C := Try.checked) false ⟨#[], #[.agg #[.int .i64 0, .slice none 0 0]], []⟩ 8 (by kernel_rfl) (by kernel_rfl) (by kernel_rfl) (by kernel_rfl)) ?_
  intro W base args ds gs before hval0 hW hcnd _
  have hval : ∀ (j : Nat) t v, Try.f3.params[j]? = some t → args[j]? = some v → Value.okWide Try.prog W .any base t v := hval0
  have hW' := hW
  obtain ⟨p, q, hA0, hV, rfl, hfz, hnd⟩ := hW
  have hA : DataW.TrodAll enc Try.prog W 0 (fun _ => true) true Try.f3.params.toList args.toList ds p := hA0
  rw [Try.params3] at hA hval
  obtain ⟨v0, vs0, d0, ds0, p0, q0, hargs, rfl, rfl, h0, r0⟩ := trodAll_cons hA
  obtain ⟨rfl, rfl, rfl⟩ := trodAll_nil r0
  obtain rfl : args = #[v0] := by cases args; simp_all
  obtain ⟨rfl, rfl⟩ := trodVars_none hV
  have lt0 : ∀ x ∈ p0, x.block < W.heap.size := by obtain ⟨m, hm⟩ := h0; exact DataW.trod_lt m _ _ _ hm
  obtain ⟨t0, rfl, n0, w0⟩ := open_item (hval 0 24 v0 rfl rfl) h0
  clear hA0 hval0
  refine (walk t0 W n0 w0).mono fun e W' ⟨he, hb⟩ => ?_
  subst he
  exact ⟨_, rfl, _, _, _, [], _, [], hW', trodAll_mk1 (shut_bool Try.underlying4 _), (trodAll_cons_mk (Below.trod laidOut (by kernel_rfl) (of_decide_eq_true (by kernel_rfl)) h0 hb lt0) trodAll_mk0), rfl, hb.frame _, fun h => by cases h⟩

theorem holds : Rows.FnExactIsItemSaid :=
  OpenClaim.holds_of_wide 3 Try.f3 rfl rfl rfl rfl rfl rfl rfl ⟨rfl, rfl, rfl, rfl, rfl⟩ rfl rfl rfl rfl rfl (by kernel_rfl) Try.func3 (by kernel_rfl)
    (of_decide_eq_true (by kernel_rfl)) (by unfold Func.isWrapper; first | (rw [if_pos (by decide +kernel)]; kernel_rfl) | (rw [if_neg (by decide +kernel)]; exact ⟨rfl, rfl⟩))
    (fun os started H enc _ => lifted os started H enc)

#print axioms holds
end Go.Proofs.Ytldccopockaneaa.fnExactIsItem
