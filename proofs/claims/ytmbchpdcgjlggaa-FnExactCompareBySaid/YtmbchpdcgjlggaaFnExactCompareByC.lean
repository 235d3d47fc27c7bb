/- The law FnExactCompareBy. -/
import Derived.Test.YtmbchpdcgjlggaaRows
import Derived.Test.YtmbchpdcgjlggaaExpOpen
import Derived.Test.YtmbchpdcgjlggaaExpLaw
import Derived.Test.YtmbchpdcgjlggaaCbA
import Derived.WalkKit
import Derived.ProofKit
import Derived.OpenShut
import Derived.ShutString
import Derived.Below
namespace Go.Proofs.Ytmbchpdcgjlggaa.fnExactCompareBy
set_option maxRecDepth 20000
open Go.ChangeShapes Go.WideShapes Go.ChangeAt Go.RowKit
open Go.ChangeMaps (open_string shut_string)
open Go.Proofs.Ytmbchpdcgjlggaa.num
set_option linter.unusedVariables false
set_option linter.unusedSimpArgs false

theorem own : ownKnob Try.prog.godebug = none := by kernel_rfl

set_option maxHeartbeats 6400000 in
theorem walk (A0 : Option Addr) (n0 c0 : Nat) (ns0 : List Nd) (t1 : It) (t2 : It) (w : World) (m0 : n0 ≤ 9223372036854775807) (N0 : ∀ x ∈ ns0, x.t.Ln ≤ 9223372036854775807 ∧ x.t.Pn ≤ 9223372036854775807) (w0 : Nodes w w.heap.size A0 n0 ns0) (n1 : t1.n ≤ 9223372036854775807) (w1 : Ints w w.heap.size t1.A t1.n t1.xs) (n2 : t2.n ≤ 9223372036854775807) (w2 : Ints w w.heap.size t2.A t2.n t2.xs) :
    Calls Try.prog 8 #[.slice A0 n0 c0, t1.val, t2.val] w fun e w' => e = .returned (.bool true) ∧ Below w.heap.size w w' := by
  have HM0 := Lib.hid m0
  have HL0 := Lib.hid N0
  have HW0 := Lib.hid w0
  clear m0 N0 w0
  have HM1 := Lib.hid n1
  have HW1 := Lib.hid w1
  clear n1 w1
  have HM2 := Lib.hid n2
  have HW2 := Lib.hid w2
  clear n2 w2
  have hval1 : t1.val = .agg #[.int .i64 t1.id, .slice t1.A t1.n t1.c] := rfl
  rw [hval1]
  clear hval1
  have hval2 : t2.val = .agg #[.int .i64 t2.id, .slice t2.A t2.n t2.c] := rfl
  rw [hval2]
  clear hval2
  go_enter Try.func8, Try.ntmps8
  have HB0 : Hid (Below w.heap.size w ((w.alloc (.cells #[.int .i64 t1.id, .slice t1.A t1.n t1.c] 37)).alloc (.cells #[.int .i64 t2.id, .slice t2.A t2.n t2.c] 37))) := Lib.hid (((Below.refl _ w).alloc (Nat.le_refl _) _).alloc (by simp) _)
  go_wp2_with fail
  refine (szNodes_c ((w.alloc (.cells #[.int .i64 t1.id, .slice t1.A t1.n t1.c] 37)).alloc (.cells #[.int .i64 t2.id, .slice t2.A t2.n t2.c] 37)) w.heap.size A0 n0 c0 ns0 (HW0.out.below HB0.out) HB0.out.size HM0.out HL0.out 1048576 (by decide) (by decide)).mono ?_
  rintro e w1 ⟨⟨r0, rfl, hr0⟩, hb1⟩
  have HB1 := Lib.hid (below_on HB0.out hb1)
  have Xb_1 := Lib.hid (((Box2.new w t1 37).alloc (.cells #[.int .i64 t2.id, .slice t2.A t2.n t2.c] 37)).below hb1)
  have Xc_1 : Hid (Box2 w1 (w.heap.size + 1) t2) := Lib.hid (by have h := (Box2.new (w.alloc (.cells #[.int .i64 t1.id, .slice t1.A t1.n t1.c] 37)) t2 37).below hb1; simpa only [World.size_alloc] using h)
  clear hb1
  rcases hr0 with rfl | ⟨hr1, hr2, hn0, hs0⟩
  · go_wp2
    go_ret
    exact ⟨rfl, HB1.out⟩
  have HS0 := Lib.hid hs0
  clear hs0
  obtain ⟨z, hz⟩ := CmpE.some (datN ns0) t1 t2
  have HZ := Lib.hid hz
  clear hz
  by_cases hx1 : (t1.n : Int) ≤ r0
  · obtain ⟨b_g, b_0, b_1⟩ := Xb_1.out
    obtain ⟨c_g, c_0, c_1⟩ := Xc_1.out
    go_wp2_with fail
    refine (szItem_yes t1 r0 HM1.out hx1 hr2 _).mono ?_
    rintro e w2 ⟨rfl, hb2⟩
    have HB2 := Lib.hid (below_on HB1.out hb2)
    have Xb_2 := Lib.hid (Xb_1.out.below hb2)
    have Xc_2 := Lib.hid (Xc_1.out.below hb2)
    clear b_g b_0 b_1 c_g c_0 c_1
    clear hb2
    have HS1 : Hid (t1.n ≤ 1048576) := Lib.hid (by omega)
    obtain ⟨r1, hr⟩ : ∃ r, r0 - (t1.n : Int) = r := ⟨_, rfl⟩
    rw [hr]
    have hr5 : 0 ≤ r1 := by omega
    have hr6 : r1 ≤ 1048576 := by omega
    clear hr hx1 hr1 hr2
    by_cases hx2 : (t2.n : Int) ≤ r1
    · obtain ⟨b_g, b_0, b_1⟩ := Xb_2.out
      obtain ⟨c_g, c_0, c_1⟩ := Xc_2.out
      go_wp2_with fail
      refine (szItem_yes t2 r1 HM2.out hx2 hr6 _).mono ?_
      rintro e w3 ⟨rfl, hb3⟩
      have HB3 := Lib.hid (below_on HB2.out hb3)
      have Xb_3 := Lib.hid (Xb_2.out.below hb3)
      have Xc_3 := Lib.hid (Xc_2.out.below hb3)
      clear b_g b_0 b_1 c_g c_0 c_1
      clear hb3
      have HS2 : Hid (t2.n ≤ 1048576) := Lib.hid (by omega)
      have hr7 : 0 ≤ r1 - (t2.n : Int) := by omega
      clear hx2 hr5 hr6
      obtain ⟨b_g, b_0, b_1⟩ := Xb_3.out
      obtain ⟨c_g, c_0, c_1⟩ := Xc_3.out
      go_wp2
      have hs0 : (fun w' => Below w3.heap.size w3 w' ∧ w'.cell? ⟨w.heap.size, 0, none⟩ = some (.int .i64 t1.id) ∧ w'.cell? ⟨w.heap.size, 1, none⟩ = some (.slice t1.A t1.n t1.c) ∧ w'.cell? ⟨w.heap.size + 1, 0, none⟩ = some (.int .i64 t2.id) ∧ w'.cell? ⟨w.heap.size + 1, 1, none⟩ = some (.slice t2.A t2.n t2.c)) w3.drew := ⟨(Below.refl _ _).drew, b_0, b_1, c_0, c_1⟩
      refine wp_region_held (S := fun w' => Below w3.heap.size w3 w' ∧ w'.cell? ⟨w.heap.size, 0, none⟩ = some (.int .i64 t1.id) ∧ w'.cell? ⟨w.heap.size, 1, none⟩ = some (.slice t1.A t1.n t1.c) ∧ w'.cell? ⟨w.heap.size + 1, 0, none⟩ = some (.int .i64 t2.id) ∧ w'.cell? ⟨w.heap.size + 1, 1, none⟩ = some (.slice t2.A t2.n t2.c)) (by kernel_rfl) ?_
      change wpAnyH _ _ _ _ _ _ _ _ (World.drew _)
      refine takeY 28 (i := 0) (v := ?v0a) rfl rfl (by kernel_rfl) (by kernel_rfl) (by kernel_rfl) (fun _ _ _ h => h) (by kernel_rfl) ?y0a hs0 ?_
      case y0a =>
        intro w' hw'; (try dsimp only at hw'); obtain ⟨e0, e1, e2, e3, e4⟩ := hw'; go_simp; try with_reducible rfl
      simp only [Act.put, List.setIfInBounds_toArray, List.set_cons_zero, List.set_cons_succ]
      refine takeY 30 (i := 2) (v := ?v2a) rfl rfl (by kernel_rfl) (by kernel_rfl) (by kernel_rfl) (fun _ _ _ h => h) (by kernel_rfl) ?y2a hs0 ?_
      case y2a =>
        intro w' hw'; (try dsimp only at hw'); obtain ⟨e0, e1, e2, e3, e4⟩ := hw'; go_simp; try with_reducible rfl
      simp only [Act.put, List.setIfInBounds_toArray, List.set_cons_zero, List.set_cons_succ]
      refine takeY 32 (i := 4) (v := ?v4a) rfl rfl (by kernel_rfl) (by kernel_rfl) (by kernel_rfl) (fun _ _ _ h => h) (by kernel_rfl) ?y4a hs0 ?_
      case y4a =>
        intro w' hw'; (try dsimp only at hw'); obtain ⟨e0, e1, e2, e3, e4⟩ := hw'; go_simp; try with_reducible rfl
      simp only [Act.put, List.setIfInBounds_toArray, List.set_cons_zero, List.set_cons_succ]
      refine wpAnyH_ready (rs := [1]) (by kernel_rfl) (by simp) ?_
      refine AllReadyH.cons rfl (fun K hK => ?_) AllReadyH.nil
      go_simp; go_at_call 31; refine (toNodes_w _ w.heap.size A0 n0 c0 ns0 (HW0.out.below HB3.out.drew) HB3.out.size hn0 HS0.out).mono ?_; rintro e wa ⟨nsa, rfl, hc, ha⟩; replace ha := (Below.refl w3.heap.size w3).drew.trans (ha.mono (Nat.le_refl _)); have Ca := Lib.hid hc; have HBa := Lib.hid (below_on HB3.out ha); clear hc
      refine hK.out _ _ ⟨ha, (ha.cell (p := ⟨w.heap.size, 0, none⟩) b_g).trans b_0, (ha.cell (p := ⟨w.heap.size, 1, none⟩) b_g).trans b_1, (ha.cell (p := ⟨w.heap.size + 1, 0, none⟩) c_g).trans c_0, (ha.cell (p := ⟨w.heap.size + 1, 1, none⟩) c_g).trans c_1⟩ (fun hS1 => ?_)
      clear hK K
      try simp only [Act.put, List.setIfInBounds_toArray, List.set_cons_zero, List.set_cons_succ]
      refine wpAnyH_ready (rs := [3]) (by kernel_rfl) (by simp) ?_
      refine AllReadyH.cons rfl (fun K hK => ?_) AllReadyH.nil
      go_simp; go_at_call 24; refine (toItem_w _ w.heap.size t1 (HW1.out.below HBa.out) HBa.out.size HS1.out).mono ?_; rintro e wb ⟨tb, rfl, hc, hb⟩; have Cb := Lib.hid hc; have Ca2 := Lib.hid (Ca.out.step hb); have HBb := Lib.hid (below_on HBa.out hb); replace hb := below_on ha hb; clear hc; unfold It.val
      refine hK.out _ _ ⟨hb, (hb.cell (p := ⟨w.heap.size, 0, none⟩) b_g).trans b_0, (hb.cell (p := ⟨w.heap.size, 1, none⟩) b_g).trans b_1, (hb.cell (p := ⟨w.heap.size + 1, 0, none⟩) c_g).trans c_0, (hb.cell (p := ⟨w.heap.size + 1, 1, none⟩) c_g).trans c_1⟩ (fun hS2 => ?_)
      clear hK K
      try simp only [Act.put, List.setIfInBounds_toArray, List.set_cons_zero, List.set_cons_succ]
      refine wpAnyH_ready (rs := [5]) (by kernel_rfl) (by simp) ?_
      refine AllReadyH.cons rfl (fun K hK => ?_) AllReadyH.nil
      go_simp; go_at_call 24; refine (toItem_w _ w.heap.size t2 (HW2.out.below HBb.out) HBb.out.size HS2.out).mono ?_; rintro e wc ⟨tc, rfl, hc2, hc⟩; have Cc := Lib.hid hc2; have Ca3 := Lib.hid (Ca2.out.step hc); have Cb3 := Lib.hid (Cb.out.step hc); replace hc := below_on hb hc; clear hc2; unfold It.val
      refine hK.out _ _ ⟨hc, (hc.cell (p := ⟨w.heap.size, 0, none⟩) b_g).trans b_0, (hc.cell (p := ⟨w.heap.size, 1, none⟩) b_g).trans b_1, (hc.cell (p := ⟨w.heap.size + 1, 0, none⟩) c_g).trans c_0, (hc.cell (p := ⟨w.heap.size + 1, 1, none⟩) c_g).trans c_1⟩ (fun hS3 => ?_)
      clear hK K
      try simp only [Act.put, List.setIfInBounds_toArray, List.set_cons_zero, List.set_cons_succ]
      refine wpAnyH_ready (rs := [6]) (by kernel_rfl) (by simp) ?_
      refine AllReadyH.cons rfl (fun K hK => ?_) AllReadyH.nil
      go_simp; go_at_call 34; refine (sCompareBy wc _ _ _ _ nsa tb tc Ca3.out.nodes Cb3.out.at' Cc.out.at' (Nat.le_refl _) hn0 Ca3.out.short Cb3.out.short Cc.out.short z (HZ.out.to Ca3.out.dat Cb3.out.dat Cc.out.dat)).mono ?_; rintro e w4 ⟨rfl, hd⟩; replace hd := below_on hc hd
      refine hK.out _ _ ⟨hd, (hd.cell (p := ⟨w.heap.size, 0, none⟩) b_g).trans b_0, (hd.cell (p := ⟨w.heap.size, 1, none⟩) b_g).trans b_1, (hd.cell (p := ⟨w.heap.size + 1, 0, none⟩) c_g).trans c_0, (hd.cell (p := ⟨w.heap.size + 1, 1, none⟩) c_g).trans c_1⟩ (fun hS4 => ?_)
      clear hK K
      try simp only [Act.put, List.setIfInBounds_toArray, List.set_cons_zero, List.set_cons_succ]
      refine takeY 8 (i := 7) (v := ?v7a) rfl rfl (by kernel_rfl) (by kernel_rfl) (by kernel_rfl) (fun _ _ _ h => h) (by kernel_rfl) ?y7a hS4 ?_
      case y7a =>
        intro w' hw'; (try dsimp only at hw'); obtain ⟨e0, e1, e2, e3, e4⟩ := hw'; go_simp; try with_reducible rfl
      simp only [Act.put, List.setIfInBounds_toArray, List.set_cons_zero, List.set_cons_succ]
      refine wpAnyH_done (by kernel_rfl) ?_ _
      have HB4 := Lib.hid (below_on HB3.out hd)
      have Xb_4 := Lib.hid (Xb_3.out.below hd)
      have Xc_4 := Lib.hid (Xc_3.out.below hd)
      clear b_g b_0 b_1 c_g c_0 c_1
      clear hd hc hb ha hs0 hS1 hS2 hS3 hS4 Ca Ca2 Ca3 Cb Cb3 Cc HBa HBb
      obtain ⟨b_g, b_0, b_1⟩ := Xb_4.out
      obtain ⟨c_g, c_0, c_1⟩ := Xc_4.out
      go_wp2_with fail
      refine (toNodes_w w4 w.heap.size A0 n0 c0 ns0 (HW0.out.below HB4.out) HB4.out.size hn0 HS0.out).mono ?_
      rintro e w5 ⟨nsx, rfl, hc, hb5⟩
      have HB5 := Lib.hid (below_on HB4.out hb5)
      have Xb_5 := Lib.hid (Xb_4.out.below hb5)
      have Xc_5 := Lib.hid (Xc_4.out.below hb5)
      have Cx_5 := Lib.hid hc
      clear hc
      clear b_g b_0 b_1 c_g c_0 c_1
      clear hb5
      obtain ⟨b_g, b_0, b_1⟩ := Xb_5.out
      obtain ⟨c_g, c_0, c_1⟩ := Xc_5.out
      go_wp2_with fail
      refine (toItem_w w5 w.heap.size t1 (HW1.out.below HB5.out) HB5.out.size HS1.out).mono ?_
      rintro e w6 ⟨ty, rfl, hc, hb6⟩
      have HB6 := Lib.hid (below_on HB5.out hb6)
      have Xb_6 := Lib.hid (Xb_5.out.below hb6)
      have Xc_6 := Lib.hid (Xc_5.out.below hb6)
      have Cx_6 := Lib.hid (Cx_5.out.step hb6)
      have Cy_6 := Lib.hid hc
      clear hc
      unfold It.val
      clear b_g b_0 b_1 c_g c_0 c_1
      clear hb6
      obtain ⟨b_g, b_0, b_1⟩ := Xb_6.out
      obtain ⟨c_g, c_0, c_1⟩ := Xc_6.out
      go_wp2_with fail
      refine (toItem_w _ w.heap.size t2 (HW2.out.below (HB6.out.alloc HB6.out.size _)) (by have := HB6.out.size; simp; omega) HS2.out).mono ?_
      rintro e w7 ⟨tv, rfl, hc, hx7⟩
      have hb7 : Below w6.heap.size w6 w7 := below_on ((Below.refl _ w6).alloc (Nat.le_refl _) (.cells #[.int .i64 ty.id, .slice ty.A ty.n ty.c] 40)) hx7
      have Xy_7 := Lib.hid ((Box2.new w6 ty 40).below hx7)
      have HB7 := Lib.hid (below_on HB6.out hb7)
      have Xb_7 := Lib.hid (Xb_6.out.below hb7)
      have Xc_7 := Lib.hid (Xc_6.out.below hb7)
      have Cx_7 := Lib.hid (Cx_6.out.step hb7)
      have Cy_7 := Lib.hid (Cy_6.out.step hb7)
      have Cv_7 := Lib.hid hc
      clear hc
      unfold It.val
      clear b_g b_0 b_1 c_g c_0 c_1
      clear hb7 hx7
      obtain ⟨b_g, b_0, b_1⟩ := Xb_7.out
      obtain ⟨c_g, c_0, c_1⟩ := Xc_7.out
      obtain ⟨y_g, y_0, y_1⟩ := Xy_7.out
      go_wp2_with fail
      refine (iCompareBy _ _ _ _ _ nsx ty tv (Cx_7.out.step ((Below.refl _ w7).alloc (Nat.le_refl _) _)).nodes (Cy_7.out.step ((Below.refl _ w7).alloc (Nat.le_refl _) _)).at' (Cv_7.out.step ((Below.refl _ w7).alloc (Nat.le_refl _) _)).at' (Nat.le_refl _) (Nat.le_refl _) hn0 Cx_7.out.short Cy_7.out.short Cv_7.out.short z (HZ.out.to Cx_7.out.dat Cy_7.out.dat Cv_7.out.dat)).mono ?_
      rintro e w8 ⟨rfl, hx8⟩
      have hb8 : Below w7.heap.size w7 w8 := below_on ((Below.refl _ w7).alloc (Nat.le_refl _) (.cells #[.int .i64 tv.id, .slice tv.A tv.n tv.c] 40)) hx8
      have Xv_8 := Lib.hid ((Box2.new w7 tv 40).below hx8)
      have HB8 := Lib.hid (below_on HB7.out hb8)
      have Xb_8 := Lib.hid (Xb_7.out.below hb8)
      have Xc_8 := Lib.hid (Xc_7.out.below hb8)
      have Xy_8 := Lib.hid (Xy_7.out.below hb8)
      have Cx_8 := Lib.hid (Cx_7.out.step hb8)
      have Cy_8 := Lib.hid (Cy_7.out.step hb8)
      have Cv_8 := Lib.hid (Cv_7.out.step hb8)
      clear b_g b_0 b_1 c_g c_0 c_1 y_g y_0 y_1
      clear hb8 hx8
      have hqq : (z != z) = false := by simp
      obtain ⟨b_g, b_0, b_1⟩ := Xb_8.out
      obtain ⟨c_g, c_0, c_1⟩ := Xc_8.out
      obtain ⟨y_g, y_0, y_1⟩ := Xy_8.out
      obtain ⟨v_g, v_0, v_1⟩ := Xv_8.out
      go_wp2_with fail
      refine (toNodes_w w8 w.heap.size A0 n0 c0 ns0 (HW0.out.below HB8.out) HB8.out.size hn0 HS0.out).mono ?_
      rintro e w9 ⟨nsz, rfl, hc, hb9⟩
      have HB9 := Lib.hid (below_on HB8.out hb9)
      have Xb_9 := Lib.hid (Xb_8.out.below hb9)
      have Xc_9 := Lib.hid (Xc_8.out.below hb9)
      have Xy_9 := Lib.hid (Xy_8.out.below hb9)
      have Xv_9 := Lib.hid (Xv_8.out.below hb9)
      have Cx_9 := Lib.hid (Cx_8.out.step hb9)
      have Cy_9 := Lib.hid (Cy_8.out.step hb9)
      have Cv_9 := Lib.hid (Cv_8.out.step hb9)
      have Cz_9 := Lib.hid hc
      clear hc
      clear b_g b_0 b_1 c_g c_0 c_1 y_g y_0 y_1 v_g v_0 v_1
      clear hb9
      obtain ⟨b_g, b_0, b_1⟩ := Xb_9.out
      obtain ⟨c_g, c_0, c_1⟩ := Xc_9.out
      obtain ⟨y_g, y_0, y_1⟩ := Xy_9.out
      obtain ⟨v_g, v_0, v_1⟩ := Xv_9.out
      go_wp2_with fail
      refine (eqNodes_w _ _ _ _ _ _ _ Cx_9.out Cz_9.out hn0).mono ?_
      rintro e w10 ⟨rfl, hb10⟩
      have HB10 := Lib.hid (below_on HB9.out hb10)
      have Xb_10 := Lib.hid (Xb_9.out.below hb10)
      have Xc_10 := Lib.hid (Xc_9.out.below hb10)
      have Xy_10 := Lib.hid (Xy_9.out.below hb10)
      have Xv_10 := Lib.hid (Xv_9.out.below hb10)
      have Cx_10 := Lib.hid (Cx_9.out.step hb10)
      have Cy_10 := Lib.hid (Cy_9.out.step hb10)
      have Cv_10 := Lib.hid (Cv_9.out.step hb10)
      have Cz_10 := Lib.hid (Cz_9.out.step hb10)
      clear b_g b_0 b_1 c_g c_0 c_1 y_g y_0 y_1 v_g v_0 v_1
      clear hb10
      obtain ⟨b_g, b_0, b_1⟩ := Xb_10.out
      obtain ⟨y_g, y_0, y_1⟩ := Xy_10.out
      go_wp2
      have hs0 : (fun w' => Below w10.heap.size w10 w' ∧ w'.cell? ⟨w.heap.size, 0, none⟩ = some (.int .i64 t1.id) ∧ w'.cell? ⟨w.heap.size, 1, none⟩ = some (.slice t1.A t1.n t1.c) ∧ w'.cell? ⟨w6.heap.size, 0, none⟩ = some (.int .i64 ty.id) ∧ w'.cell? ⟨w6.heap.size, 1, none⟩ = some (.slice ty.A ty.n ty.c)) w10.drew := ⟨(Below.refl _ _).drew, b_0, b_1, y_0, y_1⟩
      refine wp_region_held (S := fun w' => Below w10.heap.size w10 w' ∧ w'.cell? ⟨w.heap.size, 0, none⟩ = some (.int .i64 t1.id) ∧ w'.cell? ⟨w.heap.size, 1, none⟩ = some (.slice t1.A t1.n t1.c) ∧ w'.cell? ⟨w6.heap.size, 0, none⟩ = some (.int .i64 ty.id) ∧ w'.cell? ⟨w6.heap.size, 1, none⟩ = some (.slice ty.A ty.n ty.c)) (by kernel_rfl) ?_
      change wpAnyH _ _ _ _ _ _ _ _ (World.drew _)
      refine takeY 53 (i := 0) (v := ?v0b) rfl rfl (by kernel_rfl) (by kernel_rfl) (by kernel_rfl) (fun _ _ _ h => h) (by kernel_rfl) ?y0b hs0 ?_
      case y0b =>
        intro w' hw'; (try dsimp only at hw'); obtain ⟨e0, e1, e2, e3, e4⟩ := hw'; go_simp; try with_reducible rfl
      simp only [Act.put, List.setIfInBounds_toArray, List.set_cons_zero, List.set_cons_succ]
      refine takeY 54 (i := 1) (v := ?v1b) rfl rfl (by kernel_rfl) (by kernel_rfl) (by kernel_rfl) (fun _ _ _ h => h) (by kernel_rfl) ?y1b hs0 ?_
      case y1b =>
        intro w' hw'; (try dsimp only at hw'); obtain ⟨e0, e1, e2, e3, e4⟩ := hw'; go_simp; try with_reducible rfl
      simp only [Act.put, List.setIfInBounds_toArray, List.set_cons_zero, List.set_cons_succ]
      refine wpAnyH_ready (rs := [2]) (by kernel_rfl) (by simp) ?_
      refine AllReadyH.cons rfl (fun K hK => ?_) AllReadyH.nil
      go_simp; go_at_call 24; refine (toItem_w _ w.heap.size t1 (HW1.out.below HB10.out.drew) HB10.out.size HS1.out).mono ?_; rintro e w11 ⟨tz11, rfl, hc, hy⟩; replace hy := (Below.refl w10.heap.size w10).drew.trans (hy.mono (Nat.le_refl _)); have HCz := Lib.hid hc; have HCx := Lib.hid (Cy_10.out.step hy); clear hc; unfold It.val
      refine hK.out _ _ ⟨hy, (hy.cell (p := ⟨w.heap.size, 0, none⟩) b_g).trans b_0, (hy.cell (p := ⟨w.heap.size, 1, none⟩) b_g).trans b_1, (hy.cell (p := ⟨w6.heap.size, 0, none⟩) y_g).trans y_0, (hy.cell (p := ⟨w6.heap.size, 1, none⟩) y_g).trans y_1⟩ (fun hS1 => ?_)
      clear hK K
      try simp only [Act.put, List.setIfInBounds_toArray, List.set_cons_zero, List.set_cons_succ]
      refine wpAnyH_ready (rs := [3]) (by kernel_rfl) (by simp) ?_
      refine AllReadyH.cons rfl (fun K hK => ?_) AllReadyH.nil
      go_simp; go_at_call 26; refine (eqItem_w _ t1 ty tz11 HCx.out HCz.out).mono ?_; rintro e w12 ⟨rfl, hz⟩; replace hz := below_on hy hz
      refine hK.out _ _ ⟨hz, (hz.cell (p := ⟨w.heap.size, 0, none⟩) b_g).trans b_0, (hz.cell (p := ⟨w.heap.size, 1, none⟩) b_g).trans b_1, (hz.cell (p := ⟨w6.heap.size, 0, none⟩) y_g).trans y_0, (hz.cell (p := ⟨w6.heap.size, 1, none⟩) y_g).trans y_1⟩ (fun hS2 => ?_)
      clear hK K
      try simp only [Act.put, List.setIfInBounds_toArray, List.set_cons_zero, List.set_cons_succ]
      refine takeY 57 (i := 4) (v := ?v4b) rfl rfl (by kernel_rfl) (by kernel_rfl) (by kernel_rfl) (fun _ _ _ h => h) (by kernel_rfl) ?y4b hS2 ?_
      case y4b =>
        intro w' hw'; (try dsimp only at hw'); obtain ⟨e0, e1, e2, e3, e4⟩ := hw'; go_simp; try with_reducible rfl
      simp only [Act.put, List.setIfInBounds_toArray, List.set_cons_zero, List.set_cons_succ]
      refine wpAnyH_done (by kernel_rfl) ?_ _
      have HB12 := Lib.hid (below_on HB10.out hz)
      have Xb_12 := Lib.hid (Xb_10.out.below hz)
      have Xc_12 := Lib.hid (Xc_10.out.below hz)
      have Xy_12 := Lib.hid (Xy_10.out.below hz)
      have Xv_12 := Lib.hid (Xv_10.out.below hz)
      have Cx_12 := Lib.hid (Cx_10.out.step hz)
      have Cy_12 := Lib.hid (Cy_10.out.step hz)
      have Cv_12 := Lib.hid (Cv_10.out.step hz)
      clear b_g b_0 b_1 y_g y_0 y_1
      clear hz hy hs0 hS1 hS2 HCz HCx
      obtain ⟨c_g, c_0, c_1⟩ := Xc_12.out
      obtain ⟨v_g, v_0, v_1⟩ := Xv_12.out
      go_wp2
      have hs0 : (fun w' => Below w12.heap.size w12 w' ∧ w'.cell? ⟨w.heap.size + 1, 0, none⟩ = some (.int .i64 t2.id) ∧ w'.cell? ⟨w.heap.size + 1, 1, none⟩ = some (.slice t2.A t2.n t2.c) ∧ w'.cell? ⟨w7.heap.size, 0, none⟩ = some (.int .i64 tv.id) ∧ w'.cell? ⟨w7.heap.size, 1, none⟩ = some (.slice tv.A tv.n tv.c)) w12.drew := ⟨(Below.refl _ _).drew, c_0, c_1, v_0, v_1⟩
      refine wp_region_held (S := fun w' => Below w12.heap.size w12 w' ∧ w'.cell? ⟨w.heap.size + 1, 0, none⟩ = some (.int .i64 t2.id) ∧ w'.cell? ⟨w.heap.size + 1, 1, none⟩ = some (.slice t2.A t2.n t2.c) ∧ w'.cell? ⟨w7.heap.size, 0, none⟩ = some (.int .i64 tv.id) ∧ w'.cell? ⟨w7.heap.size, 1, none⟩ = some (.slice tv.A tv.n tv.c)) (by kernel_rfl) ?_
      change wpAnyH _ _ _ _ _ _ _ _ (World.drew _)
      refine takeY 58 (i := 0) (v := ?v0c) rfl rfl (by kernel_rfl) (by kernel_rfl) (by kernel_rfl) (fun _ _ _ h => h) (by kernel_rfl) ?y0c hs0 ?_
      case y0c =>
        intro w' hw'; (try dsimp only at hw'); obtain ⟨e0, e1, e2, e3, e4⟩ := hw'; go_simp; try with_reducible rfl
      simp only [Act.put, List.setIfInBounds_toArray, List.set_cons_zero, List.set_cons_succ]
      refine takeY 59 (i := 1) (v := ?v1c) rfl rfl (by kernel_rfl) (by kernel_rfl) (by kernel_rfl) (fun _ _ _ h => h) (by kernel_rfl) ?y1c hs0 ?_
      case y1c =>
        intro w' hw'; (try dsimp only at hw'); obtain ⟨e0, e1, e2, e3, e4⟩ := hw'; go_simp; try with_reducible rfl
      simp only [Act.put, List.setIfInBounds_toArray, List.set_cons_zero, List.set_cons_succ]
      refine wpAnyH_ready (rs := [2]) (by kernel_rfl) (by simp) ?_
      refine AllReadyH.cons rfl (fun K hK => ?_) AllReadyH.nil
      go_simp; go_at_call 24; refine (toItem_w _ w.heap.size t2 (HW2.out.below HB12.out.drew) HB12.out.size HS2.out).mono ?_; rintro e w13 ⟨tz13, rfl, hc, hy⟩; replace hy := (Below.refl w12.heap.size w12).drew.trans (hy.mono (Nat.le_refl _)); have HCz := Lib.hid hc; have HCx := Lib.hid (Cv_12.out.step hy); clear hc; unfold It.val
      refine hK.out _ _ ⟨hy, (hy.cell (p := ⟨w.heap.size + 1, 0, none⟩) c_g).trans c_0, (hy.cell (p := ⟨w.heap.size + 1, 1, none⟩) c_g).trans c_1, (hy.cell (p := ⟨w7.heap.size, 0, none⟩) v_g).trans v_0, (hy.cell (p := ⟨w7.heap.size, 1, none⟩) v_g).trans v_1⟩ (fun hS1 => ?_)
      clear hK K
      try simp only [Act.put, List.setIfInBounds_toArray, List.set_cons_zero, List.set_cons_succ]
      refine wpAnyH_ready (rs := [3]) (by kernel_rfl) (by simp) ?_
      refine AllReadyH.cons rfl (fun K hK => ?_) AllReadyH.nil
      go_simp; go_at_call 26; refine (eqItem_w _ t2 tv tz13 HCx.out HCz.out).mono ?_; rintro e w14 ⟨rfl, hz⟩; replace hz := below_on hy hz
      refine hK.out _ _ ⟨hz, (hz.cell (p := ⟨w.heap.size + 1, 0, none⟩) c_g).trans c_0, (hz.cell (p := ⟨w.heap.size + 1, 1, none⟩) c_g).trans c_1, (hz.cell (p := ⟨w7.heap.size, 0, none⟩) v_g).trans v_0, (hz.cell (p := ⟨w7.heap.size, 1, none⟩) v_g).trans v_1⟩ (fun hS2 => ?_)
      clear hK K
      try simp only [Act.put, List.setIfInBounds_toArray, List.set_cons_zero, List.set_cons_succ]
      refine takeY 62 (i := 4) (v := ?v4c) rfl rfl (by kernel_rfl) (by kernel_rfl) (by kernel_rfl) (fun _ _ _ h => h) (by kernel_rfl) ?y4c hS2 ?_
      case y4c =>
        intro w' hw'; (try dsimp only at hw'); obtain ⟨e0, e1, e2, e3, e4⟩ := hw'; go_simp; try with_reducible rfl
      simp only [Act.put, List.setIfInBounds_toArray, List.set_cons_zero, List.set_cons_succ]
      refine wpAnyH_done (by kernel_rfl) ?_ _
      have HB14 := Lib.hid (below_on HB12.out hz)
      have Xb_14 := Lib.hid (Xb_12.out.below hz)
      have Xc_14 := Lib.hid (Xc_12.out.below hz)
      have Xy_14 := Lib.hid (Xy_12.out.below hz)
      have Xv_14 := Lib.hid (Xv_12.out.below hz)
      have Cx_14 := Lib.hid (Cx_12.out.step hz)
      have Cy_14 := Lib.hid (Cy_12.out.step hz)
      have Cv_14 := Lib.hid (Cv_12.out.step hz)
      clear c_g c_0 c_1 v_g v_0 v_1
      clear hz hy hs0 hS1 hS2 HCz HCx
      go_wp2
      go_ret
      exact ⟨rfl, HB14.out⟩
    · obtain ⟨b_g, b_0, b_1⟩ := Xb_2.out
      obtain ⟨c_g, c_0, c_1⟩ := Xc_2.out
      go_wp2_with fail
      refine (szItem_no t2 r1 HM2.out (by omega) (by omega) _).mono ?_
      rintro e w3 ⟨rfl, hb3⟩
      have HB3 := Lib.hid (below_on HB2.out hb3)
      have Xb_3 := Lib.hid (Xb_2.out.below hb3)
      have Xc_3 := Lib.hid (Xc_2.out.below hb3)
      clear b_g b_0 b_1 c_g c_0 c_1
      clear hb3
      go_wp2
      go_ret
      exact ⟨rfl, HB3.out⟩
  · obtain ⟨b_g, b_0, b_1⟩ := Xb_1.out
    obtain ⟨c_g, c_0, c_1⟩ := Xc_1.out
    go_wp2_with fail
    refine (szItem_no t1 r0 HM1.out (by omega) (by omega) _).mono ?_
    rintro e w2 ⟨rfl, hb2⟩
    have HB2 := Lib.hid (below_on HB1.out hb2)
    have Xb_2 := Lib.hid (Xb_1.out.below hb2)
    have Xc_2 := Lib.hid (Xc_1.out.below hb2)
    clear b_g b_0 b_1 c_g c_0 c_1
    clear hb2
    go_wp2
    go_ret
    exact ⟨rfl, HB2.out⟩

set_option maxRecDepth 100000 in
theorem lifted (os : Os) (started : os.Started) (H : Type) (enc : TypeId × Value → H) :
    ReturnsInHanded {} Try.checked os 8 .any (Rows.fnExactCompareBySpec.pre6 enc Try.prog Try.f8 Rows.fnExactCompareByRow.domain false) (Rows.fnExactCompareBySpec.post enc Try.prog Try.f8 false true false false) := by
  refine returnsInHanded_of_change (C := Try.checked) own started (by kernel_rfl) Try.func8
    (ChangeSpec.witness6 (enc := enc) (C := Try.checked) false ⟨#[], #[.slice none 0 0, .agg #[.int .i64 0, .slice none 0 0], .agg #[.int .i64 0, .slice none 0 0]], []⟩ 8 (by kernel_rfl) (by kernel_rfl) (by kernel_rfl) (by kernel_rfl)) ?_
  intro W base args ds gs before hval0 hW hcnd _
  have hval : ∀ (j : Nat) t v, Try.f8.params[j]? = some t → args[j]? = some v → Value.okWide Try.prog W .any base t v := hval0
  have hW' := hW
  obtain ⟨p, q, hA0, hV, rfl, hfz, hnd⟩ := hW
  have hA : DataW.TrodAll enc Try.prog W 0 (fun _ => true) true Try.f8.params.toList args.toList ds p := hA0
  rw [Try.params8] at hA hval
  obtain ⟨v0, vs0, d0, ds0, p0, q0, hargs, rfl, rfl, h0, r0⟩ := trodAll_cons hA
  obtain ⟨v1, vs1, d1, ds1, p1, q1, rfl, rfl, rfl, h1, r1⟩ := trodAll_cons r0
  obtain ⟨v2, vs2, d2, ds2, p2, q2, rfl, rfl, rfl, h2, r2⟩ := trodAll_cons r1
  obtain ⟨rfl, rfl, rfl⟩ := trodAll_nil r2
  obtain rfl : args = #[v0, v1, v2] := by cases args; simp_all
  obtain ⟨rfl, rfl⟩ := trodVars_none hV
  have lt0 : ∀ x ∈ p0, x.block < W.heap.size := by obtain ⟨m, hm⟩ := h0; exact DataW.trod_lt m _ _ _ hm
  obtain ⟨A0, n0, c0, ns0, rfl, m0, N0, w0⟩ := open_nodes (hval 0 47 v0 rfl rfl) h0
  have lt1 : ∀ x ∈ p1, x.block < W.heap.size := by obtain ⟨m, hm⟩ := h1; exact DataW.trod_lt m _ _ _ hm
  obtain ⟨t1, rfl, n1, w1⟩ := open_item (hval 1 37 v1 rfl rfl) h1
  have lt2 : ∀ x ∈ p2, x.block < W.heap.size := by obtain ⟨m, hm⟩ := h2; exact DataW.trod_lt m _ _ _ hm
  obtain ⟨t2, rfl, n2, w2⟩ := open_item (hval 2 37 v2 rfl rfl) h2
  clear hA0 hval0
  refine (walk A0 n0 c0 ns0 t1 t2 W m0 N0 w0 n1 w1 n2 w2).mono fun e W' ⟨he, hb⟩ => ?_
  subst he
  exact ⟨_, rfl, _, _, _, [], _, [], hW', trodAll_mk1 (shut_bool Try.underlying4 _), (trodAll_cons_mk (Below.trod laidOut (by kernel_rfl) (of_decide_eq_true (by kernel_rfl)) h0 hb lt0) (trodAll_cons_mk (Below.trod laidOut (by kernel_rfl) (of_decide_eq_true (by kernel_rfl)) h1 hb lt1) (trodAll_cons_mk (Below.trod laidOut (by kernel_rfl) (of_decide_eq_true (by kernel_rfl)) h2 hb lt2) trodAll_mk0))), rfl, hb.frame _, fun h => by cases h⟩

theorem holds : Rows.FnExactCompareBySaid :=
  OpenClaim.holds_of_wide 8 Try.f8 rfl rfl rfl rfl rfl rfl rfl ⟨rfl, rfl, rfl, rfl, rfl⟩ rfl rfl rfl rfl rfl (by kernel_rfl) Try.func8 (by kernel_rfl)
    (of_decide_eq_true (by kernel_rfl)) (by unfold Func.isWrapper; first | (rw [if_pos (by decide +kernel)]; kernel_rfl) | (rw [if_neg (by decide +kernel)]; exact ⟨rfl, rfl⟩))
    (fun os started H enc _ => lifted os started H enc)

#print axioms holds
end Go.Proofs.Ytmbchpdcgjlggaa.fnExactCompareBy
