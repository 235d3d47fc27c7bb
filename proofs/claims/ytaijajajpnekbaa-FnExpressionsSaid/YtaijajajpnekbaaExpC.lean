/- Contracts of functions that the laws of this chapter call, packed. -/
import Derived.Test.YtaijajajpnekbaaExpIs
import Derived.Test.YtaijajajpnekbaaWishCmp
import Derived.Test.YtaijajajpnekbaaCmpB
import Derived.Test.YtaijajajpnekbaaItemImpl
import Derived.Test.YtaijajajpnekbaaExpSpec
import Derived.Test.YtaijajajpnekbaaWishSpecC
import Derived.Test.YtaijajajpnekbaaItemIds
import Derived.Test.YtaijajajpnekbaaExpA
import Derived.Test.YtaijajajpnekbaaRegion
import Derived.Test.YtaijajajpnekbaaExpB
import Derived.Test.YtaijajajpnekbaaItemSpec
namespace Go.Proofs.Ytaijajajpnekbaa.num
set_option maxRecDepth 20000
open Go.RowKit Go.Maps
set_option linter.unusedVariables false
set_option linter.unusedSimpArgs false

/-- What each wish says of two items. -/
def wishF (x y : It) (d : WD) : Int := cmpW d (fval x d.field) (fval y d.field)
theorem cmpW_code (d : WD) (a b : Int) : Code (cmpW d a b) := by
  unfold cmpW Code
  split
  · split
    · omega
    · split
      · omega
      · split <;> omega
  · split
    · omega
    · split <;> omega
theorem wishF_code (x y : It) (d : WD) : Code (wishF x y d) := cmpW_code _ _ _
theorem wishF_dat {x x' y y' : It} (hx : x'.dat = x.dat) (hy : y'.dat = y.dat) : wishF x' y' = wishF x y := by
  funext d
  unfold wishF
  rw [fval_dat hx, fval_dat hy]
/-- The taste's comparison, whatever it is. -/
def TasteCalls (w : World) (T : TypeId) (g : FuncId) (v : Value) (a b z : Int) : Prop :=
  ∃ x, v = .iface T x ∧ (∀ w1, (method 293 T x "loop.example/g01987/impl.compare").run Try.prog w1 = .ok (g, x) w1) ∧ (∀ w1, (nilAhead 293 T x "loop.example/g01987/impl.compare").run Try.prog w1 = .ok (some false) w1) ∧
    ∀ w1, Below w.heap.size w w1 → Calls Try.prog g #[x, .int .i64 a, .int .i64 b] w1 fun e w' => e = .returned (.int .i64 z) ∧ Below w1.heap.size w1 w'
theorem tasteCalls {w : World} {B : Nat} {t : Wi} {v : Value} (hB : B ≤ w.heap.size) (h : TasteAt w t v) (hi : WiIn w B t) (hn : t.Short) {a b : Int} (ha : InR a) (hb : InR b) : TasteCalls w 155 154 v a b (cmpW t.dat a b) ∨ TasteCalls w 157 159 v a b (cmpW t.dat a b) ∨ TasteCalls w 162 163 v a b (cmpW t.dat a b) := by
  rcases h with ⟨h4, c, hc, rfl, hr⟩ | ⟨h4, rfl, hr⟩ | ⟨h4, o, B2, rfl, hab⟩
  · refine .inl ⟨_, rfl, near_cmp_m c, near_cmp_n c, fun w1 h1 => ?_⟩
    rw [show cmpW t.dat a b = (if (if a < c then c - a else a - c) < (if b < c then c - b else b - c) then 1 else if (if b < c then c - b else b - c) < (if a < c then c - a else a - c) then -1 else 0) by unfold cmpW; rw [if_neg (show ¬ t.dat.kind = 4 from h4), hr _ ha, hr _ hb]]
    exact nearCmp w1 c a b hc ha hb
  · refine .inr (.inl ⟨_, rfl, among_cmp_m _ _ _, among_cmp_n _ _ _, fun w1 h1 => ?_⟩)
    rw [show cmpW t.dat a b = (if (if a ∈ t.ls then (0 : Int) else 1) < (if b ∈ t.ls then (0 : Int) else 1) then 1 else if (if b ∈ t.ls then (0 : Int) else 1) < (if a ∈ t.ls then (0 : Int) else 1) then -1 else 0) by unfold cmpW; rw [if_neg (show ¬ t.dat.kind = 4 from h4), hr, hr]]
    exact amongCmp w1 B t.LA t.Ln t.Lc t.ls a b (hi.l.below (h1.mono hB)) (Nat.le_trans hB h1.size) hn.1
  · refine .inr (.inr ⟨_, rfl, order_cmp_m o, order_cmp_n o, fun w1 h1 => ?_⟩)
    rw [show cmpW t.dat a b = (if a = b then 0 else if rb t.ps a b = true then 1 else if rb t.ps b a = true then -1 else 2) by unfold cmpW; rw [if_pos (show t.dat.kind = 4 from h4)]; rfl]
    exact orderCmp w1 B2 o t.ps (hab.below h1) a b ha hb

set_option maxRecDepth 20000 in
set_option maxHeartbeats 3200000 in
theorem iCompare (B lo : Nat) (x y : It) (hpx : IsP x.dat) (hpy : IsP y.dat) : ∀ (t : Tr) (p : Nat) (w : World), PartAt w B lo t p → B ≤ w.heap.size → Ints w B x.A x.n x.xs → Ints w B y.A y.n y.xs →
    Calls Try.prog 89 #[.pointer (some ⟨p, 0, none⟩), x.val, y.val] w fun e w' => e = .returned (.int .i64 (cmpT (wishF x y) t)) ∧ Below w.heap.size w w' := by
  have hvx : x.val = .agg #[.int .i64 x.id, .slice x.A x.n x.c] := rfl
  have hvy : y.val = .agg #[.int .i64 y.id, .slice y.A y.n y.c] := rfl
  intro t
  induction t with
  | base d =>
    intro p w hp hB hix hiy
    rw [hvx, hvy]
    clear hvx hvy
    obtain ⟨_, hpl, t, v, hrow, rfl, hsh, hwi, hw, hta⟩ := hp
    have c0 := part0 hrow
    have c2 := part2 hrow
    have c6 := part6 hrow
    clear hrow
    have hf : 0 ≤ t.field ∧ t.field ≤ 2 := hw.f
    have HZ : Hid (cmpT (wishF x y) (.base t.dat) = cmpW t.dat (fval x t.field) (fval y t.field)) := Lib.hid rfl
    rw [HZ.out]
    rcases tasteCalls hB hta.at' hwi hsh (fval_in hpx hf) (fval_in hpy hf) with ⟨tx, rfl, hm, hm2, hcall⟩ | ⟨tx, rfl, hm, hm2, hcall⟩ | ⟨tx, rfl, hm, hm2, hcall⟩
    all_goals
      obtain ⟨bx, ox, hxA, hbx, hfn, hfx, cx0⟩ := fval_cell hix hpx hf
      obtain ⟨by', oy, hyA, hby, -, hfy, cy0⟩ := fval_cell hiy hpy hf
      generalize cmpW t.dat (fval x t.field) (fval y t.field) = z at *
      have HC := Lib.hid hcall
      have HW2 : Hid (Below w.heap.size w ((w.alloc (.cells #[.int .i64 x.id, .slice x.A x.n x.c] 50)).alloc (.cells #[.int .i64 y.id, .slice y.A y.n y.c] 50))) := Lib.hid (((Below.refl _ w).alloc (Nat.le_refl _) _).alloc (by simp) _)
      have hbx3 : bx < w.heap.size := by omega
      have hby3 : by' < w.heap.size := by omega
      have hfw : IntKind.i64.wrap t.field = t.field := IntWalk.i64_in _ ⟨by omega, by omega⟩
      have hf0 := hf.1
      clear hcall hix hiy hwi hw hta hsh hpx hpy hf HZ
      generalize fval x t.field = vx at *
      generalize fval y t.field = vy at *
      obtain ⟨xi, xA, xn, xc, xxs⟩ := x
      obtain ⟨yi, yA, yn, yc, yxs⟩ := y
      dsimp only at *
      subst hxA hyA
      have d2 := (HW2.out.cell (p := ⟨p, 2, none⟩) hpl).trans c2
      have d6 := (HW2.out.cell (p := ⟨p, 6, none⟩) hpl).trans c6
      have dx := (HW2.out.cell (p := ⟨bx, ox + t.field.toNat, none⟩) hbx3).trans cx0
      have dy := (HW2.out.cell (p := ⟨by', oy + t.field.toNat, none⟩) hby3).trans cy0
      have Xx := Lib.hid ((Box2.new w ⟨xi, some ⟨bx, ox, none⟩, xn, xc, []⟩ 50).alloc (.cells #[.int .i64 yi, .slice (some ⟨by', oy, none⟩) yn yc] 50))
      have Xy := Lib.hid (Box2.new (w.alloc (.cells #[.int .i64 xi, .slice (some ⟨bx, ox, none⟩) xn xc] 50)) ⟨yi, some ⟨by', oy, none⟩, yn, yc, []⟩ 50)
      obtain ⟨-, x_0, x_1⟩ := Xx.out
      obtain ⟨-, y_0, y_1⟩ := Xy.out
      rw [World.size_alloc] at y_0 y_1
      clear Xx Xy
      go_enter Try.func89, Try.ntmps89
      go_wp2
      generalize ((w.alloc (.cells #[.int .i64 xi, .slice (some ⟨bx, ox, none⟩) xn xc] 50)).alloc (.cells #[.int .i64 yi, .slice (some ⟨by', oy, none⟩) yn yc] 50)) = w0 at *
      clear c0 c2 c6 cx0 cy0
      go_still_tail 26, (by kernel_rfl)
      change wpList _ _ _ _ _ w0.drew
      generalize hw1 : w0.drew = w1 at *
      have HB1 : Hid (Below w.heap.size w w1) := Lib.hid (hw1 ▸ HW2.out.drew)
      clear d2 d6 dx dy x_0 x_1 y_0 y_1 hw1
      go_wp2_with fail
      refine (HC.out _ HB1.out).mono ?_
      rintro e w2 ⟨rfl, hb2⟩
      have HB2 := Lib.hid (below_on HB1.out hb2)
      clear hb2
      go_wp2
      go_ret
      exact ⟨rfl, HB2.out⟩
  | dual a ih =>
    intro p w hp hB hix hiy
    rw [hvx, hvy] at ih ⊢
    obtain ⟨_, hpl, t, q, hrow, -, -, -, hpa⟩ := hp
    have c0 := part0 hrow
    have c7 := part7 hrow
    clear hrow
    have HIH : Hid (∀ w1, Below w.heap.size w w1 → Calls Try.prog 89 #[.pointer (some ⟨q, 0, none⟩), .agg #[.int .i64 x.id, .slice x.A x.n x.c], .agg #[.int .i64 y.id, .slice y.A y.n y.c]] w1 fun e w' => e = .returned (.int .i64 (cmpT (wishF x y) a)) ∧ Below w1.heap.size w1 w') := Lib.hid fun w1 h => ih q w1 (hpa.below hB h) (Nat.le_trans hB h.size) (hix.below (h.mono hB)) (hiy.below (h.mono hB))
    have HZ : Hid (cmpT (wishF x y) (.dual a) = revC (cmpT (wishF x y) a)) := Lib.hid rfl
    rw [HZ.out]
    generalize cmpT (wishF x y) a = z at *
    clear HZ ih hix hiy hpa hvx hvy
    have HW2 : Hid (Below w.heap.size w ((w.alloc (.cells #[.int .i64 x.id, .slice x.A x.n x.c] 50)).alloc (.cells #[.int .i64 y.id, .slice y.A y.n y.c] 50))) := Lib.hid (((Below.refl _ w).alloc (Nat.le_refl _) _).alloc (by simp) _)
    have HP0 : Hid (w.cell? ⟨p, 0, none⟩ = some (.int .i64 3)) := Lib.hid c0
    have d7 := (HW2.out.cell (p := ⟨p, 7, none⟩) hpl).trans c7
    have Xx := Lib.hid ((Box2.new w x 50).alloc (.cells #[.int .i64 y.id, .slice y.A y.n y.c] 50))
    have Xy := Lib.hid (Box2.new (w.alloc (.cells #[.int .i64 x.id, .slice x.A x.n x.c] 50)) y 50)
    obtain ⟨-, x_0, x_1⟩ := Xx.out
    obtain ⟨-, y_0, y_1⟩ := Xy.out
    rw [World.size_alloc] at y_0 y_1
    clear Xx Xy
    go_enter Try.func89, Try.ntmps89
    go_wp2
    generalize ((w.alloc (.cells #[.int .i64 x.id, .slice x.A x.n x.c] 50)).alloc (.cells #[.int .i64 y.id, .slice y.A y.n y.c] 50)) = w0 at *
    clear c0 c7
    go_still_tail 6, (by kernel_rfl)
    change wpList _ _ _ _ _ w0.drew
    generalize hw1 : w0.drew = w1 at *
    have HB1 : Hid (Below w.heap.size w w1) := Lib.hid (hw1 ▸ HW2.out.drew)
    clear d7 x_0 x_1 y_0 y_1 hw1
    go_wp2_with fail
    refine (HIH.out _ HB1.out).mono ?_
    rintro e w2 ⟨rfl, hb2⟩
    have HB2 := Lib.hid (below_on HB1.out hb2)
    have c0 := (HB2.out.cell (p := ⟨p, 0, none⟩) hpl).trans HP0.out
    clear hb2
    go_wp2_with fail
    refine (iRev w2 z).mono ?_
    rintro e w3 ⟨rfl, rfl⟩
    go_wp2
    go_ret
    exact ⟨rfl, HB2.out⟩
  | bin op a b iha ihb =>
    intro p w hp hB hix hiy
    rw [hvx, hvy] at iha ihb ⊢
    obtain ⟨_, hpl, hop, t, q, r, hrow, -, -, -, hpa, hpb⟩ := hp
    have c0 := part0 hrow
    have c7 := part7 hrow
    have c8 := part8 hrow
    clear hrow
    have HIA : Hid (∀ w1, Below w.heap.size w w1 → Calls Try.prog 89 #[.pointer (some ⟨q, 0, none⟩), .agg #[.int .i64 x.id, .slice x.A x.n x.c], .agg #[.int .i64 y.id, .slice y.A y.n y.c]] w1 fun e w' => e = .returned (.int .i64 (cmpT (wishF x y) a)) ∧ Below w1.heap.size w1 w') := Lib.hid fun w1 h => iha q w1 (hpa.below hB h) (Nat.le_trans hB h.size) (hix.below (h.mono hB)) (hiy.below (h.mono hB))
    have HIB : Hid (∀ w1, Below w.heap.size w w1 → Calls Try.prog 89 #[.pointer (some ⟨r, 0, none⟩), .agg #[.int .i64 x.id, .slice x.A x.n x.c], .agg #[.int .i64 y.id, .slice y.A y.n y.c]] w1 fun e w' => e = .returned (.int .i64 (cmpT (wishF x y) b)) ∧ Below w1.heap.size w1 w') := Lib.hid fun w1 h => ihb r w1 (hpb.below hB h) (Nat.le_trans hB h.size) (hix.below (h.mono hB)) (hiy.below (h.mono hB))
    have HZ : Hid (cmpT (wishF x y) (.bin op a b) = opC op (cmpT (wishF x y) a) (cmpT (wishF x y) b)) := Lib.hid rfl
    have HCa := Lib.hid (cmpT_code (wishF_code x y) a)
    have HCb := Lib.hid (cmpT_code (wishF_code x y) b)
    rw [HZ.out]
    generalize cmpT (wishF x y) a = za at *
    generalize cmpT (wishF x y) b = zb at *
    obtain ⟨zz, hzz⟩ : ∃ zz, opC op za zb = zz := ⟨_, rfl⟩
    rw [hzz]
    have HV := Lib.hid hzz
    clear hzz
    clear HZ iha ihb hix hiy hpa hpb hvx hvy
    have HW2 : Hid (Below w.heap.size w ((w.alloc (.cells #[.int .i64 x.id, .slice x.A x.n x.c] 50)).alloc (.cells #[.int .i64 y.id, .slice y.A y.n y.c] 50))) := Lib.hid (((Below.refl _ w).alloc (Nat.le_refl _) _).alloc (by simp) _)
    have HP0 : Hid (w.cell? ⟨p, 0, none⟩ = some (.int .i64 op)) := Lib.hid c0
    have HP8 : Hid (w.cell? ⟨p, 8, none⟩ = some (.pointer (some ⟨r, 0, none⟩))) := Lib.hid c8
    have d7 := (HW2.out.cell (p := ⟨p, 7, none⟩) hpl).trans c7
    have f0 : (op == 0) = false := by have := (bin_ne hop).1; simpa using this
    have f3 : (op == 3) = false := by have := (bin_ne hop).2; simpa using this
    have HOp : Hid (op = 1 ∨ op = 2 ∨ op = 4) := Lib.hid hop
    clear hop
    have Xx := Lib.hid ((Box2.new w x 50).alloc (.cells #[.int .i64 y.id, .slice y.A y.n y.c] 50))
    have Xy := Lib.hid (Box2.new (w.alloc (.cells #[.int .i64 x.id, .slice x.A x.n x.c] 50)) y 50)
    obtain ⟨-, x_0, x_1⟩ := Xx.out
    obtain ⟨-, y_0, y_1⟩ := Xy.out
    rw [World.size_alloc] at y_0 y_1
    clear Xx Xy
    have HXB := Lib.hid (And.intro x_0 (And.intro x_1 (And.intro y_0 y_1)))
    go_enter Try.func89, Try.ntmps89
    go_wp2
    generalize hw0 : ((w.alloc (.cells #[.int .i64 x.id, .slice x.A x.n x.c] 50)).alloc (.cells #[.int .i64 y.id, .slice y.A y.n y.c] 50)) = w0 at *
    clear c0 c7 c8
    go_still_tail 6, (by kernel_rfl)
    change wpList _ _ _ _ _ w0.drew
    have HX0 : Hid (w.heap.size < w0.heap.size ∧ w.heap.size + 1 < w0.heap.size) := Lib.hid (by rw [← hw0]; simp; omega)
    generalize hw1 : w0.drew = w1 at *
    have HB1 : Hid (Below w.heap.size w w1) := Lib.hid (hw1 ▸ HW2.out.drew)
    have HB01 : Hid (Below w0.heap.size w0 w1) := Lib.hid (hw1 ▸ (Below.refl _ _).drew)
    clear d7 x_0 x_1 y_0 y_1 hw1 hw0
    go_wp2_with fail
    refine (HIA.out _ HB1.out).mono ?_
    rintro e w2 ⟨rfl, hb2⟩
    have HB2 := Lib.hid (below_on HB1.out hb2)
    have HB02 := Lib.hid (below_on HB01.out hb2)
    have c0 := (HB2.out.cell (p := ⟨p, 0, none⟩) hpl).trans HP0.out
    have c8 := (HB2.out.cell (p := ⟨p, 8, none⟩) hpl).trans HP8.out
    obtain ⟨x_0, x_1, y_0, y_1⟩ := HXB.out
    obtain ⟨hx0, hy0⟩ := HX0.out
    replace x_0 := (HB02.out.cell (p := ⟨w.heap.size, 0, none⟩) hx0).trans x_0
    replace x_1 := (HB02.out.cell (p := ⟨w.heap.size, 1, none⟩) hx0).trans x_1
    replace y_0 := (HB02.out.cell (p := ⟨w.heap.size + 1, 0, none⟩) hy0).trans y_0
    replace y_1 := (HB02.out.cell (p := ⟨w.heap.size + 1, 1, none⟩) hy0).trans y_1
    clear hb2
    go_wp2
    go_still_tail 6, (by kernel_rfl)
    change wpList _ _ _ _ _ w2.drew
    generalize hw3 : w2.drew = w3 at *
    have HB3 : Hid (Below w.heap.size w w3) := Lib.hid (hw3 ▸ HB2.out.drew)
    clear c0 c8 x_0 x_1 y_0 y_1 hx0 hy0 hw3
    go_wp2_with fail
    refine (HIB.out _ HB3.out).mono ?_
    rintro e w4 ⟨rfl, hb4⟩
    have HB4 := Lib.hid (below_on HB3.out hb4)
    have c0 := (HB4.out.cell (p := ⟨p, 0, none⟩) hpl).trans HP0.out
    clear hb4
    rcases HOp.out with rfl | rfl | rfl
    · have HR : Hid (zz = if apartC za zb = true then 2 else if za ≠ 0 then za else zb) := Lib.hid (by rw [← HV.out]; exact opC_pareto HCa.out HCb.out)
      clear HV
      go_wp2_with fail
      refine (iDis w4 za zb HCa.out HCb.out).mono ?_
      rintro e w5 ⟨rfl, rfl⟩
      generalize apartC za zb = qa at *
      cases qa
      · by_cases h : za = 0
        · subst h
          obtain rfl : zz = zb := by rw [HR.out]; simp
          go_wp2
          go_ret
          exact ⟨rfl, HB4.out⟩
        · obtain rfl : zz = za := by rw [HR.out, if_neg (by simp), if_pos h]
          have hne : (zz != 0) = true := by simpa using h
          go_wp2
          go_ret
          exact ⟨rfl, HB4.out⟩
      · obtain rfl : zz = 2 := by rw [HR.out, if_pos rfl]
        go_wp2
        go_ret
        exact ⟨rfl, HB4.out⟩
    · have HR : Hid (zz = if za ≠ 0 then za else zb) := Lib.hid (by rw [← HV.out]; rfl)
      clear HV
      by_cases h : za = 0
      · subst h
        obtain rfl : zz = zb := by rw [HR.out]; simp
        go_wp2
        go_ret
        exact ⟨rfl, HB4.out⟩
      · obtain rfl : zz = za := by rw [HR.out, if_pos h]
        have hne : (zz != 0) = true := by simpa using h
        go_wp2
        go_ret
        exact ⟨rfl, HB4.out⟩
    · have HR : Hid (zz = if za = zb then za else 2) := Lib.hid (by rw [← HV.out]; rfl)
      clear HV
      by_cases h : za = zb
      · subst h
        obtain rfl : zz = za := by rw [HR.out, if_pos rfl]
        have hne2 : (zz != zz) = false := by simp
        by_cases h : zz = 0
        · subst h
          go_wp2
          go_ret
          exact ⟨rfl, HB4.out⟩
        · have hne : (zz != 0) = true := by simpa using h
          go_wp2
          go_ret
          exact ⟨rfl, HB4.out⟩
      · obtain rfl : zz = 2 := by rw [HR.out, if_neg h]
        have hne : (za != zb) = true := by simpa using h
        go_wp2
        go_ret
        exact ⟨rfl, HB4.out⟩
end Go.Proofs.Ytaijajajpnekbaa.num
namespace Go.Proofs.Ytaijajajpnekbaa.num
set_option maxRecDepth 20000
open Go.RowKit
set_option linter.unusedVariables false
set_option linter.unusedSimpArgs false

theorem ownI_take {w : World} {B : Nat} {A : Option Addr} {n c k : Nat} {l : List Int} (h : OwnI w B (.slice A n c) l) (hk : k ≤ n) : OwnI w B (.slice A k c) (l.take k) := by
  rcases h.2 with ⟨e, hl⟩ | ⟨g, cap, cur, e, hB, hg, h1, h2, h3, h4⟩
  · injection e with e1 e2 e3
    subst e1 e2 e3
    obtain rfl : k = 0 := by omega
    exact ⟨by simp, .inl ⟨rfl, by simp⟩⟩
  · injection e with e1 e2 e3
    subst e1 e2 e3
    have hlen : (l.take k).length = k := by rw [List.length_take]; omega
    refine ⟨by simp, .inr ⟨g, c, cur, by rw [hlen], hB, hg, by omega, h2, h3, ?_⟩⟩
    rw [List.map_take, ← h4, List.take_take, hlen]
    congr 1
    omega
theorem ownI_cells {w : World} {B : Nat} {A : Option Addr} {n c : Nat} {l : List Int} (h : OwnI w B (.slice A n c) l) (hn : 0 < n) : l.length = n ∧ n ≤ c ∧ c ≤ maxLen ∧ ∃ g, A = some ⟨g, 0, none⟩ ∧ B ≤ g ∧ g < w.heap.size ∧ ∀ (j : Nat) (x : Int), l[j]? = some x → w.cell? ⟨g, j, none⟩ = some (.int .i64 x) ∧ w.frozen? ⟨g, j, none⟩ = false := by
  rcases ownI_row h with ⟨e, _⟩ | ⟨g, cap, f, e, hB, h1, h2, h3, h4⟩
  · injection e with e1 e2 e3; omega
  · injection e with e1 e2 e3
    subst e1 e2 e3
    refine ⟨rfl, h1, h2, g, rfl, hB, h3.lt, fun j x hj => ?_⟩
    have hlt : j < l.length := by
      rcases Nat.lt_or_ge j l.length with q | q
      · exact q
      · rw [List.getElem?_eq_none q] at hj; cases hj
    have h5 := h4 j hlt
    rw [List.getElem?_map, hj] at h5
    exact ⟨by rw [World.rowIs.cell h3 (by omega)]; exact h5.symm, World.rowIs.frozen h3 j⟩
theorem ownI_setlast {w : World} {B g n c : Nat} {M : List Int} {x : Int} (h : OwnI w B (.slice (some ⟨g, 0, none⟩) n c) (M ++ [x])) (y : Int) : OwnI (w.setCell ⟨g, M.length, none⟩ (.int .i64 y)) B (.slice (some ⟨g, 0, none⟩) n c) (M ++ [y]) := by
  rcases ownI_row h with ⟨e, _⟩ | ⟨g', cap, f, e, hB, h1, h2, h3, h4⟩
  · cases e
  · injection e with e1 e2 e3
    injection e1 with e1
    injection e1 with e1
    subst e1 e2 e3
    refine ownI_of_row hB (by simp) h1 h2 (World.rowIs.set h3 M.length (.int .i64 y)) fun j hj => ?_
    have h5 := h4 j hj
    by_cases e : j = M.length
    · subst e
      rw [if_pos rfl]
      simp
    · rw [if_neg e, ← h5]
      have hlt : j < M.length := by simp at hj; omega
      simp only [List.map_append]
      rw [List.getElem?_append_left (by simpa using hlt), List.getElem?_append_left (by simpa using hlt)]
theorem snoc_of {α : Type} {l : List α} {k : Nat} (h : l.length = k + 1) : ∃ m x, l = m ++ [x] ∧ m.length = k := by
  rcases List.eq_nil_or_concat l with rfl | ⟨m, x, rfl⟩
  · simp at h
  · exact ⟨m, x, by rw [List.concat_eq_append], by simpa using h⟩

theorem sMeet (w : World) (a b : Int) : Calls Try.prog 120 #[.int .i64 a, .int .i64 b] w fun e w' => e = .returned (.int .i64 (if a = b then a else 2)) ∧ w' = w := by
  by_cases h : a = b
  · subst h
    rw [if_pos rfl]
    have hx : (a == a) = true := by simp
    go_enter Try.func120, Try.ntmps120
    go_wp2
    go_ret
    exact ⟨rfl, rfl⟩
  · rw [if_neg h]
    have hx : (a == b) = false := by simpa using h
    go_enter Try.func120, Try.ntmps120
    go_wp2
    go_ret
    exact ⟨rfl, rfl⟩
theorem sPareto (w : World) (a b : Int) (ha : Code a) (hb : Code b) : Calls Try.prog 119 #[.int .i64 a, .int .i64 b] w fun e w' => e = .returned (.int .i64 (opC 1 a b)) ∧ w' = w := by
  rcases ha with rfl | rfl | rfl | rfl <;> rcases hb with rfl | rfl | rfl | rfl <;>
    (go_enter Try.func119, Try.ntmps119
     go_wp2
     go_ret
     exact ⟨by first | rfl | decide, rfl⟩)
theorem sOp (w : World) (op a b : Int) (ho : Bin op) (ha : Code a) (hb : Code b) : Calls Try.prog 95 #[.int .i64 op, .int .i64 a, .int .i64 b] w fun e w' => e = .returned (.int .i64 (opC op a b)) ∧ w' = w := by
  have HP : Hid (∀ w1, Calls Try.prog 119 #[.int .i64 a, .int .i64 b] w1 fun e w' => e = .returned (.int .i64 (opC 1 a b)) ∧ w' = w1) := Lib.hid fun w1 => sPareto w1 a b ha hb
  clear ha hb
  obtain ⟨z, hz⟩ : ∃ z, opC op a b = z := ⟨_, rfl⟩
  rw [hz]
  have HZ := Lib.hid hz
  clear hz
  rcases ho with rfl | rfl | rfl
  · go_enter Try.func95, Try.ntmps95
    go_wp2_with fail
    refine (HP.out _).mono ?_
    rintro e w1 ⟨rfl, rfl⟩
    rw [HZ.out]
    go_wp2
    go_ret
    exact ⟨rfl, rfl⟩
  · by_cases h : a = 0
    · subst h
      obtain rfl : z = b := by rw [← HZ.out]; rfl
      go_enter Try.func95, Try.ntmps95
      go_wp2
      go_ret
      exact ⟨rfl, rfl⟩
    · obtain rfl : z = a := by rw [← HZ.out]; unfold opC; rw [if_neg (by decide), if_pos rfl, if_pos h]
      have hne : (z != 0) = true := by simpa using h
      go_enter Try.func95, Try.ntmps95
      go_wp2
      go_ret
      exact ⟨rfl, rfl⟩
  · go_enter Try.func95, Try.ntmps95
    go_wp2_with fail
    refine (sMeet _ a b).mono ?_
    rintro e w1 ⟨rfl, rfl⟩
    have hv : (if a = b then a else 2) = z := by rw [← HZ.out]; rfl
    rw [hv]
    go_wp2
    go_ret
    exact ⟨rfl, rfl⟩

/-- The codes on the stack, the last one on top. -/
def codes (f : WD → Int) (st : List Tr) : List Int := st.reverse.map (cmpT f)
theorem codes_cons (f : WD → Int) (t : Tr) (st : List Tr) : codes f (t :: st) = codes f st ++ [cmpT f t] := by unfold codes; rw [List.reverse_cons, List.map_append, List.map_singleton]
theorem codes_len (f : WD → Int) (st : List Tr) : (codes f st).length = st.length := by unfold codes; simp
theorem stk_next {l : List ND} {nd : ND} {st : List Tr} (h : Stk l st) (h' : ∃ s, Stk (l ++ [nd]) s) :
    (nd.op = 0 ∧ IsW nd.w) ∨ (nd.op = 3 ∧ NoW nd.w ∧ ∃ a s, st = a :: s) ∨ (Bin nd.op ∧ NoW nd.w ∧ ∃ a b s, st = b :: a :: s) := by
  obtain ⟨s, hs⟩ := h'
  rcases hs.inv with ⟨h1, h2, _⟩ | ⟨h1, h2, a, s', k, _⟩ | ⟨h1, h2, a, b, s', k, _⟩
  · exact .inl ⟨h1, h2⟩
  · exact .inr (.inl ⟨h1, h2, a, s', h.one k⟩)
  · exact .inr (.inr ⟨h1, h2, a, b, s', h.one k⟩)

set_option maxRecDepth 20000 in
set_option maxHeartbeats 6400000 in
theorem sCompare (w : World) (B : Nat) (A : Option Addr) (n c : Nat) (ns : List Nd) (x y : It) (hi : Nodes w B A n ns) (hix : Ints w B x.A x.n x.xs) (hiy : Ints w B y.A y.n y.xs) (hB : B ≤ w.heap.size) (hN : ShortN ns) (hpx : IsP x.dat) (hpy : IsP y.dat) (t : Tr) (hp : Post (datN ns) t) (h9 : n ≤ 9) :
    Calls Try.prog 68 #[.slice A n c, x.val, y.val] w fun e w' => e = .returned (.int .i64 (cmpT (wishF x y) t)) ∧ Below w.heap.size w w' := by
  have HX := Lib.hid hi
  have HN := Lib.hid hN
  have HIx := Lib.hid hix
  have HIy := Lib.hid hiy
  have HPx := Lib.hid hpx
  have HPy := Lib.hid hpy
  have HPo := Lib.hid (post_stk.1 hp)
  have HPre : Hid (∀ k, ∃ s, Stk (datN (ns.take k)) s) := Lib.hid fun k => by
    have h := post_stk.1 hp
    rw [datN_split ns k] at h
    exact h.pre
  have hvx : x.val = .agg #[.int .i64 x.id, .slice x.A x.n x.c] := rfl
  have hvy : y.val = .agg #[.int .i64 y.id, .slice y.A y.n y.c] := rfl
  rw [hvx, hvy]
  clear hi hN hix hiy hpx hpy hp hvx hvy
  have hB1 : Below w.heap.size w (((w.alloc (.cells #[.int .i64 x.id, .slice x.A x.n x.c] 50)).alloc (.cells #[.int .i64 y.id, .slice y.A y.n y.c] 50)).alloc (.cells #[] 3)) := (((Below.refl _ w).alloc (Nat.le_refl _) _).alloc (by simp) _).alloc (by simp; omega) _
  have HB1 := Lib.hid hB1
  have Xx := Lib.hid (((Box2.new w x 50).alloc (.cells #[.int .i64 y.id, .slice y.A y.n y.c] 50)).alloc (.cells #[] 3))
  have Xy := Lib.hid ((Box2.new (w.alloc (.cells #[.int .i64 x.id, .slice x.A x.n x.c] 50)) y 50).alloc (.cells #[] 3))
  have HO : Hid (OwnI (((w.alloc (.cells #[.int .i64 x.id, .slice x.A x.n x.c] 50)).alloc (.cells #[.int .i64 y.id, .slice y.A y.n y.c] 50)).alloc (.cells #[] 3)) (w.heap.size + 2) (.slice (some ⟨((w.alloc (.cells #[.int .i64 x.id, .slice x.A x.n x.c] 50)).alloc (.cells #[.int .i64 y.id, .slice y.A y.n y.c] 50)).heap.size, 0, none⟩) 0 0) []) := Lib.hid (OwnI.empty _ _ (by simp))
  clear hB1
  go_enter Try.func68, Try.ntmps68
  go_wp2
  go_loopw [7, 8] (fun s i wr => ∃ (k m : Nat) (cc : Nat) (SA : Option Addr) (st : List Tr), k ≤ n ∧ i = .int .i64 k ∧ s = .slice SA m cc ∧ m ≤ k ∧ Stk (datN (ns.take k)) st ∧ st.length = m ∧ OwnI wr (w.heap.size + 2) (.slice SA m cc) (codes (wishF x y) st) ∧ Below w.heap.size w wr ∧ w.heap.size + 2 ≤ wr.heap.size ∧
    (wr.cell? ⟨w.heap.size, 0, none⟩ = some (.int .i64 x.id) ∧ wr.cell? ⟨w.heap.size, 1, none⟩ = some (.slice x.A x.n x.c) ∧ wr.cell? ⟨w.heap.size + 1, 0, none⟩ = some (.int .i64 y.id) ∧ wr.cell? ⟨w.heap.size + 1, 1, none⟩ = some (.slice y.A y.n y.c))) (fun _ i _ => n - (intOf i).toNat)
  case atStart =>
    obtain ⟨-, x_0, x_1⟩ := Xx.out
    obtain ⟨-, y_0, y_1⟩ := Xy.out
    rw [World.size_alloc] at y_0 y_1
    refine ⟨0, 0, 0, _, [], Nat.zero_le _, rfl, rfl, Nat.le_refl _, .nil, rfl, ?_, HB1.out, by simp, x_0, x_1, y_0, y_1⟩
    have h := HO.out
    have e : codes (wishF x y) [] = [] := rfl
    rw [e]
    simpa using h
  case round =>
    clear Xx Xy HO HB1
    obtain ⟨k, m, cc, SA, st, hk, rfl, rfl, hmk, hst, hlen, hown, hbel, hs2, hbox⟩ := hrel
    have HSt := Lib.hid hst
    have HLen := Lib.hid hlen
    have HO := Lib.hid hown
    have HB := Lib.hid hbel
    have HS2 := Lib.hid hs2
    have HBox := Lib.hid hbox
    clear hst hlen hown hs2
    by_cases hlt : k < n
    · obtain ⟨b1, off, ⟨op, t⟩, rfl, hb1, hat, hwf, g0, g1, g2, g3, g4, g5⟩ := HX.out.at k hlt
      dsimp only at g0 g1 g2 g3 g4 g5
      have tr : ∀ {bb oo : Nat} {v : Value}, bb < B → w.cell? ⟨bb, oo, none⟩ = some v → wr.cell? ⟨bb, oo, none⟩ = some v := fun {bb oo v} hb h => (hbel.cell (p := ⟨bb, oo, none⟩) (Nat.lt_of_lt_of_le hb hB)).trans h
      have g0 := tr hb1 g0
      have g1 := tr hb1 g1
      have g2 := tr hb1 g2
      have g3 := tr hb1 g3
      have g4 := tr hb1 g4
      have g5 := tr hb1 g5
      have hlt' : (k : Int) < (n : Int) := by omega
      have HWi : Hid (WiIn wr B t) := Lib.hid (hwf.2.below (hbel.mono hB))
      have hBr : B ≤ wr.heap.size := Nat.le_trans hB hbel.size
      have HSh : Hid t.Short := Lib.hid (HN.out _ (List.mem_of_getElem? hat))
      have HE : Hid (datN (ns.take (k + 1)) = datN (ns.take k) ++ [⟨op, t.dat⟩]) := Lib.hid (datN_at hat)
      have hnext := stk_next HSt.out (HE.out ▸ HPre.out (k + 1))
      have HIx1 := Lib.hid (HIx.out.below (hbel.mono hB))
      have HIy1 := Lib.hid (HIy.out.below (hbel.mono hB))
      clear hat hwf hbel tr
      dsimp only at hnext
      rcases hnext with ⟨rfl, hw⟩ | ⟨rfl, hnw, a, s, rfl⟩ | ⟨hbin, hnw, a, b, s, rfl⟩
      · have hf : 0 ≤ t.field ∧ t.field ≤ 2 := hw.f
        obtain ⟨bx, ox, hxA, hbx, hfn, hfx, cx0⟩ := fval_cell HIx1.out HPx.out hf
        obtain ⟨by', oy, hyA, hby, -, hfy, cy0⟩ := fval_cell HIy1.out HPy.out hf
        have HC : Hid (∀ w1, Below wr.heap.size wr w1 → Calls Try.prog 94 #[.agg #[.int .i64 t.kind, .int .i64 t.field, .int .i64 t.value, .slice t.LA t.Ln t.Lc, .slice t.PA t.Pn t.Pc], .int .i64 (fval x t.field), .int .i64 (fval y t.field)] w1 fun e w' => e = .returned (.int .i64 (cmpW t.dat (fval x t.field) (fval y t.field))) ∧ Below w1.heap.size w1 w') := Lib.hid fun w1 h => sCmp w1 B t (HWi.out.below (h.mono hBr)) (Nat.le_trans hBr h.size) HSh.out hw _ _ (fval_in HPx.out hf) (fval_in HPy.out hf)
        have HS1 : Hid (Stk (datN (ns.take (k + 1))) (.base t.dat :: st)) := Lib.hid (by rw [HE.out]; exact .base HSt.out rfl hw)
        have HZ : Hid (codes (wishF x y) (.base t.dat :: st) = codes (wishF x y) st ++ [cmpW t.dat (fval x t.field) (fval y t.field)]) := Lib.hid (codes_cons _ _ _)
        generalize cmpW t.dat (fval x t.field) (fval y t.field) = z at *
        generalize fval x t.field = vx at *
        generalize fval y t.field = vy at *
        have hbx3 : bx < wr.heap.size := by omega
        have hby3 : by' < wr.heap.size := by omega
        have hfw : IntKind.i64.wrap t.field = t.field := IntWalk.i64_in _ ⟨by omega, by omega⟩
        have hf0 := hf.1
        obtain ⟨x_0, x_1, y_0, y_1⟩ := hbox
        rw [hxA] at x_1
        rw [hyA] at y_1
        clear hxA hyA
        have HCap : Hid (((codes (wishF x y) st).length + [z].length) * 8 ≤ 140737488355328) := Lib.hid (by rw [codes_len, HLen.out]; simp; omega)
        clear hf hw
        go_wp2
        have hws0 : w.heap.size < w.heap.size + 2 := by omega
        have hws1 : w.heap.size + 1 < w.heap.size + 2 := by omega
        have hb1r : b1 < w.heap.size + 2 := by omega
        have hbxr : bx < w.heap.size + 2 := by omega
        have hbyr : by' < w.heap.size + 2 := by omega
        have hs0 : (fun w' => Below (w.heap.size + 2) wr w' ∧ w'.cell? ⟨w.heap.size, 0, none⟩ = some (.int .i64 x.id) ∧ w'.cell? ⟨w.heap.size, 1, none⟩ = some (.slice (some ⟨bx, ox, none⟩) x.n x.c) ∧ w'.cell? ⟨w.heap.size + 1, 0, none⟩ = some (.int .i64 y.id) ∧ w'.cell? ⟨w.heap.size + 1, 1, none⟩ = some (.slice (some ⟨by', oy, none⟩) y.n y.c) ∧ w'.cell? ⟨b1, off + k * 6, none⟩ = some (.int .i64 0) ∧ w'.cell? ⟨b1, off + k * 6 + 1, none⟩ = some (.int .i64 t.kind) ∧ w'.cell? ⟨b1, off + k * 6 + 2, none⟩ = some (.int .i64 t.field) ∧ w'.cell? ⟨b1, off + k * 6 + 3, none⟩ = some (.int .i64 t.value) ∧ w'.cell? ⟨b1, off + k * 6 + 4, none⟩ = some (.slice t.LA t.Ln t.Lc) ∧ w'.cell? ⟨b1, off + k * 6 + 5, none⟩ = some (.slice t.PA t.Pn t.Pc) ∧ w'.cell? ⟨bx, ox + t.field.toNat, none⟩ = some (.int .i64 vx) ∧ w'.cell? ⟨by', oy + t.field.toNat, none⟩ = some (.int .i64 vy)) wr.drew := ⟨(Below.refl _ _).drew, x_0, x_1, y_0, y_1, g0, g1, g2, g3, g4, g5, cx0, cy0⟩
        refine wp_region_held (S := fun w' => Below (w.heap.size + 2) wr w' ∧ w'.cell? ⟨w.heap.size, 0, none⟩ = some (.int .i64 x.id) ∧ w'.cell? ⟨w.heap.size, 1, none⟩ = some (.slice (some ⟨bx, ox, none⟩) x.n x.c) ∧ w'.cell? ⟨w.heap.size + 1, 0, none⟩ = some (.int .i64 y.id) ∧ w'.cell? ⟨w.heap.size + 1, 1, none⟩ = some (.slice (some ⟨by', oy, none⟩) y.n y.c) ∧ w'.cell? ⟨b1, off + k * 6, none⟩ = some (.int .i64 0) ∧ w'.cell? ⟨b1, off + k * 6 + 1, none⟩ = some (.int .i64 t.kind) ∧ w'.cell? ⟨b1, off + k * 6 + 2, none⟩ = some (.int .i64 t.field) ∧ w'.cell? ⟨b1, off + k * 6 + 3, none⟩ = some (.int .i64 t.value) ∧ w'.cell? ⟨b1, off + k * 6 + 4, none⟩ = some (.slice t.LA t.Ln t.Lc) ∧ w'.cell? ⟨b1, off + k * 6 + 5, none⟩ = some (.slice t.PA t.Pn t.Pc) ∧ w'.cell? ⟨bx, ox + t.field.toNat, none⟩ = some (.int .i64 vx) ∧ w'.cell? ⟨by', oy + t.field.toNat, none⟩ = some (.int .i64 vy)) (by kernel_rfl) ?_
        change wpAnyH _ _ _ _ _ _ _ _ (World.drew _)
        refine takeY 58 (i := 0) (v := ?v0a) rfl rfl (by kernel_rfl) (by kernel_rfl) (by kernel_rfl) (fun _ _ _ h => h) (by kernel_rfl) ?y0a hs0 ?_
        case y0a =>
          intro w' hw'; (try dsimp only at hw'); obtain ⟨e0, e1, e2, e3, e4, e5, e6, e7, e8, e9, e10, e11, e12⟩ := hw'; go_simp; try with_reducible rfl
        simp only [Act.put, List.setIfInBounds_toArray, List.set_cons_zero, List.set_cons_succ]
        refine takeY 59 (i := 1) (v := ?v1a) rfl rfl (by kernel_rfl) (by kernel_rfl) (by kernel_rfl) (fun _ _ _ h => h) (by kernel_rfl) ?y1a hs0 ?_
        case y1a =>
          intro w' hw'; (try dsimp only at hw'); obtain ⟨e0, e1, e2, e3, e4, e5, e6, e7, e8, e9, e10, e11, e12⟩ := hw'; go_simp; try with_reducible rfl
        simp only [Act.put, List.setIfInBounds_toArray, List.set_cons_zero, List.set_cons_succ]
        refine takeY 60 (i := 2) (v := ?v2a) rfl rfl (by kernel_rfl) (by kernel_rfl) (by kernel_rfl) (fun _ _ _ h => h) (by kernel_rfl) ?y2a hs0 ?_
        case y2a =>
          intro w' hw'; (try dsimp only at hw'); obtain ⟨e0, e1, e2, e3, e4, e5, e6, e7, e8, e9, e10, e11, e12⟩ := hw'; go_simp; try with_reducible rfl
        simp only [Act.put, List.setIfInBounds_toArray, List.set_cons_zero, List.set_cons_succ]
        refine takeY 61 (i := 3) (v := ?v3a) rfl rfl (by kernel_rfl) (by kernel_rfl) (by kernel_rfl) (fun _ _ _ h => h) (by kernel_rfl) ?y3a hs0 ?_
        case y3a =>
          intro w' hw'; (try dsimp only at hw'); obtain ⟨e0, e1, e2, e3, e4, e5, e6, e7, e8, e9, e10, e11, e12⟩ := hw'; go_simp; try with_reducible rfl
        simp only [Act.put, List.setIfInBounds_toArray, List.set_cons_zero, List.set_cons_succ]
        refine takeY 62 (i := 4) (v := ?v4a) rfl rfl (by kernel_rfl) (by kernel_rfl) (by kernel_rfl) (fun _ _ _ h => h) (by kernel_rfl) ?y4a hs0 ?_
        case y4a =>
          intro w' hw'; (try dsimp only at hw'); obtain ⟨e0, e1, e2, e3, e4, e5, e6, e7, e8, e9, e10, e11, e12⟩ := hw'; go_simp; try with_reducible rfl
        simp only [Act.put, List.setIfInBounds_toArray, List.set_cons_zero, List.set_cons_succ]
        refine takeY 63 (i := 5) (v := ?v5a) rfl rfl (by kernel_rfl) (by kernel_rfl) (by kernel_rfl) (fun _ _ _ h => h) (by kernel_rfl) ?y5a hs0 ?_
        case y5a =>
          intro w' hw'; (try dsimp only at hw'); obtain ⟨e0, e1, e2, e3, e4, e5, e6, e7, e8, e9, e10, e11, e12⟩ := hw'; go_simp; try with_reducible rfl
        simp only [Act.put, List.setIfInBounds_toArray, List.set_cons_zero, List.set_cons_succ]
        refine takeY 64 (i := 6) (v := ?v6a) rfl rfl (by kernel_rfl) (by kernel_rfl) (by kernel_rfl) (fun _ _ _ h => h) (by kernel_rfl) ?y6a hs0 ?_
        case y6a =>
          intro w' hw'; (try dsimp only at hw'); obtain ⟨e0, e1, e2, e3, e4, e5, e6, e7, e8, e9, e10, e11, e12⟩ := hw'; go_simp; try with_reducible rfl
        simp only [Act.put, List.setIfInBounds_toArray, List.set_cons_zero, List.set_cons_succ]
        refine takeY 65 (i := 7) (v := ?v7a) rfl rfl (by kernel_rfl) (by kernel_rfl) (by kernel_rfl) (fun _ _ _ h => h) (by kernel_rfl) ?y7a hs0 ?_
        case y7a =>
          intro w' hw'; (try dsimp only at hw'); obtain ⟨e0, e1, e2, e3, e4, e5, e6, e7, e8, e9, e10, e11, e12⟩ := hw'; go_simp; try with_reducible rfl
        simp only [Act.put, List.setIfInBounds_toArray, List.set_cons_zero, List.set_cons_succ]
        refine takeY 66 (i := 8) (v := ?v8a) rfl rfl (by kernel_rfl) (by kernel_rfl) (by kernel_rfl) (fun _ _ _ h => h) (by kernel_rfl) ?y8a hs0 ?_
        case y8a =>
          intro w' hw'; (try dsimp only at hw'); obtain ⟨e0, e1, e2, e3, e4, e5, e6, e7, e8, e9, e10, e11, e12⟩ := hw'; go_simp; try with_reducible rfl
        simp only [Act.put, List.setIfInBounds_toArray, List.set_cons_zero, List.set_cons_succ]
        refine takeY 67 (i := 9) (v := ?v9a) rfl rfl (by kernel_rfl) (by kernel_rfl) (by kernel_rfl) (fun _ _ _ h => h) (by kernel_rfl) ?y9a hs0 ?_
        case y9a =>
          intro w' hw'; (try dsimp only at hw'); obtain ⟨e0, e1, e2, e3, e4, e5, e6, e7, e8, e9, e10, e11, e12⟩ := hw'; go_simp; try with_reducible rfl
        simp only [Act.put, List.setIfInBounds_toArray, List.set_cons_zero, List.set_cons_succ]
        refine takeY 68 (i := 10) (v := ?v10a) rfl rfl (by kernel_rfl) (by kernel_rfl) (by kernel_rfl) (fun _ _ _ h => h) (by kernel_rfl) ?y10a hs0 ?_
        case y10a =>
          intro w' hw'; (try dsimp only at hw'); obtain ⟨e0, e1, e2, e3, e4, e5, e6, e7, e8, e9, e10, e11, e12⟩ := hw'; go_simp; try with_reducible rfl
        simp only [Act.put, List.setIfInBounds_toArray, List.set_cons_zero, List.set_cons_succ]
        refine takeY 69 (i := 11) (v := ?v11a) rfl rfl (by kernel_rfl) (by kernel_rfl) (by kernel_rfl) (fun _ _ _ h => h) (by kernel_rfl) ?y11a hs0 ?_
        case y11a =>
          intro w' hw'; (try dsimp only at hw'); obtain ⟨e0, e1, e2, e3, e4, e5, e6, e7, e8, e9, e10, e11, e12⟩ := hw'; go_simp; try with_reducible rfl
        simp only [Act.put, List.setIfInBounds_toArray, List.set_cons_zero, List.set_cons_succ]
        refine takeY 70 (i := 12) (v := ?v12a) rfl rfl (by kernel_rfl) (by kernel_rfl) (by kernel_rfl) (fun _ _ _ h => h) (by kernel_rfl) ?y12a hs0 ?_
        case y12a =>
          intro w' hw'; (try dsimp only at hw'); obtain ⟨e0, e1, e2, e3, e4, e5, e6, e7, e8, e9, e10, e11, e12⟩ := hw'; go_simp; try with_reducible rfl
        simp only [Act.put, List.setIfInBounds_toArray, List.set_cons_zero, List.set_cons_succ]
        refine takeY 71 (i := 13) (v := ?v13a) rfl rfl (by kernel_rfl) (by kernel_rfl) (by kernel_rfl) (fun _ _ _ h => h) (by kernel_rfl) ?y13a hs0 ?_
        case y13a =>
          intro w' hw'; (try dsimp only at hw'); obtain ⟨e0, e1, e2, e3, e4, e5, e6, e7, e8, e9, e10, e11, e12⟩ := hw'; go_simp; try with_reducible rfl
        simp only [Act.put, List.setIfInBounds_toArray, List.set_cons_zero, List.set_cons_succ]
        refine takeY 72 (i := 14) (v := ?v14a) rfl rfl (by kernel_rfl) (by kernel_rfl) (by kernel_rfl) (fun _ _ _ h => h) (by kernel_rfl) ?y14a hs0 ?_
        case y14a =>
          intro w' hw'; (try dsimp only at hw'); obtain ⟨e0, e1, e2, e3, e4, e5, e6, e7, e8, e9, e10, e11, e12⟩ := hw'; go_simp; try with_reducible rfl
        simp only [Act.put, List.setIfInBounds_toArray, List.set_cons_zero, List.set_cons_succ]
        refine takeY 73 (i := 15) (v := ?v15a) rfl rfl (by kernel_rfl) (by kernel_rfl) (by kernel_rfl) (fun _ _ _ h => h) (by kernel_rfl) ?y15a hs0 ?_
        case y15a =>
          intro w' hw'; (try dsimp only at hw'); obtain ⟨e0, e1, e2, e3, e4, e5, e6, e7, e8, e9, e10, e11, e12⟩ := hw'; go_simp; try with_reducible rfl
        simp only [Act.put, List.setIfInBounds_toArray, List.set_cons_zero, List.set_cons_succ]
        refine wpAnyH_ready (rs := [16]) (by kernel_rfl) (by simp) ?_
        refine AllReadyH.cons rfl (fun K hK => ?_) AllReadyH.nil
        go_simp; go_at_call 94; refine (HC.out _ (Below.refl _ _).drew).mono ?_; rintro e w2 ⟨rfl, hb2⟩; have hb2' : Below wr.heap.size wr w2 := below_on (Below.refl wr.heap.size wr).drew hb2; have HB2 := Lib.hid hb2'; have HO2 := Lib.hid (ownI_below HO.out hb2'); have hs2 : w.heap.size + 2 ≤ w2.heap.size := Nat.le_trans HS2.out hb2'.size; have hb2m : Below (w.heap.size + 2) wr w2 := hb2'.mono HS2.out; clear hb2
        refine hK.out _ _ ⟨hb2m, (hb2m.cell (p := ⟨w.heap.size, 0, none⟩) hws0).trans x_0, (hb2m.cell (p := ⟨w.heap.size, 1, none⟩) hws0).trans x_1, (hb2m.cell (p := ⟨w.heap.size + 1, 0, none⟩) hws1).trans y_0, (hb2m.cell (p := ⟨w.heap.size + 1, 1, none⟩) hws1).trans y_1, (hb2m.cell (p := ⟨b1, off + k * 6, none⟩) hb1r).trans g0, (hb2m.cell (p := ⟨b1, off + k * 6 + 1, none⟩) hb1r).trans g1, (hb2m.cell (p := ⟨b1, off + k * 6 + 2, none⟩) hb1r).trans g2, (hb2m.cell (p := ⟨b1, off + k * 6 + 3, none⟩) hb1r).trans g3, (hb2m.cell (p := ⟨b1, off + k * 6 + 4, none⟩) hb1r).trans g4, (hb2m.cell (p := ⟨b1, off + k * 6 + 5, none⟩) hb1r).trans g5, (hb2m.cell (p := ⟨bx, ox + t.field.toNat, none⟩) hbxr).trans cx0, (hb2m.cell (p := ⟨by', oy + t.field.toNat, none⟩) hbyr).trans cy0⟩ (fun hS1 => ?_)
        clear hK K
        try simp only [Act.put, List.setIfInBounds_toArray, List.set_cons_zero, List.set_cons_succ]
        refine wpAnyH_ready (rs := [17]) (by kernel_rfl) (by simp) ?_
        refine AllReadyH.cons rfl (fun K hK => ?_) AllReadyH.nil
        go_simp; have hb2a : Below (w.heap.size + 2) wr (w2.alloc (.cells #[.int .i64 z] 3)) := hb2m.alloc hs2 _
        refine hK.out _ _ ⟨hb2a, (hb2a.cell (p := ⟨w.heap.size, 0, none⟩) hws0).trans x_0, (hb2a.cell (p := ⟨w.heap.size, 1, none⟩) hws0).trans x_1, (hb2a.cell (p := ⟨w.heap.size + 1, 0, none⟩) hws1).trans y_0, (hb2a.cell (p := ⟨w.heap.size + 1, 1, none⟩) hws1).trans y_1, (hb2a.cell (p := ⟨b1, off + k * 6, none⟩) hb1r).trans g0, (hb2a.cell (p := ⟨b1, off + k * 6 + 1, none⟩) hb1r).trans g1, (hb2a.cell (p := ⟨b1, off + k * 6 + 2, none⟩) hb1r).trans g2, (hb2a.cell (p := ⟨b1, off + k * 6 + 3, none⟩) hb1r).trans g3, (hb2a.cell (p := ⟨b1, off + k * 6 + 4, none⟩) hb1r).trans g4, (hb2a.cell (p := ⟨b1, off + k * 6 + 5, none⟩) hb1r).trans g5, (hb2a.cell (p := ⟨bx, ox + t.field.toNat, none⟩) hbxr).trans cx0, (hb2a.cell (p := ⟨by', oy + t.field.toNat, none⟩) hbyr).trans cy0⟩ (fun hS2 => ?_)
        clear hK K
        try simp only [Act.put, List.setIfInBounds_toArray, List.set_cons_zero, List.set_cons_succ]
        refine wpAnyH_ready (rs := [18]) (by kernel_rfl) (by simp) ?_
        refine AllReadyH.cons rfl (fun K hK => ?_) AllReadyH.nil
        refine stepI w2 (by rfl) (.tmp 58) (.tmp 75) (by rfl) (w.heap.size + 2) _ _ (by rfl) HO2.out _ [z] (by rfl) 1 1 rfl (by rfl) HCap.out hs2 ?_; intro v1 w3 hown3 hb3; have hb3m := hb2m.trans hb3
        refine hK.out _ _ ⟨hb3m, (hb3m.cell (p := ⟨w.heap.size, 0, none⟩) hws0).trans x_0, (hb3m.cell (p := ⟨w.heap.size, 1, none⟩) hws0).trans x_1, (hb3m.cell (p := ⟨w.heap.size + 1, 0, none⟩) hws1).trans y_0, (hb3m.cell (p := ⟨w.heap.size + 1, 1, none⟩) hws1).trans y_1, (hb3m.cell (p := ⟨b1, off + k * 6, none⟩) hb1r).trans g0, (hb3m.cell (p := ⟨b1, off + k * 6 + 1, none⟩) hb1r).trans g1, (hb3m.cell (p := ⟨b1, off + k * 6 + 2, none⟩) hb1r).trans g2, (hb3m.cell (p := ⟨b1, off + k * 6 + 3, none⟩) hb1r).trans g3, (hb3m.cell (p := ⟨b1, off + k * 6 + 4, none⟩) hb1r).trans g4, (hb3m.cell (p := ⟨b1, off + k * 6 + 5, none⟩) hb1r).trans g5, (hb3m.cell (p := ⟨bx, ox + t.field.toNat, none⟩) hbxr).trans cx0, (hb3m.cell (p := ⟨by', oy + t.field.toNat, none⟩) hbyr).trans cy0⟩ (fun hS3 => ?_)
        clear hK K
        try simp only [Act.put, List.setIfInBounds_toArray, List.set_cons_zero, List.set_cons_succ]
        refine takeY 7 (i := 19) (v := ?v19a) rfl rfl (by kernel_rfl) (by kernel_rfl) (by kernel_rfl) (fun _ _ _ h => h) (by kernel_rfl) ?y19a hS3 ?_
        case y19a =>
          intro w' hw'; (try dsimp only at hw'); obtain ⟨e0, e1, e2, e3, e4, e5, e6, e7, e8, e9, e10, e11, e12⟩ := hw'; go_simp; try with_reducible rfl
        simp only [Act.put, List.setIfInBounds_toArray, List.set_cons_zero, List.set_cons_succ]
        refine wpAnyH_done (by kernel_rfl) ?_ _
        clear hs0 hS1 hS2 hS3 hb2a hb2m hb3m hb2' x_0 x_1 y_0 y_1 cx0 cy0 g0 g1 g2 g3 g4 g5
        obtain ⟨LA', Ln', Lc', rfl, hin⟩ := hown3.ints
        have hlen3 : Ln' = m + 1 := by have := hin.1; rw [List.length_append, codes_len, HLen.out] at this; simp at this; omega
        have HO3 := Lib.hid hown3
        have HB3 := Lib.hid (HB2.out.mono HB.out.size)
        have HB4 := Lib.hid (HB.out.trans (HB3.out.trans (hb3.mono (by omega))))
        have HBox3 : Hid (w3.cell? ⟨w.heap.size, 0, none⟩ = some (.int .i64 x.id) ∧ w3.cell? ⟨w.heap.size, 1, none⟩ = some (.slice x.A x.n x.c) ∧ w3.cell? ⟨w.heap.size + 1, 0, none⟩ = some (.int .i64 y.id) ∧ w3.cell? ⟨w.heap.size + 1, 1, none⟩ = some (.slice y.A y.n y.c)) := Lib.hid (by
          have k : ∀ (bb oo : Nat), bb < w.heap.size + 2 → w3.cell? ⟨bb, oo, none⟩ = wr.cell? ⟨bb, oo, none⟩ := fun bb oo h => (hb3.cell (p := ⟨bb, oo, none⟩) h).trans (HB2.out.cell (p := ⟨bb, oo, none⟩) (Nat.lt_of_lt_of_le h HS2.out))
          have := HBox.out
          rw [k _ _ (by omega), k _ _ (by omega), k _ _ (by omega), k _ _ (by omega)]
          exact this)
        have HS3 := Lib.hid (Nat.le_trans hs2 hb3.size)
        clear hown3 hb3 hin
        go_wp2
        go_roundw
        case rel => exact ⟨k + 1, Ln', Lc', LA', .base t.dat :: st, by omega, by go_num, by first | rfl | rw [hlen3], by omega, HS1.out, by simp [HLen.out, hlen3], by rw [HZ.out]; exact HO3.out, HB4.out, HS3.out, HBox3.out⟩
        case measure => simp [intOf]; omega
      · have HS1 : Hid (Stk (datN (ns.take (k + 1))) (.dual a :: s)) := Lib.hid (by rw [HE.out]; exact .dual HSt.out rfl hnw)
        have HCo := Lib.hid (cmpT_code (wishF_code x y) a)
        have HZ : Hid (codes (wishF x y) (.dual a :: s) = codes (wishF x y) s ++ [revC (cmpT (wishF x y) a)]) := Lib.hid (codes_cons _ _ _)
        have hO := HO.out
        rw [codes_cons] at hO
        obtain ⟨j, rfl⟩ : ∃ j, m = j + 1 := ⟨s.length, by have := HLen.out; simp at this; omega⟩
        have hj : (codes (wishF x y) s).length = j := by rw [codes_len]; have := HLen.out; simp at this; omega
        obtain ⟨_, hcc, hcm, g, rfl, hgl, hgs, hcell⟩ := ownI_cells hO (by omega)
        obtain ⟨c1, c2⟩ := hcell j (cmpT (wishF x y) a) (by rw [List.getElem?_append_right (by omega), hj]; simp)
        have HOn := Lib.hid hO
        have HJ := Lib.hid hj
        have HG : Hid (w.heap.size + 2 ≤ g) := Lib.hid hgl
        have hx1 : (j : Int) + 1 - 1 = (j : Int) := by omega
        have hj1 : (j : Int) < (j : Int) + 1 := by omega
        have hj2 : j ≤ 9 := by omega
        clear hO hj hcell hnw hbox hcm
        generalize cmpT (wishF x y) a = z at *
        rcases HCo.out with rfl | rfl | rfl | rfl
        · have HO3 : Hid (OwnI (wr.setCell ⟨g, j, none⟩ (.int .i64 (1))) (w.heap.size + 2) (.slice (some ⟨g, 0, none⟩) (j + 1) cc) (codes (wishF x y) (.dual a :: s))) := Lib.hid (by
            rw [HZ.out, ← HJ.out]
            have h := ownI_setlast HOn.out (1)
            rw [HJ.out] at h ⊢
            exact h)
          go_wp2
          go_roundw
          case rel => exact ⟨k + 1, j + 1, cc, _, .dual a :: s, by omega, by go_num, rfl, by omega, HS1.out, by have := HLen.out; simpa using this, HO3.out, HB.out.setCell (by show w.heap.size ≤ g; omega) _, by simpa using HS2.out, by
            have h := HBox.out
            refine ⟨?_, ?_, ?_, ?_⟩
            · rw [World.cell?_setCell_other _ _ _ _ (fun e => by injection e; omega)]; exact h.1
            · rw [World.cell?_setCell_other _ _ _ _ (fun e => by injection e; omega)]; exact h.2.1
            · rw [World.cell?_setCell_other _ _ _ _ (fun e => by injection e; omega)]; exact h.2.2.1
            · rw [World.cell?_setCell_other _ _ _ _ (fun e => by injection e; omega)]; exact h.2.2.2⟩
          case measure => simp [intOf]; omega
        · have HO3 : Hid (OwnI (wr.setCell ⟨g, j, none⟩ (.int .i64 (0))) (w.heap.size + 2) (.slice (some ⟨g, 0, none⟩) (j + 1) cc) (codes (wishF x y) (.dual a :: s))) := Lib.hid (by
            rw [HZ.out, ← HJ.out]
            have h := ownI_setlast HOn.out (0)
            rw [HJ.out] at h ⊢
            exact h)
          go_wp2
          go_roundw
          case rel => exact ⟨k + 1, j + 1, cc, _, .dual a :: s, by omega, by go_num, rfl, by omega, HS1.out, by have := HLen.out; simpa using this, HO3.out, HB.out.setCell (by show w.heap.size ≤ g; omega) _, by simpa using HS2.out, by
            have h := HBox.out
            refine ⟨?_, ?_, ?_, ?_⟩
            · rw [World.cell?_setCell_other _ _ _ _ (fun e => by injection e; omega)]; exact h.1
            · rw [World.cell?_setCell_other _ _ _ _ (fun e => by injection e; omega)]; exact h.2.1
            · rw [World.cell?_setCell_other _ _ _ _ (fun e => by injection e; omega)]; exact h.2.2.1
            · rw [World.cell?_setCell_other _ _ _ _ (fun e => by injection e; omega)]; exact h.2.2.2⟩
          case measure => simp [intOf]; omega
        · have HO3 : Hid (OwnI (wr.setCell ⟨g, j, none⟩ (.int .i64 (-1))) (w.heap.size + 2) (.slice (some ⟨g, 0, none⟩) (j + 1) cc) (codes (wishF x y) (.dual a :: s))) := Lib.hid (by
            rw [HZ.out, ← HJ.out]
            have h := ownI_setlast HOn.out (-1)
            rw [HJ.out] at h ⊢
            exact h)
          go_wp2
          go_roundw
          case rel => exact ⟨k + 1, j + 1, cc, _, .dual a :: s, by omega, by go_num, rfl, by omega, HS1.out, by have := HLen.out; simpa using this, HO3.out, HB.out.setCell (by show w.heap.size ≤ g; omega) _, by simpa using HS2.out, by
            have h := HBox.out
            refine ⟨?_, ?_, ?_, ?_⟩
            · rw [World.cell?_setCell_other _ _ _ _ (fun e => by injection e; omega)]; exact h.1
            · rw [World.cell?_setCell_other _ _ _ _ (fun e => by injection e; omega)]; exact h.2.1
            · rw [World.cell?_setCell_other _ _ _ _ (fun e => by injection e; omega)]; exact h.2.2.1
            · rw [World.cell?_setCell_other _ _ _ _ (fun e => by injection e; omega)]; exact h.2.2.2⟩
          case measure => simp [intOf]; omega
        · have HO3 : Hid (OwnI wr (w.heap.size + 2) (.slice (some ⟨g, 0, none⟩) (j + 1) cc) (codes (wishF x y) (.dual a :: s))) := Lib.hid (by rw [HZ.out]; exact HOn.out)
          go_wp2
          go_roundw
          case rel => exact ⟨k + 1, j + 1, cc, _, .dual a :: s, by omega, by go_num, rfl, by omega, HS1.out, by have := HLen.out; simpa using this, HO3.out, HB.out, HS2.out, HBox.out⟩
          case measure => simp [intOf]; omega
      · have HS1 : Hid (Stk (datN (ns.take (k + 1))) (.bin op a b :: s)) := Lib.hid (by rw [HE.out]; exact .bin HSt.out hbin hnw)
        have HCa := Lib.hid (cmpT_code (wishF_code x y) a)
        have HCb := Lib.hid (cmpT_code (wishF_code x y) b)
        have HBin := Lib.hid hbin
        have HZ : Hid (codes (wishF x y) (.bin op a b :: s) = codes (wishF x y) s ++ [opC op (cmpT (wishF x y) a) (cmpT (wishF x y) b)]) := Lib.hid (codes_cons _ _ _)
        have hO := HO.out
        rw [codes_cons, codes_cons, List.append_assoc] at hO
        obtain ⟨j, rfl⟩ : ∃ j, m = j + 2 := ⟨s.length, by have := HLen.out; simp at this; omega⟩
        have hj : (codes (wishF x y) s).length = j := by rw [codes_len]; have := HLen.out; simp at this; omega
        obtain ⟨_, hcc, hcm, g, rfl, hgl, hgs, hcell⟩ := ownI_cells hO (by omega)
        obtain ⟨c1, -⟩ := hcell j (cmpT (wishF x y) a) (by rw [List.getElem?_append_right (by omega), hj]; simp)
        obtain ⟨c2, -⟩ := hcell (j + 1) (cmpT (wishF x y) b) (by rw [List.getElem?_append_right (by omega), hj, show j + 1 - j = 1 by omega]; rfl)
        have HTk : Hid (OwnI wr (w.heap.size + 2) (.slice (some ⟨g, 0, none⟩) j cc) (codes (wishF x y) s)) := Lib.hid (by
          have h := ownI_take hO (k := j) (by omega)
          rwa [List.take_left' hj] at h)
        have HJ := Lib.hid hj
        have HG : Hid (w.heap.size + 2 ≤ g) := Lib.hid hgl
        have hx1 : (j : Int) + 2 - 1 = (j : Int) + 1 := by omega
        have hx2 : (j : Int) + 2 - 2 = (j : Int) := by omega
        have hj1 : (j : Int) < (j : Int) + 2 := by omega
        have hj3 : (j : Int) + 1 < (j : Int) + 2 := by omega
        have hj4 : (j : Int) ≤ (cc : Int) := by omega
        have hj5 : (0 : Int) ≤ (j : Int) + 1 := by omega
        have hj6 : ((j : Int) + 1).toNat = j + 1 := by omega
        have hj7 : ¬ ((j : Int) + 1 < 0) := by omega
        have hj2 : j ≤ 9 := by omega
        have hwj : IntKind.i64.wrap (j : Int) = (j : Int) := IntWalk.i64_in _ ⟨by omega, by omega⟩
        have hwj1 : IntKind.i64.wrap ((j : Int) + 1) = (j : Int) + 1 := IntWalk.i64_in _ ⟨by omega, by omega⟩
        have hc9 : cc ≤ 9223372036854775807 := by unfold maxLen at hcm; omega
        have f0 : (op == 0) = false := by have := (bin_ne hbin).1; simpa using this
        have f3 : (op == 3) = false := by have := (bin_ne hbin).2; simpa using this
        clear hO hj hcell hnw hbox hcm hbin
        generalize cmpT (wishF x y) a = za at *
        generalize cmpT (wishF x y) b = zb at *
        have HCl : Hid (∀ w1, Calls Try.prog 95 #[.int .i64 op, .int .i64 za, .int .i64 zb] w1 fun e w' => e = .returned (.int .i64 (opC op za zb)) ∧ w' = w1) := Lib.hid fun w1 => sOp w1 op za zb HBin.out HCa.out HCb.out
        generalize opC op za zb = z at *
        have HCap : Hid (((codes (wishF x y) s).length + [z].length) * 8 ≤ 140737488355328) := Lib.hid (by rw [HJ.out]; simp; omega)
        go_wp2
        go_still_tail 15, (by kernel_rfl)
        change wpList _ _ _ _ _ wr.drew
        generalize hw1 : wr.drew = w1 at *
        have HB1 : Hid (Below wr.heap.size wr w1) := Lib.hid (hw1 ▸ (Below.refl _ _).drew)
        clear c1 c2 g0 g1 g2 g3 g4 g5 hw1
        go_wp2_with fail
        refine (HCl.out _).mono ?_
        rintro e w2 ⟨rfl, rfl⟩
        have HO2 := Lib.hid (ownI_below HTk.out HB1.out)
        have hs2 : w.heap.size + 2 ≤ w2.heap.size := Nat.le_trans HS2.out HB1.out.size
        go_wp2_with (at_builtin; refine wp_appI _ (by rfl) (.tmp 46) (.tmp 48) (by rfl) (w.heap.size + 2) _ _ (by rfl) HO2.out _ [z] (by rfl) 1 1 rfl (by rfl) HCap.out hs2 ?_)
        intro v1 w3 hown3 hb3
        obtain ⟨LA', Ln', Lc', rfl, hin⟩ := hown3.ints
        have hlen3 : Ln' = j + 1 := by have := hin.1; rw [List.length_append, HJ.out] at this; simp at this; omega
        have HO3 := Lib.hid hown3
        have HB3 := Lib.hid (HB1.out.mono HB.out.size)
        have HB4 := Lib.hid (HB.out.trans (HB3.out.trans (hb3.mono (by omega))))
        have HBox3 : Hid (w3.cell? ⟨w.heap.size, 0, none⟩ = some (.int .i64 x.id) ∧ w3.cell? ⟨w.heap.size, 1, none⟩ = some (.slice x.A x.n x.c) ∧ w3.cell? ⟨w.heap.size + 1, 0, none⟩ = some (.int .i64 y.id) ∧ w3.cell? ⟨w.heap.size + 1, 1, none⟩ = some (.slice y.A y.n y.c)) := Lib.hid (by
          have k : ∀ (bb oo : Nat), bb < w.heap.size + 2 → w3.cell? ⟨bb, oo, none⟩ = wr.cell? ⟨bb, oo, none⟩ := fun bb oo h => (hb3.cell (p := ⟨bb, oo, none⟩) h).trans (HB1.out.cell (p := ⟨bb, oo, none⟩) (Nat.lt_of_lt_of_le h HS2.out))
          have := HBox.out
          rw [k _ _ (by omega), k _ _ (by omega), k _ _ (by omega), k _ _ (by omega)]
          exact this)
        have HS3 := Lib.hid (Nat.le_trans hs2 hb3.size)
        clear hown3 hb3 hin
        go_wp2
        go_roundw
        case rel => exact ⟨k + 1, Ln', Lc', LA', .bin op a b :: s, by omega, by go_num, by first | rfl | rw [hlen3], by omega, HS1.out, by have := HLen.out; simp at this ⊢; omega, by rw [HZ.out]; exact HO3.out, HB4.out, HS3.out, HBox3.out⟩
        case measure => simp [intOf]; omega
    · obtain rfl : k = n := by omega
      have hst := HSt.out
      rw [ptake_all HX.out.len] at hst
      obtain rfl : st = [t] := hst.one HPo.out
      have hO := HO.out
      rw [codes_cons] at hO
      obtain rfl : m = 1 := by have := HLen.out; simp at this; omega
      obtain ⟨_, hcc, hcm, g, rfl, hgl, hgs, hcell⟩ := ownI_cells hO (by omega)
      obtain ⟨c1, -⟩ := hcell 0 (cmpT (wishF x y) t) rfl
      clear hO hst hcell hbel hbox
      go_wp2
      go_ret
      exact ⟨rfl, HB.out⟩
end Go.Proofs.Ytaijajajpnekbaa.num
namespace Go.Proofs.Ytaijajajpnekbaa.num
set_option maxRecDepth 20000
open Go.RowKit
set_option linter.unusedVariables false
set_option linter.unusedSimpArgs false

/-- What CompareBy answers. -/
def CmpE (nds : List ND) (x y : It) (z : Int) : Prop := (∃ t, IsE nds ∧ Post nds t ∧ IsP x.dat ∧ IsP y.dat ∧ z = cmpT (wishF x y) t) ∨ (¬ (IsE nds ∧ IsP x.dat ∧ IsP y.dat) ∧ z = 2)
theorem CmpE.some (nds : List ND) (x y : It) : ∃ z, CmpE nds x y z := by
  by_cases h : IsE nds ∧ IsP x.dat ∧ IsP y.dat
  · obtain ⟨h1, h2, h3⟩ := h
    obtain ⟨_, t, ht⟩ := id h1
    exact ⟨_, .inl ⟨t, h1, ht, h2, h3, rfl⟩⟩
  · exact ⟨2, .inr ⟨h, rfl⟩⟩
theorem CmpE.to {nds nds' : List ND} {x y x' y' : It} {z : Int} (h : CmpE nds x y z) (hn : nds' = nds) (hx : x'.dat = x.dat) (hy : y'.dat = y.dat) : CmpE nds' x' y' z := by
  subst hn
  unfold CmpE at *
  rw [wishF_dat hx hy, hx, hy]
  exact h
theorem CmpE.code {nds : List ND} {x y : It} {z : Int} (h : CmpE nds x y z) : Code z := by
  rcases h with ⟨t, _, _, _, _, rfl⟩ | ⟨_, rfl⟩
  · exact cmpT_code (wishF_code x y) t
  · exact .inr (.inr (.inr rfl))

/-- The pointer to an expression's tree, nil if the expression is not valid. -/
def TreeV (w : World) (B lo : Nat) (nds : List ND) (v : Value) : Prop :=
  (IsE nds ∧ ∃ t p, Post nds t ∧ v = .pointer (some ⟨p, 0, none⟩) ∧ PartAt w B lo t p) ∨ (¬ IsE nds ∧ v = .pointer none)
theorem TreeV.below {w w' : World} {B lo : Nat} {nds : List ND} {v : Value} (h : TreeV w B lo nds v) (hB : B ≤ w.heap.size) (hb : Below w.heap.size w w') : TreeV w' B lo nds v := by
  rcases h with ⟨h, t, p, h1, h2, h3⟩ | h
  · exact .inl ⟨h, t, p, h1, h2, h3.below hB hb⟩
  · exact .inr h
theorem TreeOut.v {w : World} {B lo : Nat} {nds : List ND} {e : Ending} (h : TreeOut B lo nds e w) : ∃ v, e = .returned v ∧ TreeV w B lo nds v := by
  rcases h with ⟨h, t, p, h1, rfl, h3⟩ | ⟨h, rfl⟩
  · exact ⟨_, rfl, .inl ⟨h, t, p, h1, rfl, h3⟩⟩
  · exact ⟨_, rfl, .inr ⟨h, rfl⟩⟩
set_option maxRecDepth 20000 in
set_option maxHeartbeats 1600000 in
theorem iByTree (w : World) (B lo : Nat) (nds : List ND) (v : Value) (x y : It) (hv : TreeV w B lo nds v) (hix : Ints w B x.A x.n x.xs) (hiy : Ints w B y.A y.n y.xs) (hB : B ≤ w.heap.size) (z : Int) (hz : CmpE nds x y z) :
    Calls Try.prog 62 #[v, x.val, y.val] w fun e w' => e = .returned (.int .i64 z) ∧ Below w.heap.size w w' := by
  obtain ⟨qx, hqx⟩ := bool_of (IsP x.dat)
  obtain ⟨qy, hqy⟩ := bool_of (IsP y.dat)
  have HQx := Lib.hid hqx
  have HQy := Lib.hid hqy
  have HIx : Hid (∀ w1, Below w.heap.size w w1 → Calls Try.prog 88 #[.agg #[.int .i64 x.id, .slice x.A x.n x.c]] w1 fun e w' => e = .returned (.bool qx) ∧ Below w1.heap.size w1 w') := Lib.hid fun w1 h => iIsItem w1 B x (hix.below (h.mono hB)) (Nat.le_trans hB h.size) qx hqx
  have HIy : Hid (∀ w1, Below w.heap.size w w1 → Calls Try.prog 88 #[.agg #[.int .i64 y.id, .slice y.A y.n y.c]] w1 fun e w' => e = .returned (.bool qy) ∧ Below w1.heap.size w1 w') := Lib.hid fun w1 h => iIsItem w1 B y (hiy.below (h.mono hB)) (Nat.le_trans hB h.size) qy hqy
  have HCm : Hid (∀ w1 lo t p, IsP x.dat → IsP y.dat → Below w.heap.size w w1 → PartAt w1 B lo t p → Calls Try.prog 89 #[.pointer (some ⟨p, 0, none⟩), .agg #[.int .i64 x.id, .slice x.A x.n x.c], .agg #[.int .i64 y.id, .slice y.A y.n y.c]] w1 fun e w' => e = .returned (.int .i64 (cmpT (wishF x y) t)) ∧ Below w1.heap.size w1 w') := Lib.hid fun w1 lo t p hpx hpy h hp => iCompare B lo x y hpx hpy t p w1 hp (Nat.le_trans hB h.size) (hix.below (h.mono hB)) (hiy.below (h.mono hB))
  have HNo : Hid (¬ (IsE nds ∧ IsP x.dat ∧ IsP y.dat) → z = 2) := Lib.hid fun h => by
    rcases hz with ⟨t, h1, _, h2, h3, _⟩ | ⟨_, h1⟩
    · exact absurd ⟨h1, h2, h3⟩ h
    · exact h1
  have HYes : Hid (∀ t, IsE nds → IsP x.dat → IsP y.dat → Post nds t → cmpT (wishF x y) t = z) := Lib.hid fun t h1 h2 h3 h4 => by
    rcases hz with ⟨t', _, h4', _, _, e⟩ | ⟨h, _⟩
    · rw [h4.one h4', e]
    · exact absurd ⟨h1, h2, h3⟩ h
  have hvx : x.val = .agg #[.int .i64 x.id, .slice x.A x.n x.c] := rfl
  have hvy : y.val = .agg #[.int .i64 y.id, .slice y.A y.n y.c] := rfl
  rw [hvx, hvy]
  have Xx_0 := Lib.hid ((Box2.new w x 50).alloc (.cells #[.int .i64 y.id, .slice y.A y.n y.c] 50))
  have Xy_0 : Hid (Box2 ((w.alloc (.cells #[.int .i64 x.id, .slice x.A x.n x.c] 50)).alloc (.cells #[.int .i64 y.id, .slice y.A y.n y.c] 50)) (w.heap.size + 1) y) := Lib.hid (by have h := Box2.new (w.alloc (.cells #[.int .i64 x.id, .slice x.A x.n x.c] 50)) y 50; simpa only [World.size_alloc] using h)
  have HB0 : Hid (Below w.heap.size w ((w.alloc (.cells #[.int .i64 x.id, .slice x.A x.n x.c] 50)).alloc (.cells #[.int .i64 y.id, .slice y.A y.n y.c] 50))) := Lib.hid (((Below.refl _ w).alloc (Nat.le_refl _) _).alloc (by simp) _)
  clear hvx hvy hix hiy hqx hqy hz
  rcases hv with ⟨hE, t, p, hpost, rfl, hpa⟩ | ⟨hE, rfl⟩
  · have HE := Lib.hid hE
    have HPo := Lib.hid hpost
    have HPa_0 := Lib.hid (hpa.below hB ((Below.refl _ w).alloc (Nat.le_refl _) (.cells #[.int .i64 x.id, .slice x.A x.n x.c] 50) |>.alloc (by simp) (.cells #[.int .i64 y.id, .slice y.A y.n y.c] 50)))
    clear hE hpost hpa
    obtain ⟨x_g, x_0, x_1⟩ := Xx_0.out
    obtain ⟨y_g, y_0, y_1⟩ := Xy_0.out
    go_enter Try.func62, Try.ntmps62
    go_wp2_with fail
    refine (HIx.out _ HB0.out).mono ?_
    rintro e w1 ⟨rfl, hb1⟩
    have HB1 := Lib.hid (below_on HB0.out hb1)
    have Xx_1 := Lib.hid (Xx_0.out.below hb1)
    have Xy_1 := Lib.hid (Xy_0.out.below hb1)
    have HPa_1 := Lib.hid (HPa_0.out.below (Nat.le_trans hB HB0.out.size) hb1)
    clear x_g x_0 x_1 y_g y_0 y_1
    clear hb1
    obtain ⟨x_g, x_0, x_1⟩ := Xx_1.out
    obtain ⟨y_g, y_0, y_1⟩ := Xy_1.out
    cases qx
    · obtain rfl := HNo.out fun h => by have := HQx.out.2 h.2.1; cases this
      go_wp2
      go_ret
      exact ⟨rfl, HB1.out⟩
    go_wp2_with fail
    refine (HIy.out _ HB1.out).mono ?_
    rintro e w2 ⟨rfl, hb2⟩
    have HB2 := Lib.hid (below_on HB1.out hb2)
    have Xx_2 := Lib.hid (Xx_1.out.below hb2)
    have Xy_2 := Lib.hid (Xy_1.out.below hb2)
    have HPa_2 := Lib.hid (HPa_1.out.below (Nat.le_trans hB HB1.out.size) hb2)
    clear x_g x_0 x_1 y_g y_0 y_1
    clear hb2
    obtain ⟨x_g, x_0, x_1⟩ := Xx_2.out
    obtain ⟨y_g, y_0, y_1⟩ := Xy_2.out
    cases qy
    · obtain rfl := HNo.out fun h => by have := HQy.out.2 h.2.2; cases this
      go_wp2
      go_ret
      exact ⟨rfl, HB2.out⟩
    go_wp2_with fail
    refine (HCm.out _ _ _ _ (HQx.out.1 (by first | rfl | trivial)) (HQy.out.1 (by first | rfl | trivial)) HB2.out HPa_2.out).mono ?_
    rintro e w3 ⟨rfl, hb3⟩
    have HB3 := Lib.hid (below_on HB2.out hb3)
    rw [HYes.out t HE.out (HQx.out.1 (by first | rfl | trivial)) (HQy.out.1 (by first | rfl | trivial)) HPo.out]
    clear x_g x_0 x_1 y_g y_0 y_1
    clear hb3
    go_wp2
    go_ret
    exact ⟨rfl, HB3.out⟩
  · obtain rfl := HNo.out fun h => hE h.1
    clear hE
    obtain ⟨x_g, x_0, x_1⟩ := Xx_0.out
    obtain ⟨y_g, y_0, y_1⟩ := Xy_0.out
    go_enter Try.func62, Try.ntmps62
    go_wp2
    go_ret
    exact ⟨rfl, HB0.out⟩
set_option maxRecDepth 20000 in
set_option maxHeartbeats 1600000 in
theorem iCompareByW (w : World) (B : Nat) (A : Option Addr) (n c : Nat) (ns : List Nd) (x y : It) (hi : Nodes w B A n ns) (hix : Ints w B x.A x.n x.xs) (hiy : Ints w B y.A y.n y.xs) (hB : B ≤ w.heap.size) (hnc : n ≤ c) (hc : c ≤ 9223372036854775807) (hN : ShortN ns) (nx : x.n ≤ 1048576) (ny : y.n ≤ 1048576) (z : Int) (hz : CmpE (datN ns) x y z) :
    Calls Try.prog 33 #[.slice A n c, x.val, y.val] w fun e w' => e = .returned (.int .i64 z) ∧ Below w.heap.size w w' := by
  have HC : Hid (∀ w1, Below w.heap.size w w1 → Calls Try.prog 61 #[.slice A n c] w1 fun e w' => TreeOut B w1.heap.size (datN ns) e w' ∧ Below w1.heap.size w1 w') := Lib.hid fun w1 h => iTreeOfW w1 B A n c ns (hi.below (h.mono hB)) (Nat.le_trans hB h.size) hnc hc hN
  have HT : Hid (∀ w1 lo v, Below w.heap.size w w1 → TreeV w1 B lo (datN ns) v → Calls Try.prog 62 #[v, .agg #[.int .i64 x.id, .slice x.A x.n x.c], .agg #[.int .i64 y.id, .slice y.A y.n y.c]] w1 fun e w' => e = .returned (.int .i64 z) ∧ Below w1.heap.size w1 w') := Lib.hid fun w1 lo v h hv => iByTree w1 B lo _ v x y hv (hix.below (h.mono hB)) (hiy.below (h.mono hB)) (Nat.le_trans hB h.size) z hz
  have hvx : x.val = .agg #[.int .i64 x.id, .slice x.A x.n x.c] := rfl
  have hvy : y.val = .agg #[.int .i64 y.id, .slice y.A y.n y.c] := rfl
  rw [hvx, hvy]
  clear hvx hvy hi hix hiy hN hz nx ny
  have Xx_0 := Lib.hid ((Box2.new w x 50).alloc (.cells #[.int .i64 y.id, .slice y.A y.n y.c] 50))
  have Xy_0 : Hid (Box2 ((w.alloc (.cells #[.int .i64 x.id, .slice x.A x.n x.c] 50)).alloc (.cells #[.int .i64 y.id, .slice y.A y.n y.c] 50)) (w.heap.size + 1) y) := Lib.hid (by have h := Box2.new (w.alloc (.cells #[.int .i64 x.id, .slice x.A x.n x.c] 50)) y 50; simpa only [World.size_alloc] using h)
  have HB0 : Hid (Below w.heap.size w ((w.alloc (.cells #[.int .i64 x.id, .slice x.A x.n x.c] 50)).alloc (.cells #[.int .i64 y.id, .slice y.A y.n y.c] 50))) := Lib.hid (((Below.refl _ w).alloc (Nat.le_refl _) _).alloc (by simp) _)
  go_enter Try.func33, Try.ntmps33
  go_wp2
  have hS0 : (fun w' => Below w.heap.size w w' ∧ Box2 w' w.heap.size x ∧ Box2 w' (w.heap.size + 1) y) (World.drew ((w.alloc (.cells #[.int .i64 x.id, .slice x.A x.n x.c] 50)).alloc (.cells #[.int .i64 y.id, .slice y.A y.n y.c] 50))) := ⟨HB0.out.drew, Xx_0.out.below (Below.refl _ _).drew, Xy_0.out.below (Below.refl _ _).drew⟩
  refine wp_region_held (S := fun w' => Below w.heap.size w w' ∧ Box2 w' w.heap.size x ∧ Box2 w' (w.heap.size + 1) y) (by kernel_rfl) ?_
  change wpAnyH _ _ _ _ _ _ _ _ (World.drew _)
  refine takeY 7 (i := 0) (v := ?v0a) rfl rfl (by kernel_rfl) (by kernel_rfl) (by kernel_rfl) (fun _ _ _ h => h) (by kernel_rfl) ?y0a hS0 ?_
  case y0a =>
    intro w' hw'; (try dsimp only at hw'); obtain ⟨-, ⟨x_g, x_0, x_1⟩, ⟨y_g, y_0, y_1⟩⟩ := hw'; go_simp; try with_reducible rfl
  simp only [Act.put, List.setIfInBounds_toArray, List.set_cons_zero, List.set_cons_succ]
  refine takeY 9 (i := 2) (v := ?v2a) rfl rfl (by kernel_rfl) (by kernel_rfl) (by kernel_rfl) (fun _ _ _ h => h) (by kernel_rfl) ?y2a hS0 ?_
  case y2a =>
    intro w' hw'; (try dsimp only at hw'); obtain ⟨-, ⟨x_g, x_0, x_1⟩, ⟨y_g, y_0, y_1⟩⟩ := hw'; go_simp; try with_reducible rfl
  simp only [Act.put, List.setIfInBounds_toArray, List.set_cons_zero, List.set_cons_succ]
  refine takeY 10 (i := 3) (v := ?v3a) rfl rfl (by kernel_rfl) (by kernel_rfl) (by kernel_rfl) (fun _ _ _ h => h) (by kernel_rfl) ?y3a hS0 ?_
  case y3a =>
    intro w' hw'; (try dsimp only at hw'); obtain ⟨-, ⟨x_g, x_0, x_1⟩, ⟨y_g, y_0, y_1⟩⟩ := hw'; go_simp; try with_reducible rfl
  simp only [Act.put, List.setIfInBounds_toArray, List.set_cons_zero, List.set_cons_succ]
  refine wpAnyH_ready (rs := [1]) (by kernel_rfl) (by simp) ?_
  refine AllReadyH.cons rfl (fun K hK => ?_) AllReadyH.nil
  go_simp; go_at_call 61; refine (HC.out _ HB0.out.drew).mono ?_; rintro e w1 ⟨hout, hb1⟩; obtain ⟨v, rfl, hv⟩ := hout.v; have HV := Lib.hid hv; have HB1 := Lib.hid (below_on HB0.out.drew hb1); have Xx_1 := Lib.hid ((Xx_0.out.below (Below.refl _ _).drew).below hb1); have Xy_1 := Lib.hid ((Xy_0.out.below (Below.refl _ _).drew).below hb1); clear hb1 hout hv
  refine hK.out _ _ ⟨HB1.out, Xx_1.out, Xy_1.out⟩ (fun hS1 => ?_)
  clear hK K
  try simp only [Act.put, List.setIfInBounds_toArray, List.set_cons_zero, List.set_cons_succ]
  refine wpAnyH_ready (rs := [4]) (by kernel_rfl) (by simp) ?_
  refine AllReadyH.cons rfl (fun K hK => ?_) AllReadyH.nil
  go_simp; go_at_call 62; refine (HT.out _ _ _ HB1.out HV.out).mono ?_; rintro e w2 ⟨rfl, hb2⟩; have HB2 := Lib.hid (below_on HB1.out hb2); have Xx_2 := Lib.hid (Xx_1.out.below hb2); have Xy_2 := Lib.hid (Xy_1.out.below hb2); clear hb2
  refine hK.out _ _ ⟨HB2.out, Xx_2.out, Xy_2.out⟩ (fun hS2 => ?_)
  clear hK K
  try simp only [Act.put, List.setIfInBounds_toArray, List.set_cons_zero, List.set_cons_succ]
  refine takeY 6 (i := 5) (v := ?v5a) rfl rfl (by kernel_rfl) (by kernel_rfl) (by kernel_rfl) (fun _ _ _ h => h) (by kernel_rfl) ?y5a hS2 ?_
  case y5a =>
    intro w' hw'; (try dsimp only at hw'); obtain ⟨-, ⟨x_g, x_0, x_1⟩, ⟨y_g, y_0, y_1⟩⟩ := hw'; go_simp; try with_reducible rfl
  simp only [Act.put, List.setIfInBounds_toArray, List.set_cons_zero, List.set_cons_succ]
  refine wpAnyH_done (by kernel_rfl) ?_ _
  clear hS0 hS1 hS2
  go_wp2
  go_ret
  exact ⟨rfl, HB2.out⟩
theorem iCompareBy (w : World) (B : Nat) (A : Option Addr) (n c : Nat) (ns : List Nd) (x y : It) (hi : Nodes w B A n ns) (hix : Ints w B x.A x.n x.xs) (hiy : Ints w B y.A y.n y.xs) (hB : B ≤ w.heap.size) (hnc : n ≤ c) (hc : c ≤ 1048576) (hN : ShortN ns) (nx : x.n ≤ 1048576) (ny : y.n ≤ 1048576) (z : Int) (hz : CmpE (datN ns) x y z) :
    Calls Try.prog 33 #[.slice A n c, x.val, y.val] w fun e w' => e = .returned (.int .i64 z) ∧ Below w.heap.size w w' := iCompareByW w B A n c ns x y hi hix hiy hB hnc (Nat.le_trans hc (by decide)) hN nx ny z hz

set_option maxRecDepth 20000 in
set_option maxHeartbeats 1600000 in
theorem sCompareBy (w : World) (B : Nat) (A : Option Addr) (n c : Nat) (ns : List Nd) (x y : It) (hi : Nodes w B A n ns) (hix : Ints w B x.A x.n x.xs) (hiy : Ints w B y.A y.n y.xs) (hB : B ≤ w.heap.size) (hn : n ≤ 1048576) (hN : ShortN ns) (nx : x.n ≤ 1048576) (ny : y.n ≤ 1048576) (z : Int) (hz : CmpE (datN ns) x y z) :
    Calls Try.prog 34 #[.slice A n c, x.val, y.val] w fun e w' => e = .returned (.int .i64 z) ∧ Below w.heap.size w w' := by
  obtain ⟨qx, hqx⟩ := bool_of (IsP x.dat)
  obtain ⟨qy, hqy⟩ := bool_of (IsP y.dat)
  have HQx := Lib.hid hqx
  have HQy := Lib.hid hqy
  obtain ⟨qe, hqe⟩ := bool_of (IsE (datN ns))
  have HQe := Lib.hid hqe
  have HC : Hid (∀ w1, Below w.heap.size w w1 → Calls Try.prog 36 #[.slice A n c] w1 fun e w' => e = .returned (.bool qe) ∧ Below w1.heap.size w1 w') := Lib.hid fun w1 h => sIsE w1 B A n c ns (hi.below (h.mono hB)) (Nat.le_trans hB h.size) hn hN qe hqe
  have HIx : Hid (∀ w1, Below w.heap.size w w1 → Calls Try.prog 37 #[.agg #[.int .i64 x.id, .slice x.A x.n x.c]] w1 fun e w' => e = .returned (.bool qx) ∧ Below w1.heap.size w1 w') := Lib.hid fun w1 h => sIsItem w1 B x (hix.below (h.mono hB)) (Nat.le_trans hB h.size) nx qx hqx
  have HIy : Hid (∀ w1, Below w.heap.size w w1 → Calls Try.prog 37 #[.agg #[.int .i64 y.id, .slice y.A y.n y.c]] w1 fun e w' => e = .returned (.bool qy) ∧ Below w1.heap.size w1 w') := Lib.hid fun w1 h => sIsItem w1 B y (hiy.below (h.mono hB)) (Nat.le_trans hB h.size) ny qy hqy
  have HCm : Hid (∀ w1 t, IsE (datN ns) → Post (datN ns) t → IsP x.dat → IsP y.dat → Below w.heap.size w w1 → Calls Try.prog 68 #[.slice A n c, .agg #[.int .i64 x.id, .slice x.A x.n x.c], .agg #[.int .i64 y.id, .slice y.A y.n y.c]] w1 fun e w' => e = .returned (.int .i64 (cmpT (wishF x y) t)) ∧ Below w1.heap.size w1 w') := Lib.hid fun w1 t he hp hpx hpy h => sCompare w1 B A n c ns x y (hi.below (h.mono hB)) (hix.below (h.mono hB)) (hiy.below (h.mono hB)) (Nat.le_trans hB h.size) hN hpx hpy t hp (by have := he.1; unfold datN at this; rw [List.length_map, hi.len] at this; exact this)
  have HNo : Hid (¬ (IsE (datN ns) ∧ IsP x.dat ∧ IsP y.dat) → z = 2) := Lib.hid fun h => by
    rcases hz with ⟨t, h1, _, h2, h3, _⟩ | ⟨_, h1⟩
    · exact absurd ⟨h1, h2, h3⟩ h
    · exact h1
  have HYes : Hid (∀ t, IsE (datN ns) → IsP x.dat → IsP y.dat → Post (datN ns) t → cmpT (wishF x y) t = z) := Lib.hid fun t h1 h2 h3 h4 => by
    rcases hz with ⟨t', _, h4', _, _, e⟩ | ⟨h, _⟩
    · rw [h4.one h4', e]
    · exact absurd ⟨h1, h2, h3⟩ h
  have hvx : x.val = .agg #[.int .i64 x.id, .slice x.A x.n x.c] := rfl
  have hvy : y.val = .agg #[.int .i64 y.id, .slice y.A y.n y.c] := rfl
  rw [hvx, hvy]
  clear hvx hvy hi hix hiy hN hqx hqy hz nx ny hqe
  have Xx_0 := Lib.hid ((Box2.new w x 50).alloc (.cells #[.int .i64 y.id, .slice y.A y.n y.c] 50))
  have Xy_0 : Hid (Box2 ((w.alloc (.cells #[.int .i64 x.id, .slice x.A x.n x.c] 50)).alloc (.cells #[.int .i64 y.id, .slice y.A y.n y.c] 50)) (w.heap.size + 1) y) := Lib.hid (by have h := Box2.new (w.alloc (.cells #[.int .i64 x.id, .slice x.A x.n x.c] 50)) y 50; simpa only [World.size_alloc] using h)
  have HB0 : Hid (Below w.heap.size w ((w.alloc (.cells #[.int .i64 x.id, .slice x.A x.n x.c] 50)).alloc (.cells #[.int .i64 y.id, .slice y.A y.n y.c] 50))) := Lib.hid (((Below.refl _ w).alloc (Nat.le_refl _) _).alloc (by simp) _)
  go_enter Try.func34, Try.ntmps34
  go_wp2_with fail
  refine (HC.out _ HB0.out).mono ?_
  rintro e w1 ⟨rfl, hb1⟩
  have HB1 := Lib.hid (below_on HB0.out hb1)
  have Xx_1 := Lib.hid (Xx_0.out.below hb1)
  have Xy_1 := Lib.hid (Xy_0.out.below hb1)
  clear hb1
  cases qe
  · obtain rfl := HNo.out fun h => by have := HQe.out.2 h.1; cases this
    obtain ⟨x_g, x_0, x_1⟩ := Xx_1.out
    obtain ⟨y_g, y_0, y_1⟩ := Xy_1.out
    go_wp2
    go_ret
    exact ⟨rfl, HB1.out⟩
  · obtain ⟨x_g, x_0, x_1⟩ := Xx_1.out
    obtain ⟨y_g, y_0, y_1⟩ := Xy_1.out
    go_wp2_with fail
    refine (HIx.out _ HB1.out).mono ?_
    rintro e w2 ⟨rfl, hb2⟩
    have HB2 := Lib.hid (below_on HB1.out hb2)
    have Xx_2 := Lib.hid (Xx_1.out.below hb2)
    have Xy_2 := Lib.hid (Xy_1.out.below hb2)
    clear x_g x_0 x_1 y_g y_0 y_1
    clear hb2
    obtain ⟨x_g, x_0, x_1⟩ := Xx_2.out
    obtain ⟨y_g, y_0, y_1⟩ := Xy_2.out
    cases qx
    · obtain rfl := HNo.out fun h => by have := HQx.out.2 h.2.1; cases this
      go_wp2
      go_ret
      exact ⟨rfl, HB2.out⟩
    go_wp2_with fail
    refine (HIy.out _ HB2.out).mono ?_
    rintro e w3 ⟨rfl, hb3⟩
    have HB3 := Lib.hid (below_on HB2.out hb3)
    have Xx_3 := Lib.hid (Xx_2.out.below hb3)
    have Xy_3 := Lib.hid (Xy_2.out.below hb3)
    clear x_g x_0 x_1 y_g y_0 y_1
    clear hb3
    obtain ⟨x_g, x_0, x_1⟩ := Xx_3.out
    obtain ⟨y_g, y_0, y_1⟩ := Xy_3.out
    cases qy
    · obtain rfl := HNo.out fun h => by have := HQy.out.2 h.2.2; cases this
      go_wp2
      go_ret
      exact ⟨rfl, HB3.out⟩
    obtain ⟨t, ht⟩ := (HQe.out.1 (by first | rfl | trivial)).2
    have HPo := Lib.hid ht
    clear ht
    go_wp2_with fail
    refine (HCm.out _ t (HQe.out.1 (by first | rfl | trivial)) HPo.out (HQx.out.1 (by first | rfl | trivial)) (HQy.out.1 (by first | rfl | trivial)) HB3.out).mono ?_
    rintro e w4 ⟨rfl, hb4⟩
    have HB4 := Lib.hid (below_on HB3.out hb4)
    rw [HYes.out t (HQe.out.1 (by first | rfl | trivial)) (HQx.out.1 (by first | rfl | trivial)) (HQy.out.1 (by first | rfl | trivial)) HPo.out]
    clear x_g x_0 x_1 y_g y_0 y_1
    clear hb4
    go_wp2
    go_ret
    exact ⟨rfl, HB4.out⟩
end Go.Proofs.Ytaijajajpnekbaa.num
namespace Go.Proofs.Ytaijajajpnekbaa.num
set_option maxRecDepth 20000
set_option linter.unusedVariables false
set_option linter.unusedSimpArgs false

theorem okp_of {d : WD} (hw : IsW d) (h4 : d.kind = 4) : OkP d.ps := by
  have hp := hw.p
  rwa [if_pos h4] at hp
theorem rb_not {d : WD} (hw : IsW d) (h4 : d.kind = 4) {x y : Int} (h : rb d.ps x y = true) : rb d.ps y x = false := by
  rcases h2 : rb d.ps y x with _ | _
  · rfl
  · exact ((okp_of hw h4).1.acy x (((rb_iff _ _ _).1 h).trans ((rb_iff _ _ _).1 h2))).elim
theorem rb_self {d : WD} (hw : IsW d) (h4 : d.kind = 4) (x : Int) : rb d.ps x x = false := (okp_of hw h4).1.rb_self x
theorem rb_tr {ps : List (Int × Int)} {x y z : Int} (h : rb ps x y = true) (h' : rb ps y z = true) : rb ps x z = true := (rb_iff _ _ _).2 (((rb_iff _ _ _).1 h).trans ((rb_iff _ _ _).1 h'))
theorem cmpW_turn {d : WD} (hw : IsW d) (x y : Int) : cmpW d y x = revC (cmpW d x y) := by
  unfold cmpW revC
  by_cases h4 : d.kind = 4
  · rw [if_pos h4, if_pos h4]
    by_cases hxy : x = y
    · subst hxy; simp
    · have hyx : ¬ y = x := fun h => hxy h.symm
      rcases h1 : rb d.ps x y with _ | _
      · rcases h2 : rb d.ps y x with _ | _ <;> simp [hxy, hyx]
      · have h2 := rb_not hw h4 h1
        simp [hxy, hyx, h2]
  · rw [if_neg h4, if_neg h4]
    by_cases h1 : rankW d x < rankW d y
    · have h2 : ¬ rankW d y < rankW d x := by omega
      simp [h1, h2]
    · by_cases h2 : rankW d y < rankW d x
      · simp [h1, h2]
      · simp [h1, h2]
theorem cmpW_self (d : WD) (x : Int) : cmpW d x x = 0 := by
  unfold cmpW
  split
  · simp
  · simp
/-- The codes of three comparisons fit. -/
def Tr3 (c d r : Int) : Prop := ((c = 0 ∨ c = 1) → (d = 0 ∨ d = 1) → r = max c d) ∧ ((c = 0 ∨ c = -1) → (d = 0 ∨ d = -1) → r = min c d)
theorem cmpW_tr {d : WD} (hw : IsW d) (x y z : Int) : Tr3 (cmpW d x y) (cmpW d y z) (cmpW d x z) := by
  by_cases h4 : d.kind = 4
  · have e : ∀ a b, cmpW d a b = if a = b then 0 else if rb d.ps a b = true then 1 else if rb d.ps b a = true then -1 else 2 := fun a b => by unfold cmpW; rw [if_pos h4]
    rw [e, e, e]
    by_cases hxy : x = y
    · subst hxy
      unfold Tr3
      rw [if_pos rfl]
      constructor <;> (intro _ h; omega)
    · by_cases hyz : y = z
      · subst hyz
        unfold Tr3
        rw [if_pos rfl]
        constructor <;> (intro h _; omega)
      · rw [if_neg hxy, if_neg hyz]
        unfold Tr3
        rcases h1 : rb d.ps x y with _ | _
        · rcases h2 : rb d.ps y x with _ | _
          · exact ⟨fun h => by simp at h, fun h => by simp at h⟩
          · refine ⟨fun h => by simp at h, fun _ => ?_⟩
            rcases k1 : rb d.ps y z with _ | _
            · rcases k2 : rb d.ps z y with _ | _
              · exact fun h => by simp at h
              · intro _
                have hzx := rb_tr k2 h2
                have hxz := rb_not hw h4 hzx
                have hne : ¬ x = z := fun e => by subst e; rw [rb_self hw h4] at hzx; cases hzx
                rw [if_neg hne, hxz, hzx]
                simp
            · exact fun h => by simp at h
        · refine ⟨fun _ => ?_, fun h => by simp at h⟩
          rcases k1 : rb d.ps y z with _ | _
          · rcases k2 : rb d.ps z y with _ | _
            · exact fun h => by simp at h
            · exact fun h => by simp at h
          · intro _
            have hxz := rb_tr h1 k1
            have hne : ¬ x = z := fun e => by subst e; rw [rb_self hw h4] at hxz; cases hxz
            rw [if_neg hne, hxz]
            simp
  · have e : ∀ a b, cmpW d a b = if rankW d a < rankW d b then 1 else if rankW d b < rankW d a then -1 else 0 := fun a b => by unfold cmpW; rw [if_neg h4]
    rw [e, e, e]
    unfold Tr3
    constructor
    · intro h1 h2
      (repeat' split at h1) <;> (repeat' split at h2) <;> (repeat' split) <;> omega
    · intro h1 h2
      (repeat' split at h1) <;> (repeat' split at h2) <;> (repeat' split) <;> omega
theorem opC_rev {op a b : Int} (ha : Code a) (hb : Code b) : opC op (revC a) (revC b) = revC (opC op a b) := by
  unfold opC
  by_cases h1 : op = 1
  · rw [if_pos h1, if_pos h1]
    rcases ha with rfl | rfl | rfl | rfl <;> rcases hb with rfl | rfl | rfl | rfl <;> decide
  · rw [if_neg h1, if_neg h1]
    by_cases h2 : op = 2
    · rw [if_pos h2, if_pos h2]
      rcases ha with rfl | rfl | rfl | rfl <;> rcases hb with rfl | rfl | rfl | rfl <;> decide
    · rw [if_neg h2, if_neg h2]
      rcases ha with rfl | rfl | rfl | rfl <;> rcases hb with rfl | rfl | rfl | rfl <;> decide
theorem opC_zero (op : Int) : opC op 0 0 = 0 := by
  unfold opC
  split
  · decide
  · split <;> decide
theorem op1_code : ∀ a b : Int, Code a → Code b → ((opC 1 a b = 0 ∨ opC 1 a b = 1) → (a = 0 ∨ a = 1) ∧ (b = 0 ∨ b = 1)) ∧ ((opC 1 a b = 0 ∨ opC 1 a b = -1) → (a = 0 ∨ a = -1) ∧ (b = 0 ∨ b = -1)) ∧ ((a = 0 ∨ a = 1) → (b = 0 ∨ b = 1) → opC 1 a b = max a b) ∧ ((a = 0 ∨ a = -1) → (b = 0 ∨ b = -1) → opC 1 a b = min a b) := by
  intro a b ha hb
  rcases ha with rfl | rfl | rfl | rfl <;> rcases hb with rfl | rfl | rfl | rfl <;> decide
theorem opC_tr {op a b a' b' ra rb' : Int} (ha : Code a) (hb : Code b) (ha' : Code a') (hb' : Code b') (hra : Code ra) (hrb : Code rb') (h : Tr3 a a' ra) (k : Tr3 b b' rb') : Tr3 (opC op a b) (opC op a' b') (opC op ra rb') := by
  by_cases h1 : op = 1
  · subst h1
    obtain ⟨p1, p2, p3, p4⟩ := op1_code a b ha hb
    obtain ⟨q1, q2, q3, q4⟩ := op1_code a' b' ha' hb'
    obtain ⟨r1, r2, r3, r4⟩ := op1_code ra rb' hra hrb
    obtain ⟨h1, h2⟩ := h
    obtain ⟨k1, k2⟩ := k
    constructor
    · intro c d
      obtain ⟨u1, u2⟩ := p1 c
      obtain ⟨v1, v2⟩ := q1 d
      have e1 := h1 u1 v1
      have e2 := k1 u2 v2
      rw [p3 u1 u2, q3 v1 v2, r3 (by omega) (by omega)]
      omega
    · intro c d
      obtain ⟨u1, u2⟩ := p2 c
      obtain ⟨v1, v2⟩ := q2 d
      have e1 := h2 u1 v1
      have e2 := k2 u2 v2
      rw [p4 u1 u2, q4 v1 v2, r4 (by omega) (by omega)]
      omega
  · unfold opC
    rw [if_neg h1, if_neg h1, if_neg h1]
    by_cases h2 : op = 2
    · rw [if_pos h2, if_pos h2, if_pos h2]
      obtain ⟨h1, h2⟩ := h
      obtain ⟨k1, k2⟩ := k
      unfold Tr3 Code at *
      constructor <;> (intro c d; (repeat' split at c) <;> (repeat' split at d) <;> (repeat' split) <;> omega)
    · rw [if_neg h2, if_neg h2, if_neg h2]
      obtain ⟨h1, h2⟩ := h
      obtain ⟨k1, k2⟩ := k
      unfold Tr3 Code at *
      constructor <;> (intro c d; (repeat' split at c) <;> (repeat' split at d) <;> (repeat' split) <;> omega)
theorem revC_tr {a b r : Int} (ha : Code a) (hb : Code b) (hr : Code r) (h : Tr3 a b r) : Tr3 (revC a) (revC b) (revC r) := by
  obtain ⟨h1, h2⟩ := h
  unfold Tr3 Code revC at *
  constructor <;> (intro c d; (repeat' split at c) <;> (repeat' split at d) <;> (repeat' split) <;> omega)
theorem cmpT_turn {nds : List ND} {t : Tr} (h : Post nds t) (x y : It) : cmpT (wishF y x) t = revC (cmpT (wishF x y) t) := by
  induction h with
  | base h hw => exact cmpW_turn hw _ _
  | dual h hw ha ih => unfold cmpT; rw [ih]
  | bin h hw ha hb iha ihb => unfold cmpT; rw [iha, ihb]; exact opC_rev (cmpT_code (wishF_code x y) _) (cmpT_code (wishF_code x y) _)
theorem cmpT_self {nds : List ND} {t : Tr} (h : Post nds t) (x : It) : cmpT (wishF x x) t = 0 := by
  induction h with
  | base h hw => exact cmpW_self _ _
  | dual h hw ha ih => unfold cmpT; rw [ih]; decide
  | bin h hw ha hb iha ihb => unfold cmpT; rw [iha, ihb]; exact opC_zero _
theorem cmpT_tr {nds : List ND} {t : Tr} (h : Post nds t) (x y z : It) : Tr3 (cmpT (wishF x y) t) (cmpT (wishF y z) t) (cmpT (wishF x z) t) := by
  induction h with
  | base h hw => exact cmpW_tr hw _ _ _
  | dual h hw ha ih => exact revC_tr (cmpT_code (wishF_code x y) _) (cmpT_code (wishF_code y z) _) (cmpT_code (wishF_code x z) _) ih
  | bin h hw ha hb iha ihb => exact opC_tr (cmpT_code (wishF_code x y) _) (cmpT_code (wishF_code x y) _) (cmpT_code (wishF_code y z) _) (cmpT_code (wishF_code y z) _) (cmpT_code (wishF_code x z) _) (cmpT_code (wishF_code x z) _) iha ihb
theorem post_wishes {nds : List ND} {t : Tr} (h : Post nds t) : 2 * (wishL nds).length ≤ nds.length + 1 := by
  induction h with
  | base h hw => unfold wishL; simp [h]
  | dual h hw ha ih => rw [wishL_snoc_op (by omega), List.length_append, List.length_singleton]; omega
  | bin h hw ha hb iha ihb =>
    rw [wishL_snoc_op (bin_ne h).1, List.length_append, List.length_singleton]
    unfold wishL at *
    rw [List.filterMap_append, List.length_append, List.length_append]
    omega
theorem wishes_five {q : Bool} {nds : List ND} (hq : q = true ↔ IsE nds) : (wishesE q nds).length ≤ 5 := by
  unfold wishesE
  cases q
  · simp
  · obtain ⟨h9, t, ht⟩ := hq.1 rfl
    have := post_wishes ht
    simp only [if_true]
    omega
theorem CmpE.turn {nds : List ND} {x y : It} {z z' : Int} (h : CmpE nds x y z) (h' : CmpE nds y x z') : z' = revC z := by
  rcases h with ⟨t, a1, a2, a3, a4, rfl⟩ | ⟨a1, rfl⟩
  · rcases h' with ⟨t', b1, b2, b3, b4, rfl⟩ | ⟨b1, rfl⟩
    · rw [b2.one a2]; exact cmpT_turn a2 x y
    · exact absurd ⟨a1, a4, a3⟩ b1
  · rcases h' with ⟨t', b1, b2, b3, b4, rfl⟩ | ⟨b1, rfl⟩
    · exact absurd ⟨b1, b4, b3⟩ a1
    · decide
theorem CmpE.self {nds : List ND} {x : It} {z : Int} (h : CmpE nds x x z) (h1 : IsE nds) (h2 : IsP x.dat) : z = 0 := by
  rcases h with ⟨t, a1, a2, a3, a4, rfl⟩ | ⟨a1, rfl⟩
  · exact cmpT_self a2 x
  · exact absurd ⟨h1, h2, h2⟩ a1
theorem CmpE.tr {nds : List ND} {x y z : It} {c d r : Int} (h : CmpE nds x y c) (h' : CmpE nds y z d) (h'' : CmpE nds x z r) (hc : c ≠ 2) (hd : d ≠ 2) (c0 : 0 ≤ c) (d0 : 0 ≤ d) : r = max c d := by
  have kc := h.code
  have kd := h'.code
  rcases h with ⟨t, a1, a2, a3, a4, rfl⟩ | ⟨a1, rfl⟩
  · rcases h' with ⟨t', b1, b2, b3, b4, rfl⟩ | ⟨b1, rfl⟩
    · rcases h'' with ⟨t2, e1, e2, e3, e4, rfl⟩ | ⟨e1, rfl⟩
      · rw [b2.one a2] at *
        rw [e2.one a2]
        unfold Code at *
        exact (cmpT_tr a2 x y z).1 (by omega) (by omega)
      · exact absurd ⟨a1, a3, b4⟩ e1
    · exact absurd rfl hd
  · exact absurd rfl hc
theorem code_neq {c : Int} (h : Code c) : (c = 2 ∧ revC c = 2) ∨ (c ≠ 2 ∧ revC c = -c ∧ revC c ≠ 2) := by
  unfold Code revC at *
  rcases h with rfl | rfl | rfl | rfl <;> decide
end Go.Proofs.Ytaijajajpnekbaa.num
namespace Go.Proofs.Ytaijajajpnekbaa.num
set_option maxRecDepth 20000
open Go.RowKit
set_option linter.unusedVariables false
set_option linter.unusedSimpArgs false

theorem WiOwn.keep {w w' : World} {B : Nat} {t : Wi} (h : WiOwn w B t) (hb : ∀ b, t.has b → w'.heap[b]? = w.heap[b]?) : WiOwn w' B t :=
  ⟨ownI_blocks h.l fun k hk => hb k (.inl hk), h.p.blocks fun k hk => hb k (.inr hk), h.k, h.f, h.v, h.nl, h.np⟩
theorem WiOwn.has_in {w : World} {B : Nat} {t : Wi} (h : WiOwn w B t) {b : Nat} (hb : t.has b) : B ≤ b ∧ b < w.heap.size := by
  rcases hb with hb | hb
  · exact ⟨ownI_lows h.l b hb, ownI_tops h.l b hb⟩
  · exact ⟨h.p.lows b hb, h.p.tops b hb⟩
/-- A slice of nodes that a draw filled: a row of its own, the nodes' lists in other blocks. -/
structure DrN (w : World) (B : Nat) (v : Value) (ns : List Nd) : Prop where
  r : OwnG 77 nodeCells 6 w B v ns
  x : ∀ x ∈ ns, (Lit.int .i64 x.op).wf = true ∧ WiOwn w B x.t
  a : ∀ x ∈ ns, ∀ b, x.t.has b → v.ownBlock ≠ some b
theorem DrN.blocks {w w' : World} {B : Nat} {v : Value} {ns : List Nd} (h : DrN w B v ns) (hb : ∀ b, B ≤ b → b < w.heap.size → w'.heap[b]? = w.heap[b]?) : DrN w' B v ns :=
  ⟨h.r.blocks fun k hk => hb k (h.r.lows k hk) (h.r.tops k hk), fun x hx => ⟨(h.x x hx).1, (h.x x hx).2.blocks hb⟩, h.a⟩
theorem DrN.low {w : World} {B B' : Nat} {v : Value} {ns : List Nd} (h : DrN w B v ns) (hB : B' ≤ B) : DrN w B' v ns := ⟨h.r.low hB, fun x hx => ⟨(h.x x hx).1, (h.x x hx).2.low hB⟩, h.a⟩
theorem DrN.nodes {w : World} {B : Nat} {A : Option Addr} {n c : Nat} {ns : List Nd} (h : DrN w B (.slice A n c) ns) : Nodes w w.heap.size A n ns := ⟨h.r.read nodeCells_len, fun x hx => ⟨(h.x x hx).1, (h.x x hx).2.wi⟩⟩
theorem DrN.short {w : World} {B : Nat} {v : Value} {ns : List Nd} (h : DrN w B v ns) : ShortN ns := fun x hx => (h.x x hx).2.short
/-- More nodes behind those of v, in its own row or in a new one. -/
theorem DrN.more {w w' : World} {B N : Nat} {v v' : Value} {ns m : List Nd} (h : DrN w B v ns) (hg : w.grownBy w' v.ownBlock) (hat : v'.ownBlock = v.ownBlock ∨ v'.ownBlock = some N) (hN : w.heap.size ≤ N) (hr : OwnG 77 nodeCells 6 w' B v' (ns ++ m)) (hx : ∀ x ∈ m, (Lit.int .i64 x.op).wf = true ∧ WiOwn w B x.t) (ha : ∀ x ∈ m, ∀ b, x.t.has b → v.ownBlock ≠ some b) : DrN w' B v' (ns ++ m) := by
  have hall : ∀ x ∈ ns ++ m, ((Lit.int .i64 x.op).wf = true ∧ WiOwn w B x.t) ∧ ∀ b, x.t.has b → v.ownBlock ≠ some b := fun x hx' => by
    rcases List.mem_append.1 hx' with h1 | h1
    · exact ⟨h.x x h1, h.a x h1⟩
    · exact ⟨hx x h1, ha x h1⟩
  refine ⟨hr, fun x hx' => ⟨(hall x hx').1.1, (hall x hx').1.2.keep fun b hb => hg.block b ((hall x hx').1.2.has_in hb).2 fun e => (hall x hx').2 b hb e.symm⟩, fun x hx' b hb e => ?_⟩
  rcases hat with q | q
  · exact (hall x hx').2 b hb (q ▸ e)
  · rw [q] at e
    have h1 := Option.some.inj e
    have h2 := ((hall x hx').1.2.has_in hb).2
    omega
theorem bare_own (w : World) (B : Nat) {op : Int} (ho : (Lit.int .i64 op).wf = true) : ∀ x ∈ [bareN op], (Lit.int .i64 x.op).wf = true ∧ WiOwn w B x.t := fun x hx => by
  rw [List.mem_singleton.1 hx]
  exact ⟨ho, ⟨ownI_nil _ _, OwnP.nil _ _, by show I64 0; unfold I64; omega, by show I64 0; unfold I64; omega, by show I64 0; unfold I64; omega, Nat.zero_le _, Nat.zero_le _⟩⟩
def OutD (N : Nat) (w : World) (g : Nat) (a : Option Addr) (len cap : Nat) (e : Ending) (w' : World) : Prop :=
  ∃ v ns, e = .returned v ∧ DrN w' w.heap.size v ns ∧ 1 ≤ ns.length ∧ ns.length ≤ N ∧ Cur w' g a len cap ∧ w.grownBy w' (some g)
/-- One node with a wish just drawn. -/
theorem one_node {w w1 : World} {g : Nat} {a : Option Addr} {len cap : Nat} {t : Wi} {op : Int} (hop : (Lit.int .i64 op).wf = true) (ho : WiOwn w1 w.heap.size t) (hc : Cur w1 g a len cap) (hg : w.grownBy w1 (some g)) (hw : w.heap.size ≤ w1.heap.size) (N : Nat) (hN : 1 ≤ N) :
    OutD N w g a len cap (.returned (.slice (some ⟨w1.heap.size, 0, none⟩) 1 1)) (w1.alloc (.cells #[.int .i64 op, .int .i64 t.kind, .int .i64 t.field, .int .i64 t.value, .slice t.LA t.Ln t.Lc, .slice t.PA t.Pn t.Pc] 77)) := by
  refine ⟨_, [⟨op, t⟩], rfl, ⟨?_, fun x hx => ?_, fun x hx b hb e => ?_⟩, by simp, hN, hc.kept (Below.heap_alloc _ _ _ hc.lt), grown_alloc hg _⟩
  · exact ⟨rfl, .inr ⟨w1.heap.size, 1, _, rfl, hw, heap_alloc_new w1 _, Nat.le_refl _, by unfold maxLen; omega, rfl, rfl⟩⟩
  · rw [List.mem_singleton.1 hx]
    exact ⟨hop, ho.blocks fun b _ hb => Below.heap_alloc _ _ _ hb⟩
  · rw [List.mem_singleton.1 hx] at hb
    have h1 := (ho.has_in hb).2
    have h2 := Option.some.inj e
    simp at h2
    omega

/-- An operator behind what was drawn. -/
theorem drn_app {w w0 w1 w2 : World} {g : Nat} {a : Option Addr} {len cap N : Nat} {v v' : Value} {ns : List Nd} {op : Int} (h : DrN w1 w0.heap.size v ns) (hop : (Lit.int .i64 op).wf = true) (hga : w1.grownBy w2 v.ownBlock) (hat : v'.ownBlock = v.ownBlock ∨ v'.ownBlock = some (w1.heap.size + 1)) (hr : OwnG 77 nodeCells 6 w2 w0.heap.size v' (ns ++ [bareN op]))
    (h1 : 1 ≤ ns.length) (hc : Cur w1 g a len cap) (hg : w.grownBy w1 (some g)) (h0 : w.heap.size ≤ w0.heap.size) (hN : ns.length + 1 ≤ N) (hgl : g < w0.heap.size := by omega) (hw0 : w0.heap.size ≤ w1.heap.size := by omega) : OutD N w g a len cap (.returned v') w2 := by
  have hb : Below w0.heap.size w1 w2 := (Below.refl _ w1).grown hga hw0 (fun k hk => h.r.lows k hk)
  refine ⟨v', ns ++ [bareN op], rfl, (h.more hga hat (by omega) hr (bare_own w1 _ hop) (fun x hx b hb' => by rw [List.mem_singleton.1 hx] at hb'; exact absurd hb' (bare_has op b))).low h0, by rw [List.length_append]; omega, by rw [List.length_append]; exact hN, hc.kept (hb.block g hgl), grown_tail hg (hb.mono h0)⟩
set_option maxRecDepth 20000 in
set_option maxHeartbeats 3200000 in
theorem draw_exp (g : Nat) (a : Option Addr) (len cap : Nat) (hlen : len ≤ 1048576) (B : Nat) (hB : B ≤ g) : ∀ (d N : Nat), N + 1 = 2 ^ (d + 1) → d ≤ 10 → ∀ (w : World), Cur w g a len cap → Row w B a len →
    Calls Try.prog 114 #[.pointer (some ⟨g, 0, none⟩), .int .i64 (d : Int)] w (OutD N w g a len cap) := by
  intro d
  induction d with
  | zero =>
    intro N hN hd w hc hrow
    obtain rfl : N = 1 := by omega
    have HR := Lib.hid hrow
    have HC := Lib.hid hc
    clear hc hrow
    go_enter Try.func114, Try.ntmps114
    go_wp2_with fail
    refine (wish_any _ g a len cap hlen HC.out B hB HR.out).mono ?_
    rintro e w1 ⟨t, rfl, ho, -, hc, hg⟩
    have HF := Lib.hid (one_node (op := 0) (by decide) ho hc hg hg.size 1 (Nat.le_refl _))
    clear ho hc hg
    unfold Wi.val
    go_wp2
    go_ret
    exact HF.out
  | succ d ih =>
    intro N hN hd w hc hrow
    obtain ⟨M, hM⟩ : ∃ M, M + 1 = 2 ^ (d + 1) := ⟨2 ^ (d + 1) - 1, by have := Nat.one_le_two_pow (n := d + 1); omega⟩
    have hNM : N = 2 * M + 1 := by rw [Nat.pow_succ] at hN; omega
    have hM1 : M + 1 ≤ 2048 := by rw [hM]; exact Nat.le_trans (Nat.pow_le_pow_right (by decide) (show d + 1 ≤ 11 by omega)) (by decide)
    have HI := Lib.hid (ih M hM (by omega))
    have hgl := hc.lt
    have HR := Lib.hid hrow
    have HC := Lib.hid hc
    clear hc hrow ih hN hM
    have hd0 : ((d : Int) + 1 == 0) = false := by simp; omega
    have hd1 : ((d : Int) + 1) - 1 = (d : Int) := by omega
    have hdw : IntKind.i64.wrap (d : Int) = (d : Int) := IntWalk.i64_in _ ⟨by omega, by omega⟩
    have hcast : ((d + 1 : Nat) : Int) = (d : Int) + 1 := by omega
    rw [hcast]
    go_enter Try.func114, Try.ntmps114
    go_wp2_with fail
    refine (once_any 3 (by omega) _ g a len cap hlen HC.out B hB HR.out).mono ?_
    rintro e w1 ⟨q, rfl, hc1, hg1⟩
    have HC1 := Lib.hid hc1
    have HG1 := Lib.hid hg1
    have HB1 := Lib.hid (grown_below hg1 hB (by omega))
    clear hc1 hg1
    cases q
    · go_wp2_with fail
      refine (below_any 4 (by omega) _ g a len cap hlen HC1.out B hB (HR.out.below HB1.out)).mono ?_
      rintro e w2 ⟨u, rfl, hu, hc2, hg2⟩
      obtain ⟨hu0, hu1⟩ := hu.2 (by omega)
      have HC2 := Lib.hid hc2
      have HG2 := Lib.hid (grown_trans HG1.out hg2)
      have HB2 := Lib.hid (grown_below HG2.out hB (by omega))
      have hgl2 : g < w2.heap.size := hc2.lt
      have hw1 : IntKind.i64.wrap (1 + u) = 1 + u := IntWalk.i64_in _ ⟨by omega, by omega⟩
      obtain ⟨op, hop⟩ : ∃ op, 1 + u = op := ⟨_, rfl⟩
      have hwf : (Lit.int .i64 op).wf = true := by
        obtain ⟨k, hk⟩ : ∃ k : Nat, op = (k : Int) := ⟨op.toNat, by omega⟩
        rw [hk]; exact wf_small (by omega)
      have HWf := Lib.hid hwf
      clear hu hc2 hg2 hwf
      rw [hop] at hw1
      by_cases h3 : op = 3
      · subst h3
        go_wp2_with fail
        refine (HI.out _ HC2.out (HR.out.below HB2.out)).mono ?_
        rintro e w3 ⟨v, ns, rfl, ho, l1, l2, hc3, hg3⟩
        have HO := Lib.hid ho
        have HC3 := Lib.hid hc3
        have HG3 := Lib.hid (grown_trans HG2.out hg3)
        have hsz : w2.heap.size ≤ w3.heap.size := hg3.size
        obtain ⟨v', w4, hr, hown, hga, hat⟩ := run_oneG nodeCells_len nodeCells_one (ty := 24) (c := 1) Try.underlying24 info_node rfl (by decide) (by decide) (bareN 3) (cs := #[.int .i64 3, .int .i64 0, .int .i64 0, .int .i64 0, .slice none 0 0, .slice none 0 0]) rfl HO.out.r rfl (by omega) hg3.size
        have HF := Lib.hid (drn_app HO.out HWf.out hga hat hown l1 HC3.out HG3.out HG2.out.size (N := N) (by omega))
        clear ho hc3 hg3 hown hga hat
        go_wp2_with (at_builtin; refine Go.Lib.wpList_append_run_sl _ (by rfl) (.tmp 27) (.tmp 30) 24 (by rfl) _ _ (by rfl) (by rfl) hr ?_)
        clear hr
        go_wp2
        go_ret
        exact HF.out
      · have f3 : (op == 3) = false := by simpa using h3
        clear h3
        go_wp2_with fail
        refine (HI.out _ HC2.out (HR.out.below HB2.out)).mono ?_
        rintro e w3 ⟨v, ns, rfl, ho, l1, l2, hc3, hg3⟩
        have HO := Lib.hid ho
        have HC3 := Lib.hid hc3
        have HG3 := Lib.hid (grown_trans HG2.out hg3)
        have HB3 := Lib.hid (grown_below HG3.out hB (by omega))
        have hgl3 : g < w3.heap.size := hc3.lt
        have hsz3 : w2.heap.size ≤ w3.heap.size := hg3.size
        clear ho hc3 hg3
        go_wp2_with fail
        refine (HI.out _ HC3.out (HR.out.below HB3.out)).mono ?_
        rintro e w4 ⟨v2, ns2, rfl, ho2, k1, k2, hc4, hg4⟩
        obtain ⟨A2, c2, rfl, -, -⟩ := ho2.r.shape
        have HO2 := Lib.hid ho2
        have HO1 : Hid (DrN w4 w2.heap.size v ns) := Lib.hid (HO.out.blocks fun b h1 h2 => hg4.block b h2 (fun e => by have := Option.some.inj e; omega))
        have HC4 := Lib.hid hc4
        have HG4 := Lib.hid (grown_trans HG3.out hg4)
        have hsz4 : w3.heap.size ≤ w4.heap.size := hg4.size
        have HV : Hid (∀ b, v.ownBlock = some b → b < w3.heap.size) := Lib.hid fun b hb => HO.out.r.tops b hb
        clear ho2 hc4 hg4
        obtain ⟨v3, w5, hr, hown, hga, hat⟩ := run_spreadG nodeCells_len nodeCells_one (ty := 24) (c := c2) Try.underlying24 info_node rfl (by decide) (by decide) HO1.out.r HO2.out.nodes.r (by omega) (by omega)
        have HO5 : Hid (DrN w5 w2.heap.size v3 (ns ++ ns2)) := Lib.hid (HO1.out.more hga hat (Nat.le_refl _) hown (fun x hx => ⟨(HO2.out.x x hx).1, (HO2.out.x x hx).2.low hsz3⟩) (fun x hx b hb e => by
          have q1 := ((HO2.out.x x hx).2.has_in hb).1
          have q2 := HV.out b e
          omega))
        have hb5 : Below w2.heap.size w4 w5 := (Below.refl _ w4).grown hga (by omega) (fun k hk => HO1.out.r.lows k hk)
        have HC5 : Hid (Cur w5 g a len cap) := Lib.hid (HC4.out.kept (hb5.block g hgl2))
        have HG5 : Hid (w.grownBy w5 (some g)) := Lib.hid (grown_tail HG4.out (hb5.mono HG2.out.size))
        have hsz5 : w2.heap.size ≤ w5.heap.size := by have := hb5.size; omega
        obtain ⟨v6, w6, hr6, hown6, hga6, hat6⟩ := run_oneG nodeCells_len nodeCells_one (ty := 24) (c := 1) Try.underlying24 info_node rfl (by decide) (by decide) (bareN op) (cs := #[.int .i64 op, .int .i64 0, .int .i64 0, .int .i64 0, .slice none 0 0, .slice none 0 0]) rfl HO5.out.r rfl (by rw [List.length_append]; omega) hsz5
        have HF := Lib.hid (drn_app HO5.out HWf.out hga6 hat6 hown6 (by rw [List.length_append]; omega) HC5.out HG5.out HG2.out.size (N := N) (by rw [List.length_append]; omega))
        clear hown hga hat hb5 hown6 hga6 hat6
        go_wp2_with (at_builtin; first | (refine Go.Lib.wpList_append_run_sl _ (by rfl) (.tmp 36) (.tmp 40) 24 (by rfl) _ _ (by rfl) (by rfl) hr ?_) | (refine Go.Lib.wpList_append_run_sl _ (by rfl) (.tmp 42) (.tmp 45) 24 (by rfl) _ _ (by rfl) (by rfl) hr6 ?_))
        clear hr hr6
        go_wp2
        go_ret
        exact HF.out
    · go_wp2_with fail
      refine (wish_any _ g a len cap hlen HC1.out B hB (HR.out.below HB1.out)).mono ?_
      rintro e w2 ⟨t, rfl, ho, -, hc, hg⟩
      have HF := Lib.hid (one_node (w := w) (op := 0) (by decide) (ho.low HG1.out.size) hc (grown_trans HG1.out hg) (grown_trans HG1.out hg).size N (by omega))
      clear ho hc hg
      unfold Wi.val
      go_wp2
      go_ret
      exact HF.out

set_option maxRecDepth 20000 in
theorem draw_expression (w : World) (g : Nat) (a : Option Addr) (len cap : Nat) (hlen : len ≤ 1048576) (hc : Cur w g a len cap) (B : Nat) (hB : B ≤ g) (hrow : Row w B a len) :
    Calls Try.prog 90 #[.pointer (some ⟨g, 0, none⟩)] w (OutD 9 w g a len cap) := by
  have hgl := hc.lt
  have HR := Lib.hid hrow
  have HI : Hid (Calls Try.prog 114 #[.pointer (some ⟨g, 0, none⟩), .int .i64 2] w (OutD 7 w g a len cap)) := Lib.hid (draw_exp g a len cap hlen B hB 2 7 (by decide) (by decide) w hc hrow)
  clear hc hrow
  go_enter Try.func90, Try.ntmps90
  go_wp2_with fail
  refine HI.out.mono ?_
  rintro e w1 ⟨v, ns, rfl, ho, l1, l2, hc1, hg1⟩
  obtain ⟨A1, c1, rfl, -, -⟩ := ho.r.shape
  have HF : Hid (OutD 9 w g a len cap (.returned (.slice A1 ns.length c1)) w1) := Lib.hid ⟨_, ns, rfl, ho, l1, by omega, hc1, hg1⟩
  have hd : decide ((ns.length : Int) > 9) = false := by simp; omega
  have hd' : ¬ ((9 : Int) < (ns.length : Int)) := by omega
  clear ho hc1 hg1 HI
  go_wp2
  go_ret
  exact HF.out
/-- The slice reads as the nodes ns, and does so in each world in which the blocks from lo on are as they are. -/
def KeepN (lo : Nat) (w : World) (A : Option Addr) (n : Nat) (ns : List Nd) : Prop := ∀ w'' : World, w.heap.size ≤ w''.heap.size → (∀ b, lo ≤ b → b < w.heap.size → w''.heap[b]? = w.heap[b]?) → Nodes w'' w''.heap.size A n ns
theorem KeepN.now {lo : Nat} {w : World} {A : Option Addr} {n : Nat} {ns : List Nd} (h : KeepN lo w A n ns) : Nodes w w.heap.size A n ns := h w (Nat.le_refl _) fun _ _ _ => rfl
theorem KeepN.step {lo : Nat} {w w' : World} {A : Option Addr} {n : Nat} {ns : List Nd} (h : KeepN lo w A n ns) (hs : w.heap.size ≤ w'.heap.size) (hb : ∀ b, lo ≤ b → b < w.heap.size → w'.heap[b]? = w.heap[b]?) : KeepN lo w' A n ns := fun w'' h1 h2 => h w'' (Nat.le_trans hs h1) fun b h3 h4 => (h2 b h3 (Nat.lt_of_lt_of_le h4 hs)).trans (hb b h3 h4)
/-- What l5Any hands back: it reads as nodes. -/
def OutA (w : World) (g : Nat) (a : Option Addr) (len cap : Nat) (e : Ending) (w' : World) : Prop :=
  ∃ A n c ns, e = .returned (.slice A n c) ∧ KeepN w.heap.size w' A n ns ∧ n ≤ c ∧ c ≤ maxLen ∧ ShortN ns ∧ n ≤ 10 ∧ Cur w' g a len cap ∧ w.grownBy w' (some g)
theorem OutD.any {N : Nat} {w : World} {g : Nat} {a : Option Addr} {len cap : Nat} {e : Ending} {w' : World} (h : OutD N w g a len cap e w') (hN : N ≤ 10) : OutA w g a len cap e w' := by
  obtain ⟨v, ns, rfl, ho, l1, l2, hc, hg⟩ := h
  obtain ⟨A, c, rfl, h1, h2⟩ := ho.r.shape
  exact ⟨A, _, c, ns, rfl, fun w'' _ hb => (ho.blocks hb).nodes, h1, h2, ho.short, by omega, hc, hg⟩
theorem nodes_tail {w : World} {B b c off n : Nat} {ns : List Nd} (h : Nodes w B (some ⟨b, off, none⟩) n ns) : Nodes w B (some ⟨b, off + 6, none⟩) (n - 1) (ns.drop 1) := by
  refine ⟨⟨by rw [List.length_drop, h.r.len], fun k x hk => ?_⟩, fun x hx => h.x x (List.mem_of_mem_drop hx)⟩
  rw [List.getElem?_drop] at hk
  obtain ⟨b', off', e, h1, h2⟩ := h.r.at' (1 + k) x hk
  injection e with e
  injection e with e1 e2
  subst e1 e2
  refine ⟨b, off + 6, rfl, h1, fun j v hv => ?_⟩
  have h3 := h2 j v hv
  rwa [show off + (1 + k) * 6 + j = off + 6 + k * 6 + j by omega] at h3
set_option maxRecDepth 20000 in
set_option maxHeartbeats 3200000 in
theorem any_expression (w : World) (g : Nat) (a : Option Addr) (len cap : Nat) (hlen : len ≤ 1048576) (hc : Cur w g a len cap) (B : Nat) (hB : B ≤ g) (hrow : Row w B a len) :
    Calls Try.prog 64 #[.pointer (some ⟨g, 0, none⟩)] w (OutA w g a len cap) := by
  have hgl := hc.lt
  have HR := Lib.hid hrow
  have HI := Lib.hid (draw_expression w g a len cap hlen hc B hB hrow)
  clear hc hrow
  go_enter Try.func64, Try.ntmps64
  go_wp2_with fail
  refine HI.out.mono ?_
  rintro e w1 ⟨v, ns, rfl, ho, l1, l2, hc1, hg1⟩
  have HO := Lib.hid ho
  have HC1 := Lib.hid hc1
  have HG1 := Lib.hid hg1
  have HB1 := Lib.hid (grown_below hg1 hB (by omega))
  have hs1 : w.heap.size ≤ w1.heap.size := hg1.size
  have hgl1 : g < w1.heap.size := hc1.lt
  clear ho hc1 hg1 HI
  go_wp2_with fail
  refine (below_any 12 (by omega) _ g a len cap hlen HC1.out B hB (HR.out.below HB1.out)).mono ?_
  rintro e w2 ⟨u, rfl, hu, hc2, hg2⟩
  obtain ⟨hu0, hu1⟩ := hu.2 (by omega)
  have HC2 := Lib.hid hc2
  have HG2 := Lib.hid (grown_trans HG1.out hg2)
  have HB2 := Lib.hid (grown_below HG2.out hB (by omega))
  have HO2 : Hid (DrN w2 w.heap.size v ns) := Lib.hid (HO.out.blocks fun b h1 h2 => hg2.block b h2 (fun e => by have := Option.some.inj e; omega))
  have hs2 : w.heap.size ≤ w2.heap.size := HG2.out.size
  have hgl2 : g < w2.heap.size := hc2.lt
  clear hu hc2 hg2
  by_cases u0 : u = 0
  · subst u0
    go_wp2_with fail
    refine (below_any 7 (by omega) _ g a len cap hlen HC2.out B hB (HR.out.below HB2.out)).mono ?_
    rintro e w3 ⟨z, rfl, hz, hc3, hg3⟩
    obtain ⟨hz0, hz1⟩ := hz.2 (by omega)
    have HC3 := Lib.hid hc3
    have HG3 := Lib.hid (grown_trans HG2.out hg3)
    have HO3 : Hid (DrN w3 w.heap.size v ns) := Lib.hid (HO2.out.blocks fun b h1 h2 => hg3.block b h2 (fun e => by have := Option.some.inj e; omega))
    have hs3 : w.heap.size ≤ w3.heap.size := HG3.out.size
    have hw1 : IntKind.i64.wrap (z - 1) = z - 1 := IntWalk.i64_in _ ⟨by omega, by omega⟩
    obtain ⟨op, hop⟩ : ∃ op, z - 1 = op := ⟨_, rfl⟩
    have hwf : (Lit.int .i64 op).wf = true := by simp [Lit.wf, IntKind.min, IntKind.max, IntKind.signed, IntKind.bits]; omega
    rw [hop] at hw1
    obtain ⟨v', w4, hr, hown, hga, hat⟩ := run_oneG nodeCells_len nodeCells_one (ty := 24) (c := 1) Try.underlying24 info_node rfl (by decide) (by decide) (bareN op) (cs := #[.int .i64 op, .int .i64 0, .int .i64 0, .int .i64 0, .slice none 0 0, .slice none 0 0]) rfl HO3.out.r rfl (by omega) hs3
    have HF := Lib.hid ((drn_app HO3.out hwf hga hat hown l1 HC3.out HG3.out (Nat.le_refl _) (N := 10) (by omega)).any (Nat.le_refl _))
    clear hz hc3 hg3 hown hga hat hwf
    go_wp2_with (at_builtin; refine Go.Lib.wpList_append_run_sl _ (by rfl) (.tmp 10) (.tmp 15) 24 (by rfl) _ _ (by rfl) (by rfl) hr ?_)
    clear hr
    go_wp2
    go_ret
    exact HF.out
  · have f0 : (u == 0) = false := by simpa using u0
    by_cases u1 : u = 1
    · subst u1
      clear f0 u0
      go_wp2_with fail
      refine (any_wish _ g a len cap hlen HC2.out B hB (HR.out.below HB2.out)).mono ?_
      rintro e w3 ⟨t, rfl, hot, -, hc3, hg3⟩
      have HC3 := Lib.hid hc3
      have HG3 := Lib.hid (grown_trans HG2.out hg3)
      have HO3 : Hid (DrN w3 w.heap.size v ns) := Lib.hid (HO2.out.blocks fun b h1 h2 => hg3.block b h2 (fun e => by have := Option.some.inj e; omega))
      have HT := Lib.hid hot
      have hs3 : w.heap.size ≤ w3.heap.size := HG3.out.size
      obtain ⟨v', w4, hr, hown, hga, hat⟩ := run_oneG nodeCells_len nodeCells_one (ty := 24) (c := 1) Try.underlying24 info_node rfl (by decide) (by decide) (⟨0, t⟩ : Nd) (cs := #[.int .i64 0, .int .i64 t.kind, .int .i64 t.field, .int .i64 t.value, .slice t.LA t.Ln t.Lc, .slice t.PA t.Pn t.Pc]) rfl HO3.out.r rfl (by omega) hs3
      have HF : Hid (OutA w g a len cap (.returned v') w4) := Lib.hid (by
        have hb : Below w.heap.size w3 w4 := (Below.refl _ w3).grown hga hs3 (fun k hk => HO3.out.r.lows k hk)
        have hd : DrN w4 w.heap.size v' (ns ++ [⟨0, t⟩]) := HO3.out.more hga hat (by omega) hown (fun x hx => by rw [List.mem_singleton.1 hx]; exact ⟨by show (Lit.int .i64 0).wf = true; decide, HT.out.low hs2⟩) (fun x hx b hb' e => by
          rw [List.mem_singleton.1 hx] at hb'
          have q1 := (HT.out.has_in hb').1
          have q2 := HO2.out.r.tops b e
          omega)
        exact OutD.any (N := 10) ⟨v', _, rfl, hd, by rw [List.length_append]; omega, by rw [List.length_append]; simp; omega, HC3.out.kept (hb.block g hgl), grown_tail HG3.out hb⟩ (Nat.le_refl _))
      clear hot hc3 hg3 hown hga hat
      unfold Wi.val
      go_wp2_with (at_builtin; refine Go.Lib.wpList_append_run_sl _ (by rfl) (.tmp 19) (.tmp 23) 24 (by rfl) _ _ (by rfl) (by rfl) hr ?_)
      clear hr
      go_wp2
      go_ret
      exact HF.out
    · have f1 : (u == 1) = false := by simpa using u1
      have HA : Hid (OutA w g a len cap (.returned v) w2) := Lib.hid (OutD.any (N := 9) ⟨v, ns, rfl, HO2.out, l1, l2, HC2.out, HG2.out⟩ (by decide))
      by_cases u2 : u = 2
      · subst u2
        obtain ⟨A1, c1, rfl, hl, hcm⟩ := HO2.out.r.shape
        obtain ⟨m, hm⟩ : ∃ m, ns.length = m + 1 := ⟨ns.length - 1, by omega⟩
        have hNd := HO2.out.nodes
        rw [hm] at hl hNd ⊢
        obtain ⟨b, off, e, _, _⟩ := hNd.r.cells nodeCells_len (by omega)
        subst e
        have HK : Hid (∀ w'' : World, (∀ b, w.heap.size ≤ b → b < w2.heap.size → w''.heap[b]? = w2.heap[b]?) → Nodes w'' w''.heap.size (some ⟨b, off, none⟩) (m + 1) ns) := Lib.hid fun w'' hb => by have h := (HO2.out.blocks hb).nodes; rwa [hm] at h
        obtain ⟨c, hcc⟩ : ∃ c, c1 = c + 1 := ⟨c1 - 1, by omega⟩
        subst hcc
        have hcm' : c + 1 ≤ 9223372036854775807 := by unfold maxLen at hcm; omega
        have h1c : (1 : Int) ≤ (c : Int) + 1 := by omega
        have h1m : (1 : Int) ≤ (m : Int) + 1 := by omega
        rcases Nat.eq_zero_or_pos c with c0 | c0
        · subst c0
          obtain rfl : m = 0 := by omega
          have HF : Hid (∀ o : Nat, OutA w g a len cap (.returned (.slice (some ⟨b, o, none⟩) 0 0)) w2) := Lib.hid fun o => ⟨_, 0, 0, [], rfl, fun _ _ _ => .nil _ _ _, by omega, by omega, by simp [ShortN], by omega, HC2.out, HG2.out⟩
          clear hNd u0 u1 hl hcm
          go_wp2
          go_ret
          exact HF.out _
        · have HF : Hid (OutA w g a len cap (.returned (.slice (some ⟨b, off + 6, none⟩) m c)) w2) := Lib.hid ⟨_, m, c, ns.drop 1, rfl, fun w'' _ hb => by have h := nodes_tail (c := c) (HK.out w'' hb); simpa using h, by omega, by omega, fun x hx => HO2.out.short x (List.mem_of_mem_drop hx), by omega, HC2.out, HG2.out⟩
          have hcne : ¬ (c = 0) := by omega
          have hcne' : ¬ ((c : Int) = 0) := by omega
          have hcp : (0 : Int) < (c : Int) := by omega
          clear hNd u0 u1 hl hcm
          go_wp2
          go_ret
          exact HF.out
      · have f2 : (u == 2) = false := by simpa using u2
        clear u0 u1 u2
        go_wp2
        go_ret
        exact HA.out
end Go.Proofs.Ytaijajajpnekbaa.num
namespace Go.Proofs.Ytaijajajpnekbaa.num
set_option maxRecDepth 20000
open Go.RowKit
set_option linter.unusedSimpArgs false

/-- The first k numbers rise. -/
def Rise (l : List Int) (k : Nat) : Prop := ∀ j, 0 < j → j < k → l.getD (j - 1) 0 < l.getD j 0
theorem Rise.zero (l : List Int) : Rise l 0 := fun j _ h => by omega
theorem Rise.step {l : List Int} {k : Nat} (h : Rise l k) (h1 : 0 < k → l.getD (k - 1) 0 < l.getD k 0) : Rise l (k + 1) := fun j h0 hj => by
  by_cases e : j = k
  · subst e; exact h1 h0
  · exact h j h0 (by omega)
/-- What makes a list of items. -/
def AreP (ds : List (Int × List Int)) : Prop := (∀ d ∈ ds, IsP d) ∧ Rise (ds.map (·.1)) ds.length ∧ ds.length ≤ 16
theorem id_at {its : List It} {k : Nat} {t : It} (h : its[k]? = some t) : ((its.map It.dat).map (·.1)).getD k 0 = t.id := by
  simp [List.getD_eq_getElem?_getD, h, It.dat]
theorem dat_mem {its : List It} {k : Nat} {t : It} (h : its[k]? = some t) : t.dat ∈ its.map It.dat := List.mem_map.2 ⟨t, mem_of_at h, rfl⟩

/-- IsItem in a world that still bears what held of w0 below its end. -/
theorem sIsItem_in (w0 w : World) (B : Nat) (t : It) (hi : Ints w0 B t.A t.n t.xs) (hB : B ≤ w0.heap.size) (hw : Below w0.heap.size w0 w) (hn : t.n ≤ 1048576) (b : Bool) (hb : b = true ↔ IsP t.dat) :
    Calls Try.prog 37 #[t.val] w fun e w' => e = .returned (.bool b) ∧ Below w0.heap.size w0 w' :=
  (sIsItem w B t (hi.below (hw.mono hB)) (Nat.le_trans hB hw.size) hn b hb).mono fun _ _ ⟨he, h⟩ => ⟨he, hw.trans (h.mono hw.size)⟩

theorem all_step {its : List It} {k : Nat} {t : It} (hat : its[k]? = some t) (h : ∀ u ∈ its.take k, IsP u.dat) (h1 : IsP t.dat) : ∀ u ∈ its.take (k + 1), IsP u.dat := by
  rw [take_at hat]
  intro u hu
  rcases List.mem_append.1 hu with h2 | h2
  · exact h u h2
  · obtain rfl := List.mem_singleton.1 h2
    exact h1

set_option maxRecDepth 20000 in
set_option maxHeartbeats 1600000 in
theorem sAre (w : World) (B : Nat) (A : Option Addr) (n c : Nat) (its : List It) (hi : Items w B A n its) (hB : B ≤ w.heap.size) (hn : n ≤ 1048576) (hN : ∀ t ∈ its, t.n ≤ 1048576) (b : Bool) (hb : b = true ↔ AreP (its.map It.dat)) :
    Calls Try.prog 39 #[.slice A n c] w fun e w' => e = .returned (.bool b) ∧ Below w.heap.size w w' := by
  have HX := Lib.hid hi
  have HN := Lib.hid hN
  have HBo := Lib.hid hb
  clear hi hN hb
  go_enter Try.func39, Try.ntmps39
  go_wp2
  go_loopw [3] (fun i wr => ∃ k : Nat, k ≤ n ∧ i = .int .i64 k ∧ (∀ t ∈ its.take k, IsP t.dat) ∧ Rise ((its.map It.dat).map (·.1)) k ∧ Below w.heap.size w wr) (fun i _ => n - (intOf i).toNat)
  case atStart => exact ⟨0, Nat.zero_le _, rfl, by simp, Rise.zero _, Below.refl _ _⟩
  case round =>
    obtain ⟨k, hk, rfl, hall, hrise, hbel⟩ := hrel
    have HA := Lib.hid hall
    have HR := Lib.hid hrise
    have HB := Lib.hid hbel
    clear hall hrise
    by_cases hlt : k < n
    · obtain ⟨b1, off, t, hA1, hb1, hat, hc1, hd1, hx⟩ := HX.out.at k hlt
      have f1 := (hbel.cell (p := ⟨b1, off + k * 2, none⟩) (by exact Nat.lt_of_lt_of_le hb1 hB)).trans hc1
      have f2 := (hbel.cell (p := ⟨b1, off + k * 2 + 1, none⟩) (by exact Nat.lt_of_lt_of_le hb1 hB)).trans hd1
      have HI := Lib.hid (hx.below (hbel.mono hB))
      have HAt := Lib.hid hat
      have htn := Lib.hid (HN.out t (mem_of_at hat))
      have hsz := Lib.hid hbel.size
      have hlt' : (k : Int) < (n : Int) := by omega
      obtain ⟨q, hq⟩ := bool_of (IsP t.dat)
      have HQ := Lib.hid hq
      clear hc1 hd1 hx hat hq
      cases q
      · have HF : Hid (b = false) := by
          show _ = _
          cases b
          · rfl
          · exact absurd ((HBo.out.1 rfl).1 _ (dat_mem HAt.out)) (fun h => by have := HQ.out.2 h; cases this)
        subst hA1
        clear hbel
        go_wp2
        have hs0 : Below wr.heap.size wr wr.drew ∧ wr.drew.cell? ⟨b1, off + k * 2, none⟩ = some (.int .i64 t.id) ∧ wr.drew.cell? ⟨b1, off + k * 2 + 1, none⟩ = some (.slice t.A t.n t.c) := ⟨(Below.refl _ _).drew, f1, f2⟩
        refine wp_region_held (S := fun w' => Below wr.heap.size wr w' ∧ w'.cell? ⟨b1, off + k * 2, none⟩ = some (.int .i64 t.id) ∧ w'.cell? ⟨b1, off + k * 2 + 1, none⟩ = some (.slice t.A t.n t.c)) (by kernel_rfl) ?_
        change wpAnyH _ _ _ _ _ _ _ _ (World.drew _)
        refine takeY 10 (i := 0) (v := ?v0a) rfl rfl (by kernel_rfl) (by kernel_rfl) (by kernel_rfl) (fun _ _ _ h => h) (by kernel_rfl) ?y0a hs0 ?_
        case y0a =>
          intro w' hw'; (try dsimp only at hw'); obtain ⟨e0, e1, e2⟩ := hw'; go_simp; try with_reducible rfl
        simp only [Act.put, List.setIfInBounds_toArray, List.set_cons_zero, List.set_cons_succ]
        refine takeY 11 (i := 1) (v := ?v1a) rfl rfl (by kernel_rfl) (by kernel_rfl) (by kernel_rfl) (fun _ _ _ h => h) (by kernel_rfl) ?y1a hs0 ?_
        case y1a =>
          intro w' hw'; (try dsimp only at hw'); obtain ⟨e0, e1, e2⟩ := hw'; go_simp; try with_reducible rfl
        simp only [Act.put, List.setIfInBounds_toArray, List.set_cons_zero, List.set_cons_succ]
        refine takeY 12 (i := 2) (v := ?v2a) rfl rfl (by kernel_rfl) (by kernel_rfl) (by kernel_rfl) (fun _ _ _ h => h) (by kernel_rfl) ?y2a hs0 ?_
        case y2a =>
          intro w' hw'; (try dsimp only at hw'); obtain ⟨e0, e1, e2⟩ := hw'; go_simp; try with_reducible rfl
        simp only [Act.put, List.setIfInBounds_toArray, List.set_cons_zero, List.set_cons_succ]
        refine takeY 13 (i := 3) (v := ?v3a) rfl rfl (by kernel_rfl) (by kernel_rfl) (by kernel_rfl) (fun _ _ _ h => h) (by kernel_rfl) ?y3a hs0 ?_
        case y3a =>
          intro w' hw'; (try dsimp only at hw'); obtain ⟨e0, e1, e2⟩ := hw'; go_simp; try with_reducible rfl
        simp only [Act.put, List.setIfInBounds_toArray, List.set_cons_zero, List.set_cons_succ]
        refine wpAnyH_ready (rs := [4]) (by kernel_rfl) (by simp) ?_
        refine AllReadyH.cons rfl (fun K hK => ?_) AllReadyH.nil
        go_simp; go_at_call 37; refine (sIsItem_in wr _ B t HI.out (Nat.le_trans hB hsz.out) (Below.refl _ _).drew htn.out false HQ.out).mono ?_; rintro e w3 ⟨rfl, hb3⟩
        refine hK.out _ _ ⟨hb3, (hb3.cell (p := ⟨b1, off + k * 2, none⟩) (by exact Nat.lt_of_lt_of_le hb1 (Nat.le_trans hB hsz.out))).trans f1, (hb3.cell (p := ⟨b1, off + k * 2 + 1, none⟩) (by exact Nat.lt_of_lt_of_le hb1 (Nat.le_trans hB hsz.out))).trans f2⟩ (fun hS1 => ?_)
        clear hK K
        try simp only [Act.put, List.setIfInBounds_toArray, List.set_cons_zero, List.set_cons_succ]
        refine takeY 15 (i := 5) (v := ?v5a) rfl rfl (by kernel_rfl) (by kernel_rfl) (by kernel_rfl) (fun _ _ _ h => h) (by kernel_rfl) ?y5a hS1 ?_
        case y5a =>
          intro w' hw'; (try dsimp only at hw'); obtain ⟨e0, e1, e2⟩ := hw'; go_simp; try with_reducible rfl
        simp only [Act.put, List.setIfInBounds_toArray, List.set_cons_zero, List.set_cons_succ]
        refine takeY 16 (i := 6) (v := ?v6a) rfl rfl (by kernel_rfl) (by kernel_rfl) (by kernel_rfl) (fun _ _ _ h => h) (by kernel_rfl) ?y6a hS1 ?_
        case y6a =>
          intro w' hw'; (try dsimp only at hw'); obtain ⟨e0, e1, e2⟩ := hw'; go_simp; try with_reducible rfl
        simp only [Act.put, List.setIfInBounds_toArray, List.set_cons_zero, List.set_cons_succ]
        refine takeU 17 (i := 7) rfl rfl (by kernel_rfl) (by kernel_rfl) (by kernel_rfl) (fun _ _ _ h => h) (by kernel_rfl) hS1 ?_
        simp only [Act.put, List.setIfInBounds_toArray, List.set_cons_zero, List.set_cons_succ]
        refine takeU 18 (i := 8) rfl rfl (by kernel_rfl) (by kernel_rfl) (by kernel_rfl) (fun _ _ _ h => h) (by kernel_rfl) hS1 ?_
        simp only [Act.put, List.setIfInBounds_toArray, List.set_cons_zero, List.set_cons_succ]
        refine takeU 19 (i := 9) rfl rfl (by kernel_rfl) (by kernel_rfl) (by kernel_rfl) (fun _ _ _ h => h) (by kernel_rfl) hS1 ?_
        simp only [Act.put, List.setIfInBounds_toArray, List.set_cons_zero, List.set_cons_succ]
        refine takeU 20 (i := 10) rfl rfl (by kernel_rfl) (by kernel_rfl) (by kernel_rfl) (fun _ _ _ h => h) (by kernel_rfl) hS1 ?_
        simp only [Act.put, List.setIfInBounds_toArray, List.set_cons_zero, List.set_cons_succ]
        refine takeU 21 (i := 11) rfl rfl (by kernel_rfl) (by kernel_rfl) (by kernel_rfl) (fun _ _ _ h => h) (by kernel_rfl) hS1 ?_
        simp only [Act.put, List.setIfInBounds_toArray, List.set_cons_zero, List.set_cons_succ]
        refine takeU 22 (i := 12) rfl rfl (by kernel_rfl) (by kernel_rfl) (by kernel_rfl) (fun _ _ _ h => h) (by kernel_rfl) hS1 ?_
        simp only [Act.put, List.setIfInBounds_toArray, List.set_cons_zero, List.set_cons_succ]
        refine takeU 23 (i := 13) rfl rfl (by kernel_rfl) (by kernel_rfl) (by kernel_rfl) (fun _ _ _ h => h) (by kernel_rfl) hS1 ?_
        simp only [Act.put, List.setIfInBounds_toArray, List.set_cons_zero, List.set_cons_succ]
        refine takeU 24 (i := 14) rfl rfl (by kernel_rfl) (by kernel_rfl) (by kernel_rfl) (fun _ _ _ h => h) (by kernel_rfl) hS1 ?_
        simp only [Act.put, List.setIfInBounds_toArray, List.set_cons_zero, List.set_cons_succ]
        refine takeU 25 (i := 15) rfl rfl (by kernel_rfl) (by kernel_rfl) (by kernel_rfl) (fun _ _ _ h => h) (by kernel_rfl) hS1 ?_
        simp only [Act.put, List.setIfInBounds_toArray, List.set_cons_zero, List.set_cons_succ]
        refine takeU 26 (i := 16) rfl rfl (by kernel_rfl) (by kernel_rfl) (by kernel_rfl) (fun _ _ _ h => h) (by kernel_rfl) hS1 ?_
        simp only [Act.put, List.setIfInBounds_toArray, List.set_cons_zero, List.set_cons_succ]
        refine takeU 27 (i := 17) rfl rfl (by kernel_rfl) (by kernel_rfl) (by kernel_rfl) (fun _ _ _ h => h) (by kernel_rfl) hS1 ?_
        simp only [Act.put, List.setIfInBounds_toArray, List.set_cons_zero, List.set_cons_succ]
        refine takeU 28 (i := 18) rfl rfl (by kernel_rfl) (by kernel_rfl) (by kernel_rfl) (fun _ _ _ h => h) (by kernel_rfl) hS1 ?_
        simp only [Act.put, List.setIfInBounds_toArray, List.set_cons_zero, List.set_cons_succ]
        refine takeU 29 (i := 19) rfl rfl (by kernel_rfl) (by kernel_rfl) (by kernel_rfl) (fun _ _ _ h => h) (by kernel_rfl) hS1 ?_
        simp only [Act.put, List.setIfInBounds_toArray, List.set_cons_zero, List.set_cons_succ]
        refine takeU 30 (i := 20) rfl rfl (by kernel_rfl) (by kernel_rfl) (by kernel_rfl) (fun _ _ _ h => h) (by kernel_rfl) hS1 ?_
        simp only [Act.put, List.setIfInBounds_toArray, List.set_cons_zero, List.set_cons_succ]
        refine takeU 31 (i := 21) rfl rfl (by kernel_rfl) (by kernel_rfl) (by kernel_rfl) (fun _ _ _ h => h) (by kernel_rfl) hS1 ?_
        simp only [Act.put, List.setIfInBounds_toArray, List.set_cons_zero, List.set_cons_succ]
        refine takeU 32 (i := 22) rfl rfl (by kernel_rfl) (by kernel_rfl) (by kernel_rfl) (fun _ _ _ h => h) (by kernel_rfl) hS1 ?_
        simp only [Act.put, List.setIfInBounds_toArray, List.set_cons_zero, List.set_cons_succ]
        refine takeY 33 (i := 23) (v := ?v23a) rfl rfl (by kernel_rfl) (by kernel_rfl) (by kernel_rfl) (fun _ _ _ h => h) (by kernel_rfl) ?y23a hS1 ?_
        case y23a =>
          intro w' hw'; (try dsimp only at hw'); obtain ⟨e0, e1, e2⟩ := hw'; go_simp; try with_reducible rfl
        simp only [Act.put, List.setIfInBounds_toArray, List.set_cons_zero, List.set_cons_succ]
        refine wpAnyH_done (by kernel_rfl) ?_ _
        go_wp2
        go_ret
        exact ⟨HF.out.symm ▸ rfl, HB.out.trans (hb3.mono hsz.out)⟩
      · have HD := Lib.hid (HQ.out.1 rfl)
        rcases Nat.eq_zero_or_pos k with h0 | h0
        · have HK := Lib.hid h0
          subst hA1
          clear hbel h0
          go_wp2
          have hk0 : decide (0 < k) = false := decide_eq_false (by have := HK.out; omega)
          have hs0 : Below wr.heap.size wr wr.drew ∧ wr.drew.cell? ⟨b1, off + k * 2, none⟩ = some (.int .i64 t.id) ∧ wr.drew.cell? ⟨b1, off + k * 2 + 1, none⟩ = some (.slice t.A t.n t.c) := ⟨(Below.refl _ _).drew, f1, f2⟩
          refine wp_region_held (S := fun w' => Below wr.heap.size wr w' ∧ w'.cell? ⟨b1, off + k * 2, none⟩ = some (.int .i64 t.id) ∧ w'.cell? ⟨b1, off + k * 2 + 1, none⟩ = some (.slice t.A t.n t.c)) (by kernel_rfl) ?_
          change wpAnyH _ _ _ _ _ _ _ _ (World.drew _)
          refine takeY 10 (i := 0) (v := ?v0b) rfl rfl (by kernel_rfl) (by kernel_rfl) (by kernel_rfl) (fun _ _ _ h => h) (by kernel_rfl) ?y0b hs0 ?_
          case y0b =>
            intro w' hw'; (try dsimp only at hw'); obtain ⟨e0, e1, e2⟩ := hw'; go_simp; try with_reducible rfl
          simp only [Act.put, List.setIfInBounds_toArray, List.set_cons_zero, List.set_cons_succ]
          refine takeY 11 (i := 1) (v := ?v1b) rfl rfl (by kernel_rfl) (by kernel_rfl) (by kernel_rfl) (fun _ _ _ h => h) (by kernel_rfl) ?y1b hs0 ?_
          case y1b =>
            intro w' hw'; (try dsimp only at hw'); obtain ⟨e0, e1, e2⟩ := hw'; go_simp; try with_reducible rfl
          simp only [Act.put, List.setIfInBounds_toArray, List.set_cons_zero, List.set_cons_succ]
          refine takeY 12 (i := 2) (v := ?v2b) rfl rfl (by kernel_rfl) (by kernel_rfl) (by kernel_rfl) (fun _ _ _ h => h) (by kernel_rfl) ?y2b hs0 ?_
          case y2b =>
            intro w' hw'; (try dsimp only at hw'); obtain ⟨e0, e1, e2⟩ := hw'; go_simp; try with_reducible rfl
          simp only [Act.put, List.setIfInBounds_toArray, List.set_cons_zero, List.set_cons_succ]
          refine takeY 13 (i := 3) (v := ?v3b) rfl rfl (by kernel_rfl) (by kernel_rfl) (by kernel_rfl) (fun _ _ _ h => h) (by kernel_rfl) ?y3b hs0 ?_
          case y3b =>
            intro w' hw'; (try dsimp only at hw'); obtain ⟨e0, e1, e2⟩ := hw'; go_simp; try with_reducible rfl
          simp only [Act.put, List.setIfInBounds_toArray, List.set_cons_zero, List.set_cons_succ]
          refine wpAnyH_ready (rs := [4]) (by kernel_rfl) (by simp) ?_
          refine AllReadyH.cons rfl (fun K hK => ?_) AllReadyH.nil
          go_simp; go_at_call 37; refine (sIsItem_in wr _ B t HI.out (Nat.le_trans hB hsz.out) (Below.refl _ _).drew htn.out true ⟨fun _ => HD.out, fun _ => rfl⟩).mono ?_; rintro e w3 ⟨rfl, hb3⟩
          refine hK.out _ _ ⟨hb3, (hb3.cell (p := ⟨b1, off + k * 2, none⟩) (by exact Nat.lt_of_lt_of_le hb1 (Nat.le_trans hB hsz.out))).trans f1, (hb3.cell (p := ⟨b1, off + k * 2 + 1, none⟩) (by exact Nat.lt_of_lt_of_le hb1 (Nat.le_trans hB hsz.out))).trans f2⟩ (fun hS1 => ?_)
          clear hK K
          try simp only [Act.put, List.setIfInBounds_toArray, List.set_cons_zero, List.set_cons_succ]
          refine takeY 15 (i := 5) (v := ?v5b) rfl rfl (by kernel_rfl) (by kernel_rfl) (by kernel_rfl) (fun _ _ _ h => h) (by kernel_rfl) ?y5b hS1 ?_
          case y5b =>
            intro w' hw'; (try dsimp only at hw'); obtain ⟨e0, e1, e2⟩ := hw'; go_simp; try with_reducible rfl
          simp only [Act.put, List.setIfInBounds_toArray, List.set_cons_zero, List.set_cons_succ]
          refine takeY 16 (i := 6) (v := ?v6b) rfl rfl (by kernel_rfl) (by kernel_rfl) (by kernel_rfl) (fun _ _ _ h => h) (by kernel_rfl) ?y6b hS1 ?_
          case y6b =>
            intro w' hw'; (try dsimp only at hw'); obtain ⟨e0, e1, e2⟩ := hw'; go_simp; try with_reducible rfl
          simp only [Act.put, List.setIfInBounds_toArray, List.set_cons_zero, List.set_cons_succ]
          refine takeY 17 (i := 7) (v := ?v7b) rfl rfl (by kernel_rfl) (by kernel_rfl) (by kernel_rfl) (fun _ _ _ h => h) (by kernel_rfl) ?y7b hS1 ?_
          case y7b =>
            intro w' hw'; (try dsimp only at hw'); obtain ⟨e0, e1, e2⟩ := hw'; go_simp; try with_reducible rfl
          simp only [Act.put, List.setIfInBounds_toArray, List.set_cons_zero, List.set_cons_succ]
          refine takeY 18 (i := 8) (v := ?v8b) rfl rfl (by kernel_rfl) (by kernel_rfl) (by kernel_rfl) (fun _ _ _ h => h) (by kernel_rfl) ?y8b hS1 ?_
          case y8b =>
            intro w' hw'; (try dsimp only at hw'); obtain ⟨e0, e1, e2⟩ := hw'; go_simp; try with_reducible rfl
          simp only [Act.put, List.setIfInBounds_toArray, List.set_cons_zero, List.set_cons_succ]
          refine takeY 19 (i := 9) (v := ?v9b) rfl rfl (by kernel_rfl) (by kernel_rfl) (by kernel_rfl) (fun _ _ _ h => h) (by kernel_rfl) ?y9b hS1 ?_
          case y9b =>
            intro w' hw'; (try dsimp only at hw'); obtain ⟨e0, e1, e2⟩ := hw'; go_simp; try with_reducible rfl
          simp only [Act.put, List.setIfInBounds_toArray, List.set_cons_zero, List.set_cons_succ]
          refine takeU 20 (i := 10) rfl rfl (by kernel_rfl) (by kernel_rfl) (by kernel_rfl) (fun _ _ _ h => h) (by kernel_rfl) hS1 ?_
          simp only [Act.put, List.setIfInBounds_toArray, List.set_cons_zero, List.set_cons_succ]
          refine takeU 21 (i := 11) rfl rfl (by kernel_rfl) (by kernel_rfl) (by kernel_rfl) (fun _ _ _ h => h) (by kernel_rfl) hS1 ?_
          simp only [Act.put, List.setIfInBounds_toArray, List.set_cons_zero, List.set_cons_succ]
          refine takeU 22 (i := 12) rfl rfl (by kernel_rfl) (by kernel_rfl) (by kernel_rfl) (fun _ _ _ h => h) (by kernel_rfl) hS1 ?_
          simp only [Act.put, List.setIfInBounds_toArray, List.set_cons_zero, List.set_cons_succ]
          refine takeU 23 (i := 13) rfl rfl (by kernel_rfl) (by kernel_rfl) (by kernel_rfl) (fun _ _ _ h => h) (by kernel_rfl) hS1 ?_
          simp only [Act.put, List.setIfInBounds_toArray, List.set_cons_zero, List.set_cons_succ]
          refine takeU 24 (i := 14) rfl rfl (by kernel_rfl) (by kernel_rfl) (by kernel_rfl) (fun _ _ _ h => h) (by kernel_rfl) hS1 ?_
          simp only [Act.put, List.setIfInBounds_toArray, List.set_cons_zero, List.set_cons_succ]
          refine takeU 25 (i := 15) rfl rfl (by kernel_rfl) (by kernel_rfl) (by kernel_rfl) (fun _ _ _ h => h) (by kernel_rfl) hS1 ?_
          simp only [Act.put, List.setIfInBounds_toArray, List.set_cons_zero, List.set_cons_succ]
          refine takeU 26 (i := 16) rfl rfl (by kernel_rfl) (by kernel_rfl) (by kernel_rfl) (fun _ _ _ h => h) (by kernel_rfl) hS1 ?_
          simp only [Act.put, List.setIfInBounds_toArray, List.set_cons_zero, List.set_cons_succ]
          refine takeU 27 (i := 17) rfl rfl (by kernel_rfl) (by kernel_rfl) (by kernel_rfl) (fun _ _ _ h => h) (by kernel_rfl) hS1 ?_
          simp only [Act.put, List.setIfInBounds_toArray, List.set_cons_zero, List.set_cons_succ]
          refine takeU 28 (i := 18) rfl rfl (by kernel_rfl) (by kernel_rfl) (by kernel_rfl) (fun _ _ _ h => h) (by kernel_rfl) hS1 ?_
          simp only [Act.put, List.setIfInBounds_toArray, List.set_cons_zero, List.set_cons_succ]
          refine takeU 29 (i := 19) rfl rfl (by kernel_rfl) (by kernel_rfl) (by kernel_rfl) (fun _ _ _ h => h) (by kernel_rfl) hS1 ?_
          simp only [Act.put, List.setIfInBounds_toArray, List.set_cons_zero, List.set_cons_succ]
          refine takeU 30 (i := 20) rfl rfl (by kernel_rfl) (by kernel_rfl) (by kernel_rfl) (fun _ _ _ h => h) (by kernel_rfl) hS1 ?_
          simp only [Act.put, List.setIfInBounds_toArray, List.set_cons_zero, List.set_cons_succ]
          refine takeU 31 (i := 21) rfl rfl (by kernel_rfl) (by kernel_rfl) (by kernel_rfl) (fun _ _ _ h => h) (by kernel_rfl) hS1 ?_
          simp only [Act.put, List.setIfInBounds_toArray, List.set_cons_zero, List.set_cons_succ]
          refine takeY 32 (i := 22) (v := ?v22b) rfl rfl (by kernel_rfl) (by kernel_rfl) (by kernel_rfl) (fun _ _ _ h => h) (by kernel_rfl) ?y22b hS1 ?_
          case y22b =>
            intro w' hw'; (try dsimp only at hw'); obtain ⟨e0, e1, e2⟩ := hw'; go_simp; try with_reducible rfl
          simp only [Act.put, List.setIfInBounds_toArray, List.set_cons_zero, List.set_cons_succ]
          refine takeY 33 (i := 23) (v := ?v23b) rfl rfl (by kernel_rfl) (by kernel_rfl) (by kernel_rfl) (fun _ _ _ h => h) (by kernel_rfl) ?y23b hS1 ?_
          case y23b =>
            intro w' hw'; (try dsimp only at hw'); obtain ⟨e0, e1, e2⟩ := hw'; go_simp; try with_reducible rfl
          simp only [Act.put, List.setIfInBounds_toArray, List.set_cons_zero, List.set_cons_succ]
          refine wpAnyH_done (by kernel_rfl) ?_ _
          clear hk0
          go_wp2
          go_roundw
          case rel => exact ⟨k + 1, by omega, by go_num, all_step HAt.out HA.out HD.out, HR.out.step (fun h0 => absurd h0 (by have := HK.out; omega)), HB.out.trans (hb3.mono hsz.out)⟩
          case measure => simp [intOf]; omega
        · obtain ⟨j, hj⟩ : ∃ j, j + 1 = k := ⟨k - 1, by omega⟩
          obtain ⟨b2, off2, t0, hA2, hb2, hat2, hc2, _, _⟩ := HX.out.at j (by omega)
          obtain ⟨rfl, rfl⟩ : b1 = b2 ∧ off = off2 := by rw [hA1] at hA2; injection hA2 with h; injection h with h1 h2; exact ⟨h1, h2⟩
          have f3 := (hbel.cell (p := ⟨b1, off + j * 2, none⟩) (by exact Nat.lt_of_lt_of_le hb1 hB)).trans hc2
          have HAt0 := Lib.hid hat2
          have HJ := Lib.hid hj
          have HK0 : Hid ((0 : Int) < (k : Int)) := by show _ < _; omega
          have hkj : (k : Int) - 1 = (j : Int) := by omega
          have hkw : IntKind.i64.wrap ((k : Int) - 1) = (j : Int) := by rw [hkj]; exact IntWalk.i64_in _ ⟨by omega, by omega⟩
          have hjw : IntKind.i64.wrap (j : Int) = (j : Int) := IntWalk.i64_in _ ⟨by omega, by omega⟩
          have hjn : (j : Int) < (n : Int) := by omega
          have hjn' : j < n := by omega
          subst hA1
          clear hbel h0 hj hc2 hat2 hA2
          have HLt : Hid (((its.map It.dat).map (·.1)).getD (k - 1) 0 = t0.id ∧ ((its.map It.dat).map (·.1)).getD k 0 = t.id) := by
            refine ⟨?_, id_at HAt.out⟩
            rw [show k - 1 = j by have := HJ.out; omega]
            exact id_at HAt0.out
          by_cases hle : t.id ≤ t0.id
          · have HF : Hid (b = false) := by
              show _ = _
              cases b
              · rfl
              · have hr := (HBo.out.1 rfl).2.1 k (by omega) (by rw [List.length_map, HX.out.1]; exact hlt)
                rw [HLt.out.1, HLt.out.2] at hr
                omega
            go_wp2
            have hk0 : decide (0 < k) = true := decide_eq_true (by have := HK0.out; omega)
            have hs0 : Below wr.heap.size wr wr.drew ∧ wr.drew.cell? ⟨b1, off + k * 2, none⟩ = some (.int .i64 t.id) ∧ wr.drew.cell? ⟨b1, off + k * 2 + 1, none⟩ = some (.slice t.A t.n t.c) ∧ wr.drew.cell? ⟨b1, off + j * 2, none⟩ = some (.int .i64 t0.id) := ⟨(Below.refl _ _).drew, f1, f2, f3⟩
            refine wp_region_held (S := fun w' => Below wr.heap.size wr w' ∧ w'.cell? ⟨b1, off + k * 2, none⟩ = some (.int .i64 t.id) ∧ w'.cell? ⟨b1, off + k * 2 + 1, none⟩ = some (.slice t.A t.n t.c) ∧ w'.cell? ⟨b1, off + j * 2, none⟩ = some (.int .i64 t0.id)) (by kernel_rfl) ?_
            change wpAnyH _ _ _ _ _ _ _ _ (World.drew _)
            refine takeY 10 (i := 0) (v := ?v0c) rfl rfl (by kernel_rfl) (by kernel_rfl) (by kernel_rfl) (fun _ _ _ h => h) (by kernel_rfl) ?y0c hs0 ?_
            case y0c =>
              intro w' hw'; (try dsimp only at hw'); obtain ⟨e0, e1, e2, e3⟩ := hw'; go_simp; try with_reducible rfl
            simp only [Act.put, List.setIfInBounds_toArray, List.set_cons_zero, List.set_cons_succ]
            refine takeY 11 (i := 1) (v := ?v1c) rfl rfl (by kernel_rfl) (by kernel_rfl) (by kernel_rfl) (fun _ _ _ h => h) (by kernel_rfl) ?y1c hs0 ?_
            case y1c =>
              intro w' hw'; (try dsimp only at hw'); obtain ⟨e0, e1, e2, e3⟩ := hw'; go_simp; try with_reducible rfl
            simp only [Act.put, List.setIfInBounds_toArray, List.set_cons_zero, List.set_cons_succ]
            refine takeY 12 (i := 2) (v := ?v2c) rfl rfl (by kernel_rfl) (by kernel_rfl) (by kernel_rfl) (fun _ _ _ h => h) (by kernel_rfl) ?y2c hs0 ?_
            case y2c =>
              intro w' hw'; (try dsimp only at hw'); obtain ⟨e0, e1, e2, e3⟩ := hw'; go_simp; try with_reducible rfl
            simp only [Act.put, List.setIfInBounds_toArray, List.set_cons_zero, List.set_cons_succ]
            refine takeY 13 (i := 3) (v := ?v3c) rfl rfl (by kernel_rfl) (by kernel_rfl) (by kernel_rfl) (fun _ _ _ h => h) (by kernel_rfl) ?y3c hs0 ?_
            case y3c =>
              intro w' hw'; (try dsimp only at hw'); obtain ⟨e0, e1, e2, e3⟩ := hw'; go_simp; try with_reducible rfl
            simp only [Act.put, List.setIfInBounds_toArray, List.set_cons_zero, List.set_cons_succ]
            refine wpAnyH_ready (rs := [4]) (by kernel_rfl) (by simp) ?_
            refine AllReadyH.cons rfl (fun K hK => ?_) AllReadyH.nil
            go_simp; go_at_call 37; refine (sIsItem_in wr _ B t HI.out (Nat.le_trans hB hsz.out) (Below.refl _ _).drew htn.out true ⟨fun _ => HD.out, fun _ => rfl⟩).mono ?_; rintro e w3 ⟨rfl, hb3⟩
            refine hK.out _ _ ⟨hb3, (hb3.cell (p := ⟨b1, off + k * 2, none⟩) (by exact Nat.lt_of_lt_of_le hb1 (Nat.le_trans hB hsz.out))).trans f1, (hb3.cell (p := ⟨b1, off + k * 2 + 1, none⟩) (by exact Nat.lt_of_lt_of_le hb1 (Nat.le_trans hB hsz.out))).trans f2, (hb3.cell (p := ⟨b1, off + j * 2, none⟩) (by exact Nat.lt_of_lt_of_le hb1 (Nat.le_trans hB hsz.out))).trans f3⟩ (fun hS1 => ?_)
            clear hK K
            try simp only [Act.put, List.setIfInBounds_toArray, List.set_cons_zero, List.set_cons_succ]
            refine takeY 15 (i := 5) (v := ?v5c) rfl rfl (by kernel_rfl) (by kernel_rfl) (by kernel_rfl) (fun _ _ _ h => h) (by kernel_rfl) ?y5c hS1 ?_
            case y5c =>
              intro w' hw'; (try dsimp only at hw'); obtain ⟨e0, e1, e2, e3⟩ := hw'; go_simp; try with_reducible rfl
            simp only [Act.put, List.setIfInBounds_toArray, List.set_cons_zero, List.set_cons_succ]
            refine takeY 16 (i := 6) (v := ?v6c) rfl rfl (by kernel_rfl) (by kernel_rfl) (by kernel_rfl) (fun _ _ _ h => h) (by kernel_rfl) ?y6c hS1 ?_
            case y6c =>
              intro w' hw'; (try dsimp only at hw'); obtain ⟨e0, e1, e2, e3⟩ := hw'; go_simp; try with_reducible rfl
            simp only [Act.put, List.setIfInBounds_toArray, List.set_cons_zero, List.set_cons_succ]
            refine takeY 17 (i := 7) (v := ?v7c) rfl rfl (by kernel_rfl) (by kernel_rfl) (by kernel_rfl) (fun _ _ _ h => h) (by kernel_rfl) ?y7c hS1 ?_
            case y7c =>
              intro w' hw'; (try dsimp only at hw'); obtain ⟨e0, e1, e2, e3⟩ := hw'; go_simp; try with_reducible rfl
            simp only [Act.put, List.setIfInBounds_toArray, List.set_cons_zero, List.set_cons_succ]
            refine takeY 18 (i := 8) (v := ?v8c) rfl rfl (by kernel_rfl) (by kernel_rfl) (by kernel_rfl) (fun _ _ _ h => h) (by kernel_rfl) ?y8c hS1 ?_
            case y8c =>
              intro w' hw'; (try dsimp only at hw'); obtain ⟨e0, e1, e2, e3⟩ := hw'; go_simp; try with_reducible rfl
            simp only [Act.put, List.setIfInBounds_toArray, List.set_cons_zero, List.set_cons_succ]
            refine takeY 19 (i := 9) (v := ?v9c) rfl rfl (by kernel_rfl) (by kernel_rfl) (by kernel_rfl) (fun _ _ _ h => h) (by kernel_rfl) ?y9c hS1 ?_
            case y9c =>
              intro w' hw'; (try dsimp only at hw'); obtain ⟨e0, e1, e2, e3⟩ := hw'; go_simp; try with_reducible rfl
            simp only [Act.put, List.setIfInBounds_toArray, List.set_cons_zero, List.set_cons_succ]
            refine takeY 20 (i := 10) (v := ?v10c) rfl rfl (by kernel_rfl) (by kernel_rfl) (by kernel_rfl) (fun _ _ _ h => h) (by kernel_rfl) ?y10c hS1 ?_
            case y10c =>
              intro w' hw'; (try dsimp only at hw'); obtain ⟨e0, e1, e2, e3⟩ := hw'; go_simp; try with_reducible rfl
            simp only [Act.put, List.setIfInBounds_toArray, List.set_cons_zero, List.set_cons_succ]
            refine takeY 21 (i := 11) (v := ?v11c) rfl rfl (by kernel_rfl) (by kernel_rfl) (by kernel_rfl) (fun _ _ _ h => h) (by kernel_rfl) ?y11c hS1 ?_
            case y11c =>
              intro w' hw'; (try dsimp only at hw'); obtain ⟨e0, e1, e2, e3⟩ := hw'; go_simp; try with_reducible rfl
            simp only [Act.put, List.setIfInBounds_toArray, List.set_cons_zero, List.set_cons_succ]
            refine takeY 22 (i := 12) (v := ?v12c) rfl rfl (by kernel_rfl) (by kernel_rfl) (by kernel_rfl) (fun _ _ _ h => h) (by kernel_rfl) ?y12c hS1 ?_
            case y12c =>
              intro w' hw'; (try dsimp only at hw'); obtain ⟨e0, e1, e2, e3⟩ := hw'; go_simp; try with_reducible rfl
            simp only [Act.put, List.setIfInBounds_toArray, List.set_cons_zero, List.set_cons_succ]
            refine takeY 23 (i := 13) (v := ?v13c) rfl rfl (by kernel_rfl) (by kernel_rfl) (by kernel_rfl) (fun _ _ _ h => h) (by kernel_rfl) ?y13c hS1 ?_
            case y13c =>
              intro w' hw'; (try dsimp only at hw'); obtain ⟨e0, e1, e2, e3⟩ := hw'; go_simp; try with_reducible rfl
            simp only [Act.put, List.setIfInBounds_toArray, List.set_cons_zero, List.set_cons_succ]
            refine takeY 24 (i := 14) (v := ?v14c) rfl rfl (by kernel_rfl) (by kernel_rfl) (by kernel_rfl) (fun _ _ _ h => h) (by kernel_rfl) ?y14c hS1 ?_
            case y14c =>
              intro w' hw'; (try dsimp only at hw'); obtain ⟨e0, e1, e2, e3⟩ := hw'; go_simp; try with_reducible rfl
            simp only [Act.put, List.setIfInBounds_toArray, List.set_cons_zero, List.set_cons_succ]
            refine takeY 25 (i := 15) (v := ?v15c) rfl rfl (by kernel_rfl) (by kernel_rfl) (by kernel_rfl) (fun _ _ _ h => h) (by kernel_rfl) ?y15c hS1 ?_
            case y15c =>
              intro w' hw'; (try dsimp only at hw'); obtain ⟨e0, e1, e2, e3⟩ := hw'; go_simp; try with_reducible rfl
            simp only [Act.put, List.setIfInBounds_toArray, List.set_cons_zero, List.set_cons_succ]
            refine takeY 26 (i := 16) (v := ?v16c) rfl rfl (by kernel_rfl) (by kernel_rfl) (by kernel_rfl) (fun _ _ _ h => h) (by kernel_rfl) ?y16c hS1 ?_
            case y16c =>
              intro w' hw'; (try dsimp only at hw'); obtain ⟨e0, e1, e2, e3⟩ := hw'; go_simp; try with_reducible rfl
            simp only [Act.put, List.setIfInBounds_toArray, List.set_cons_zero, List.set_cons_succ]
            refine takeY 27 (i := 17) (v := ?v17c) rfl rfl (by kernel_rfl) (by kernel_rfl) (by kernel_rfl) (fun _ _ _ h => h) (by kernel_rfl) ?y17c hS1 ?_
            case y17c =>
              intro w' hw'; (try dsimp only at hw'); obtain ⟨e0, e1, e2, e3⟩ := hw'; go_simp; try with_reducible rfl
            simp only [Act.put, List.setIfInBounds_toArray, List.set_cons_zero, List.set_cons_succ]
            refine takeY 28 (i := 18) (v := ?v18c) rfl rfl (by kernel_rfl) (by kernel_rfl) (by kernel_rfl) (fun _ _ _ h => h) (by kernel_rfl) ?y18c hS1 ?_
            case y18c =>
              intro w' hw'; (try dsimp only at hw'); obtain ⟨e0, e1, e2, e3⟩ := hw'; go_simp; try with_reducible rfl
            simp only [Act.put, List.setIfInBounds_toArray, List.set_cons_zero, List.set_cons_succ]
            refine takeY 29 (i := 19) (v := ?v19c) rfl rfl (by kernel_rfl) (by kernel_rfl) (by kernel_rfl) (fun _ _ _ h => h) (by kernel_rfl) ?y19c hS1 ?_
            case y19c =>
              intro w' hw'; (try dsimp only at hw'); obtain ⟨e0, e1, e2, e3⟩ := hw'; go_simp; try with_reducible rfl
            simp only [Act.put, List.setIfInBounds_toArray, List.set_cons_zero, List.set_cons_succ]
            refine takeY 30 (i := 20) (v := ?v20c) rfl rfl (by kernel_rfl) (by kernel_rfl) (by kernel_rfl) (fun _ _ _ h => h) (by kernel_rfl) ?y20c hS1 ?_
            case y20c =>
              intro w' hw'; (try dsimp only at hw'); obtain ⟨e0, e1, e2, e3⟩ := hw'; go_simp; try with_reducible rfl
            simp only [Act.put, List.setIfInBounds_toArray, List.set_cons_zero, List.set_cons_succ]
            refine takeY 31 (i := 21) (v := ?v21c) rfl rfl (by kernel_rfl) (by kernel_rfl) (by kernel_rfl) (fun _ _ _ h => h) (by kernel_rfl) ?y21c hS1 ?_
            case y21c =>
              intro w' hw'; (try dsimp only at hw'); obtain ⟨e0, e1, e2, e3⟩ := hw'; go_simp; try with_reducible rfl
            simp only [Act.put, List.setIfInBounds_toArray, List.set_cons_zero, List.set_cons_succ]
            refine takeY 32 (i := 22) (v := ?v22c) rfl rfl (by kernel_rfl) (by kernel_rfl) (by kernel_rfl) (fun _ _ _ h => h) (by kernel_rfl) ?y22c hS1 ?_
            case y22c =>
              intro w' hw'; (try dsimp only at hw'); obtain ⟨e0, e1, e2, e3⟩ := hw'; go_simp; try with_reducible rfl
            simp only [Act.put, List.setIfInBounds_toArray, List.set_cons_zero, List.set_cons_succ]
            refine takeY 33 (i := 23) (v := ?v23c) rfl rfl (by kernel_rfl) (by kernel_rfl) (by kernel_rfl) (fun _ _ _ h => h) (by kernel_rfl) ?y23c hS1 ?_
            case y23c =>
              intro w' hw'; (try dsimp only at hw'); obtain ⟨e0, e1, e2, e3⟩ := hw'; go_simp; try with_reducible rfl
            simp only [Act.put, List.setIfInBounds_toArray, List.set_cons_zero, List.set_cons_succ]
            refine wpAnyH_done (by kernel_rfl) ?_ _
            clear hk0
            go_wp2
            go_ret
            exact ⟨HF.out.symm ▸ rfl, HB.out.trans (hb3.mono hsz.out)⟩
          · go_wp2
            have hk0 : decide (0 < k) = true := decide_eq_true (by have := HK0.out; omega)
            have hs0 : Below wr.heap.size wr wr.drew ∧ wr.drew.cell? ⟨b1, off + k * 2, none⟩ = some (.int .i64 t.id) ∧ wr.drew.cell? ⟨b1, off + k * 2 + 1, none⟩ = some (.slice t.A t.n t.c) ∧ wr.drew.cell? ⟨b1, off + j * 2, none⟩ = some (.int .i64 t0.id) := ⟨(Below.refl _ _).drew, f1, f2, f3⟩
            refine wp_region_held (S := fun w' => Below wr.heap.size wr w' ∧ w'.cell? ⟨b1, off + k * 2, none⟩ = some (.int .i64 t.id) ∧ w'.cell? ⟨b1, off + k * 2 + 1, none⟩ = some (.slice t.A t.n t.c) ∧ w'.cell? ⟨b1, off + j * 2, none⟩ = some (.int .i64 t0.id)) (by kernel_rfl) ?_
            change wpAnyH _ _ _ _ _ _ _ _ (World.drew _)
            refine takeY 10 (i := 0) (v := ?v0d) rfl rfl (by kernel_rfl) (by kernel_rfl) (by kernel_rfl) (fun _ _ _ h => h) (by kernel_rfl) ?y0d hs0 ?_
            case y0d =>
              intro w' hw'; (try dsimp only at hw'); obtain ⟨e0, e1, e2, e3⟩ := hw'; go_simp; try with_reducible rfl
            simp only [Act.put, List.setIfInBounds_toArray, List.set_cons_zero, List.set_cons_succ]
            refine takeY 11 (i := 1) (v := ?v1d) rfl rfl (by kernel_rfl) (by kernel_rfl) (by kernel_rfl) (fun _ _ _ h => h) (by kernel_rfl) ?y1d hs0 ?_
            case y1d =>
              intro w' hw'; (try dsimp only at hw'); obtain ⟨e0, e1, e2, e3⟩ := hw'; go_simp; try with_reducible rfl
            simp only [Act.put, List.setIfInBounds_toArray, List.set_cons_zero, List.set_cons_succ]
            refine takeY 12 (i := 2) (v := ?v2d) rfl rfl (by kernel_rfl) (by kernel_rfl) (by kernel_rfl) (fun _ _ _ h => h) (by kernel_rfl) ?y2d hs0 ?_
            case y2d =>
              intro w' hw'; (try dsimp only at hw'); obtain ⟨e0, e1, e2, e3⟩ := hw'; go_simp; try with_reducible rfl
            simp only [Act.put, List.setIfInBounds_toArray, List.set_cons_zero, List.set_cons_succ]
            refine takeY 13 (i := 3) (v := ?v3d) rfl rfl (by kernel_rfl) (by kernel_rfl) (by kernel_rfl) (fun _ _ _ h => h) (by kernel_rfl) ?y3d hs0 ?_
            case y3d =>
              intro w' hw'; (try dsimp only at hw'); obtain ⟨e0, e1, e2, e3⟩ := hw'; go_simp; try with_reducible rfl
            simp only [Act.put, List.setIfInBounds_toArray, List.set_cons_zero, List.set_cons_succ]
            refine wpAnyH_ready (rs := [4]) (by kernel_rfl) (by simp) ?_
            refine AllReadyH.cons rfl (fun K hK => ?_) AllReadyH.nil
            go_simp; go_at_call 37; refine (sIsItem_in wr _ B t HI.out (Nat.le_trans hB hsz.out) (Below.refl _ _).drew htn.out true ⟨fun _ => HD.out, fun _ => rfl⟩).mono ?_; rintro e w3 ⟨rfl, hb3⟩
            refine hK.out _ _ ⟨hb3, (hb3.cell (p := ⟨b1, off + k * 2, none⟩) (by exact Nat.lt_of_lt_of_le hb1 (Nat.le_trans hB hsz.out))).trans f1, (hb3.cell (p := ⟨b1, off + k * 2 + 1, none⟩) (by exact Nat.lt_of_lt_of_le hb1 (Nat.le_trans hB hsz.out))).trans f2, (hb3.cell (p := ⟨b1, off + j * 2, none⟩) (by exact Nat.lt_of_lt_of_le hb1 (Nat.le_trans hB hsz.out))).trans f3⟩ (fun hS1 => ?_)
            clear hK K
            try simp only [Act.put, List.setIfInBounds_toArray, List.set_cons_zero, List.set_cons_succ]
            refine takeY 15 (i := 5) (v := ?v5d) rfl rfl (by kernel_rfl) (by kernel_rfl) (by kernel_rfl) (fun _ _ _ h => h) (by kernel_rfl) ?y5d hS1 ?_
            case y5d =>
              intro w' hw'; (try dsimp only at hw'); obtain ⟨e0, e1, e2, e3⟩ := hw'; go_simp; try with_reducible rfl
            simp only [Act.put, List.setIfInBounds_toArray, List.set_cons_zero, List.set_cons_succ]
            refine takeY 16 (i := 6) (v := ?v6d) rfl rfl (by kernel_rfl) (by kernel_rfl) (by kernel_rfl) (fun _ _ _ h => h) (by kernel_rfl) ?y6d hS1 ?_
            case y6d =>
              intro w' hw'; (try dsimp only at hw'); obtain ⟨e0, e1, e2, e3⟩ := hw'; go_simp; try with_reducible rfl
            simp only [Act.put, List.setIfInBounds_toArray, List.set_cons_zero, List.set_cons_succ]
            refine takeY 17 (i := 7) (v := ?v7d) rfl rfl (by kernel_rfl) (by kernel_rfl) (by kernel_rfl) (fun _ _ _ h => h) (by kernel_rfl) ?y7d hS1 ?_
            case y7d =>
              intro w' hw'; (try dsimp only at hw'); obtain ⟨e0, e1, e2, e3⟩ := hw'; go_simp; try with_reducible rfl
            simp only [Act.put, List.setIfInBounds_toArray, List.set_cons_zero, List.set_cons_succ]
            refine takeY 18 (i := 8) (v := ?v8d) rfl rfl (by kernel_rfl) (by kernel_rfl) (by kernel_rfl) (fun _ _ _ h => h) (by kernel_rfl) ?y8d hS1 ?_
            case y8d =>
              intro w' hw'; (try dsimp only at hw'); obtain ⟨e0, e1, e2, e3⟩ := hw'; go_simp; try with_reducible rfl
            simp only [Act.put, List.setIfInBounds_toArray, List.set_cons_zero, List.set_cons_succ]
            refine takeY 19 (i := 9) (v := ?v9d) rfl rfl (by kernel_rfl) (by kernel_rfl) (by kernel_rfl) (fun _ _ _ h => h) (by kernel_rfl) ?y9d hS1 ?_
            case y9d =>
              intro w' hw'; (try dsimp only at hw'); obtain ⟨e0, e1, e2, e3⟩ := hw'; go_simp; try with_reducible rfl
            simp only [Act.put, List.setIfInBounds_toArray, List.set_cons_zero, List.set_cons_succ]
            refine takeY 20 (i := 10) (v := ?v10d) rfl rfl (by kernel_rfl) (by kernel_rfl) (by kernel_rfl) (fun _ _ _ h => h) (by kernel_rfl) ?y10d hS1 ?_
            case y10d =>
              intro w' hw'; (try dsimp only at hw'); obtain ⟨e0, e1, e2, e3⟩ := hw'; go_simp; try with_reducible rfl
            simp only [Act.put, List.setIfInBounds_toArray, List.set_cons_zero, List.set_cons_succ]
            refine takeY 21 (i := 11) (v := ?v11d) rfl rfl (by kernel_rfl) (by kernel_rfl) (by kernel_rfl) (fun _ _ _ h => h) (by kernel_rfl) ?y11d hS1 ?_
            case y11d =>
              intro w' hw'; (try dsimp only at hw'); obtain ⟨e0, e1, e2, e3⟩ := hw'; go_simp; try with_reducible rfl
            simp only [Act.put, List.setIfInBounds_toArray, List.set_cons_zero, List.set_cons_succ]
            refine takeY 22 (i := 12) (v := ?v12d) rfl rfl (by kernel_rfl) (by kernel_rfl) (by kernel_rfl) (fun _ _ _ h => h) (by kernel_rfl) ?y12d hS1 ?_
            case y12d =>
              intro w' hw'; (try dsimp only at hw'); obtain ⟨e0, e1, e2, e3⟩ := hw'; go_simp; try with_reducible rfl
            simp only [Act.put, List.setIfInBounds_toArray, List.set_cons_zero, List.set_cons_succ]
            refine takeY 23 (i := 13) (v := ?v13d) rfl rfl (by kernel_rfl) (by kernel_rfl) (by kernel_rfl) (fun _ _ _ h => h) (by kernel_rfl) ?y13d hS1 ?_
            case y13d =>
              intro w' hw'; (try dsimp only at hw'); obtain ⟨e0, e1, e2, e3⟩ := hw'; go_simp; try with_reducible rfl
            simp only [Act.put, List.setIfInBounds_toArray, List.set_cons_zero, List.set_cons_succ]
            refine takeY 24 (i := 14) (v := ?v14d) rfl rfl (by kernel_rfl) (by kernel_rfl) (by kernel_rfl) (fun _ _ _ h => h) (by kernel_rfl) ?y14d hS1 ?_
            case y14d =>
              intro w' hw'; (try dsimp only at hw'); obtain ⟨e0, e1, e2, e3⟩ := hw'; go_simp; try with_reducible rfl
            simp only [Act.put, List.setIfInBounds_toArray, List.set_cons_zero, List.set_cons_succ]
            refine takeY 25 (i := 15) (v := ?v15d) rfl rfl (by kernel_rfl) (by kernel_rfl) (by kernel_rfl) (fun _ _ _ h => h) (by kernel_rfl) ?y15d hS1 ?_
            case y15d =>
              intro w' hw'; (try dsimp only at hw'); obtain ⟨e0, e1, e2, e3⟩ := hw'; go_simp; try with_reducible rfl
            simp only [Act.put, List.setIfInBounds_toArray, List.set_cons_zero, List.set_cons_succ]
            refine takeY 26 (i := 16) (v := ?v16d) rfl rfl (by kernel_rfl) (by kernel_rfl) (by kernel_rfl) (fun _ _ _ h => h) (by kernel_rfl) ?y16d hS1 ?_
            case y16d =>
              intro w' hw'; (try dsimp only at hw'); obtain ⟨e0, e1, e2, e3⟩ := hw'; go_simp; try with_reducible rfl
            simp only [Act.put, List.setIfInBounds_toArray, List.set_cons_zero, List.set_cons_succ]
            refine takeY 27 (i := 17) (v := ?v17d) rfl rfl (by kernel_rfl) (by kernel_rfl) (by kernel_rfl) (fun _ _ _ h => h) (by kernel_rfl) ?y17d hS1 ?_
            case y17d =>
              intro w' hw'; (try dsimp only at hw'); obtain ⟨e0, e1, e2, e3⟩ := hw'; go_simp; try with_reducible rfl
            simp only [Act.put, List.setIfInBounds_toArray, List.set_cons_zero, List.set_cons_succ]
            refine takeY 28 (i := 18) (v := ?v18d) rfl rfl (by kernel_rfl) (by kernel_rfl) (by kernel_rfl) (fun _ _ _ h => h) (by kernel_rfl) ?y18d hS1 ?_
            case y18d =>
              intro w' hw'; (try dsimp only at hw'); obtain ⟨e0, e1, e2, e3⟩ := hw'; go_simp; try with_reducible rfl
            simp only [Act.put, List.setIfInBounds_toArray, List.set_cons_zero, List.set_cons_succ]
            refine takeY 29 (i := 19) (v := ?v19d) rfl rfl (by kernel_rfl) (by kernel_rfl) (by kernel_rfl) (fun _ _ _ h => h) (by kernel_rfl) ?y19d hS1 ?_
            case y19d =>
              intro w' hw'; (try dsimp only at hw'); obtain ⟨e0, e1, e2, e3⟩ := hw'; go_simp; try with_reducible rfl
            simp only [Act.put, List.setIfInBounds_toArray, List.set_cons_zero, List.set_cons_succ]
            refine takeY 30 (i := 20) (v := ?v20d) rfl rfl (by kernel_rfl) (by kernel_rfl) (by kernel_rfl) (fun _ _ _ h => h) (by kernel_rfl) ?y20d hS1 ?_
            case y20d =>
              intro w' hw'; (try dsimp only at hw'); obtain ⟨e0, e1, e2, e3⟩ := hw'; go_simp; try with_reducible rfl
            simp only [Act.put, List.setIfInBounds_toArray, List.set_cons_zero, List.set_cons_succ]
            refine takeY 31 (i := 21) (v := ?v21d) rfl rfl (by kernel_rfl) (by kernel_rfl) (by kernel_rfl) (fun _ _ _ h => h) (by kernel_rfl) ?y21d hS1 ?_
            case y21d =>
              intro w' hw'; (try dsimp only at hw'); obtain ⟨e0, e1, e2, e3⟩ := hw'; go_simp; try with_reducible rfl
            simp only [Act.put, List.setIfInBounds_toArray, List.set_cons_zero, List.set_cons_succ]
            refine takeY 32 (i := 22) (v := ?v22d) rfl rfl (by kernel_rfl) (by kernel_rfl) (by kernel_rfl) (fun _ _ _ h => h) (by kernel_rfl) ?y22d hS1 ?_
            case y22d =>
              intro w' hw'; (try dsimp only at hw'); obtain ⟨e0, e1, e2, e3⟩ := hw'; go_simp; try with_reducible rfl
            simp only [Act.put, List.setIfInBounds_toArray, List.set_cons_zero, List.set_cons_succ]
            refine takeY 33 (i := 23) (v := ?v23d) rfl rfl (by kernel_rfl) (by kernel_rfl) (by kernel_rfl) (fun _ _ _ h => h) (by kernel_rfl) ?y23d hS1 ?_
            case y23d =>
              intro w' hw'; (try dsimp only at hw'); obtain ⟨e0, e1, e2, e3⟩ := hw'; go_simp; try with_reducible rfl
            simp only [Act.put, List.setIfInBounds_toArray, List.set_cons_zero, List.set_cons_succ]
            refine wpAnyH_done (by kernel_rfl) ?_ _
            clear hk0
            go_wp2
            go_roundw
            case rel => exact ⟨k + 1, by omega, by go_num, all_step HAt.out HA.out HD.out, HR.out.step (fun h0 => by rw [HLt.out.1, HLt.out.2]; omega), HB.out.trans (hb3.mono hsz.out)⟩
            case measure => simp [intOf]; omega
    · obtain rfl : k = n := by omega
      clear hbel
      obtain ⟨q, hq⟩ := bool_of (k ≤ 16)
      have hbq : Hid (b = q) := by
        show _ = _
        have h1 := HA.out
        rw [take_all HX.out.1] at h1
        rw [Bool.eq_iff_iff, HBo.out, hq]
        unfold AreP
        rw [List.length_map, HX.out.1]
        exact ⟨fun h => h.2.2, fun h => ⟨fun d hd => by obtain ⟨u, hu, rfl⟩ := List.mem_map.1 hd; exact h1 u hu, HR.out, h⟩⟩
      cases q
      · have hq' : ¬ ((k : Int) ≤ 16) := by have := mt hq.2 (by simp); omega
        clear hq
        go_wp2
        go_ret
        exact ⟨hbq.out.symm ▸ rfl, HB.out⟩
      · have hq' : (k : Int) ≤ 16 := by have := hq.1 rfl; omega
        clear hq
        go_wp2
        go_ret
        exact ⟨hbq.out.symm ▸ rfl, HB.out⟩
end Go.Proofs.Ytaijajajpnekbaa.num
namespace Go.Proofs.Ytaijajajpnekbaa.num
set_option maxRecDepth 20000
open Go.RowKit
set_option linter.unusedVariables false
set_option linter.unusedSimpArgs false

set_option maxRecDepth 20000 in
/-- A pick tells which numbers it picks from. -/
theorem pick_p (P : Int → Prop) (gl N : Nat) (hN : 0 < N) (hN2 : N ≤ 100) (w : World) (g : Nat) (a : Option Addr) (len cap : Nat) (hlen : len ≤ 1048576) (hc : Cur w g a len cap) (B : Nat) (hB : B ≤ g) (hrow : Row w B a len) (hl : ∀ k, k < N → ∃ z : Int, w.cell? ⟨gl, k, none⟩ = some (.int .i64 z) ∧ P z) (hne : gl ≠ g) :
    Calls Try.prog 93 #[.pointer (some ⟨g, 0, none⟩), .slice (some ⟨gl, 0, none⟩) N N] w (Out P w g a len cap) := by
  have HC := Lib.hid hc
  have HR := Lib.hid hrow
  have HL := Lib.hid hl
  clear hc hrow hl
  go_enter Try.func93, Try.ntmps93
  go_wp2_with fail
  refine (below_any _ (by omega) _ g a len cap hlen HC.out B hB HR.out).mono ?_
  rintro e w1 ⟨x1, rfl, hx, hc1, hg1⟩
  have hx2 := hx.2 (by omega)
  obtain ⟨r, rfl⟩ := Int.eq_ofNat_of_zero_le hx2.1
  have hrN : r < N := by omega
  obtain ⟨z, hz, hzI⟩ := HL.out r hrN
  have hz1 : w1.cell? ⟨gl, r, none⟩ = some (.int .i64 z) := by
    have hlt := World.block_lt_of_cell? w _ hz
    exact (World.cell?_of_block (hg1.block gl hlt (fun e => by injection e; omega))).trans hz
  have HC1 := Lib.hid hc1
  have HG1 := Lib.hid hg1
  have HZ := Lib.hid hzI
  clear hc1 hg1 hzI hz hx hx2
  go_wp2
  go_ret
  exact ⟨z, rfl, HZ.out, HC1.out, HG1.out⟩
def itemCells (t : It) : List Value := [.int .i64 t.id, .slice t.A t.n t.c]
theorem itemCells_len (t : It) : (itemCells t).length = 2 := rfl
theorem itemCells_one (t : It) : ∀ u ∈ itemCells t, u.oneCell' = true := by
  intro u hu
  simp only [itemCells, List.mem_cons, List.not_mem_nil, or_false] at hu
  rcases hu with rfl | rfl <;> rfl
theorem info_itemD : (Try.prog.info? 50).map (fun i => (i.zero, i.size, i.bytes)) = some (some (.agg #[.int .i64 0, .slice none 0 0]), 2, 32) := by kernel_rfl
/-- A slice of items that a draw filled. -/
structure DrI (w : World) (B : Nat) (v : Value) (its : List It) : Prop where
  r : OwnG 50 itemCells 2 w B v its
  x : ∀ t ∈ its, OwnI w B (.slice t.A t.n t.c) t.xs ∧ t.xs.length ≤ 4
  a : ∀ t ∈ its, ∀ b, (Value.slice t.A t.n t.c).ownBlock = some b → v.ownBlock ≠ some b
theorem DrI.blocks {w w' : World} {B : Nat} {v : Value} {its : List It} (h : DrI w B v its) (hb : ∀ b, B ≤ b → b < w.heap.size → w'.heap[b]? = w.heap[b]?) : DrI w' B v its :=
  ⟨h.r.blocks fun k hk => hb k (h.r.lows k hk) (h.r.tops k hk), fun t ht => ⟨ownI_blocks (h.x t ht).1 fun k hk => hb k (ownI_lows (h.x t ht).1 k hk) (ownI_tops (h.x t ht).1 k hk), (h.x t ht).2⟩, h.a⟩
theorem ownI_n {w : World} {B : Nat} {A : Option Addr} {n c : Nat} {l : List Int} (h : OwnI w B (.slice A n c) l) : n = l.length := by
  rcases h.2 with ⟨e, hl⟩ | ⟨g, cap, cur, e, _⟩ <;> (injection e with e1 e2 e3 <;> omega)
theorem DrI.items {w : World} {B : Nat} {A : Option Addr} {n c : Nat} {its : List It} (h : DrI w B (.slice A n c) its) : Items w w.heap.size A n its ∧ ∀ t ∈ its, t.n ≤ 1048576 := by
  have hr := h.r.read itemCells_len
  refine ⟨⟨hr.len, fun k hk => ?_⟩, fun t ht => by have := ownI_n (h.x t ht).1; have := (h.x t ht).2; omega⟩
  obtain ⟨b, off, e, hb, hc⟩ := hr.at' k its[k] (List.getElem?_eq_getElem hk)
  exact ⟨b, off, e, hb, hc 0 _ rfl, hc 1 _ rfl, ownI_at (h.x _ (List.getElem_mem hk)).1⟩
theorem DrI.snoc {w w' : World} {B N : Nat} {v v' : Value} {its : List It} {t : It} (h : DrI w B v its) (hg : w.grownBy w' v.ownBlock) (hat : v'.ownBlock = v.ownBlock ∨ v'.ownBlock = some N) (hN : w.heap.size ≤ N) (hr : OwnG 50 itemCells 2 w' B v' (its ++ [t])) (hx : OwnI w B (.slice t.A t.n t.c) t.xs ∧ t.xs.length ≤ 4) (ha : ∀ b, (Value.slice t.A t.n t.c).ownBlock = some b → v.ownBlock ≠ some b) : DrI w' B v' (its ++ [t]) := by
  have hall : ∀ x ∈ its ++ [t], (OwnI w B (.slice x.A x.n x.c) x.xs ∧ x.xs.length ≤ 4) ∧ ∀ b, (Value.slice x.A x.n x.c).ownBlock = some b → v.ownBlock ≠ some b := fun x hx' => by
    rcases List.mem_append.1 hx' with h1 | h1
    · exact ⟨h.x x h1, h.a x h1⟩
    · rw [List.mem_singleton.1 h1]; exact ⟨hx, ha⟩
  refine ⟨hr, fun x hx' => ⟨ownI_blocks (hall x hx').1.1 fun b hb => hg.block b (ownI_tops (hall x hx').1.1 b hb) fun e => (hall x hx').2 b hb e.symm, (hall x hx').1.2⟩, fun x hx' b hb e => ?_⟩
  rcases hat with q | q
  · exact (hall x hx').2 b hb (q ▸ e)
  · rw [q] at e
    have h1 := Option.some.inj e
    have h2 := ownI_tops (hall x hx').1.1 b hb
    omega
def OutIs (N : Nat) (w : World) (g : Nat) (a : Option Addr) (len cap : Nat) (e : Ending) (w' : World) : Prop :=
  ∃ v its, e = .returned v ∧ DrI w' w.heap.size v its ∧ its.length ≤ N ∧ Cur w' g a len cap ∧ w.grownBy w' (some g)
/-- One item behind those that were drawn. -/
theorem dri_app {w w0 w1 w2 : World} {g : Nat} {a : Option Addr} {len cap : Nat} {v v' : Value} {its : List It} {t : It} (h : DrI w1 w0.heap.size v its) (hx : OwnI w1 w0.heap.size (.slice t.A t.n t.c) t.xs ∧ t.xs.length ≤ 4) (ha : ∀ b, (Value.slice t.A t.n t.c).ownBlock = some b → v.ownBlock ≠ some b) (hga : w1.grownBy w2 v.ownBlock) (hat : v'.ownBlock = v.ownBlock ∨ v'.ownBlock = some (w1.heap.size + 1)) (hr : OwnG 50 itemCells 2 w2 w0.heap.size v' (its ++ [t]))
    (hc : Cur w1 g a len cap) (hg : w.grownBy w1 (some g)) (h0 : w.heap.size ≤ w0.heap.size) (hgl : g < w0.heap.size) (hw0 : w0.heap.size ≤ w1.heap.size) : DrI w2 w0.heap.size v' (its ++ [t]) ∧ Cur w2 g a len cap ∧ w.grownBy w2 (some g) := by
  have hb : Below w0.heap.size w1 w2 := (Below.refl _ w1).grown hga hw0 (fun k hk => h.r.lows k hk)
  exact ⟨h.snoc hga hat (by omega) hr hx ha, hc.kept (hb.block g hgl), grown_tail hg (hb.mono h0)⟩

set_option maxRecDepth 20000 in
set_option maxHeartbeats 3200000 in
theorem items_any (most : Nat) (hm : most ≤ 100) (w : World) (g : Nat) (a : Option Addr) (len cap : Nat) (hlen : len ≤ 1048576) (hc : Cur w g a len cap) (B : Nat) (hB : B ≤ g) (hrow : Row w B a len) :
    Calls Try.prog 98 #[.pointer (some ⟨g, 0, none⟩), .int .i64 most] w (OutIs most w g a len cap) := by
  have hgl := hc.lt
  have HR := Lib.hid hrow
  have HE : Hid (DrI (w.alloc (.cells #[] 50)) w.heap.size (.slice (some ⟨w.heap.size, 0, none⟩) 0 0) []) := Lib.hid ⟨OwnG.empty w _ (Nat.le_refl _), by simp, by simp⟩
  have HC0 : Hid (Cur (w.alloc (.cells #[] 50)) g a len cap) := Lib.hid (hc.kept (Below.heap_alloc _ _ _ hgl))
  have HG0 : Hid (w.grownBy (w.alloc (.cells #[] 50)) (some g)) := Lib.hid (World.grownBy_alloc w _ _)
  clear hc hrow
  have HCa : Hid (Cur ((w.alloc (.cells #[] 50)).alloc (.cells #[.int .i64 2, .int .i64 4, .int .i64 10] 3)) g a len cap) := Lib.hid (HC0.out.kept (Below.heap_alloc _ _ _ (by simp; omega)))
  have HGa : Hid (w.grownBy ((w.alloc (.cells #[] 50)).alloc (.cells #[.int .i64 2, .int .i64 4, .int .i64 10] 3)) (some g)) := Lib.hid (grown_alloc HG0.out _)
  have HEa : Hid (DrI ((w.alloc (.cells #[] 50)).alloc (.cells #[.int .i64 2, .int .i64 4, .int .i64 10] 3)) w.heap.size (.slice (some ⟨w.heap.size, 0, none⟩) 0 0) []) := Lib.hid (HE.out.blocks fun b _ hb => Below.heap_alloc _ _ _ hb)
  have HP := Lib.hid (pick_p (fun z => 0 < z ∧ z ≤ 1000) (w.alloc (.cells #[] 50)).heap.size 3 (by decide) (by decide) ((w.alloc (.cells #[] 50)).alloc (.cells #[.int .i64 2, .int .i64 4, .int .i64 10] 3)) g a len cap hlen HCa.out B hB (HR.out.below (grown_below HGa.out hB (by omega))) (fun k hk => by
    rcases (show k = 0 ∨ k = 1 ∨ k = 2 by omega) with rfl | rfl | rfl
    · exact ⟨2, World.cell?_alloc_at _ _ _ _ rfl, by decide, by decide⟩
    · exact ⟨4, World.cell?_alloc_at _ _ _ _ rfl, by decide, by decide⟩
    · exact ⟨10, World.cell?_alloc_at _ _ _ _ rfl, by decide, by decide⟩) (by simp; omega))
  rw [World.size_alloc] at HP
  have hmw : IntKind.i64.wrap ((most : Int) + 1) = (most : Int) + 1 := IntWalk.i64_in _ ⟨by omega, by omega⟩
  go_enter Try.func98, Try.ntmps98
  go_wp2_with fail
  refine HP.out.mono ?_
  rintro e w1 ⟨wide, rfl, ⟨hw0, hw1⟩, hc1, hg1⟩
  have HC1 := Lib.hid hc1
  have HG1 := Lib.hid (grown_trans HGa.out hg1)
  have HO1 : Hid (DrI w1 w.heap.size (.slice (some ⟨w.heap.size, 0, none⟩) 0 0) []) := Lib.hid (HEa.out.blocks fun b h1 h2 => hg1.block b h2 (fun e => by have := Option.some.inj e; omega))
  clear hc1 hg1 HP HE HC0 HG0 HCa HGa HEa
  go_wp2_with fail
  refine (below_any 3 (by omega) _ g a len cap hlen HC1.out B hB (HR.out.below (grown_below HG1.out hB (by omega)))).mono ?_
  rintro e w2 ⟨id, rfl, hid, hc2, hg2⟩
  obtain ⟨id0, id1⟩ := hid.2 (by omega)
  have HC2 := Lib.hid hc2
  have HG2 := Lib.hid (grown_trans HG1.out hg2)
  have HO2 : Hid (DrI w2 w.heap.size (.slice (some ⟨w.heap.size, 0, none⟩) 0 0) []) := Lib.hid (HO1.out.blocks fun b h1 h2 => hg2.block b h2 (fun e => by have := Option.some.inj e; omega))
  clear hid hc2 hg2
  go_wp2_with fail
  refine (below_any ((most : Int) + 1) (by omega) _ g a len cap hlen HC2.out B hB (HR.out.below (grown_below HG2.out hB (by omega)))).mono ?_
  rintro e w3 ⟨n, rfl, hn, hc3, hg3⟩
  obtain ⟨n0, n1⟩ := hn.2 (by omega)
  have HC3 := Lib.hid hc3
  have HG3 := Lib.hid (grown_trans HG2.out hg3)
  have HO3 : Hid (DrI w3 w.heap.size (.slice (some ⟨w.heap.size, 0, none⟩) 0 0) []) := Lib.hid (HO2.out.blocks fun b h1 h2 => hg3.block b h2 (fun e => by have := Option.some.inj e; omega))
  clear hn hc3 hg3
  go_wp2
  go_loopw [5, 7, 8] (fun v idv nv wr => ∃ (its : List It) (V : Value) (d m : Int), V = v ∧ idv = .int .i64 d ∧ nv = .int .i64 m ∧ 0 ≤ d ∧ d ≤ 3 + 2 * its.length ∧ 0 ≤ m ∧ m + its.length ≤ most ∧ DrI wr w.heap.size V its ∧ Cur wr g a len cap ∧ w.grownBy wr (some g)) (fun _ _ nv _ => (intOf nv).toNat)
  case atStart => exact ⟨[], _, id, n, rfl, rfl, rfl, id0, by simp; omega, n0, by simp; omega, HO3.out, HC3.out, HG3.out⟩
  case round =>
    obtain ⟨its, v, d, m, rfl, rfl, rfl, d0, d1, m0, m1, ho, hc, hg⟩ := hrel
    have HO := Lib.hid ho
    have HC := Lib.hid hc
    have HG := Lib.hid hg
    have hs : w.heap.size ≤ wr.heap.size := hg.size
    clear ho hc hg
    by_cases hpos : 0 < m
    · go_wp2_with fail
      refine (item_any d wide hw0 hw1 _ g a len cap hlen HC.out B hB (HR.out.below (grown_below HG.out hB (by omega)))).mono ?_
      rintro e w4 ⟨t, rfl, hot, t3, t4, hc4, hg4⟩
      have HC4 := Lib.hid hc4
      have HG4 := Lib.hid (grown_trans HG.out hg4)
      have HO4 : Hid (DrI w4 w.heap.size v its) := Lib.hid (HO.out.blocks fun b h1 h2 => hg4.block b h2 (fun e => by have := Option.some.inj e; omega))
      have hs4 : w.heap.size ≤ w4.heap.size := HG4.out.size
      have HT : Hid (OwnI w4 wr.heap.size (.slice t.A t.n t.c) t.xs ∧ t.xs.length ≤ 4) := Lib.hid ⟨hot, by omega⟩
      obtain ⟨v', w5, hr, hown, hga, hat⟩ := run_oneG itemCells_len itemCells_one (ty := 42) (c := 1) Try.underlying42 info_itemD rfl (by decide) (by decide) t (cs := #[.int .i64 t.id, .slice t.A t.n t.c]) rfl HO4.out.r rfl (by omega) hs4
      have HF := Lib.hid (dri_app HO4.out ⟨ownI_lowD HT.out.1 hs, HT.out.2⟩ (fun b h1 h2 => by
        have q1 := ownI_lows HT.out.1 b h1
        have q2 := HO.out.r.tops b h2
        omega) hga hat hown HC4.out HG4.out (Nat.le_refl _) hgl hs4)
      clear hot hc4 hg4 hown hga hat
      unfold It.val
      go_wp2_with (first | (at_builtin; refine Go.Lib.wpList_append_run_sl _ (by rfl) (.tmp 23) (.tmp 28) 42 (by rfl) _ _ (by rfl) (by rfl) hr ?_) | fail)
      refine (below_any 2 (by omega) _ g a len cap hlen HF.out.2.1 B hB (HR.out.below (grown_below HF.out.2.2 hB (by omega)))).mono ?_
      rintro e w6 ⟨u, rfl, hu, hc6, hg6⟩
      obtain ⟨u0, u1⟩ := hu.2 (by omega)
      have HC6 := Lib.hid hc6
      have HG6 := Lib.hid (grown_trans HF.out.2.2 hg6)
      have HO6 : Hid (DrI w6 w.heap.size v' (its ++ [t])) := Lib.hid (HF.out.1.blocks fun b h1 h2 => hg6.block b h2 (fun e => by have := Option.some.inj e; omega))
      have hw2 : IntKind.i64.wrap (d + 1) = d + 1 := IntWalk.i64_in _ ⟨by omega, by omega⟩
      have hw3 : IntKind.i64.wrap (d + 1 + u) = d + 1 + u := IntWalk.i64_in _ ⟨by omega, by omega⟩
      have hw4 : IntKind.i64.wrap (m - 1) = m - 1 := IntWalk.i64_in _ ⟨by omega, by omega⟩
      clear hu hc6 hg6 hr
      go_wp2
      go_roundw
      case rel => exact ⟨its ++ [t], _, d + 1 + u, m - 1, rfl, by first | rfl | go_num, by first | rfl | go_num, by omega, by rw [List.length_append]; simp; omega, by omega, by rw [List.length_append]; simp; omega, HO6.out, HC6.out, HG6.out⟩
      case measure => simp [intOf]; omega
    · have hd : decide (m > 0) = false := by simp; omega
      have hF : OutIs most w g a len cap (.returned v) wr := ⟨v, its, rfl, HO.out, by omega, HC.out, HG.out⟩
      have HF := Lib.hid hF
      have hm' : m = 0 := by omega
      subst hm'
      clear hF
      go_wp2
      go_ret
      exact HF.out

set_option maxRecDepth 20000 in
set_option maxHeartbeats 1600000 in
theorem any_items (w : World) (g : Nat) (a : Option Addr) (len cap : Nat) (hlen : len ≤ 1048576) (hc : Cur w g a len cap) (B : Nat) (hB : B ≤ g) (hrow : Row w B a len) :
    Calls Try.prog 99 #[.pointer (some ⟨g, 0, none⟩)] w (OutIs 8 w g a len cap) := by
  have hgl := hc.lt
  have HR := Lib.hid hrow
  have HI : Hid (Calls Try.prog 98 #[.pointer (some ⟨g, 0, none⟩), .int .i64 7] w (OutIs 7 w g a len cap)) := Lib.hid (items_any 7 (by decide) w g a len cap hlen hc B hB hrow)
  clear hc hrow
  go_enter Try.func99, Try.ntmps99
  go_wp2_with fail
  refine HI.out.mono ?_
  rintro e w1 ⟨v, its, rfl, ho, l1, hc1, hg1⟩
  have HO := Lib.hid ho
  have HC1 := Lib.hid hc1
  have HG1 := Lib.hid hg1
  have hs1 : w.heap.size ≤ w1.heap.size := hg1.size
  clear ho hc1 hg1 HI
  go_wp2_with fail
  refine (once_any 8 (by omega) _ g a len cap hlen HC1.out B hB (HR.out.below (grown_below HG1.out hB (by omega)))).mono ?_
  rintro e w2 ⟨q, rfl, hc2, hg2⟩
  have HC2 := Lib.hid hc2
  have HG2 := Lib.hid (grown_trans HG1.out hg2)
  have HO2 : Hid (DrI w2 w.heap.size v its) := Lib.hid (HO.out.blocks fun b h1 h2 => hg2.block b h2 (fun e => by have := Option.some.inj e; omega))
  have hs2 : w.heap.size ≤ w2.heap.size := HG2.out.size
  clear hc2 hg2
  cases q
  · have HF : Hid (OutIs 8 w g a len cap (.returned v) w2) := Lib.hid ⟨v, its, rfl, HO2.out, by omega, HC2.out, HG2.out⟩
    go_wp2
    go_ret
    exact HF.out
  · go_wp2_with fail
    refine (any_item _ g a len cap hlen HC2.out B hB (HR.out.below (grown_below HG2.out hB (by omega)))).mono ?_
    rintro e w3 ⟨t, rfl, hot, t3, t4, hc3, hg3⟩
    have HC3 := Lib.hid hc3
    have HG3 := Lib.hid (grown_trans HG2.out hg3)
    have HO3 : Hid (DrI w3 w.heap.size v its) := Lib.hid (HO2.out.blocks fun b h1 h2 => hg3.block b h2 (fun e => by have := Option.some.inj e; omega))
    have hs3 : w.heap.size ≤ w3.heap.size := HG3.out.size
    have HT : Hid (OwnI w3 w2.heap.size (.slice t.A t.n t.c) t.xs ∧ t.xs.length ≤ 4) := Lib.hid ⟨hot, t4⟩
    obtain ⟨v', w5, hr, hown, hga, hat⟩ := run_oneG itemCells_len itemCells_one (ty := 42) (c := 1) Try.underlying42 info_itemD rfl (by decide) (by decide) t (cs := #[.int .i64 t.id, .slice t.A t.n t.c]) rfl HO3.out.r rfl (by omega) hs3
    have HA := Lib.hid (dri_app HO3.out ⟨ownI_lowD HT.out.1 hs2, HT.out.2⟩ (fun b h1 h2 => by
      have q1 := ownI_lows HT.out.1 b h1
      have q2 := HO2.out.r.tops b h2
      omega) hga hat hown HC3.out HG3.out (Nat.le_refl _) hgl hs3)
    have HF : Hid (OutIs 8 w g a len cap (.returned v') w5) := Lib.hid ⟨v', _, rfl, HA.out.1, by rw [List.length_append]; simp; omega, HA.out.2.1, HA.out.2.2⟩
    clear hot hc3 hg3 hown hga hat
    unfold It.val
    go_wp2_with (at_builtin; refine Go.Lib.wpList_append_run_sl _ (by rfl) (.tmp 8) (.tmp 11) 42 (by rfl) _ _ (by rfl) (by rfl) hr ?_)
    clear hr
    go_wp2
    go_ret
    exact HF.out
/-- A relation and an expression, as they read. -/
def OutB (w : World) (g : Nat) (a : Option Addr) (len cap : Nat) (e : Ending) (w' : World) : Prop :=
  ∃ A n c its A' n' c' ns, e = .returned (.tuple #[.slice A n c, .slice A' n' c']) ∧ (Items w' w'.heap.size A n its ∧ (∀ t ∈ its, t.n ≤ 1048576) ∧ n ≤ c ∧ c ≤ maxLen ∧ n ≤ 8) ∧ (Nodes w' w'.heap.size A' n' ns ∧ n' ≤ c' ∧ c' ≤ maxLen ∧ ShortN ns ∧ n' ≤ 10) ∧ Cur w' g a len cap ∧ w.grownBy w' (some g)
theorem DrI.read {w : World} {B : Nat} {v : Value} {its : List It} (h : DrI w B v its) (h8 : its.length ≤ 8) : ∃ A n c, v = .slice A n c ∧ Items w w.heap.size A n its ∧ (∀ t ∈ its, t.n ≤ 1048576) ∧ n ≤ c ∧ c ≤ maxLen ∧ n ≤ 8 := by
  obtain ⟨A, c, rfl, h1, h2⟩ := h.r.shape
  exact ⟨A, _, c, rfl, h.items.1, h.items.2, h1, h2, h8⟩
set_option maxRecDepth 20000 in
set_option maxHeartbeats 1600000 in
theorem draw7 (w : World) (g : Nat) (a : Option Addr) (len cap : Nat) (hlen : len ≤ 1048576) (hc : Cur w g a len cap) (B : Nat) (hB : B ≤ g) (hrow : Row w B a len) :
    Calls Try.prog 71 #[.pointer (some ⟨g, 0, none⟩)] w (OutB w g a len cap) := by
  have hgl := hc.lt
  have HR := Lib.hid hrow
  have HI : Hid (Calls Try.prog 98 #[.pointer (some ⟨g, 0, none⟩), .int .i64 8] w (OutIs 8 w g a len cap)) := Lib.hid (items_any 8 (by decide) w g a len cap hlen hc B hB hrow)
  clear hc hrow
  go_enter Try.func71, Try.ntmps71
  go_wp2_with fail
  refine HI.out.mono ?_
  rintro e w1 ⟨v, its, rfl, ho, l1, hc1, hg1⟩
  have HO1 := Lib.hid ho
  have HC1 := Lib.hid hc1
  have HG1 := Lib.hid hg1
  have hs1 : w.heap.size ≤ w1.heap.size := hg1.size
  clear ho hc1 hg1 HI
  go_wp2_with fail
  refine (draw_expression _ g a len cap hlen HC1.out B hB (HR.out.below (grown_below HG1.out hB (by omega)))).mono ?_
  rintro e w2 ⟨v2, ns, rfl, ho2, k1, k2, hc2, hg2⟩
  have HN2 := Lib.hid ho2
  have HC2 := Lib.hid hc2
  have HG2 := Lib.hid (grown_trans HG1.out hg2)
  have HO2 : Hid (DrI w2 w.heap.size v its) := Lib.hid (HO1.out.blocks fun b h1 h2 => hg2.block b h2 (fun e => by have := Option.some.inj e; omega))
  have hgl1 : g < w1.heap.size := by omega
  clear ho2 hc2 hg2
  go_wp2_with fail
  refine (below_any 16 (by omega) _ g a len cap hlen HC2.out B hB (HR.out.below (grown_below HG2.out hB (by omega)))).mono ?_
  rintro e w3 ⟨u, rfl, hu, hc3, hg3⟩
  obtain ⟨hu0, hu1⟩ := hu.2 (by omega)
  have HC3 := Lib.hid hc3
  have HG3 := Lib.hid (grown_trans HG2.out hg3)
  have HO3 : Hid (DrI w3 w.heap.size v its) := Lib.hid (HO2.out.blocks fun b h1 h2 => hg3.block b h2 (fun e => by have := Option.some.inj e; omega))
  have HN3 : Hid (DrN w3 w1.heap.size v2 ns) := Lib.hid (HN2.out.blocks fun b h1 h2 => hg3.block b h2 (fun e => by have := Option.some.inj e; omega))
  have hs3 : w.heap.size ≤ w3.heap.size := HG3.out.size
  clear hu hc3 hg3
  by_cases u0 : u = 0
  · subst u0
    go_wp2_with fail
    refine (any_items _ g a len cap hlen HC3.out B hB (HR.out.below (grown_below HG3.out hB (by omega)))).mono ?_
    rintro e w4 ⟨v4, its4, rfl, ho4, m1, hc4, hg4⟩
    have HN4 : DrN w4 w1.heap.size v2 ns := HN3.out.blocks fun b h1 h2 => hg4.block b h2 (fun e => by have := Option.some.inj e; omega)
    obtain ⟨A, n, c, rfl, hI⟩ := ho4.read m1
    obtain ⟨A', c', rfl, q1, q2⟩ := HN4.r.shape
    have HF : Hid (OutB w g a len cap (.returned (.tuple #[.slice A n c, .slice A' ns.length c'])) w4) := Lib.hid ⟨A, n, c, its4, A', _, c', ns, rfl, hI, ⟨HN4.nodes, q1, q2, HN4.short, by omega⟩, hc4, grown_trans HG3.out hg4⟩
    clear ho4 hc4 hg4 hI q1 q2 HN4
    go_wp2
    go_ret2
    exact HF.out
  · have f0 : (u == 0) = false := by simpa using u0
    by_cases u1 : u = 1
    · subst u1
      clear f0 u0
      go_wp2_with fail
      refine (any_expression _ g a len cap hlen HC3.out B hB (HR.out.below (grown_below HG3.out hB (by omega)))).mono ?_
      rintro e w4 ⟨A', n', c', ns4, rfl, hN4, q1, q2, q3, q4, hc4, hg4⟩
      have hO4 : DrI w4 w.heap.size v its := HO3.out.blocks fun b h1 h2 => hg4.block b h2 (fun e => by have := Option.some.inj e; omega)
      obtain ⟨A, n, c, rfl, hI⟩ := hO4.read l1
      have HF : Hid (OutB w g a len cap (.returned (.tuple #[.slice A n c, .slice A' n' c'])) w4) := Lib.hid ⟨A, n, c, its, A', n', c', ns4, rfl, hI, ⟨hN4.now, q1, q2, q3, q4⟩, hc4, grown_trans HG3.out hg4⟩
      clear hO4 hc4 hg4 hI q1 q2 q3 q4 hN4
      go_wp2
      go_ret2
      exact HF.out
    · have f1 : (u == 1) = false := by simpa using u1
      obtain ⟨A, n, c, rfl, hI⟩ := HO3.out.read l1
      obtain ⟨A', c', rfl, q1, q2⟩ := HN3.out.r.shape
      have HF : Hid (OutB w g a len cap (.returned (.tuple #[.slice A n c, .slice A' ns.length c'])) w3) := Lib.hid ⟨A, n, c, its, A', _, c', ns, rfl, hI, ⟨HN3.out.nodes, q1, q2, HN3.out.short, by omega⟩, HC3.out, HG3.out⟩
      clear u0 u1 hI q1 q2
      go_wp2
      go_ret2
      exact HF.out
set_option maxRecDepth 20000 in
theorem draw_best (w : World) (a : Option Addr) (len cap : Nat) (hlen : len ≤ 1048576) (hrow : Row w w.heap.size a len) :
    Calls Try.prog 38 #[.slice a len cap] w fun e w' => ∃ A n c its A' n' c' ns, e = .returned (.tuple #[.slice A n c, .slice A' n' c']) ∧ (Items w' w'.heap.size A n its ∧ (∀ t ∈ its, t.n ≤ 1048576) ∧ n ≤ c ∧ c ≤ maxLen ∧ n ≤ 8) ∧ (Nodes w' w'.heap.size A' n' ns ∧ n' ≤ c' ∧ c' ≤ maxLen ∧ ShortN ns ∧ n' ≤ 10) ∧ Below w.heap.size w w' := by
  have HR := Lib.hid hrow
  clear hrow
  go_enter Try.func38, Try.ntmps38
  go_wp2_with fail
  refine (new_any w a len cap hlen w.heap.size HR.out).mono ?_
  rintro e w1 ⟨g, rfl, hgw, hc1, hb1⟩
  have HC1 := Lib.hid hc1
  have HB1 := Lib.hid hb1
  clear hc1 hb1
  go_wp2_with fail
  refine (draw7 w1 g a len cap hlen HC1.out w.heap.size hgw (HR.out.below HB1.out)).mono ?_
  rintro e w2 ⟨A, n, c, its, A', n', c', ns, rfl, hI, hN, hc2, hg2⟩
  have HF := Lib.hid (And.intro hI (And.intro hN (HB1.out.trans (grown_below hg2 hgw HB1.out.size))))
  clear hI hN hc2 hg2
  go_wp2
  go_ret2
  exact ⟨A, n, c, its, A', n', c', ns, rfl, HF.out.1, HF.out.2.1, HF.out.2.2⟩
end Go.Proofs.Ytaijajajpnekbaa.num
namespace Go.Proofs.Ytaijajajpnekbaa.num
set_option maxRecDepth 20000
open Go.RowKit
set_option linter.unusedVariables false
set_option linter.unusedSimpArgs false

theorem results_tmp_rows2 {P : Program} {fn : Func} {u p2 p3 : Tmp} {ty2 ty3 : TypeId} (h : fn.results = #[.tmp u, .cell p2 ty2, .cell p3 ty3]) (tmps : Array Value) (w : World)
    (g2 g3 : Nat) (t2 t3 : TypeId) (c2 c3 : Array Value) (f2 f3 : Nat × Nat) (d2 d3 : TypeDesc)
    (hp2 : tmps.getD p2 undef = .pointer (some ⟨g2, 0, none⟩)) (hp3 : tmps.getD p3 undef = .pointer (some ⟨g3, 0, none⟩))
    (hg2 : w.heap[g2]? = some (.cells c2 t2 f2)) (hg3 : w.heap[g3]? = some (.cells c3 t3 f3))
    (hu2 : P.underlying ty2 = some d2) (hd2 : (match d2 with | .struct _ | .array _ _ => true | _ => false) = true) (hi2 : (P.info? ty2).map (·.size) = some c2.size)
    (hu3 : P.underlying ty3 = some d3) (hd3 : (match d3 with | .struct _ | .array _ _ => true | _ => false) = true) (hi3 : (P.info? ty3).map (·.size) = some c3.size) :
    (results fn tmps).run P w = .ok (.tuple #[tmps.getD u undef, .agg c2, .agg c3]) w := by
  have hp2' : tmps[p2]?.getD undef = .pointer (some ⟨g2, 0, none⟩) := by simpa using hp2
  have hp3' : tmps[p3]?.getD undef = .pointer (some ⟨g3, 0, none⟩) := by simpa using hp3
  simp only [results, h]
  simp [Sem.run_bind, hp2', hp3', asAddr, Result.andThen, run_loadVar_row w g2 t2 ty2 c2 f2 d2 hg2 hu2 hd2 hi2, run_loadVar_row w g3 t3 ty3 c3 f3 d3 hg3 hu3 hd3 hi3]
theorem drawc_end {w w1 wn : World} {l1 l2 : Nat} {A : Option Addr} {n : Nat} {ns : List Nd} {x y : It} {u0 u1 u2 u3 : Value} (hw1 : w.heap.size + 2 ≤ w1.heap.size) (hK : KeepN w1.heap.size wn A n ns) (hl1 : w.heap.size + 2 ≤ l1) (hl2 : w.heap.size + 2 ≤ l2)
    (hx : OwnI wn l1 (.slice x.A x.n x.c) x.xs) (hy : OwnI wn l2 (.slice y.A y.n y.c) y.xs) (hb : Below w.heap.size w wn) :
    Nodes ((((wn.setCell ⟨w.heap.size, 0, none⟩ u0).setCell ⟨w.heap.size, 1, none⟩ u1).setCell ⟨w.heap.size + 1, 0, none⟩ u2).setCell ⟨w.heap.size + 1, 1, none⟩ u3) ((((wn.setCell ⟨w.heap.size, 0, none⟩ u0).setCell ⟨w.heap.size, 1, none⟩ u1).setCell ⟨w.heap.size + 1, 0, none⟩ u2).setCell ⟨w.heap.size + 1, 1, none⟩ u3).heap.size A n ns ∧ Ints ((((wn.setCell ⟨w.heap.size, 0, none⟩ u0).setCell ⟨w.heap.size, 1, none⟩ u1).setCell ⟨w.heap.size + 1, 0, none⟩ u2).setCell ⟨w.heap.size + 1, 1, none⟩ u3) ((((wn.setCell ⟨w.heap.size, 0, none⟩ u0).setCell ⟨w.heap.size, 1, none⟩ u1).setCell ⟨w.heap.size + 1, 0, none⟩ u2).setCell ⟨w.heap.size + 1, 1, none⟩ u3).heap.size x.A x.n x.xs ∧ Ints ((((wn.setCell ⟨w.heap.size, 0, none⟩ u0).setCell ⟨w.heap.size, 1, none⟩ u1).setCell ⟨w.heap.size + 1, 0, none⟩ u2).setCell ⟨w.heap.size + 1, 1, none⟩ u3) ((((wn.setCell ⟨w.heap.size, 0, none⟩ u0).setCell ⟨w.heap.size, 1, none⟩ u1).setCell ⟨w.heap.size + 1, 0, none⟩ u2).setCell ⟨w.heap.size + 1, 1, none⟩ u3).heap.size y.A y.n y.xs ∧ Below w.heap.size w ((((wn.setCell ⟨w.heap.size, 0, none⟩ u0).setCell ⟨w.heap.size, 1, none⟩ u1).setCell ⟨w.heap.size + 1, 0, none⟩ u2).setCell ⟨w.heap.size + 1, 1, none⟩ u3) := by
  have hk : ∀ b, w.heap.size + 2 ≤ b → ((((wn.setCell ⟨w.heap.size, 0, none⟩ u0).setCell ⟨w.heap.size, 1, none⟩ u1).setCell ⟨w.heap.size + 1, 0, none⟩ u2).setCell ⟨w.heap.size + 1, 1, none⟩ u3).heap[b]? = wn.heap[b]? := fun b h => by
    repeat rw [heap_setCell_other _ _ _ _ (by simp; omega)]
  refine ⟨hK _ (by simp) fun b h1 _ => hk b (by omega), ownI_at (ownI_blocks hx fun b h => hk b (by have := ownI_lows hx b h; omega)), ownI_at (ownI_blocks hy fun b h => hk b (by have := ownI_lows hy b h; omega)), ?_⟩
  exact (((hb.setCell (Nat.le_refl _) _).setCell (Nat.le_refl _) _).setCell (by show _ ≤ w.heap.size + 1; omega) _).setCell (by show _ ≤ w.heap.size + 1; omega) _
/-- An expression and two items, as they read. -/
def OutC (w : World) (e : Ending) (w' : World) : Prop :=
  ∃ A n c ns, ∃ x y : It, e = .returned (.tuple #[.slice A n c, x.val, y.val]) ∧ (Nodes w' w'.heap.size A n ns ∧ n ≤ c ∧ c ≤ maxLen ∧ ShortN ns ∧ n ≤ 10) ∧ (Ints w' w'.heap.size x.A x.n x.xs ∧ x.n ≤ 1048576) ∧ (Ints w' w'.heap.size y.A y.n y.xs ∧ y.n ≤ 1048576) ∧ Below w.heap.size w w'

set_option maxRecDepth 20000 in
set_option maxHeartbeats 6400000 in
theorem draw_compare (w : World) (a : Option Addr) (len cap : Nat) (hlen : len ≤ 1048576) (hrow : Row w w.heap.size a len) :
    Calls Try.prog 32 #[.slice a len cap] w (OutC w) := by
  have hb0 : Below w.heap.size w ((w.alloc (.cells #[.int .i64 0, .slice none 0 0] 50)).alloc (.cells #[.int .i64 0, .slice none 0 0] 50)) := ((Below.refl _ w).alloc (Nat.le_refl _) _).alloc (by simp) _
  have HR0 := Lib.hid (hrow.below hb0)
  have HB0 := Lib.hid hb0
  have HZ0 : Hid (((w.alloc (.cells #[.int .i64 0, .slice none 0 0] 50)).alloc (.cells #[.int .i64 0, .slice none 0 0] 50)).heap[w.heap.size]? = some (.cells #[.int .i64 0, .slice none 0 0] 50 (0, 0))) := Lib.hid (by rw [Below.heap_alloc _ _ _ (by simp)]; exact heap_alloc_new w _)
  have HZ1 : Hid (((w.alloc (.cells #[.int .i64 0, .slice none 0 0] 50)).alloc (.cells #[.int .i64 0, .slice none 0 0] 50)).heap[w.heap.size + 1]? = some (.cells #[.int .i64 0, .slice none 0 0] 50 (0, 0))) := Lib.hid (heap_alloc2_new w _ _)
  have HN := Lib.hid (new_any ((w.alloc (.cells #[.int .i64 0, .slice none 0 0] 50)).alloc (.cells #[.int .i64 0, .slice none 0 0] 50)) a len cap hlen w.heap.size HR0.out)
  clear hb0 hrow
  go_enter Try.func32, Try.ntmps32
  go_wp2_with fail
  refine HN.out.mono ?_
  rintro e w1 ⟨g, rfl, hgw, hc1, hb1⟩
  have hg2 : w.heap.size + 2 ≤ g := by simpa using hgw
  have HC1 := Lib.hid hc1
  have HB1 : Hid (Below (w.heap.size + 2) ((w.alloc (.cells #[.int .i64 0, .slice none 0 0] 50)).alloc (.cells #[.int .i64 0, .slice none 0 0] 50)) w1) := Lib.hid (by have h := hb1; simpa using h)
  have HBw1 := Lib.hid (HB0.out.trans (HB1.out.mono (by omega)))
  have hs1 : w.heap.size + 2 ≤ w1.heap.size := by have := hc1.lt; omega
  have hgl1 : g < w1.heap.size := hc1.lt
  have HR1 : Hid (Row w1 w.heap.size a len) := Lib.hid (HR0.out.below (HB1.out.mono (by omega)))
  clear hc1 hb1 HN hgw
  go_wp2_with fail
  refine (any_expression w1 g a len cap hlen HC1.out w.heap.size (by omega) HR1.out).mono ?_
  rintro e w2 ⟨A, n, c, ns, rfl, hK, q1, q2, q3, q4, hc2, hg2'⟩
  have HK2 := Lib.hid hK
  have HC2 := Lib.hid hc2
  have HG2 := Lib.hid hg2'
  have hs2 : w1.heap.size ≤ w2.heap.size := hg2'.size
  have HQ := Lib.hid (And.intro q1 (And.intro q2 (And.intro q3 q4)))
  clear hK hc2 hg2' q1 q2 q3 q4
  go_wp2_with fail
  refine (any_item w2 g a len cap hlen HC2.out w.heap.size (by omega) (HR1.out.below (grown_below HG2.out (by omega) (by omega)))).mono ?_
  rintro e w3 ⟨x, rfl, hox, -, hx4, hc3, hg3⟩
  have HX3 := Lib.hid hox
  have HG3 := Lib.hid (grown_trans HG2.out hg3)
  have hs3 : w2.heap.size ≤ w3.heap.size := hg3.size
  have HK3 : Hid (KeepN w1.heap.size w3 A n ns) := Lib.hid (HK2.out.step hs3 fun b h1 h2 => hg3.block b h2 (fun e => by have := Option.some.inj e; omega))
  have HC3b : Hid (Cur (w3.alloc (.cells #[.int .i64 x.id, .slice x.A x.n x.c] 50)) g a len cap) := Lib.hid (hc3.kept (Below.heap_alloc _ _ _ hc3.lt))
  have HG3b : Hid (w1.grownBy (w3.alloc (.cells #[.int .i64 x.id, .slice x.A x.n x.c] 50)) (some g)) := Lib.hid (grown_alloc HG3.out _)
  have HX3b : Hid (OwnI (w3.alloc (.cells #[.int .i64 x.id, .slice x.A x.n x.c] 50)) w2.heap.size (.slice x.A x.n x.c) x.xs) := Lib.hid (ownI_blocks hox fun b hb => Below.heap_alloc _ _ _ (ownI_tops hox b hb))
  have HK3b : Hid (KeepN w1.heap.size (w3.alloc (.cells #[.int .i64 x.id, .slice x.A x.n x.c] 50)) A n ns) := Lib.hid (HK3.out.step (by simp) fun b _ h2 => Below.heap_alloc _ _ _ h2)
  have HBX : Hid ((w3.alloc (.cells #[.int .i64 x.id, .slice x.A x.n x.c] 50)).heap[w3.heap.size]? = some (.cells #[.int .i64 x.id, .slice x.A x.n x.c] 50 (0, 0))) := Lib.hid (heap_alloc_new w3 _)
  have HXN : Hid (x.n ≤ 1048576) := Lib.hid (by have := ownI_n hox; omega)
  clear hx4
  clear hox hc3 hg3 HX3 HG3 HK3 HC2 HK2
  unfold It.val
  go_wp2_with fail
  refine (once_any 2 (by omega) _ g a len cap hlen HC3b.out w.heap.size (by omega) (HR1.out.below (grown_below HG3b.out (by omega) (by omega)))).mono ?_
  rintro e w4 ⟨q, rfl, hc4, hg4⟩
  have HC4 := Lib.hid hc4
  have HG4 := Lib.hid (grown_trans HG3b.out hg4)
  have hs4 : w3.heap.size + 1 ≤ w4.heap.size := by have := hg4.size; simpa using this
  have HX4 : Hid (OwnI w4 w2.heap.size (.slice x.A x.n x.c) x.xs) := Lib.hid (ownI_blocks HX3b.out fun b hb => hg4.block b (ownI_tops HX3b.out b hb) (fun e => by have := Option.some.inj e; have := ownI_lows HX3b.out b hb; omega))
  have HK4 : Hid (KeepN w1.heap.size w4 A n ns) := Lib.hid (HK3b.out.step hg4.size fun b h1 h2 => hg4.block b h2 (fun e => by have := Option.some.inj e; omega))
  have hbx4 : w4.heap[w3.heap.size]? = some (.cells #[.int .i64 x.id, .slice x.A x.n x.c] 50 (0, 0)) := (hg4.block _ (by simp) (fun e => by have := Option.some.inj e; omega)).trans HBX.out
  have HBX4 := Lib.hid hbx4
  have HZ4 : Hid (w4.heap[w.heap.size]? = some (.cells #[.int .i64 0, .slice none 0 0] 50 (0, 0)) ∧ w4.heap[w.heap.size + 1]? = some (.cells #[.int .i64 0, .slice none 0 0] 50 (0, 0))) := Lib.hid ⟨(HG4.out.block _ (by omega) (fun e => by have := Option.some.inj e; omega)).trans ((HB1.out.block _ (by omega)).trans HZ0.out), (HG4.out.block _ (by omega) (fun e => by have := Option.some.inj e; omega)).trans ((HB1.out.block _ (by omega)).trans HZ1.out)⟩
  have k0 : w4.cell? ⟨w3.heap.size, 0, none⟩ = some (.int .i64 x.id) := cell_of_row w4 _ 0 _ _ (0, 0) hbx4
  have k1 : w4.cell? ⟨w3.heap.size, 1, none⟩ = some (.slice x.A x.n x.c) := cell_of_row w4 _ 1 _ _ (0, 0) hbx4
  clear hc4 hg4 HC3b HG3b HX3b HK3b HBX hbx4
  have hgl4 : g < w4.heap.size := HC4.out.lt
  cases q
  · go_wp2
    go_region_law (go_simp; go_at_call 65; refine ((any_item w4.drew g a len cap hlen (HC4.out.kept rfl) w.heap.size (by omega) (HR1.out.below ((grown_below HG4.out (by omega) (by omega)).drew)))).mono ?_; rintro e wn ⟨y, rfl, hoy, -, hy4, hcn, hgn⟩; replace hgn : w4.grownBy wn (some g) := grown_trans (grown_drew (grown_refl w4 (some g))) hgn; have HYn : Hid (OwnI wn w4.heap.size (.slice y.A y.n y.c) y.xs ∧ y.n ≤ 1048576) := Lib.hid ⟨hoy, by have := ownI_n hoy; omega⟩; have HGn := Lib.hid hgn; have m0 : wn.heap[w3.heap.size]? = some (.cells #[.int .i64 x.id, .slice x.A x.n x.c] 50 (0, 0)) := (hgn.block _ (by omega) (fun e => by have := Option.some.inj e; omega)).trans HBX4.out; have m1 : wn.heap[w.heap.size]? = some (.cells #[.int .i64 0, .slice none 0 0] 50 (0, 0)) := (hgn.block _ (by omega) (fun e => by have := Option.some.inj e; omega)).trans HZ4.out.1; have m2 : wn.heap[w.heap.size + 1]? = some (.cells #[.int .i64 0, .slice none 0 0] 50 (0, 0)) := (hgn.block _ (by omega) (fun e => by have := Option.some.inj e; omega)).trans HZ4.out.2; have HM := Lib.hid (And.intro m1 m2); have n0 : wn.cell? ⟨w3.heap.size, 0, none⟩ = some (.int .i64 x.id) := cell_of_row wn _ 0 _ _ (0, 0) m0; have n1 : wn.cell? ⟨w3.heap.size, 1, none⟩ = some (.slice x.A x.n x.c) := cell_of_row wn _ 1 _ _ (0, 0) m0; have x0 : wn.cell? ⟨w.heap.size, 0, none⟩ = some (.int .i64 0) := cell_of_row wn _ 0 _ _ (0, 0) m1; have x1 : wn.cell? ⟨w.heap.size, 1, none⟩ = some (.slice none 0 0) := cell_of_row wn _ 1 _ _ (0, 0) m1; have fx0 : wn.frozen? ⟨w.heap.size, 0, none⟩ = false := frozen_of_row wn _ 0 _ _ m1; have fx1 : wn.frozen? ⟨w.heap.size, 1, none⟩ = false := frozen_of_row wn _ 1 _ _ m1; have z0 : wn.cell? ⟨w.heap.size + 1, 0, none⟩ = some (.int .i64 0) := cell_of_row wn _ 0 _ _ (0, 0) m2; have z1 : wn.cell? ⟨w.heap.size + 1, 1, none⟩ = some (.slice none 0 0) := cell_of_row wn _ 1 _ _ (0, 0) m2; have fz0 : wn.frozen? ⟨w.heap.size + 1, 0, none⟩ = false := frozen_of_row wn _ 0 _ _ m2; have fz1 : wn.frozen? ⟨w.heap.size + 1, 1, none⟩ = false := frozen_of_row wn _ 1 _ _ m2; clear hoy hcn hgn m0 m1 m2; unfold It.val)
    all_goals
      have hKn : KeepN w1.heap.size wn A n ns := HK4.out.step HGn.out.size fun b h1 h2 => HGn.out.block b h2 (fun e => by have := Option.some.inj e; omega)
      have hXn : OwnI wn w2.heap.size (.slice x.A x.n x.c) x.xs := ownI_blocks HX4.out fun b hb => HGn.out.block b (ownI_tops HX4.out b hb) (fun e => by have := Option.some.inj e; have := ownI_lows HX4.out b hb; omega)
      have hBn : Below w.heap.size w wn := HBw1.out.trans (grown_below (grown_trans HG4.out HGn.out) (by omega) (by omega))
      have HE := Lib.hid (fun u0 u1 u2 u3 : Value => drawc_end (u0 := u0) (u1 := u1) (u2 := u2) (u3 := u3) hs1 hKn (show w.heap.size + 2 ≤ w2.heap.size by omega) (show w.heap.size + 2 ≤ w4.heap.size by omega) hXn HYn.out.1 hBn)
      clear hKn hXn hBn n0 n1 x0 x1 z0 z1 fx0 fx1 fz0 fz1 k0 k1
      go_wp2
      refine bodyPost_ret_by (results_tmp_rows2 rfl _ _ w.heap.size (w.heap.size + 1) 50 50 _ _ (0, 0) (0, 0) _ _ rfl rfl ((heap_setCell_other _ _ _ _ (by simp)).trans ((heap_setCell_other _ _ _ _ (by simp)).trans (two_setD HM.out.1))) (two_setD ((heap_setCell_other _ _ _ _ (by simp)).trans ((heap_setCell_other _ _ _ _ (by simp)).trans HM.out.2))) Try.underlying50 rfl (by kernel_rfl) Try.underlying50 rfl (by kernel_rfl)) rfl ?_
      obtain ⟨e1, e2, e3, e4⟩ := HE.out (.int .i64 x.id) (.slice x.A x.n x.c) (.int .i64 y.id) (.slice y.A y.n y.c)
      exact ⟨A, n, c, ns, x, y, rfl, ⟨e1, HQ.out.1, HQ.out.2.1, HQ.out.2.2.1, HQ.out.2.2.2⟩, ⟨e2, HXN.out⟩, ⟨e3, HYn.out.2⟩, e4⟩
  · go_wp2
    go_region_law (go_simp; go_at_call 67; refine ((item_any 7 3 (by decide) (by decide) w4.drew g a len cap hlen (HC4.out.kept rfl) w.heap.size (by omega) (HR1.out.below ((grown_below HG4.out (by omega) (by omega)).drew)))).mono ?_; rintro e wn ⟨y, rfl, hoy, -, hy4, hcn, hgn⟩; replace hgn : w4.grownBy wn (some g) := grown_trans (grown_drew (grown_refl w4 (some g))) hgn; have HYn : Hid (OwnI wn w4.heap.size (.slice y.A y.n y.c) y.xs ∧ y.n ≤ 1048576) := Lib.hid ⟨hoy, by have := ownI_n hoy; omega⟩; have HGn := Lib.hid hgn; have m0 : wn.heap[w3.heap.size]? = some (.cells #[.int .i64 x.id, .slice x.A x.n x.c] 50 (0, 0)) := (hgn.block _ (by omega) (fun e => by have := Option.some.inj e; omega)).trans HBX4.out; have m1 : wn.heap[w.heap.size]? = some (.cells #[.int .i64 0, .slice none 0 0] 50 (0, 0)) := (hgn.block _ (by omega) (fun e => by have := Option.some.inj e; omega)).trans HZ4.out.1; have m2 : wn.heap[w.heap.size + 1]? = some (.cells #[.int .i64 0, .slice none 0 0] 50 (0, 0)) := (hgn.block _ (by omega) (fun e => by have := Option.some.inj e; omega)).trans HZ4.out.2; have HM := Lib.hid (And.intro m1 m2); have n0 : wn.cell? ⟨w3.heap.size, 0, none⟩ = some (.int .i64 x.id) := cell_of_row wn _ 0 _ _ (0, 0) m0; have n1 : wn.cell? ⟨w3.heap.size, 1, none⟩ = some (.slice x.A x.n x.c) := cell_of_row wn _ 1 _ _ (0, 0) m0; have x0 : wn.cell? ⟨w.heap.size, 0, none⟩ = some (.int .i64 0) := cell_of_row wn _ 0 _ _ (0, 0) m1; have x1 : wn.cell? ⟨w.heap.size, 1, none⟩ = some (.slice none 0 0) := cell_of_row wn _ 1 _ _ (0, 0) m1; have fx0 : wn.frozen? ⟨w.heap.size, 0, none⟩ = false := frozen_of_row wn _ 0 _ _ m1; have fx1 : wn.frozen? ⟨w.heap.size, 1, none⟩ = false := frozen_of_row wn _ 1 _ _ m1; have z0 : wn.cell? ⟨w.heap.size + 1, 0, none⟩ = some (.int .i64 0) := cell_of_row wn _ 0 _ _ (0, 0) m2; have z1 : wn.cell? ⟨w.heap.size + 1, 1, none⟩ = some (.slice none 0 0) := cell_of_row wn _ 1 _ _ (0, 0) m2; have fz0 : wn.frozen? ⟨w.heap.size + 1, 0, none⟩ = false := frozen_of_row wn _ 0 _ _ m2; have fz1 : wn.frozen? ⟨w.heap.size + 1, 1, none⟩ = false := frozen_of_row wn _ 1 _ _ m2; clear hoy hcn hgn m0 m1 m2; unfold It.val)
    all_goals
      have hKn : KeepN w1.heap.size wn A n ns := HK4.out.step HGn.out.size fun b h1 h2 => HGn.out.block b h2 (fun e => by have := Option.some.inj e; omega)
      have hXn : OwnI wn w2.heap.size (.slice x.A x.n x.c) x.xs := ownI_blocks HX4.out fun b hb => HGn.out.block b (ownI_tops HX4.out b hb) (fun e => by have := Option.some.inj e; have := ownI_lows HX4.out b hb; omega)
      have hBn : Below w.heap.size w wn := HBw1.out.trans (grown_below (grown_trans HG4.out HGn.out) (by omega) (by omega))
      have HE := Lib.hid (fun u0 u1 u2 u3 : Value => drawc_end (u0 := u0) (u1 := u1) (u2 := u2) (u3 := u3) hs1 hKn (show w.heap.size + 2 ≤ w2.heap.size by omega) (show w.heap.size + 2 ≤ w4.heap.size by omega) hXn HYn.out.1 hBn)
      clear hKn hXn hBn n0 n1 x0 x1 z0 z1 fx0 fx1 fz0 fz1 k0 k1
      go_wp2
      refine bodyPost_ret_by (results_tmp_rows2 rfl _ _ w.heap.size (w.heap.size + 1) 50 50 _ _ (0, 0) (0, 0) _ _ rfl rfl ((heap_setCell_other _ _ _ _ (by simp)).trans ((heap_setCell_other _ _ _ _ (by simp)).trans (two_setD HM.out.1))) (two_setD ((heap_setCell_other _ _ _ _ (by simp)).trans ((heap_setCell_other _ _ _ _ (by simp)).trans HM.out.2))) Try.underlying50 rfl (by kernel_rfl) Try.underlying50 rfl (by kernel_rfl)) rfl ?_
      obtain ⟨e1, e2, e3, e4⟩ := HE.out (.int .i64 x.id) (.slice x.A x.n x.c) (.int .i64 y.id) (.slice y.A y.n y.c)
      exact ⟨A, n, c, ns, x, y, rfl, ⟨e1, HQ.out.1, HQ.out.2.1, HQ.out.2.2.1, HQ.out.2.2.2⟩, ⟨e2, HXN.out⟩, ⟨e3, HYn.out.2⟩, e4⟩
end Go.Proofs.Ytaijajajpnekbaa.num
