/- Contracts of functions that the laws of this chapter call, packed. -/
import Derived.Test.YtaijajajpnekbaaGreatWishProg
import Derived.Test.YtaijajajpnekbaaGreatWishCmp
import Derived.Test.YtaijajajpnekbaaGreatWishSpecD
import Derived.Test.YtaijajajpnekbaaGreatWishLaw
import Derived.Test.YtaijajajpnekbaaGreatItemImpl
import Derived.Test.YtaijajajpnekbaaGreatExpA
import Derived.Test.YtaijajajpnekbaaGreatExpSpec
import Derived.Test.YtaijajajpnekbaaGreatWishSpecC
import Derived.Test.YtaijajajpnekbaaGreatItemIds
import Derived.Test.YtaijajajpnekbaaGreatRegion
namespace Go.Proofs.YtaijajajpnekbaaGreat.num
set_option maxRecDepth 20000
open Go.RowKit Go.Maps
set_option linter.unusedVariables false

end Go.Proofs.YtaijajajpnekbaaGreat.num
namespace Go.Proofs.YtaijajajpnekbaaGreat.num
set_option maxRecDepth 20000
open Go.RowKit Go.Maps
set_option linter.unusedVariables false

end Go.Proofs.YtaijajajpnekbaaGreat.num
namespace Go.Proofs.YtaijajajpnekbaaGreat.num
set_option maxRecDepth 20000
open Go.RowKit Go.Maps
set_option linter.unusedVariables false

/-- The value of an item's field. -/
def fval (t : It) (f : Int) : Int := t.xs.getD f.toNat 0
theorem fval_in {t : It} (h : IsP t.dat) {f : Int} (hf : 0 ≤ f ∧ f ≤ 2) : InR (fval t f) := by
  obtain ⟨h1, _, h3⟩ := h
  have hl : t.xs.length = 3 := h3
  unfold fval
  rw [List.getD_eq_getElem?_getD, List.getElem?_eq_getElem (by omega)]
  exact h1 _ (List.getElem_mem _)
theorem fval_dat {t t' : It} (h : t'.dat = t.dat) (f : Int) : fval t' f = fval t f := by unfold fval; rw [show t'.xs = t.xs from congrArg Prod.snd h]
theorem cmpV_dat {t t' : Wi} {x x' y y' : It} {q : Bool} (h : t'.dat = t.dat) (hx : x'.dat = x.dat) (hy : y'.dat = y.dat) : cmpV t'.dat q (fval x' t'.field) (fval y' t'.field) = cmpV t.dat q (fval x t.field) (fval y t.field) := by
  rw [h, fval_dat hx, fval_dat hy, show t'.field = t.field from congrArg WD.field h]
/-- The cell of an item's field. -/
theorem fval_cell {w : World} {B : Nat} {t : It} (hi : Ints w B t.A t.n t.xs) (h : IsP t.dat) {f : Int} (hf : 0 ≤ f ∧ f ≤ 2) : ∃ b off : Nat, t.A = some ⟨b, off, none⟩ ∧ b < B ∧ (f.toNat : Int) = f ∧ f < (t.n : Int) ∧ w.cell? ⟨b, off + f.toNat, none⟩ = some (.int .i64 (fval t f)) := by
  have hl : t.xs.length = 3 := h.2.2
  have hn : t.n = 3 := hi.1.symm.trans hl
  obtain ⟨b, off, h1, h2, h3⟩ := hi.2 f.toNat (by omega)
  exact ⟨b, off, h1, h2, by omega, by omega, h3⟩

end Go.Proofs.YtaijajajpnekbaaGreat.num
namespace Go.Proofs.YtaijajajpnekbaaGreat.num
set_option maxRecDepth 20000
open Go.RowKit Go.Maps
set_option linter.unusedVariables false
set_option linter.unusedSimpArgs false

/-- What each wish says of two items. -/
def wishF (x y : It) (d : WD) : Int := cmpW d (fval x d.field) (fval y d.field)
theorem cmpW_code (d : WD) (a b : Int) : Code (cmpW d a b) := by
  unfold cmpW Code
  split
  · split
    · omega
    · split
      · omega
      · split <;> omega
  · split
    · omega
    · split <;> omega
theorem wishF_code (x y : It) (d : WD) : Code (wishF x y d) := cmpW_code _ _ _
theorem wishF_dat {x x' y y' : It} (hx : x'.dat = x.dat) (hy : y'.dat = y.dat) : wishF x' y' = wishF x y := by
  funext d
  unfold wishF
  rw [fval_dat hx, fval_dat hy]
/-- The taste's comparison, whatever it is. -/
def TasteCalls (w : World) (T : TypeId) (g : FuncId) (v : Value) (a b z : Int) : Prop :=
  ∃ x, v = .iface T x ∧ (∀ w1, (method 259 T x "loop.example/g01987/impl.compare").run Tryz.prog w1 = .ok (g, x) w1) ∧ (∀ w1, (nilAhead 259 T x "loop.example/g01987/impl.compare").run Tryz.prog w1 = .ok (some false) w1) ∧
    ∀ w1, Below w.heap.size w w1 → Calls Tryz.prog g #[x, .int .i64 a, .int .i64 b] w1 fun e w' => e = .returned (.int .i64 z) ∧ Below w1.heap.size w1 w'
theorem tasteCalls {w : World} {B : Nat} {t : Wi} {v : Value} (hB : B ≤ w.heap.size) (h : TasteAt w t v) (hi : WiIn w B t) (hn : t.Short) {a b : Int} (ha : InR a) (hb : InR b) : TasteCalls w 122 113 v a b (cmpW t.dat a b) ∨ TasteCalls w 124 118 v a b (cmpW t.dat a b) ∨ TasteCalls w 129 122 v a b (cmpW t.dat a b) := by
  rcases h with ⟨h4, c, hc, rfl, hr⟩ | ⟨h4, rfl, hr⟩ | ⟨h4, o, B2, rfl, hab⟩
  · refine .inl ⟨_, rfl, near_cmp_m c, near_cmp_n c, fun w1 h1 => ?_⟩
    rw [show cmpW t.dat a b = (if (if a < c then c - a else a - c) < (if b < c then c - b else b - c) then 1 else if (if b < c then c - b else b - c) < (if a < c then c - a else a - c) then -1 else 0) by unfold cmpW; rw [if_neg (show ¬ t.dat.kind = 4 from h4), hr _ ha, hr _ hb]]
    exact nearCmp w1 c a b hc ha hb
  · refine .inr (.inl ⟨_, rfl, among_cmp_m _ _ _, among_cmp_n _ _ _, fun w1 h1 => ?_⟩)
    rw [show cmpW t.dat a b = (if (if a ∈ t.ls then (0 : Int) else 1) < (if b ∈ t.ls then (0 : Int) else 1) then 1 else if (if b ∈ t.ls then (0 : Int) else 1) < (if a ∈ t.ls then (0 : Int) else 1) then -1 else 0) by unfold cmpW; rw [if_neg (show ¬ t.dat.kind = 4 from h4), hr, hr]]
    exact amongCmp w1 B t.LA t.Ln t.Lc t.ls a b (hi.l.below (h1.mono hB)) (Nat.le_trans hB h1.size) hn.1
  · refine .inr (.inr ⟨_, rfl, order_cmp_m o, order_cmp_n o, fun w1 h1 => ?_⟩)
    rw [show cmpW t.dat a b = (if a = b then 0 else if rb t.ps a b = true then 1 else if rb t.ps b a = true then -1 else 2) by unfold cmpW; rw [if_pos (show t.dat.kind = 4 from h4)]; rfl]
    exact orderCmp w1 B2 o t.ps (hab.below h1) a b ha hb

set_option maxRecDepth 20000 in
set_option maxHeartbeats 3200000 in
theorem iCompare (B lo : Nat) (x y : It) (hpx : IsP x.dat) (hpy : IsP y.dat) : ∀ (t : Tr) (p : Nat) (w : World), PartAt w B lo t p → B ≤ w.heap.size → Ints w B x.A x.n x.xs → Ints w B y.A y.n y.xs →
    Calls Tryz.prog 57 #[.pointer (some ⟨p, 0, none⟩), x.val, y.val] w fun e w' => e = .returned (.int .i64 (cmpT (wishF x y) t)) ∧ Below w.heap.size w w' := by
  have hvx : x.val = .agg #[.int .i64 x.id, .slice x.A x.n x.c] := rfl
  have hvy : y.val = .agg #[.int .i64 y.id, .slice y.A y.n y.c] := rfl
  intro t
  induction t with
  | base d =>
    intro p w hp hB hix hiy
    rw [hvx, hvy]
    clear hvx hvy
    obtain ⟨_, hpl, t, v, hrow, rfl, hsh, hwi, hw, hta⟩ := hp
    have c0 := part0 hrow
    have c2 := part2 hrow
    have c6 := part6 hrow
    clear hrow
    have hf : 0 ≤ t.field ∧ t.field ≤ 2 := hw.f
    have HZ : Hid (cmpT (wishF x y) (.base t.dat) = cmpW t.dat (fval x t.field) (fval y t.field)) := Lib.hid rfl
    rw [HZ.out]
    rcases tasteCalls hB hta.at' hwi hsh (fval_in hpx hf) (fval_in hpy hf) with ⟨tx, rfl, hm, hm2, hcall⟩ | ⟨tx, rfl, hm, hm2, hcall⟩ | ⟨tx, rfl, hm, hm2, hcall⟩
    all_goals
      obtain ⟨bx, ox, hxA, hbx, hfn, hfx, cx0⟩ := fval_cell hix hpx hf
      obtain ⟨by', oy, hyA, hby, -, hfy, cy0⟩ := fval_cell hiy hpy hf
      generalize cmpW t.dat (fval x t.field) (fval y t.field) = z at *
      have HC := Lib.hid hcall
      have HW2 : Hid (Below w.heap.size w ((w.alloc (.cells #[.int .i64 x.id, .slice x.A x.n x.c] 62)).alloc (.cells #[.int .i64 y.id, .slice y.A y.n y.c] 62))) := Lib.hid (((Below.refl _ w).alloc (Nat.le_refl _) _).alloc (by simp) _)
      have hbx3 : bx < w.heap.size := by omega
      have hby3 : by' < w.heap.size := by omega
      have hfw : IntKind.i64.wrap t.field = t.field := IntWalk.i64_in _ ⟨by omega, by omega⟩
      have hf0 := hf.1
      clear hcall hix hiy hwi hw hta hsh hpx hpy hf HZ
      generalize fval x t.field = vx at *
      generalize fval y t.field = vy at *
      obtain ⟨xi, xA, xn, xc, xxs⟩ := x
      obtain ⟨yi, yA, yn, yc, yxs⟩ := y
      dsimp only at *
      subst hxA hyA
      have d2 := (HW2.out.cell (p := ⟨p, 2, none⟩) hpl).trans c2
      have d6 := (HW2.out.cell (p := ⟨p, 6, none⟩) hpl).trans c6
      have dx := (HW2.out.cell (p := ⟨bx, ox + t.field.toNat, none⟩) hbx3).trans cx0
      have dy := (HW2.out.cell (p := ⟨by', oy + t.field.toNat, none⟩) hby3).trans cy0
      have Xx := Lib.hid ((Box2.new w ⟨xi, some ⟨bx, ox, none⟩, xn, xc, []⟩ 62).alloc (.cells #[.int .i64 yi, .slice (some ⟨by', oy, none⟩) yn yc] 62))
      have Xy := Lib.hid (Box2.new (w.alloc (.cells #[.int .i64 xi, .slice (some ⟨bx, ox, none⟩) xn xc] 62)) ⟨yi, some ⟨by', oy, none⟩, yn, yc, []⟩ 62)
      obtain ⟨-, x_0, x_1⟩ := Xx.out
      obtain ⟨-, y_0, y_1⟩ := Xy.out
      rw [World.size_alloc] at y_0 y_1
      clear Xx Xy
      go_enter Tryz.func57, Tryz.ntmps57
      go_wp2
      generalize ((w.alloc (.cells #[.int .i64 xi, .slice (some ⟨bx, ox, none⟩) xn xc] 62)).alloc (.cells #[.int .i64 yi, .slice (some ⟨by', oy, none⟩) yn yc] 62)) = w0 at *
      clear c0 c2 c6 cx0 cy0
      go_still_tail 26, (by kernel_rfl)
      change wpList _ _ _ _ _ w0.drew
      generalize hw1 : w0.drew = w1 at *
      have HB1 : Hid (Below w.heap.size w w1) := Lib.hid (hw1 ▸ HW2.out.drew)
      clear d2 d6 dx dy x_0 x_1 y_0 y_1 hw1
      go_wp2_with fail
      refine (HC.out _ HB1.out).mono ?_
      rintro e w2 ⟨rfl, hb2⟩
      have HB2 := Lib.hid (below_on HB1.out hb2)
      clear hb2
      go_wp2
      go_ret
      exact ⟨rfl, HB2.out⟩
  | dual a ih =>
    intro p w hp hB hix hiy
    rw [hvx, hvy] at ih ⊢
    obtain ⟨_, hpl, t, q, hrow, -, -, -, hpa⟩ := hp
    have c0 := part0 hrow
    have c7 := part7 hrow
    clear hrow
    have HIH : Hid (∀ w1, Below w.heap.size w w1 → Calls Tryz.prog 57 #[.pointer (some ⟨q, 0, none⟩), .agg #[.int .i64 x.id, .slice x.A x.n x.c], .agg #[.int .i64 y.id, .slice y.A y.n y.c]] w1 fun e w' => e = .returned (.int .i64 (cmpT (wishF x y) a)) ∧ Below w1.heap.size w1 w') := Lib.hid fun w1 h => ih q w1 (hpa.below hB h) (Nat.le_trans hB h.size) (hix.below (h.mono hB)) (hiy.below (h.mono hB))
    have HZ : Hid (cmpT (wishF x y) (.dual a) = revC (cmpT (wishF x y) a)) := Lib.hid rfl
    rw [HZ.out]
    generalize cmpT (wishF x y) a = z at *
    clear HZ ih hix hiy hpa hvx hvy
    have HW2 : Hid (Below w.heap.size w ((w.alloc (.cells #[.int .i64 x.id, .slice x.A x.n x.c] 62)).alloc (.cells #[.int .i64 y.id, .slice y.A y.n y.c] 62))) := Lib.hid (((Below.refl _ w).alloc (Nat.le_refl _) _).alloc (by simp) _)
    have HP0 : Hid (w.cell? ⟨p, 0, none⟩ = some (.int .i64 3)) := Lib.hid c0
    have d7 := (HW2.out.cell (p := ⟨p, 7, none⟩) hpl).trans c7
    have Xx := Lib.hid ((Box2.new w x 62).alloc (.cells #[.int .i64 y.id, .slice y.A y.n y.c] 62))
    have Xy := Lib.hid (Box2.new (w.alloc (.cells #[.int .i64 x.id, .slice x.A x.n x.c] 62)) y 62)
    obtain ⟨-, x_0, x_1⟩ := Xx.out
    obtain ⟨-, y_0, y_1⟩ := Xy.out
    rw [World.size_alloc] at y_0 y_1
    clear Xx Xy
    go_enter Tryz.func57, Tryz.ntmps57
    go_wp2
    generalize ((w.alloc (.cells #[.int .i64 x.id, .slice x.A x.n x.c] 62)).alloc (.cells #[.int .i64 y.id, .slice y.A y.n y.c] 62)) = w0 at *
    clear c0 c7
    go_still_tail 6, (by kernel_rfl)
    change wpList _ _ _ _ _ w0.drew
    generalize hw1 : w0.drew = w1 at *
    have HB1 : Hid (Below w.heap.size w w1) := Lib.hid (hw1 ▸ HW2.out.drew)
    clear d7 x_0 x_1 y_0 y_1 hw1
    go_wp2_with fail
    refine (HIH.out _ HB1.out).mono ?_
    rintro e w2 ⟨rfl, hb2⟩
    have HB2 := Lib.hid (below_on HB1.out hb2)
    have c0 := (HB2.out.cell (p := ⟨p, 0, none⟩) hpl).trans HP0.out
    clear hb2
    go_wp2_with fail
    refine (iRev w2 z).mono ?_
    rintro e w3 ⟨rfl, rfl⟩
    go_wp2
    go_ret
    exact ⟨rfl, HB2.out⟩
  | bin op a b iha ihb =>
    intro p w hp hB hix hiy
    rw [hvx, hvy] at iha ihb ⊢
    obtain ⟨_, hpl, hop, t, q, r, hrow, -, -, -, hpa, hpb⟩ := hp
    have c0 := part0 hrow
    have c7 := part7 hrow
    have c8 := part8 hrow
    clear hrow
    have HIA : Hid (∀ w1, Below w.heap.size w w1 → Calls Tryz.prog 57 #[.pointer (some ⟨q, 0, none⟩), .agg #[.int .i64 x.id, .slice x.A x.n x.c], .agg #[.int .i64 y.id, .slice y.A y.n y.c]] w1 fun e w' => e = .returned (.int .i64 (cmpT (wishF x y) a)) ∧ Below w1.heap.size w1 w') := Lib.hid fun w1 h => iha q w1 (hpa.below hB h) (Nat.le_trans hB h.size) (hix.below (h.mono hB)) (hiy.below (h.mono hB))
    have HIB : Hid (∀ w1, Below w.heap.size w w1 → Calls Tryz.prog 57 #[.pointer (some ⟨r, 0, none⟩), .agg #[.int .i64 x.id, .slice x.A x.n x.c], .agg #[.int .i64 y.id, .slice y.A y.n y.c]] w1 fun e w' => e = .returned (.int .i64 (cmpT (wishF x y) b)) ∧ Below w1.heap.size w1 w') := Lib.hid fun w1 h => ihb r w1 (hpb.below hB h) (Nat.le_trans hB h.size) (hix.below (h.mono hB)) (hiy.below (h.mono hB))
    have HZ : Hid (cmpT (wishF x y) (.bin op a b) = opC op (cmpT (wishF x y) a) (cmpT (wishF x y) b)) := Lib.hid rfl
    have HCa := Lib.hid (cmpT_code (wishF_code x y) a)
    have HCb := Lib.hid (cmpT_code (wishF_code x y) b)
    rw [HZ.out]
    generalize cmpT (wishF x y) a = za at *
    generalize cmpT (wishF x y) b = zb at *
    obtain ⟨zz, hzz⟩ : ∃ zz, opC op za zb = zz := ⟨_, rfl⟩
    rw [hzz]
    have HV := Lib.hid hzz
    clear hzz
    clear HZ iha ihb hix hiy hpa hpb hvx hvy
    have HW2 : Hid (Below w.heap.size w ((w.alloc (.cells #[.int .i64 x.id, .slice x.A x.n x.c] 62)).alloc (.cells #[.int .i64 y.id, .slice y.A y.n y.c] 62))) := Lib.hid (((Below.refl _ w).alloc (Nat.le_refl _) _).alloc (by simp) _)
    have HP0 : Hid (w.cell? ⟨p, 0, none⟩ = some (.int .i64 op)) := Lib.hid c0
    have HP8 : Hid (w.cell? ⟨p, 8, none⟩ = some (.pointer (some ⟨r, 0, none⟩))) := Lib.hid c8
    have d7 := (HW2.out.cell (p := ⟨p, 7, none⟩) hpl).trans c7
    have f0 : (op == 0) = false := by have := (bin_ne hop).1; simpa using this
    have f3 : (op == 3) = false := by have := (bin_ne hop).2; simpa using this
    have HOp : Hid (op = 1 ∨ op = 2 ∨ op = 4) := Lib.hid hop
    clear hop
    have Xx := Lib.hid ((Box2.new w x 62).alloc (.cells #[.int .i64 y.id, .slice y.A y.n y.c] 62))
    have Xy := Lib.hid (Box2.new (w.alloc (.cells #[.int .i64 x.id, .slice x.A x.n x.c] 62)) y 62)
    obtain ⟨-, x_0, x_1⟩ := Xx.out
    obtain ⟨-, y_0, y_1⟩ := Xy.out
    rw [World.size_alloc] at y_0 y_1
    clear Xx Xy
    have HXB := Lib.hid (And.intro x_0 (And.intro x_1 (And.intro y_0 y_1)))
    go_enter Tryz.func57, Tryz.ntmps57
    go_wp2
    generalize hw0 : ((w.alloc (.cells #[.int .i64 x.id, .slice x.A x.n x.c] 62)).alloc (.cells #[.int .i64 y.id, .slice y.A y.n y.c] 62)) = w0 at *
    clear c0 c7 c8
    go_still_tail 6, (by kernel_rfl)
    change wpList _ _ _ _ _ w0.drew
    have HX0 : Hid (w.heap.size < w0.heap.size ∧ w.heap.size + 1 < w0.heap.size) := Lib.hid (by rw [← hw0]; simp; omega)
    generalize hw1 : w0.drew = w1 at *
    have HB1 : Hid (Below w.heap.size w w1) := Lib.hid (hw1 ▸ HW2.out.drew)
    have HB01 : Hid (Below w0.heap.size w0 w1) := Lib.hid (hw1 ▸ (Below.refl _ _).drew)
    clear d7 x_0 x_1 y_0 y_1 hw1 hw0
    go_wp2_with fail
    refine (HIA.out _ HB1.out).mono ?_
    rintro e w2 ⟨rfl, hb2⟩
    have HB2 := Lib.hid (below_on HB1.out hb2)
    have HB02 := Lib.hid (below_on HB01.out hb2)
    have c0 := (HB2.out.cell (p := ⟨p, 0, none⟩) hpl).trans HP0.out
    have c8 := (HB2.out.cell (p := ⟨p, 8, none⟩) hpl).trans HP8.out
    obtain ⟨x_0, x_1, y_0, y_1⟩ := HXB.out
    obtain ⟨hx0, hy0⟩ := HX0.out
    replace x_0 := (HB02.out.cell (p := ⟨w.heap.size, 0, none⟩) hx0).trans x_0
    replace x_1 := (HB02.out.cell (p := ⟨w.heap.size, 1, none⟩) hx0).trans x_1
    replace y_0 := (HB02.out.cell (p := ⟨w.heap.size + 1, 0, none⟩) hy0).trans y_0
    replace y_1 := (HB02.out.cell (p := ⟨w.heap.size + 1, 1, none⟩) hy0).trans y_1
    clear hb2
    go_wp2
    go_still_tail 6, (by kernel_rfl)
    change wpList _ _ _ _ _ w2.drew
    generalize hw3 : w2.drew = w3 at *
    have HB3 : Hid (Below w.heap.size w w3) := Lib.hid (hw3 ▸ HB2.out.drew)
    clear c0 c8 x_0 x_1 y_0 y_1 hx0 hy0 hw3
    go_wp2_with fail
    refine (HIB.out _ HB3.out).mono ?_
    rintro e w4 ⟨rfl, hb4⟩
    have HB4 := Lib.hid (below_on HB3.out hb4)
    have c0 := (HB4.out.cell (p := ⟨p, 0, none⟩) hpl).trans HP0.out
    clear hb4
    rcases HOp.out with rfl | rfl | rfl
    · have HR : Hid (zz = if apartC za zb = true then 2 else if za ≠ 0 then za else zb) := Lib.hid (by rw [← HV.out]; exact opC_pareto HCa.out HCb.out)
      clear HV
      go_wp2_with fail
      refine (iDis w4 za zb HCa.out HCb.out).mono ?_
      rintro e w5 ⟨rfl, rfl⟩
      generalize apartC za zb = qa at *
      cases qa
      · by_cases h : za = 0
        · subst h
          obtain rfl : zz = zb := by rw [HR.out]; simp
          go_wp2
          go_ret
          exact ⟨rfl, HB4.out⟩
        · obtain rfl : zz = za := by rw [HR.out, if_neg (by simp), if_pos h]
          have hne : (zz != 0) = true := by simpa using h
          go_wp2
          go_ret
          exact ⟨rfl, HB4.out⟩
      · obtain rfl : zz = 2 := by rw [HR.out, if_pos rfl]
        go_wp2
        go_ret
        exact ⟨rfl, HB4.out⟩
    · have HR : Hid (zz = if za ≠ 0 then za else zb) := Lib.hid (by rw [← HV.out]; rfl)
      clear HV
      by_cases h : za = 0
      · subst h
        obtain rfl : zz = zb := by rw [HR.out]; simp
        go_wp2
        go_ret
        exact ⟨rfl, HB4.out⟩
      · obtain rfl : zz = za := by rw [HR.out, if_pos h]
        have hne : (zz != 0) = true := by simpa using h
        go_wp2
        go_ret
        exact ⟨rfl, HB4.out⟩
    · have HR : Hid (zz = if za = zb then za else 2) := Lib.hid (by rw [← HV.out]; rfl)
      clear HV
      by_cases h : za = zb
      · subst h
        obtain rfl : zz = za := by rw [HR.out, if_pos rfl]
        have hne2 : (zz != zz) = false := by simp
        by_cases h : zz = 0
        · subst h
          go_wp2
          go_ret
          exact ⟨rfl, HB4.out⟩
        · have hne : (zz != 0) = true := by simpa using h
          go_wp2
          go_ret
          exact ⟨rfl, HB4.out⟩
      · obtain rfl : zz = 2 := by rw [HR.out, if_neg h]
        have hne : (za != zb) = true := by simpa using h
        go_wp2
        go_ret
        exact ⟨rfl, HB4.out⟩
end Go.Proofs.YtaijajajpnekbaaGreat.num
namespace Go.Proofs.YtaijajajpnekbaaGreat.num
set_option maxRecDepth 20000
open Go.RowKit
set_option linter.unusedVariables false
set_option linter.unusedSimpArgs false

theorem ownI_take {w : World} {B : Nat} {A : Option Addr} {n c k : Nat} {l : List Int} (h : OwnI w B (.slice A n c) l) (hk : k ≤ n) : OwnI w B (.slice A k c) (l.take k) := by
  rcases h.2 with ⟨e, hl⟩ | ⟨g, cap, cur, e, hB, hg, h1, h2, h3, h4⟩
  · injection e with e1 e2 e3
    subst e1 e2 e3
    obtain rfl : k = 0 := by omega
    exact ⟨by simp, .inl ⟨rfl, by simp⟩⟩
  · injection e with e1 e2 e3
    subst e1 e2 e3
    have hlen : (l.take k).length = k := by rw [List.length_take]; omega
    refine ⟨by simp, .inr ⟨g, c, cur, by rw [hlen], hB, hg, by omega, h2, h3, ?_⟩⟩
    rw [List.map_take, ← h4, List.take_take, hlen]
    congr 1
    omega
theorem ownI_cells {w : World} {B : Nat} {A : Option Addr} {n c : Nat} {l : List Int} (h : OwnI w B (.slice A n c) l) (hn : 0 < n) : l.length = n ∧ n ≤ c ∧ c ≤ maxLen ∧ ∃ g, A = some ⟨g, 0, none⟩ ∧ B ≤ g ∧ g < w.heap.size ∧ ∀ (j : Nat) (x : Int), l[j]? = some x → w.cell? ⟨g, j, none⟩ = some (.int .i64 x) ∧ w.frozen? ⟨g, j, none⟩ = false := by
  rcases ownI_row h with ⟨e, _⟩ | ⟨g, cap, f, e, hB, h1, h2, h3, h4⟩
  · injection e with e1 e2 e3; omega
  · injection e with e1 e2 e3
    subst e1 e2 e3
    refine ⟨rfl, h1, h2, g, rfl, hB, h3.lt, fun j x hj => ?_⟩
    have hlt : j < l.length := by
      rcases Nat.lt_or_ge j l.length with q | q
      · exact q
      · rw [List.getElem?_eq_none q] at hj; cases hj
    have h5 := h4 j hlt
    rw [List.getElem?_map, hj] at h5
    exact ⟨by rw [World.rowIs.cell h3 (by omega)]; exact h5.symm, World.rowIs.frozen h3 j⟩
theorem ownI_setlast {w : World} {B g n c : Nat} {M : List Int} {x : Int} (h : OwnI w B (.slice (some ⟨g, 0, none⟩) n c) (M ++ [x])) (y : Int) : OwnI (w.setCell ⟨g, M.length, none⟩ (.int .i64 y)) B (.slice (some ⟨g, 0, none⟩) n c) (M ++ [y]) := by
  rcases ownI_row h with ⟨e, _⟩ | ⟨g', cap, f, e, hB, h1, h2, h3, h4⟩
  · cases e
  · injection e with e1 e2 e3
    injection e1 with e1
    injection e1 with e1
    subst e1 e2 e3
    refine ownI_of_row hB (by simp) h1 h2 (World.rowIs.set h3 M.length (.int .i64 y)) fun j hj => ?_
    have h5 := h4 j hj
    by_cases e : j = M.length
    · subst e
      rw [if_pos rfl]
      simp
    · rw [if_neg e, ← h5]
      have hlt : j < M.length := by simp at hj; omega
      simp only [List.map_append]
      rw [List.getElem?_append_left (by simpa using hlt), List.getElem?_append_left (by simpa using hlt)]
theorem snoc_of {α : Type} {l : List α} {k : Nat} (h : l.length = k + 1) : ∃ m x, l = m ++ [x] ∧ m.length = k := by
  rcases List.eq_nil_or_concat l with rfl | ⟨m, x, rfl⟩
  · simp at h
  · exact ⟨m, x, by rw [List.concat_eq_append], by simpa using h⟩

theorem sMeet (w : World) (a b : Int) : Calls Tryz.prog 93 #[.int .i64 a, .int .i64 b] w fun e w' => e = .returned (.int .i64 (if a = b then a else 2)) ∧ w' = w := by
  by_cases h : a = b
  · subst h
    rw [if_pos rfl]
    have hx : (a == a) = true := by simp
    go_enter Tryz.func93, Tryz.ntmps93
    go_wp2
    go_ret
    exact ⟨rfl, rfl⟩
  · rw [if_neg h]
    have hx : (a == b) = false := by simpa using h
    go_enter Tryz.func93, Tryz.ntmps93
    go_wp2
    go_ret
    exact ⟨rfl, rfl⟩
theorem sPareto (w : World) (a b : Int) (ha : Code a) (hb : Code b) : Calls Tryz.prog 92 #[.int .i64 a, .int .i64 b] w fun e w' => e = .returned (.int .i64 (opC 1 a b)) ∧ w' = w := by
  rcases ha with rfl | rfl | rfl | rfl <;> rcases hb with rfl | rfl | rfl | rfl <;>
    (go_enter Tryz.func92, Tryz.ntmps92
     go_wp2
     go_ret
     exact ⟨by first | rfl | decide, rfl⟩)
theorem sOp (w : World) (op a b : Int) (ho : Bin op) (ha : Code a) (hb : Code b) : Calls Tryz.prog 79 #[.int .i64 op, .int .i64 a, .int .i64 b] w fun e w' => e = .returned (.int .i64 (opC op a b)) ∧ w' = w := by
  have HP : Hid (∀ w1, Calls Tryz.prog 92 #[.int .i64 a, .int .i64 b] w1 fun e w' => e = .returned (.int .i64 (opC 1 a b)) ∧ w' = w1) := Lib.hid fun w1 => sPareto w1 a b ha hb
  clear ha hb
  obtain ⟨z, hz⟩ : ∃ z, opC op a b = z := ⟨_, rfl⟩
  rw [hz]
  have HZ := Lib.hid hz
  clear hz
  rcases ho with rfl | rfl | rfl
  · go_enter Tryz.func79, Tryz.ntmps79
    go_wp2_with fail
    refine (HP.out _).mono ?_
    rintro e w1 ⟨rfl, rfl⟩
    rw [HZ.out]
    go_wp2
    go_ret
    exact ⟨rfl, rfl⟩
  · by_cases h : a = 0
    · subst h
      obtain rfl : z = b := by rw [← HZ.out]; rfl
      go_enter Tryz.func79, Tryz.ntmps79
      go_wp2
      go_ret
      exact ⟨rfl, rfl⟩
    · obtain rfl : z = a := by rw [← HZ.out]; unfold opC; rw [if_neg (by decide), if_pos rfl, if_pos h]
      have hne : (z != 0) = true := by simpa using h
      go_enter Tryz.func79, Tryz.ntmps79
      go_wp2
      go_ret
      exact ⟨rfl, rfl⟩
  · go_enter Tryz.func79, Tryz.ntmps79
    go_wp2_with fail
    refine (sMeet _ a b).mono ?_
    rintro e w1 ⟨rfl, rfl⟩
    have hv : (if a = b then a else 2) = z := by rw [← HZ.out]; rfl
    rw [hv]
    go_wp2
    go_ret
    exact ⟨rfl, rfl⟩

/-- The codes on the stack, the last one on top. -/
def codes (f : WD → Int) (st : List Tr) : List Int := st.reverse.map (cmpT f)
theorem codes_cons (f : WD → Int) (t : Tr) (st : List Tr) : codes f (t :: st) = codes f st ++ [cmpT f t] := by unfold codes; rw [List.reverse_cons, List.map_append, List.map_singleton]
theorem codes_len (f : WD → Int) (st : List Tr) : (codes f st).length = st.length := by unfold codes; simp
theorem stk_next {l : List ND} {nd : ND} {st : List Tr} (h : Stk l st) (h' : ∃ s, Stk (l ++ [nd]) s) :
    (nd.op = 0 ∧ IsW nd.w) ∨ (nd.op = 3 ∧ NoW nd.w ∧ ∃ a s, st = a :: s) ∨ (Bin nd.op ∧ NoW nd.w ∧ ∃ a b s, st = b :: a :: s) := by
  obtain ⟨s, hs⟩ := h'
  rcases hs.inv with ⟨h1, h2, _⟩ | ⟨h1, h2, a, s', k, _⟩ | ⟨h1, h2, a, b, s', k, _⟩
  · exact .inl ⟨h1, h2⟩
  · exact .inr (.inl ⟨h1, h2, a, s', h.one k⟩)
  · exact .inr (.inr ⟨h1, h2, a, b, s', h.one k⟩)

set_option maxRecDepth 20000 in
set_option maxHeartbeats 6400000 in
theorem sCompare (w : World) (B : Nat) (A : Option Addr) (n c : Nat) (ns : List Nd) (x y : It) (hi : Nodes w B A n ns) (hix : Ints w B x.A x.n x.xs) (hiy : Ints w B y.A y.n y.xs) (hB : B ≤ w.heap.size) (hN : ShortN ns) (hpx : IsP x.dat) (hpy : IsP y.dat) (t : Tr) (hp : Post (datN ns) t) (h9 : n ≤ 9) :
    Calls Tryz.prog 61 #[.slice A n c, x.val, y.val] w fun e w' => e = .returned (.int .i64 (cmpT (wishF x y) t)) ∧ Below w.heap.size w w' := by
  have HX := Lib.hid hi
  have HN := Lib.hid hN
  have HIx := Lib.hid hix
  have HIy := Lib.hid hiy
  have HPx := Lib.hid hpx
  have HPy := Lib.hid hpy
  have HPo := Lib.hid (post_stk.1 hp)
  have HPre : Hid (∀ k, ∃ s, Stk (datN (ns.take k)) s) := Lib.hid fun k => by
    have h := post_stk.1 hp
    rw [datN_split ns k] at h
    exact h.pre
  have hvx : x.val = .agg #[.int .i64 x.id, .slice x.A x.n x.c] := rfl
  have hvy : y.val = .agg #[.int .i64 y.id, .slice y.A y.n y.c] := rfl
  rw [hvx, hvy]
  clear hi hN hix hiy hpx hpy hp hvx hvy
  have hB1 : Below w.heap.size w (((w.alloc (.cells #[.int .i64 x.id, .slice x.A x.n x.c] 62)).alloc (.cells #[.int .i64 y.id, .slice y.A y.n y.c] 62)).alloc (.cells #[] 3)) := (((Below.refl _ w).alloc (Nat.le_refl _) _).alloc (by simp) _).alloc (by simp; omega) _
  have HB1 := Lib.hid hB1
  have Xx := Lib.hid (((Box2.new w x 62).alloc (.cells #[.int .i64 y.id, .slice y.A y.n y.c] 62)).alloc (.cells #[] 3))
  have Xy := Lib.hid ((Box2.new (w.alloc (.cells #[.int .i64 x.id, .slice x.A x.n x.c] 62)) y 62).alloc (.cells #[] 3))
  have HO : Hid (OwnI (((w.alloc (.cells #[.int .i64 x.id, .slice x.A x.n x.c] 62)).alloc (.cells #[.int .i64 y.id, .slice y.A y.n y.c] 62)).alloc (.cells #[] 3)) (w.heap.size + 2) (.slice (some ⟨((w.alloc (.cells #[.int .i64 x.id, .slice x.A x.n x.c] 62)).alloc (.cells #[.int .i64 y.id, .slice y.A y.n y.c] 62)).heap.size, 0, none⟩) 0 0) []) := Lib.hid (OwnI.empty _ _ (by simp))
  clear hB1
  go_enter Tryz.func61, Tryz.ntmps61
  go_wp2
  go_loopw [7, 8] (fun s i wr => ∃ (k m : Nat) (cc : Nat) (SA : Option Addr) (st : List Tr), k ≤ n ∧ i = .int .i64 k ∧ s = .slice SA m cc ∧ m ≤ k ∧ Stk (datN (ns.take k)) st ∧ st.length = m ∧ OwnI wr (w.heap.size + 2) (.slice SA m cc) (codes (wishF x y) st) ∧ Below w.heap.size w wr ∧ w.heap.size + 2 ≤ wr.heap.size ∧
    (wr.cell? ⟨w.heap.size, 0, none⟩ = some (.int .i64 x.id) ∧ wr.cell? ⟨w.heap.size, 1, none⟩ = some (.slice x.A x.n x.c) ∧ wr.cell? ⟨w.heap.size + 1, 0, none⟩ = some (.int .i64 y.id) ∧ wr.cell? ⟨w.heap.size + 1, 1, none⟩ = some (.slice y.A y.n y.c))) (fun _ i _ => n - (intOf i).toNat)
  case atStart =>
    obtain ⟨-, x_0, x_1⟩ := Xx.out
    obtain ⟨-, y_0, y_1⟩ := Xy.out
    rw [World.size_alloc] at y_0 y_1
    refine ⟨0, 0, 0, _, [], Nat.zero_le _, rfl, rfl, Nat.le_refl _, .nil, rfl, ?_, HB1.out, by simp, x_0, x_1, y_0, y_1⟩
    have h := HO.out
    have e : codes (wishF x y) [] = [] := rfl
    rw [e]
    simpa using h
  case round =>
    clear Xx Xy HO HB1
    obtain ⟨k, m, cc, SA, st, hk, rfl, rfl, hmk, hst, hlen, hown, hbel, hs2, hbox⟩ := hrel
    have HSt := Lib.hid hst
    have HLen := Lib.hid hlen
    have HO := Lib.hid hown
    have HB := Lib.hid hbel
    have HS2 := Lib.hid hs2
    have HBox := Lib.hid hbox
    clear hst hlen hown hs2
    by_cases hlt : k < n
    · obtain ⟨b1, off, ⟨op, t⟩, rfl, hb1, hat, hwf, g0, g1, g2, g3, g4, g5⟩ := HX.out.at k hlt
      dsimp only at g0 g1 g2 g3 g4 g5
      have tr : ∀ {bb oo : Nat} {v : Value}, bb < B → w.cell? ⟨bb, oo, none⟩ = some v → wr.cell? ⟨bb, oo, none⟩ = some v := fun {bb oo v} hb h => (hbel.cell (p := ⟨bb, oo, none⟩) (Nat.lt_of_lt_of_le hb hB)).trans h
      have g0 := tr hb1 g0
      have g1 := tr hb1 g1
      have g2 := tr hb1 g2
      have g3 := tr hb1 g3
      have g4 := tr hb1 g4
      have g5 := tr hb1 g5
      have hlt' : (k : Int) < (n : Int) := by omega
      have HWi : Hid (WiIn wr B t) := Lib.hid (hwf.2.below (hbel.mono hB))
      have hBr : B ≤ wr.heap.size := Nat.le_trans hB hbel.size
      have HSh : Hid t.Short := Lib.hid (HN.out _ (List.mem_of_getElem? hat))
      have HE : Hid (datN (ns.take (k + 1)) = datN (ns.take k) ++ [⟨op, t.dat⟩]) := Lib.hid (datN_at hat)
      have hnext := stk_next HSt.out (HE.out ▸ HPre.out (k + 1))
      have HIx1 := Lib.hid (HIx.out.below (hbel.mono hB))
      have HIy1 := Lib.hid (HIy.out.below (hbel.mono hB))
      clear hat hwf hbel tr
      dsimp only at hnext
      rcases hnext with ⟨rfl, hw⟩ | ⟨rfl, hnw, a, s, rfl⟩ | ⟨hbin, hnw, a, b, s, rfl⟩
      · have hf : 0 ≤ t.field ∧ t.field ≤ 2 := hw.f
        obtain ⟨bx, ox, hxA, hbx, hfn, hfx, cx0⟩ := fval_cell HIx1.out HPx.out hf
        obtain ⟨by', oy, hyA, hby, -, hfy, cy0⟩ := fval_cell HIy1.out HPy.out hf
        have HC : Hid (∀ w1, Below wr.heap.size wr w1 → Calls Tryz.prog 78 #[.agg #[.int .i64 t.kind, .int .i64 t.field, .int .i64 t.value, .slice t.LA t.Ln t.Lc, .slice t.PA t.Pn t.Pc], .int .i64 (fval x t.field), .int .i64 (fval y t.field)] w1 fun e w' => e = .returned (.int .i64 (cmpW t.dat (fval x t.field) (fval y t.field))) ∧ Below w1.heap.size w1 w') := Lib.hid fun w1 h => sCmp w1 B t (HWi.out.below (h.mono hBr)) (Nat.le_trans hBr h.size) HSh.out hw _ _ (fval_in HPx.out hf) (fval_in HPy.out hf)
        have HS1 : Hid (Stk (datN (ns.take (k + 1))) (.base t.dat :: st)) := Lib.hid (by rw [HE.out]; exact .base HSt.out rfl hw)
        have HZ : Hid (codes (wishF x y) (.base t.dat :: st) = codes (wishF x y) st ++ [cmpW t.dat (fval x t.field) (fval y t.field)]) := Lib.hid (codes_cons _ _ _)
        generalize cmpW t.dat (fval x t.field) (fval y t.field) = z at *
        generalize fval x t.field = vx at *
        generalize fval y t.field = vy at *
        have hbx3 : bx < wr.heap.size := by omega
        have hby3 : by' < wr.heap.size := by omega
        have hfw : IntKind.i64.wrap t.field = t.field := IntWalk.i64_in _ ⟨by omega, by omega⟩
        have hf0 := hf.1
        obtain ⟨x_0, x_1, y_0, y_1⟩ := hbox
        rw [hxA] at x_1
        rw [hyA] at y_1
        clear hxA hyA
        have HCap : Hid (((codes (wishF x y) st).length + [z].length) * 8 ≤ 140737488355328) := Lib.hid (by rw [codes_len, HLen.out]; simp; omega)
        clear hf hw
        go_wp2
        have hws0 : w.heap.size < w.heap.size + 2 := by omega
        have hws1 : w.heap.size + 1 < w.heap.size + 2 := by omega
        have hb1r : b1 < w.heap.size + 2 := by omega
        have hbxr : bx < w.heap.size + 2 := by omega
        have hbyr : by' < w.heap.size + 2 := by omega
        have hs0 : (fun w' => Below (w.heap.size + 2) wr w' ∧ w'.cell? ⟨w.heap.size, 0, none⟩ = some (.int .i64 x.id) ∧ w'.cell? ⟨w.heap.size, 1, none⟩ = some (.slice (some ⟨bx, ox, none⟩) x.n x.c) ∧ w'.cell? ⟨w.heap.size + 1, 0, none⟩ = some (.int .i64 y.id) ∧ w'.cell? ⟨w.heap.size + 1, 1, none⟩ = some (.slice (some ⟨by', oy, none⟩) y.n y.c) ∧ w'.cell? ⟨b1, off + k * 6, none⟩ = some (.int .i64 0) ∧ w'.cell? ⟨b1, off + k * 6 + 1, none⟩ = some (.int .i64 t.kind) ∧ w'.cell? ⟨b1, off + k * 6 + 2, none⟩ = some (.int .i64 t.field) ∧ w'.cell? ⟨b1, off + k * 6 + 3, none⟩ = some (.int .i64 t.value) ∧ w'.cell? ⟨b1, off + k * 6 + 4, none⟩ = some (.slice t.LA t.Ln t.Lc) ∧ w'.cell? ⟨b1, off + k * 6 + 5, none⟩ = some (.slice t.PA t.Pn t.Pc) ∧ w'.cell? ⟨bx, ox + t.field.toNat, none⟩ = some (.int .i64 vx) ∧ w'.cell? ⟨by', oy + t.field.toNat, none⟩ = some (.int .i64 vy)) wr.drew := ⟨(Below.refl _ _).drew, x_0, x_1, y_0, y_1, g0, g1, g2, g3, g4, g5, cx0, cy0⟩
        refine wp_region_held (S := fun w' => Below (w.heap.size + 2) wr w' ∧ w'.cell? ⟨w.heap.size, 0, none⟩ = some (.int .i64 x.id) ∧ w'.cell? ⟨w.heap.size, 1, none⟩ = some (.slice (some ⟨bx, ox, none⟩) x.n x.c) ∧ w'.cell? ⟨w.heap.size + 1, 0, none⟩ = some (.int .i64 y.id) ∧ w'.cell? ⟨w.heap.size + 1, 1, none⟩ = some (.slice (some ⟨by', oy, none⟩) y.n y.c) ∧ w'.cell? ⟨b1, off + k * 6, none⟩ = some (.int .i64 0) ∧ w'.cell? ⟨b1, off + k * 6 + 1, none⟩ = some (.int .i64 t.kind) ∧ w'.cell? ⟨b1, off + k * 6 + 2, none⟩ = some (.int .i64 t.field) ∧ w'.cell? ⟨b1, off + k * 6 + 3, none⟩ = some (.int .i64 t.value) ∧ w'.cell? ⟨b1, off + k * 6 + 4, none⟩ = some (.slice t.LA t.Ln t.Lc) ∧ w'.cell? ⟨b1, off + k * 6 + 5, none⟩ = some (.slice t.PA t.Pn t.Pc) ∧ w'.cell? ⟨bx, ox + t.field.toNat, none⟩ = some (.int .i64 vx) ∧ w'.cell? ⟨by', oy + t.field.toNat, none⟩ = some (.int .i64 vy)) (by kernel_rfl) ?_
        change wpAnyH _ _ _ _ _ _ _ _ (World.drew _)
        refine takeY 58 (i := 0) (v := ?v0a) rfl rfl (by kernel_rfl) (by kernel_rfl) (by kernel_rfl) (fun _ _ _ h => h) (by kernel_rfl) ?y0a hs0 ?_
        case y0a =>
          intro w' hw'; (try dsimp only at hw'); obtain ⟨e0, e1, e2, e3, e4, e5, e6, e7, e8, e9, e10, e11, e12⟩ := hw'; go_simp; try with_reducible rfl
        simp only [Act.put, List.setIfInBounds_toArray, List.set_cons_zero, List.set_cons_succ]
        refine takeY 59 (i := 1) (v := ?v1a) rfl rfl (by kernel_rfl) (by kernel_rfl) (by kernel_rfl) (fun _ _ _ h => h) (by kernel_rfl) ?y1a hs0 ?_
        case y1a =>
          intro w' hw'; (try dsimp only at hw'); obtain ⟨e0, e1, e2, e3, e4, e5, e6, e7, e8, e9, e10, e11, e12⟩ := hw'; go_simp; try with_reducible rfl
        simp only [Act.put, List.setIfInBounds_toArray, List.set_cons_zero, List.set_cons_succ]
        refine takeY 60 (i := 2) (v := ?v2a) rfl rfl (by kernel_rfl) (by kernel_rfl) (by kernel_rfl) (fun _ _ _ h => h) (by kernel_rfl) ?y2a hs0 ?_
        case y2a =>
          intro w' hw'; (try dsimp only at hw'); obtain ⟨e0, e1, e2, e3, e4, e5, e6, e7, e8, e9, e10, e11, e12⟩ := hw'; go_simp; try with_reducible rfl
        simp only [Act.put, List.setIfInBounds_toArray, List.set_cons_zero, List.set_cons_succ]
        refine takeY 61 (i := 3) (v := ?v3a) rfl rfl (by kernel_rfl) (by kernel_rfl) (by kernel_rfl) (fun _ _ _ h => h) (by kernel_rfl) ?y3a hs0 ?_
        case y3a =>
          intro w' hw'; (try dsimp only at hw'); obtain ⟨e0, e1, e2, e3, e4, e5, e6, e7, e8, e9, e10, e11, e12⟩ := hw'; go_simp; try with_reducible rfl
        simp only [Act.put, List.setIfInBounds_toArray, List.set_cons_zero, List.set_cons_succ]
        refine takeY 62 (i := 4) (v := ?v4a) rfl rfl (by kernel_rfl) (by kernel_rfl) (by kernel_rfl) (fun _ _ _ h => h) (by kernel_rfl) ?y4a hs0 ?_
        case y4a =>
          intro w' hw'; (try dsimp only at hw'); obtain ⟨e0, e1, e2, e3, e4, e5, e6, e7, e8, e9, e10, e11, e12⟩ := hw'; go_simp; try with_reducible rfl
        simp only [Act.put, List.setIfInBounds_toArray, List.set_cons_zero, List.set_cons_succ]
        refine takeY 63 (i := 5) (v := ?v5a) rfl rfl (by kernel_rfl) (by kernel_rfl) (by kernel_rfl) (fun _ _ _ h => h) (by kernel_rfl) ?y5a hs0 ?_
        case y5a =>
          intro w' hw'; (try dsimp only at hw'); obtain ⟨e0, e1, e2, e3, e4, e5, e6, e7, e8, e9, e10, e11, e12⟩ := hw'; go_simp; try with_reducible rfl
        simp only [Act.put, List.setIfInBounds_toArray, List.set_cons_zero, List.set_cons_succ]
        refine takeY 64 (i := 6) (v := ?v6a) rfl rfl (by kernel_rfl) (by kernel_rfl) (by kernel_rfl) (fun _ _ _ h => h) (by kernel_rfl) ?y6a hs0 ?_
        case y6a =>
          intro w' hw'; (try dsimp only at hw'); obtain ⟨e0, e1, e2, e3, e4, e5, e6, e7, e8, e9, e10, e11, e12⟩ := hw'; go_simp; try with_reducible rfl
        simp only [Act.put, List.setIfInBounds_toArray, List.set_cons_zero, List.set_cons_succ]
        refine takeY 65 (i := 7) (v := ?v7a) rfl rfl (by kernel_rfl) (by kernel_rfl) (by kernel_rfl) (fun _ _ _ h => h) (by kernel_rfl) ?y7a hs0 ?_
        case y7a =>
          intro w' hw'; (try dsimp only at hw'); obtain ⟨e0, e1, e2, e3, e4, e5, e6, e7, e8, e9, e10, e11, e12⟩ := hw'; go_simp; try with_reducible rfl
        simp only [Act.put, List.setIfInBounds_toArray, List.set_cons_zero, List.set_cons_succ]
        refine takeY 66 (i := 8) (v := ?v8a) rfl rfl (by kernel_rfl) (by kernel_rfl) (by kernel_rfl) (fun _ _ _ h => h) (by kernel_rfl) ?y8a hs0 ?_
        case y8a =>
          intro w' hw'; (try dsimp only at hw'); obtain ⟨e0, e1, e2, e3, e4, e5, e6, e7, e8, e9, e10, e11, e12⟩ := hw'; go_simp; try with_reducible rfl
        simp only [Act.put, List.setIfInBounds_toArray, List.set_cons_zero, List.set_cons_succ]
        refine takeY 67 (i := 9) (v := ?v9a) rfl rfl (by kernel_rfl) (by kernel_rfl) (by kernel_rfl) (fun _ _ _ h => h) (by kernel_rfl) ?y9a hs0 ?_
        case y9a =>
          intro w' hw'; (try dsimp only at hw'); obtain ⟨e0, e1, e2, e3, e4, e5, e6, e7, e8, e9, e10, e11, e12⟩ := hw'; go_simp; try with_reducible rfl
        simp only [Act.put, List.setIfInBounds_toArray, List.set_cons_zero, List.set_cons_succ]
        refine takeY 68 (i := 10) (v := ?v10a) rfl rfl (by kernel_rfl) (by kernel_rfl) (by kernel_rfl) (fun _ _ _ h => h) (by kernel_rfl) ?y10a hs0 ?_
        case y10a =>
          intro w' hw'; (try dsimp only at hw'); obtain ⟨e0, e1, e2, e3, e4, e5, e6, e7, e8, e9, e10, e11, e12⟩ := hw'; go_simp; try with_reducible rfl
        simp only [Act.put, List.setIfInBounds_toArray, List.set_cons_zero, List.set_cons_succ]
        refine takeY 69 (i := 11) (v := ?v11a) rfl rfl (by kernel_rfl) (by kernel_rfl) (by kernel_rfl) (fun _ _ _ h => h) (by kernel_rfl) ?y11a hs0 ?_
        case y11a =>
          intro w' hw'; (try dsimp only at hw'); obtain ⟨e0, e1, e2, e3, e4, e5, e6, e7, e8, e9, e10, e11, e12⟩ := hw'; go_simp; try with_reducible rfl
        simp only [Act.put, List.setIfInBounds_toArray, List.set_cons_zero, List.set_cons_succ]
        refine takeY 70 (i := 12) (v := ?v12a) rfl rfl (by kernel_rfl) (by kernel_rfl) (by kernel_rfl) (fun _ _ _ h => h) (by kernel_rfl) ?y12a hs0 ?_
        case y12a =>
          intro w' hw'; (try dsimp only at hw'); obtain ⟨e0, e1, e2, e3, e4, e5, e6, e7, e8, e9, e10, e11, e12⟩ := hw'; go_simp; try with_reducible rfl
        simp only [Act.put, List.setIfInBounds_toArray, List.set_cons_zero, List.set_cons_succ]
        refine takeY 71 (i := 13) (v := ?v13a) rfl rfl (by kernel_rfl) (by kernel_rfl) (by kernel_rfl) (fun _ _ _ h => h) (by kernel_rfl) ?y13a hs0 ?_
        case y13a =>
          intro w' hw'; (try dsimp only at hw'); obtain ⟨e0, e1, e2, e3, e4, e5, e6, e7, e8, e9, e10, e11, e12⟩ := hw'; go_simp; try with_reducible rfl
        simp only [Act.put, List.setIfInBounds_toArray, List.set_cons_zero, List.set_cons_succ]
        refine takeY 72 (i := 14) (v := ?v14a) rfl rfl (by kernel_rfl) (by kernel_rfl) (by kernel_rfl) (fun _ _ _ h => h) (by kernel_rfl) ?y14a hs0 ?_
        case y14a =>
          intro w' hw'; (try dsimp only at hw'); obtain ⟨e0, e1, e2, e3, e4, e5, e6, e7, e8, e9, e10, e11, e12⟩ := hw'; go_simp; try with_reducible rfl
        simp only [Act.put, List.setIfInBounds_toArray, List.set_cons_zero, List.set_cons_succ]
        refine takeY 73 (i := 15) (v := ?v15a) rfl rfl (by kernel_rfl) (by kernel_rfl) (by kernel_rfl) (fun _ _ _ h => h) (by kernel_rfl) ?y15a hs0 ?_
        case y15a =>
          intro w' hw'; (try dsimp only at hw'); obtain ⟨e0, e1, e2, e3, e4, e5, e6, e7, e8, e9, e10, e11, e12⟩ := hw'; go_simp; try with_reducible rfl
        simp only [Act.put, List.setIfInBounds_toArray, List.set_cons_zero, List.set_cons_succ]
        refine wpAnyH_ready (rs := [16]) (by kernel_rfl) (by simp) ?_
        refine AllReadyH.cons rfl (fun K hK => ?_) AllReadyH.nil
        go_simp; go_at_call 78; refine (HC.out _ (Below.refl _ _).drew).mono ?_; rintro e w2 ⟨rfl, hb2⟩; have hb2' : Below wr.heap.size wr w2 := below_on (Below.refl wr.heap.size wr).drew hb2; have HB2 := Lib.hid hb2'; have HO2 := Lib.hid (ownI_below HO.out hb2'); have hs2 : w.heap.size + 2 ≤ w2.heap.size := Nat.le_trans HS2.out hb2'.size; have hb2m : Below (w.heap.size + 2) wr w2 := hb2'.mono HS2.out; clear hb2
        refine hK.out _ _ ⟨hb2m, (hb2m.cell (p := ⟨w.heap.size, 0, none⟩) hws0).trans x_0, (hb2m.cell (p := ⟨w.heap.size, 1, none⟩) hws0).trans x_1, (hb2m.cell (p := ⟨w.heap.size + 1, 0, none⟩) hws1).trans y_0, (hb2m.cell (p := ⟨w.heap.size + 1, 1, none⟩) hws1).trans y_1, (hb2m.cell (p := ⟨b1, off + k * 6, none⟩) hb1r).trans g0, (hb2m.cell (p := ⟨b1, off + k * 6 + 1, none⟩) hb1r).trans g1, (hb2m.cell (p := ⟨b1, off + k * 6 + 2, none⟩) hb1r).trans g2, (hb2m.cell (p := ⟨b1, off + k * 6 + 3, none⟩) hb1r).trans g3, (hb2m.cell (p := ⟨b1, off + k * 6 + 4, none⟩) hb1r).trans g4, (hb2m.cell (p := ⟨b1, off + k * 6 + 5, none⟩) hb1r).trans g5, (hb2m.cell (p := ⟨bx, ox + t.field.toNat, none⟩) hbxr).trans cx0, (hb2m.cell (p := ⟨by', oy + t.field.toNat, none⟩) hbyr).trans cy0⟩ (fun hS1 => ?_)
        clear hK K
        try simp only [Act.put, List.setIfInBounds_toArray, List.set_cons_zero, List.set_cons_succ]
        refine wpAnyH_ready (rs := [17]) (by kernel_rfl) (by simp) ?_
        refine AllReadyH.cons rfl (fun K hK => ?_) AllReadyH.nil
        go_simp; have hb2a : Below (w.heap.size + 2) wr (w2.alloc (.cells #[.int .i64 z] 3)) := hb2m.alloc hs2 _
        refine hK.out _ _ ⟨hb2a, (hb2a.cell (p := ⟨w.heap.size, 0, none⟩) hws0).trans x_0, (hb2a.cell (p := ⟨w.heap.size, 1, none⟩) hws0).trans x_1, (hb2a.cell (p := ⟨w.heap.size + 1, 0, none⟩) hws1).trans y_0, (hb2a.cell (p := ⟨w.heap.size + 1, 1, none⟩) hws1).trans y_1, (hb2a.cell (p := ⟨b1, off + k * 6, none⟩) hb1r).trans g0, (hb2a.cell (p := ⟨b1, off + k * 6 + 1, none⟩) hb1r).trans g1, (hb2a.cell (p := ⟨b1, off + k * 6 + 2, none⟩) hb1r).trans g2, (hb2a.cell (p := ⟨b1, off + k * 6 + 3, none⟩) hb1r).trans g3, (hb2a.cell (p := ⟨b1, off + k * 6 + 4, none⟩) hb1r).trans g4, (hb2a.cell (p := ⟨b1, off + k * 6 + 5, none⟩) hb1r).trans g5, (hb2a.cell (p := ⟨bx, ox + t.field.toNat, none⟩) hbxr).trans cx0, (hb2a.cell (p := ⟨by', oy + t.field.toNat, none⟩) hbyr).trans cy0⟩ (fun hS2 => ?_)
        clear hK K
        try simp only [Act.put, List.setIfInBounds_toArray, List.set_cons_zero, List.set_cons_succ]
        refine wpAnyH_ready (rs := [18]) (by kernel_rfl) (by simp) ?_
        refine AllReadyH.cons rfl (fun K hK => ?_) AllReadyH.nil
        refine stepI w2 (by rfl) (.tmp 58) (.tmp 75) (by rfl) (w.heap.size + 2) _ _ (by rfl) HO2.out _ [z] (by rfl) 1 1 rfl (by rfl) HCap.out hs2 ?_; intro v1 w3 hown3 hb3; have hb3m := hb2m.trans hb3
        refine hK.out _ _ ⟨hb3m, (hb3m.cell (p := ⟨w.heap.size, 0, none⟩) hws0).trans x_0, (hb3m.cell (p := ⟨w.heap.size, 1, none⟩) hws0).trans x_1, (hb3m.cell (p := ⟨w.heap.size + 1, 0, none⟩) hws1).trans y_0, (hb3m.cell (p := ⟨w.heap.size + 1, 1, none⟩) hws1).trans y_1, (hb3m.cell (p := ⟨b1, off + k * 6, none⟩) hb1r).trans g0, (hb3m.cell (p := ⟨b1, off + k * 6 + 1, none⟩) hb1r).trans g1, (hb3m.cell (p := ⟨b1, off + k * 6 + 2, none⟩) hb1r).trans g2, (hb3m.cell (p := ⟨b1, off + k * 6 + 3, none⟩) hb1r).trans g3, (hb3m.cell (p := ⟨b1, off + k * 6 + 4, none⟩) hb1r).trans g4, (hb3m.cell (p := ⟨b1, off + k * 6 + 5, none⟩) hb1r).trans g5, (hb3m.cell (p := ⟨bx, ox + t.field.toNat, none⟩) hbxr).trans cx0, (hb3m.cell (p := ⟨by', oy + t.field.toNat, none⟩) hbyr).trans cy0⟩ (fun hS3 => ?_)
        clear hK K
        try simp only [Act.put, List.setIfInBounds_toArray, List.set_cons_zero, List.set_cons_succ]
        refine takeY 7 (i := 19) (v := ?v19a) rfl rfl (by kernel_rfl) (by kernel_rfl) (by kernel_rfl) (fun _ _ _ h => h) (by kernel_rfl) ?y19a hS3 ?_
        case y19a =>
          intro w' hw'; (try dsimp only at hw'); obtain ⟨e0, e1, e2, e3, e4, e5, e6, e7, e8, e9, e10, e11, e12⟩ := hw'; go_simp; try with_reducible rfl
        simp only [Act.put, List.setIfInBounds_toArray, List.set_cons_zero, List.set_cons_succ]
        refine wpAnyH_done (by kernel_rfl) ?_ _
        clear hs0 hS1 hS2 hS3 hb2a hb2m hb3m hb2' x_0 x_1 y_0 y_1 cx0 cy0 g0 g1 g2 g3 g4 g5
        obtain ⟨LA', Ln', Lc', rfl, hin⟩ := hown3.ints
        have hlen3 : Ln' = m + 1 := by have := hin.1; rw [List.length_append, codes_len, HLen.out] at this; simp at this; omega
        have HO3 := Lib.hid hown3
        have HB3 := Lib.hid (HB2.out.mono HB.out.size)
        have HB4 := Lib.hid (HB.out.trans (HB3.out.trans (hb3.mono (by omega))))
        have HBox3 : Hid (w3.cell? ⟨w.heap.size, 0, none⟩ = some (.int .i64 x.id) ∧ w3.cell? ⟨w.heap.size, 1, none⟩ = some (.slice x.A x.n x.c) ∧ w3.cell? ⟨w.heap.size + 1, 0, none⟩ = some (.int .i64 y.id) ∧ w3.cell? ⟨w.heap.size + 1, 1, none⟩ = some (.slice y.A y.n y.c)) := Lib.hid (by
          have k : ∀ (bb oo : Nat), bb < w.heap.size + 2 → w3.cell? ⟨bb, oo, none⟩ = wr.cell? ⟨bb, oo, none⟩ := fun bb oo h => (hb3.cell (p := ⟨bb, oo, none⟩) h).trans (HB2.out.cell (p := ⟨bb, oo, none⟩) (Nat.lt_of_lt_of_le h HS2.out))
          have := HBox.out
          rw [k _ _ (by omega), k _ _ (by omega), k _ _ (by omega), k _ _ (by omega)]
          exact this)
        have HS3 := Lib.hid (Nat.le_trans hs2 hb3.size)
        clear hown3 hb3 hin
        go_wp2
        go_roundw
        case rel => exact ⟨k + 1, Ln', Lc', LA', .base t.dat :: st, by omega, by go_num, by first | rfl | rw [hlen3], by omega, HS1.out, by simp [HLen.out, hlen3], by rw [HZ.out]; exact HO3.out, HB4.out, HS3.out, HBox3.out⟩
        case measure => simp [intOf]; omega
      · have HS1 : Hid (Stk (datN (ns.take (k + 1))) (.dual a :: s)) := Lib.hid (by rw [HE.out]; exact .dual HSt.out rfl hnw)
        have HCo := Lib.hid (cmpT_code (wishF_code x y) a)
        have HZ : Hid (codes (wishF x y) (.dual a :: s) = codes (wishF x y) s ++ [revC (cmpT (wishF x y) a)]) := Lib.hid (codes_cons _ _ _)
        have hO := HO.out
        rw [codes_cons] at hO
        obtain ⟨j, rfl⟩ : ∃ j, m = j + 1 := ⟨s.length, by have := HLen.out; simp at this; omega⟩
        have hj : (codes (wishF x y) s).length = j := by rw [codes_len]; have := HLen.out; simp at this; omega
        obtain ⟨_, hcc, hcm, g, rfl, hgl, hgs, hcell⟩ := ownI_cells hO (by omega)
        obtain ⟨c1, c2⟩ := hcell j (cmpT (wishF x y) a) (by rw [List.getElem?_append_right (by omega), hj]; simp)
        have HOn := Lib.hid hO
        have HJ := Lib.hid hj
        have HG : Hid (w.heap.size + 2 ≤ g) := Lib.hid hgl
        have hx1 : (j : Int) + 1 - 1 = (j : Int) := by omega
        have hj1 : (j : Int) < (j : Int) + 1 := by omega
        have hj2 : j ≤ 9 := by omega
        clear hO hj hcell hnw hbox hcm
        generalize cmpT (wishF x y) a = z at *
        rcases HCo.out with rfl | rfl | rfl | rfl
        · have HO3 : Hid (OwnI (wr.setCell ⟨g, j, none⟩ (.int .i64 (1))) (w.heap.size + 2) (.slice (some ⟨g, 0, none⟩) (j + 1) cc) (codes (wishF x y) (.dual a :: s))) := Lib.hid (by
            rw [HZ.out, ← HJ.out]
            have h := ownI_setlast HOn.out (1)
            rw [HJ.out] at h ⊢
            exact h)
          go_wp2
          go_roundw
          case rel => exact ⟨k + 1, j + 1, cc, _, .dual a :: s, by omega, by go_num, rfl, by omega, HS1.out, by have := HLen.out; simpa using this, HO3.out, HB.out.setCell (by show w.heap.size ≤ g; omega) _, by simpa using HS2.out, by
            have h := HBox.out
            refine ⟨?_, ?_, ?_, ?_⟩
            · rw [World.cell?_setCell_other _ _ _ _ (fun e => by injection e; omega)]; exact h.1
            · rw [World.cell?_setCell_other _ _ _ _ (fun e => by injection e; omega)]; exact h.2.1
            · rw [World.cell?_setCell_other _ _ _ _ (fun e => by injection e; omega)]; exact h.2.2.1
            · rw [World.cell?_setCell_other _ _ _ _ (fun e => by injection e; omega)]; exact h.2.2.2⟩
          case measure => simp [intOf]; omega
        · have HO3 : Hid (OwnI (wr.setCell ⟨g, j, none⟩ (.int .i64 (0))) (w.heap.size + 2) (.slice (some ⟨g, 0, none⟩) (j + 1) cc) (codes (wishF x y) (.dual a :: s))) := Lib.hid (by
            rw [HZ.out, ← HJ.out]
            have h := ownI_setlast HOn.out (0)
            rw [HJ.out] at h ⊢
            exact h)
          go_wp2
          go_roundw
          case rel => exact ⟨k + 1, j + 1, cc, _, .dual a :: s, by omega, by go_num, rfl, by omega, HS1.out, by have := HLen.out; simpa using this, HO3.out, HB.out.setCell (by show w.heap.size ≤ g; omega) _, by simpa using HS2.out, by
            have h := HBox.out
            refine ⟨?_, ?_, ?_, ?_⟩
            · rw [World.cell?_setCell_other _ _ _ _ (fun e => by injection e; omega)]; exact h.1
            · rw [World.cell?_setCell_other _ _ _ _ (fun e => by injection e; omega)]; exact h.2.1
            · rw [World.cell?_setCell_other _ _ _ _ (fun e => by injection e; omega)]; exact h.2.2.1
            · rw [World.cell?_setCell_other _ _ _ _ (fun e => by injection e; omega)]; exact h.2.2.2⟩
          case measure => simp [intOf]; omega
        · have HO3 : Hid (OwnI (wr.setCell ⟨g, j, none⟩ (.int .i64 (-1))) (w.heap.size + 2) (.slice (some ⟨g, 0, none⟩) (j + 1) cc) (codes (wishF x y) (.dual a :: s))) := Lib.hid (by
            rw [HZ.out, ← HJ.out]
            have h := ownI_setlast HOn.out (-1)
            rw [HJ.out] at h ⊢
            exact h)
          go_wp2
          go_roundw
          case rel => exact ⟨k + 1, j + 1, cc, _, .dual a :: s, by omega, by go_num, rfl, by omega, HS1.out, by have := HLen.out; simpa using this, HO3.out, HB.out.setCell (by show w.heap.size ≤ g; omega) _, by simpa using HS2.out, by
            have h := HBox.out
            refine ⟨?_, ?_, ?_, ?_⟩
            · rw [World.cell?_setCell_other _ _ _ _ (fun e => by injection e; omega)]; exact h.1
            · rw [World.cell?_setCell_other _ _ _ _ (fun e => by injection e; omega)]; exact h.2.1
            · rw [World.cell?_setCell_other _ _ _ _ (fun e => by injection e; omega)]; exact h.2.2.1
            · rw [World.cell?_setCell_other _ _ _ _ (fun e => by injection e; omega)]; exact h.2.2.2⟩
          case measure => simp [intOf]; omega
        · have HO3 : Hid (OwnI wr (w.heap.size + 2) (.slice (some ⟨g, 0, none⟩) (j + 1) cc) (codes (wishF x y) (.dual a :: s))) := Lib.hid (by rw [HZ.out]; exact HOn.out)
          go_wp2
          go_roundw
          case rel => exact ⟨k + 1, j + 1, cc, _, .dual a :: s, by omega, by go_num, rfl, by omega, HS1.out, by have := HLen.out; simpa using this, HO3.out, HB.out, HS2.out, HBox.out⟩
          case measure => simp [intOf]; omega
      · have HS1 : Hid (Stk (datN (ns.take (k + 1))) (.bin op a b :: s)) := Lib.hid (by rw [HE.out]; exact .bin HSt.out hbin hnw)
        have HCa := Lib.hid (cmpT_code (wishF_code x y) a)
        have HCb := Lib.hid (cmpT_code (wishF_code x y) b)
        have HBin := Lib.hid hbin
        have HZ : Hid (codes (wishF x y) (.bin op a b :: s) = codes (wishF x y) s ++ [opC op (cmpT (wishF x y) a) (cmpT (wishF x y) b)]) := Lib.hid (codes_cons _ _ _)
        have hO := HO.out
        rw [codes_cons, codes_cons, List.append_assoc] at hO
        obtain ⟨j, rfl⟩ : ∃ j, m = j + 2 := ⟨s.length, by have := HLen.out; simp at this; omega⟩
        have hj : (codes (wishF x y) s).length = j := by rw [codes_len]; have := HLen.out; simp at this; omega
        obtain ⟨_, hcc, hcm, g, rfl, hgl, hgs, hcell⟩ := ownI_cells hO (by omega)
        obtain ⟨c1, -⟩ := hcell j (cmpT (wishF x y) a) (by rw [List.getElem?_append_right (by omega), hj]; simp)
        obtain ⟨c2, -⟩ := hcell (j + 1) (cmpT (wishF x y) b) (by rw [List.getElem?_append_right (by omega), hj, show j + 1 - j = 1 by omega]; rfl)
        have HTk : Hid (OwnI wr (w.heap.size + 2) (.slice (some ⟨g, 0, none⟩) j cc) (codes (wishF x y) s)) := Lib.hid (by
          have h := ownI_take hO (k := j) (by omega)
          rwa [List.take_left' hj] at h)
        have HJ := Lib.hid hj
        have HG : Hid (w.heap.size + 2 ≤ g) := Lib.hid hgl
        have hx1 : (j : Int) + 2 - 1 = (j : Int) + 1 := by omega
        have hx2 : (j : Int) + 2 - 2 = (j : Int) := by omega
        have hj1 : (j : Int) < (j : Int) + 2 := by omega
        have hj3 : (j : Int) + 1 < (j : Int) + 2 := by omega
        have hj4 : (j : Int) ≤ (cc : Int) := by omega
        have hj5 : (0 : Int) ≤ (j : Int) + 1 := by omega
        have hj6 : ((j : Int) + 1).toNat = j + 1 := by omega
        have hj7 : ¬ ((j : Int) + 1 < 0) := by omega
        have hj2 : j ≤ 9 := by omega
        have hwj : IntKind.i64.wrap (j : Int) = (j : Int) := IntWalk.i64_in _ ⟨by omega, by omega⟩
        have hwj1 : IntKind.i64.wrap ((j : Int) + 1) = (j : Int) + 1 := IntWalk.i64_in _ ⟨by omega, by omega⟩
        have hc9 : cc ≤ 9223372036854775807 := by unfold maxLen at hcm; omega
        have f0 : (op == 0) = false := by have := (bin_ne hbin).1; simpa using this
        have f3 : (op == 3) = false := by have := (bin_ne hbin).2; simpa using this
        clear hO hj hcell hnw hbox hcm hbin
        generalize cmpT (wishF x y) a = za at *
        generalize cmpT (wishF x y) b = zb at *
        have HCl : Hid (∀ w1, Calls Tryz.prog 79 #[.int .i64 op, .int .i64 za, .int .i64 zb] w1 fun e w' => e = .returned (.int .i64 (opC op za zb)) ∧ w' = w1) := Lib.hid fun w1 => sOp w1 op za zb HBin.out HCa.out HCb.out
        generalize opC op za zb = z at *
        have HCap : Hid (((codes (wishF x y) s).length + [z].length) * 8 ≤ 140737488355328) := Lib.hid (by rw [HJ.out]; simp; omega)
        go_wp2
        go_still_tail 15, (by kernel_rfl)
        change wpList _ _ _ _ _ wr.drew
        generalize hw1 : wr.drew = w1 at *
        have HB1 : Hid (Below wr.heap.size wr w1) := Lib.hid (hw1 ▸ (Below.refl _ _).drew)
        clear c1 c2 g0 g1 g2 g3 g4 g5 hw1
        go_wp2_with fail
        refine (HCl.out _).mono ?_
        rintro e w2 ⟨rfl, rfl⟩
        have HO2 := Lib.hid (ownI_below HTk.out HB1.out)
        have hs2 : w.heap.size + 2 ≤ w2.heap.size := Nat.le_trans HS2.out HB1.out.size
        go_wp2_with (at_builtin; refine wp_appI _ (by rfl) (.tmp 46) (.tmp 48) (by rfl) (w.heap.size + 2) _ _ (by rfl) HO2.out _ [z] (by rfl) 1 1 rfl (by rfl) HCap.out hs2 ?_)
        intro v1 w3 hown3 hb3
        obtain ⟨LA', Ln', Lc', rfl, hin⟩ := hown3.ints
        have hlen3 : Ln' = j + 1 := by have := hin.1; rw [List.length_append, HJ.out] at this; simp at this; omega
        have HO3 := Lib.hid hown3
        have HB3 := Lib.hid (HB1.out.mono HB.out.size)
        have HB4 := Lib.hid (HB.out.trans (HB3.out.trans (hb3.mono (by omega))))
        have HBox3 : Hid (w3.cell? ⟨w.heap.size, 0, none⟩ = some (.int .i64 x.id) ∧ w3.cell? ⟨w.heap.size, 1, none⟩ = some (.slice x.A x.n x.c) ∧ w3.cell? ⟨w.heap.size + 1, 0, none⟩ = some (.int .i64 y.id) ∧ w3.cell? ⟨w.heap.size + 1, 1, none⟩ = some (.slice y.A y.n y.c)) := Lib.hid (by
          have k : ∀ (bb oo : Nat), bb < w.heap.size + 2 → w3.cell? ⟨bb, oo, none⟩ = wr.cell? ⟨bb, oo, none⟩ := fun bb oo h => (hb3.cell (p := ⟨bb, oo, none⟩) h).trans (HB1.out.cell (p := ⟨bb, oo, none⟩) (Nat.lt_of_lt_of_le h HS2.out))
          have := HBox.out
          rw [k _ _ (by omega), k _ _ (by omega), k _ _ (by omega), k _ _ (by omega)]
          exact this)
        have HS3 := Lib.hid (Nat.le_trans hs2 hb3.size)
        clear hown3 hb3 hin
        go_wp2
        go_roundw
        case rel => exact ⟨k + 1, Ln', Lc', LA', .bin op a b :: s, by omega, by go_num, by first | rfl | rw [hlen3], by omega, HS1.out, by have := HLen.out; simp at this ⊢; omega, by rw [HZ.out]; exact HO3.out, HB4.out, HS3.out, HBox3.out⟩
        case measure => simp [intOf]; omega
    · obtain rfl : k = n := by omega
      have hst := HSt.out
      rw [ptake_all HX.out.len] at hst
      obtain rfl : st = [t] := hst.one HPo.out
      have hO := HO.out
      rw [codes_cons] at hO
      obtain rfl : m = 1 := by have := HLen.out; simp at this; omega
      obtain ⟨_, hcc, hcm, g, rfl, hgl, hgs, hcell⟩ := ownI_cells hO (by omega)
      obtain ⟨c1, -⟩ := hcell 0 (cmpT (wishF x y) t) rfl
      clear hO hst hcell hbel hbox
      go_wp2
      go_ret
      exact ⟨rfl, HB.out⟩
end Go.Proofs.YtaijajajpnekbaaGreat.num
namespace Go.Proofs.YtaijajajpnekbaaGreat.num
set_option maxRecDepth 20000
open Go.RowKit
set_option linter.unusedVariables false
set_option linter.unusedSimpArgs false

/-- What CompareBy answers. -/
def CmpE (nds : List ND) (x y : It) (z : Int) : Prop := (∃ t, IsE nds ∧ Post nds t ∧ IsP x.dat ∧ IsP y.dat ∧ z = cmpT (wishF x y) t) ∨ (¬ (IsE nds ∧ IsP x.dat ∧ IsP y.dat) ∧ z = 2)
theorem CmpE.some (nds : List ND) (x y : It) : ∃ z, CmpE nds x y z := by
  by_cases h : IsE nds ∧ IsP x.dat ∧ IsP y.dat
  · obtain ⟨h1, h2, h3⟩ := h
    obtain ⟨_, t, ht⟩ := id h1
    exact ⟨_, .inl ⟨t, h1, ht, h2, h3, rfl⟩⟩
  · exact ⟨2, .inr ⟨h, rfl⟩⟩
theorem CmpE.to {nds nds' : List ND} {x y x' y' : It} {z : Int} (h : CmpE nds x y z) (hn : nds' = nds) (hx : x'.dat = x.dat) (hy : y'.dat = y.dat) : CmpE nds' x' y' z := by
  subst hn
  unfold CmpE at *
  rw [wishF_dat hx hy, hx, hy]
  exact h
theorem CmpE.code {nds : List ND} {x y : It} {z : Int} (h : CmpE nds x y z) : Code z := by
  rcases h with ⟨t, _, _, _, _, rfl⟩ | ⟨_, rfl⟩
  · exact cmpT_code (wishF_code x y) t
  · exact .inr (.inr (.inr rfl))

/-- The pointer to an expression's tree, nil if the expression is not valid. -/
def TreeV (w : World) (B lo : Nat) (nds : List ND) (v : Value) : Prop :=
  (IsE nds ∧ ∃ t p, Post nds t ∧ v = .pointer (some ⟨p, 0, none⟩) ∧ PartAt w B lo t p) ∨ (¬ IsE nds ∧ v = .pointer none)
theorem TreeV.below {w w' : World} {B lo : Nat} {nds : List ND} {v : Value} (h : TreeV w B lo nds v) (hB : B ≤ w.heap.size) (hb : Below w.heap.size w w') : TreeV w' B lo nds v := by
  rcases h with ⟨h, t, p, h1, h2, h3⟩ | h
  · exact .inl ⟨h, t, p, h1, h2, h3.below hB hb⟩
  · exact .inr h
theorem TreeOut.v {w : World} {B lo : Nat} {nds : List ND} {e : Ending} (h : TreeOut B lo nds e w) : ∃ v, e = .returned v ∧ TreeV w B lo nds v := by
  rcases h with ⟨h, t, p, h1, rfl, h3⟩ | ⟨h, rfl⟩
  · exact ⟨_, rfl, .inl ⟨h, t, p, h1, rfl, h3⟩⟩
  · exact ⟨_, rfl, .inr ⟨h, rfl⟩⟩
set_option maxRecDepth 20000 in
set_option maxHeartbeats 1600000 in
theorem iByTree (w : World) (B lo : Nat) (nds : List ND) (v : Value) (x y : It) (hv : TreeV w B lo nds v) (hix : Ints w B x.A x.n x.xs) (hiy : Ints w B y.A y.n y.xs) (hB : B ≤ w.heap.size) (z : Int) (hz : CmpE nds x y z) :
    Calls Tryz.prog 34 #[v, x.val, y.val] w fun e w' => e = .returned (.int .i64 z) ∧ Below w.heap.size w w' := by
  obtain ⟨qx, hqx⟩ := bool_of (IsP x.dat)
  obtain ⟨qy, hqy⟩ := bool_of (IsP y.dat)
  have HQx := Lib.hid hqx
  have HQy := Lib.hid hqy
  have HIx : Hid (∀ w1, Below w.heap.size w w1 → Calls Tryz.prog 56 #[.agg #[.int .i64 x.id, .slice x.A x.n x.c]] w1 fun e w' => e = .returned (.bool qx) ∧ Below w1.heap.size w1 w') := Lib.hid fun w1 h => iIsItem w1 B x (hix.below (h.mono hB)) (Nat.le_trans hB h.size) qx hqx
  have HIy : Hid (∀ w1, Below w.heap.size w w1 → Calls Tryz.prog 56 #[.agg #[.int .i64 y.id, .slice y.A y.n y.c]] w1 fun e w' => e = .returned (.bool qy) ∧ Below w1.heap.size w1 w') := Lib.hid fun w1 h => iIsItem w1 B y (hiy.below (h.mono hB)) (Nat.le_trans hB h.size) qy hqy
  have HCm : Hid (∀ w1 lo t p, IsP x.dat → IsP y.dat → Below w.heap.size w w1 → PartAt w1 B lo t p → Calls Tryz.prog 57 #[.pointer (some ⟨p, 0, none⟩), .agg #[.int .i64 x.id, .slice x.A x.n x.c], .agg #[.int .i64 y.id, .slice y.A y.n y.c]] w1 fun e w' => e = .returned (.int .i64 (cmpT (wishF x y) t)) ∧ Below w1.heap.size w1 w') := Lib.hid fun w1 lo t p hpx hpy h hp => iCompare B lo x y hpx hpy t p w1 hp (Nat.le_trans hB h.size) (hix.below (h.mono hB)) (hiy.below (h.mono hB))
  have HNo : Hid (¬ (IsE nds ∧ IsP x.dat ∧ IsP y.dat) → z = 2) := Lib.hid fun h => by
    rcases hz with ⟨t, h1, _, h2, h3, _⟩ | ⟨_, h1⟩
    · exact absurd ⟨h1, h2, h3⟩ h
    · exact h1
  have HYes : Hid (∀ t, IsE nds → IsP x.dat → IsP y.dat → Post nds t → cmpT (wishF x y) t = z) := Lib.hid fun t h1 h2 h3 h4 => by
    rcases hz with ⟨t', _, h4', _, _, e⟩ | ⟨h, _⟩
    · rw [h4.one h4', e]
    · exact absurd ⟨h1, h2, h3⟩ h
  have hvx : x.val = .agg #[.int .i64 x.id, .slice x.A x.n x.c] := rfl
  have hvy : y.val = .agg #[.int .i64 y.id, .slice y.A y.n y.c] := rfl
  rw [hvx, hvy]
  have Xx_0 := Lib.hid ((Box2.new w x 62).alloc (.cells #[.int .i64 y.id, .slice y.A y.n y.c] 62))
  have Xy_0 : Hid (Box2 ((w.alloc (.cells #[.int .i64 x.id, .slice x.A x.n x.c] 62)).alloc (.cells #[.int .i64 y.id, .slice y.A y.n y.c] 62)) (w.heap.size + 1) y) := Lib.hid (by have h := Box2.new (w.alloc (.cells #[.int .i64 x.id, .slice x.A x.n x.c] 62)) y 62; simpa only [World.size_alloc] using h)
  have HB0 : Hid (Below w.heap.size w ((w.alloc (.cells #[.int .i64 x.id, .slice x.A x.n x.c] 62)).alloc (.cells #[.int .i64 y.id, .slice y.A y.n y.c] 62))) := Lib.hid (((Below.refl _ w).alloc (Nat.le_refl _) _).alloc (by simp) _)
  clear hvx hvy hix hiy hqx hqy hz
  rcases hv with ⟨hE, t, p, hpost, rfl, hpa⟩ | ⟨hE, rfl⟩
  · have HE := Lib.hid hE
    have HPo := Lib.hid hpost
    have HPa_0 := Lib.hid (hpa.below hB ((Below.refl _ w).alloc (Nat.le_refl _) (.cells #[.int .i64 x.id, .slice x.A x.n x.c] 62) |>.alloc (by simp) (.cells #[.int .i64 y.id, .slice y.A y.n y.c] 62)))
    clear hE hpost hpa
    obtain ⟨x_g, x_0, x_1⟩ := Xx_0.out
    obtain ⟨y_g, y_0, y_1⟩ := Xy_0.out
    go_enter Tryz.func34, Tryz.ntmps34
    go_wp2_with fail
    refine (HIx.out _ HB0.out).mono ?_
    rintro e w1 ⟨rfl, hb1⟩
    have HB1 := Lib.hid (below_on HB0.out hb1)
    have Xx_1 := Lib.hid (Xx_0.out.below hb1)
    have Xy_1 := Lib.hid (Xy_0.out.below hb1)
    have HPa_1 := Lib.hid (HPa_0.out.below (Nat.le_trans hB HB0.out.size) hb1)
    clear x_g x_0 x_1 y_g y_0 y_1
    clear hb1
    obtain ⟨x_g, x_0, x_1⟩ := Xx_1.out
    obtain ⟨y_g, y_0, y_1⟩ := Xy_1.out
    cases qx
    · obtain rfl := HNo.out fun h => by have := HQx.out.2 h.2.1; cases this
      go_wp2
      go_ret
      exact ⟨rfl, HB1.out⟩
    go_wp2_with fail
    refine (HIy.out _ HB1.out).mono ?_
    rintro e w2 ⟨rfl, hb2⟩
    have HB2 := Lib.hid (below_on HB1.out hb2)
    have Xx_2 := Lib.hid (Xx_1.out.below hb2)
    have Xy_2 := Lib.hid (Xy_1.out.below hb2)
    have HPa_2 := Lib.hid (HPa_1.out.below (Nat.le_trans hB HB1.out.size) hb2)
    clear x_g x_0 x_1 y_g y_0 y_1
    clear hb2
    obtain ⟨x_g, x_0, x_1⟩ := Xx_2.out
    obtain ⟨y_g, y_0, y_1⟩ := Xy_2.out
    cases qy
    · obtain rfl := HNo.out fun h => by have := HQy.out.2 h.2.2; cases this
      go_wp2
      go_ret
      exact ⟨rfl, HB2.out⟩
    go_wp2_with fail
    refine (HCm.out _ _ _ _ (HQx.out.1 (by first | rfl | trivial)) (HQy.out.1 (by first | rfl | trivial)) HB2.out HPa_2.out).mono ?_
    rintro e w3 ⟨rfl, hb3⟩
    have HB3 := Lib.hid (below_on HB2.out hb3)
    rw [HYes.out t HE.out (HQx.out.1 (by first | rfl | trivial)) (HQy.out.1 (by first | rfl | trivial)) HPo.out]
    clear x_g x_0 x_1 y_g y_0 y_1
    clear hb3
    go_wp2
    go_ret
    exact ⟨rfl, HB3.out⟩
  · obtain rfl := HNo.out fun h => hE h.1
    clear hE
    obtain ⟨x_g, x_0, x_1⟩ := Xx_0.out
    obtain ⟨y_g, y_0, y_1⟩ := Xy_0.out
    go_enter Tryz.func34, Tryz.ntmps34
    go_wp2
    go_ret
    exact ⟨rfl, HB0.out⟩
set_option maxRecDepth 20000 in
set_option maxHeartbeats 1600000 in
theorem sCompareBy (w : World) (B : Nat) (A : Option Addr) (n c : Nat) (ns : List Nd) (x y : It) (hi : Nodes w B A n ns) (hix : Ints w B x.A x.n x.xs) (hiy : Ints w B y.A y.n y.xs) (hB : B ≤ w.heap.size) (hn : n ≤ 1048576) (hN : ShortN ns) (nx : x.n ≤ 1048576) (ny : y.n ≤ 1048576) (z : Int) (hz : CmpE (datN ns) x y z) :
    Calls Tryz.prog 37 #[.slice A n c, x.val, y.val] w fun e w' => e = .returned (.int .i64 z) ∧ Below w.heap.size w w' := by
  obtain ⟨qx, hqx⟩ := bool_of (IsP x.dat)
  obtain ⟨qy, hqy⟩ := bool_of (IsP y.dat)
  have HQx := Lib.hid hqx
  have HQy := Lib.hid hqy
  obtain ⟨qe, hqe⟩ := bool_of (IsE (datN ns))
  have HQe := Lib.hid hqe
  have HC : Hid (∀ w1, Below w.heap.size w w1 → Calls Tryz.prog 15 #[.slice A n c] w1 fun e w' => e = .returned (.bool qe) ∧ Below w1.heap.size w1 w') := Lib.hid fun w1 h => sIsE w1 B A n c ns (hi.below (h.mono hB)) (Nat.le_trans hB h.size) hn hN qe hqe
  have HIx : Hid (∀ w1, Below w.heap.size w w1 → Calls Tryz.prog 60 #[.agg #[.int .i64 x.id, .slice x.A x.n x.c]] w1 fun e w' => e = .returned (.bool qx) ∧ Below w1.heap.size w1 w') := Lib.hid fun w1 h => sIsItem w1 B x (hix.below (h.mono hB)) (Nat.le_trans hB h.size) nx qx hqx
  have HIy : Hid (∀ w1, Below w.heap.size w w1 → Calls Tryz.prog 60 #[.agg #[.int .i64 y.id, .slice y.A y.n y.c]] w1 fun e w' => e = .returned (.bool qy) ∧ Below w1.heap.size w1 w') := Lib.hid fun w1 h => sIsItem w1 B y (hiy.below (h.mono hB)) (Nat.le_trans hB h.size) ny qy hqy
  have HCm : Hid (∀ w1 t, IsE (datN ns) → Post (datN ns) t → IsP x.dat → IsP y.dat → Below w.heap.size w w1 → Calls Tryz.prog 61 #[.slice A n c, .agg #[.int .i64 x.id, .slice x.A x.n x.c], .agg #[.int .i64 y.id, .slice y.A y.n y.c]] w1 fun e w' => e = .returned (.int .i64 (cmpT (wishF x y) t)) ∧ Below w1.heap.size w1 w') := Lib.hid fun w1 t he hp hpx hpy h => sCompare w1 B A n c ns x y (hi.below (h.mono hB)) (hix.below (h.mono hB)) (hiy.below (h.mono hB)) (Nat.le_trans hB h.size) hN hpx hpy t hp (by have := he.1; unfold datN at this; rw [List.length_map, hi.len] at this; exact this)
  have HNo : Hid (¬ (IsE (datN ns) ∧ IsP x.dat ∧ IsP y.dat) → z = 2) := Lib.hid fun h => by
    rcases hz with ⟨t, h1, _, h2, h3, _⟩ | ⟨_, h1⟩
    · exact absurd ⟨h1, h2, h3⟩ h
    · exact h1
  have HYes : Hid (∀ t, IsE (datN ns) → IsP x.dat → IsP y.dat → Post (datN ns) t → cmpT (wishF x y) t = z) := Lib.hid fun t h1 h2 h3 h4 => by
    rcases hz with ⟨t', _, h4', _, _, e⟩ | ⟨h, _⟩
    · rw [h4.one h4', e]
    · exact absurd ⟨h1, h2, h3⟩ h
  have hvx : x.val = .agg #[.int .i64 x.id, .slice x.A x.n x.c] := rfl
  have hvy : y.val = .agg #[.int .i64 y.id, .slice y.A y.n y.c] := rfl
  rw [hvx, hvy]
  clear hvx hvy hi hix hiy hN hqx hqy hz nx ny hqe
  have Xx_0 := Lib.hid ((Box2.new w x 62).alloc (.cells #[.int .i64 y.id, .slice y.A y.n y.c] 62))
  have Xy_0 : Hid (Box2 ((w.alloc (.cells #[.int .i64 x.id, .slice x.A x.n x.c] 62)).alloc (.cells #[.int .i64 y.id, .slice y.A y.n y.c] 62)) (w.heap.size + 1) y) := Lib.hid (by have h := Box2.new (w.alloc (.cells #[.int .i64 x.id, .slice x.A x.n x.c] 62)) y 62; simpa only [World.size_alloc] using h)
  have HB0 : Hid (Below w.heap.size w ((w.alloc (.cells #[.int .i64 x.id, .slice x.A x.n x.c] 62)).alloc (.cells #[.int .i64 y.id, .slice y.A y.n y.c] 62))) := Lib.hid (((Below.refl _ w).alloc (Nat.le_refl _) _).alloc (by simp) _)
  go_enter Tryz.func37, Tryz.ntmps37
  go_wp2_with fail
  refine (HC.out _ HB0.out).mono ?_
  rintro e w1 ⟨rfl, hb1⟩
  have HB1 := Lib.hid (below_on HB0.out hb1)
  have Xx_1 := Lib.hid (Xx_0.out.below hb1)
  have Xy_1 := Lib.hid (Xy_0.out.below hb1)
  clear hb1
  cases qe
  · obtain rfl := HNo.out fun h => by have := HQe.out.2 h.1; cases this
    obtain ⟨x_g, x_0, x_1⟩ := Xx_1.out
    obtain ⟨y_g, y_0, y_1⟩ := Xy_1.out
    go_wp2
    go_ret
    exact ⟨rfl, HB1.out⟩
  · obtain ⟨x_g, x_0, x_1⟩ := Xx_1.out
    obtain ⟨y_g, y_0, y_1⟩ := Xy_1.out
    go_wp2_with fail
    refine (HIx.out _ HB1.out).mono ?_
    rintro e w2 ⟨rfl, hb2⟩
    have HB2 := Lib.hid (below_on HB1.out hb2)
    have Xx_2 := Lib.hid (Xx_1.out.below hb2)
    have Xy_2 := Lib.hid (Xy_1.out.below hb2)
    clear x_g x_0 x_1 y_g y_0 y_1
    clear hb2
    obtain ⟨x_g, x_0, x_1⟩ := Xx_2.out
    obtain ⟨y_g, y_0, y_1⟩ := Xy_2.out
    cases qx
    · obtain rfl := HNo.out fun h => by have := HQx.out.2 h.2.1; cases this
      go_wp2
      go_ret
      exact ⟨rfl, HB2.out⟩
    go_wp2_with fail
    refine (HIy.out _ HB2.out).mono ?_
    rintro e w3 ⟨rfl, hb3⟩
    have HB3 := Lib.hid (below_on HB2.out hb3)
    have Xx_3 := Lib.hid (Xx_2.out.below hb3)
    have Xy_3 := Lib.hid (Xy_2.out.below hb3)
    clear x_g x_0 x_1 y_g y_0 y_1
    clear hb3
    obtain ⟨x_g, x_0, x_1⟩ := Xx_3.out
    obtain ⟨y_g, y_0, y_1⟩ := Xy_3.out
    cases qy
    · obtain rfl := HNo.out fun h => by have := HQy.out.2 h.2.2; cases this
      go_wp2
      go_ret
      exact ⟨rfl, HB3.out⟩
    obtain ⟨t, ht⟩ := (HQe.out.1 (by first | rfl | trivial)).2
    have HPo := Lib.hid ht
    clear ht
    go_wp2_with fail
    refine (HCm.out _ t (HQe.out.1 (by first | rfl | trivial)) HPo.out (HQx.out.1 (by first | rfl | trivial)) (HQy.out.1 (by first | rfl | trivial)) HB3.out).mono ?_
    rintro e w4 ⟨rfl, hb4⟩
    have HB4 := Lib.hid (below_on HB3.out hb4)
    rw [HYes.out t (HQe.out.1 (by first | rfl | trivial)) (HQx.out.1 (by first | rfl | trivial)) (HQy.out.1 (by first | rfl | trivial)) HPo.out]
    clear x_g x_0 x_1 y_g y_0 y_1
    clear hb4
    go_wp2
    go_ret
    exact ⟨rfl, HB4.out⟩
end Go.Proofs.YtaijajajpnekbaaGreat.num
namespace Go.Proofs.YtaijajajpnekbaaGreat.num
set_option maxRecDepth 20000
open Go.RowKit Go.Maps
set_option linter.unusedVariables false
set_option linter.unusedSimpArgs false

theorem CmpE.one {nds : List ND} {x y : It} {z z' : Int} (h : CmpE nds x y z) (h' : CmpE nds x y z') : z = z' := by
  rcases h with ⟨t, h1, h2, h3, h4, rfl⟩ | ⟨hn, rfl⟩
  · rcases h' with ⟨t', _, h2', _, _, rfl⟩ | ⟨hn, _⟩
    · rw [h2.one h2']
    · exact absurd ⟨h1, h3, h4⟩ hn
  · rcases h' with ⟨t', h1, _, h3, h4, _⟩ | ⟨_, rfl⟩
    · exact absurd ⟨h1, h3, h4⟩ hn
    · rfl
/-- Both expressions compare the items alike. -/
def AgP (nd1 nd2 : List ND) (x y : It) : Prop := ∀ z1 z2, CmpE nd1 x y z1 → CmpE nd2 x y z2 → z1 = z2
def AgreeP (nd1 nd2 : List ND) (its : List It) : Prop := ∀ x ∈ its, ∀ y ∈ its, AgP nd1 nd2 x y
theorem AgP.to {nd1 nd2 : List ND} {x y x' y' : It} (h : AgP nd1 nd2 x y) (hx : x'.dat = x.dat) (hy : y'.dat = y.dat) : AgP nd1 nd2 x' y' := fun z1 z2 h1 h2 => h z1 z2 (h1.to rfl hx.symm hy.symm) (h2.to rfl hx.symm hy.symm)
theorem AgreeP.to {nd1 nd2 : List ND} {l l' : List It} (h : AgreeP nd1 nd2 l) (hd : l'.map It.dat = l.map It.dat) : AgreeP nd1 nd2 l' := by
  have key : ∀ x ∈ l', ∃ y ∈ l, x.dat = y.dat := fun x hx => by
    have h1 : x.dat ∈ l.map It.dat := hd ▸ List.mem_map_of_mem hx
    obtain ⟨y, hy, e⟩ := List.mem_map.1 h1
    exact ⟨y, hy, e.symm⟩
  intro x hx y hy
  obtain ⟨x1, hx1, e1⟩ := key x hx
  obtain ⟨y1, hy1, e2⟩ := key y hy
  exact (h x1 hx1 y1 hy1).to e1 e2
theorem AgP.no {nd1 nd2 : List ND} {x y : It} {z1 z2 : Int} (h1 : CmpE nd1 x y z1) (h2 : CmpE nd2 x y z2) (hne : z1 ≠ z2) : ¬ AgP nd1 nd2 x y := fun h => hne (h z1 z2 h1 h2)
theorem AgP.yes {nd1 nd2 : List ND} {x y : It} {z1 z2 : Int} (h1 : CmpE nd1 x y z1) (h2 : CmpE nd2 x y z2) (he : z1 = z2) : AgP nd1 nd2 x y := fun u1 u2 g1 g2 => by rw [g1.one h1, g2.one h2, he]
theorem take_in {α : Type} {l : List α} {k : Nat} {t : α} {P : α → Prop} (hat : l[k]? = some t) (h : ∀ u ∈ l.take k, P u) (ht : P t) : ∀ u ∈ l.take (k + 1), P u := fun u hu => by
  rw [take_at hat] at hu
  rcases List.mem_append.1 hu with hu | hu
  · exact h u hu
  · rw [List.mem_singleton.1 hu]; exact ht
set_option maxRecDepth 20000 in
set_option maxHeartbeats 3200000 in
theorem iAgree (w : World) (B : Nat) (A1 A2 A : Option Addr) (n1 n2 n c1 c2 c : Nat) (ns1 ns2 : List Nd) (its : List It) (h1 : Nodes w B A1 n1 ns1) (h2 : Nodes w B A2 n2 ns2) (hi : Items w B A n its) (hB : B ≤ w.heap.size) (hnc1 : n1 ≤ c1) (hc1 : c1 ≤ 9223372036854775807) (hnc2 : n2 ≤ c2) (hc2 : c2 ≤ 9223372036854775807) (hN1 : ShortN ns1) (hN2 : ShortN ns2) (hn : n ≤ 1048576) (q : Bool) (hq : q = true ↔ AgreeP (datN ns1) (datN ns2) its) :
    Calls Tryz.prog 11 #[.slice A1 n1 c1, .slice A2 n2 c2, .slice A n c] w fun e w' => e = .returned (.bool q) ∧ Below w.heap.size w w' := by
  have HT1 : Hid (∀ w1, Below w.heap.size w w1 → Calls Tryz.prog 33 #[.slice A1 n1 c1] w1 fun e w' => TreeOut B w1.heap.size (datN ns1) e w' ∧ Below w1.heap.size w1 w') := Lib.hid fun w1 h => iTreeOfW w1 B A1 n1 c1 ns1 (h1.below (h.mono hB)) (Nat.le_trans hB h.size) hnc1 hc1 hN1
  have HT2 : Hid (∀ w1, Below w.heap.size w w1 → Calls Tryz.prog 33 #[.slice A2 n2 c2] w1 fun e w' => TreeOut B w1.heap.size (datN ns2) e w' ∧ Below w1.heap.size w1 w') := Lib.hid fun w1 h => iTreeOfW w1 B A2 n2 c2 ns2 (h2.below (h.mono hB)) (Nat.le_trans hB h.size) hnc2 hc2 hN2
  have HX := Lib.hid hi
  have HQ := Lib.hid hq
  have HBB := Lib.hid hB
  clear h1 h2 hi hN1 hN2 hq
  generalize datN ns1 = nd1 at *
  generalize datN ns2 = nd2 at *
  go_enter Tryz.func11, Tryz.ntmps11
  go_wp2_with fail
  refine (HT1.out _ (Below.refl _ _)).mono ?_
  rintro e w1 ⟨hout, hb1⟩
  obtain ⟨v1, rfl, hv1⟩ := hout.v
  have HV1 := Lib.hid hv1
  have HB1 := Lib.hid hb1
  clear hout hv1 hb1
  go_wp2_with fail
  refine (HT2.out _ HB1.out).mono ?_
  rintro e w2 ⟨hout, hb2⟩
  obtain ⟨v2, rfl, hv2⟩ := hout.v
  have HV2 := Lib.hid hv2
  have HV1' := Lib.hid (HV1.out.below (Nat.le_trans hB HB1.out.size) hb2)
  have HB2 := Lib.hid (below_on HB1.out hb2)
  have HB2s : Hid (B ≤ w2.heap.size) := Lib.hid (Nat.le_trans hB HB2.out.size)
  have HI2 := Lib.hid (HX.out.below (HB2.out.mono hB))
  clear hout hv2 hb2 HV1 HT1 HT2
  have HCa : Hid (∀ (W : World) (x y : It) (z : Int), Below w2.heap.size w2 W → x ∈ its → y ∈ its → CmpE nd1 x y z → Calls Tryz.prog 34 #[v1, .agg #[.int .i64 x.id, .slice x.A x.n x.c], .agg #[.int .i64 y.id, .slice y.A y.n y.c]] W fun e w' => e = .returned (.int .i64 z) ∧ Below W.heap.size W w') := Lib.hid fun W x y z h hx hy hz => by
    obtain ⟨k, hk, rfl⟩ := List.getElem_of_mem hx
    obtain ⟨m, hm, rfl⟩ := List.getElem_of_mem hy
    exact iByTree W B _ nd1 v1 _ _ (HV1'.out.below HB2s.out h) ((HI2.out.2 k hk).choose_spec.choose_spec.2.2.2.2.below (h.mono HB2s.out)) ((HI2.out.2 m hm).choose_spec.choose_spec.2.2.2.2.below (h.mono HB2s.out)) (Nat.le_trans HB2s.out h.size) z hz
  have HCb : Hid (∀ (W : World) (x y : It) (z : Int), Below w2.heap.size w2 W → x ∈ its → y ∈ its → CmpE nd2 x y z → Calls Tryz.prog 34 #[v2, .agg #[.int .i64 x.id, .slice x.A x.n x.c], .agg #[.int .i64 y.id, .slice y.A y.n y.c]] W fun e w' => e = .returned (.int .i64 z) ∧ Below W.heap.size W w') := Lib.hid fun W x y z h hx hy hz => by
    obtain ⟨k, hk, rfl⟩ := List.getElem_of_mem hx
    obtain ⟨m, hm, rfl⟩ := List.getElem_of_mem hy
    exact iByTree W B _ nd2 v2 _ _ (HV2.out.below HB2s.out h) ((HI2.out.2 k hk).choose_spec.choose_spec.2.2.2.2.below (h.mono HB2s.out)) ((HI2.out.2 m hm).choose_spec.choose_spec.2.2.2.2.below (h.mono HB2s.out)) (Nat.le_trans HB2s.out h.size) z hz
  go_wp2
  go_loopw [19] (fun i wr => ∃ k : Nat, k ≤ n ∧ i = .int .i64 k ∧ (∀ x ∈ its.take k, ∀ y ∈ its, AgP nd1 nd2 x y) ∧ Below w2.heap.size w2 wr) (fun i _ => n - (intOf i).toNat)
  case atStart => exact ⟨0, Nat.zero_le _, rfl, by simp, Below.refl _ _⟩
  case round =>
    obtain ⟨k, hk, rfl, hall, hbel⟩ := hrel
    have HA := Lib.hid hall
    have HB := Lib.hid hbel
    clear hall
    by_cases hlt : k < n
    · obtain ⟨b1, off, x, rfl, hb1, hat, d0, d1, -⟩ := HI2.out.at k hlt
      have f1 := (hbel.cell (p := ⟨b1, off + k * 2, none⟩) (Nat.lt_of_lt_of_le hb1 HB2s.out)).trans d0
      have f2 := (hbel.cell (p := ⟨b1, off + k * 2 + 1, none⟩) (Nat.lt_of_lt_of_le hb1 HB2s.out)).trans d1
      have HAt := Lib.hid hat
      have hlt' : (k : Int) < (n : Int) := by omega
      clear d0 d1 hat hbel
      go_wp2
      generalize hW : World.alloc wr _ = wg
      have HXb : Hid (Box2 wg wr.heap.size x) := Lib.hid (by subst hW; exact Box2.new wr x 62)
      obtain ⟨g, hgw⟩ : ∃ g, g = wr.heap.size := ⟨_, rfl⟩
      rw [← hgw] at HXb ⊢
      have HBg : Hid (Below w2.heap.size w2 wg) := Lib.hid (by subst hW; exact HB.out.alloc HB.out.size _)
      clear hW hgw f1 f2
      go_loopw [25] (fun j wr => ∃ m : Nat, m ≤ n ∧ j = .int .i64 m ∧ (∀ y ∈ its.take m, AgP nd1 nd2 x y) ∧ Below w2.heap.size w2 wr ∧ Box2 wr g x) (fun j _ => n - (intOf j).toNat)
      case atStart => exact ⟨0, Nat.zero_le _, rfl, by simp, HBg.out, HXb.out⟩
      case round =>
        obtain ⟨m, hm, rfl, hall, hbel, hbx⟩ := hrel
        have HAi := Lib.hid hall
        have HBi := Lib.hid hbel
        have HXi := Lib.hid hbx
        clear hall hbx HBg HXb
        by_cases hmt : m < n
        · obtain ⟨b2, off2, y, hA2, hb2, hat, d0, d1, -⟩ := HI2.out.at m hmt
          injection hA2 with hA2
          injection hA2 with e1 e2
          subst e1 e2
          have f1 := (hbel.cell (p := ⟨b1, off + m * 2, none⟩) (Nat.lt_of_lt_of_le hb1 HB2s.out)).trans d0
          have f2 := (hbel.cell (p := ⟨b1, off + m * 2 + 1, none⟩) (Nat.lt_of_lt_of_le hb1 HB2s.out)).trans d1
          have HAt2 := Lib.hid hat
          have hmt' : (m : Int) < (n : Int) := by omega
          obtain ⟨z1, hz1⟩ := CmpE.some nd1 x y
          obtain ⟨z2, hz2⟩ := CmpE.some nd2 x y
          have HZ1 := Lib.hid hz1
          have HZ2 := Lib.hid hz2
          clear d0 d1 hat hbel hz1 hz2
          go_wp2
          generalize hW : World.alloc _ _ = wh
          have HYb : Hid (Box2 wh wr.heap.size y) := Lib.hid (by subst hW; exact Box2.new _ y 62)
          obtain ⟨g2, hgw⟩ : ∃ g2, g2 = wr.heap.size := ⟨_, rfl⟩
          rw [← hgw] at HYb ⊢
          have HXh : Hid (Box2 wh g x) := Lib.hid (by subst hW; exact HXi.out.alloc _)
          have HBh : Hid (Below w2.heap.size w2 wh) := Lib.hid (by subst hW; exact HBi.out.alloc HBi.out.size _)
          clear hW hgw f1 f2
          have hS0 : (fun w' => Box2 w' g x ∧ Box2 w' g2 y) (World.drew wh) := ⟨HXh.out.below (Below.refl _ _).drew, HYb.out.below (Below.refl _ _).drew⟩
          refine wp_region_held (S := fun w' => Box2 w' g x ∧ Box2 w' g2 y) (by kernel_rfl) ?_
          change wpAnyH _ _ _ _ _ _ _ _ (World.drew _)
          refine takeY 29 (i := 0) (v := ?v0a) rfl rfl (by kernel_rfl) (by kernel_rfl) (by kernel_rfl) (fun _ _ _ h => h) (by kernel_rfl) ?y0a hS0 ?_
          case y0a =>
            intro w' hw'; (try dsimp only at hw'); obtain ⟨⟨-, x_0, x_1⟩, ⟨-, y_0, y_1⟩⟩ := hw'; go_simp; try with_reducible rfl
          simp only [Act.put, List.setIfInBounds_toArray, List.set_cons_zero, List.set_cons_succ]
          refine takeY 30 (i := 1) (v := ?v1a) rfl rfl (by kernel_rfl) (by kernel_rfl) (by kernel_rfl) (fun _ _ _ h => h) (by kernel_rfl) ?y1a hS0 ?_
          case y1a =>
            intro w' hw'; (try dsimp only at hw'); obtain ⟨⟨-, x_0, x_1⟩, ⟨-, y_0, y_1⟩⟩ := hw'; go_simp; try with_reducible rfl
          simp only [Act.put, List.setIfInBounds_toArray, List.set_cons_zero, List.set_cons_succ]
          refine takeY 31 (i := 2) (v := ?v2a) rfl rfl (by kernel_rfl) (by kernel_rfl) (by kernel_rfl) (fun _ _ _ h => h) (by kernel_rfl) ?y2a hS0 ?_
          case y2a =>
            intro w' hw'; (try dsimp only at hw'); obtain ⟨⟨-, x_0, x_1⟩, ⟨-, y_0, y_1⟩⟩ := hw'; go_simp; try with_reducible rfl
          simp only [Act.put, List.setIfInBounds_toArray, List.set_cons_zero, List.set_cons_succ]
          refine takeY 33 (i := 4) (v := ?v4a) rfl rfl (by kernel_rfl) (by kernel_rfl) (by kernel_rfl) (fun _ _ _ h => h) (by kernel_rfl) ?y4a hS0 ?_
          case y4a =>
            intro w' hw'; (try dsimp only at hw'); obtain ⟨⟨-, x_0, x_1⟩, ⟨-, y_0, y_1⟩⟩ := hw'; go_simp; try with_reducible rfl
          simp only [Act.put, List.setIfInBounds_toArray, List.set_cons_zero, List.set_cons_succ]
          refine takeY 34 (i := 5) (v := ?v5a) rfl rfl (by kernel_rfl) (by kernel_rfl) (by kernel_rfl) (fun _ _ _ h => h) (by kernel_rfl) ?y5a hS0 ?_
          case y5a =>
            intro w' hw'; (try dsimp only at hw'); obtain ⟨⟨-, x_0, x_1⟩, ⟨-, y_0, y_1⟩⟩ := hw'; go_simp; try with_reducible rfl
          simp only [Act.put, List.setIfInBounds_toArray, List.set_cons_zero, List.set_cons_succ]
          refine takeY 35 (i := 6) (v := ?v6a) rfl rfl (by kernel_rfl) (by kernel_rfl) (by kernel_rfl) (fun _ _ _ h => h) (by kernel_rfl) ?y6a hS0 ?_
          case y6a =>
            intro w' hw'; (try dsimp only at hw'); obtain ⟨⟨-, x_0, x_1⟩, ⟨-, y_0, y_1⟩⟩ := hw'; go_simp; try with_reducible rfl
          simp only [Act.put, List.setIfInBounds_toArray, List.set_cons_zero, List.set_cons_succ]
          refine wpAnyH_ready (rs := [3]) (by kernel_rfl) (by simp) ?_
          refine AllReadyH.cons rfl (fun K hK => ?_) AllReadyH.nil
          go_simp; go_at_call 34; refine (HCa.out _ x y z1 HBh.out.drew (mem_of_at HAt.out) (mem_of_at HAt2.out) HZ1.out).mono ?_; rintro e w3 ⟨rfl, hb3⟩; have HX3 := Lib.hid ((HXh.out.below (Below.refl _ _).drew).below hb3); have HY3 := Lib.hid ((HYb.out.below (Below.refl _ _).drew).below hb3); have HB3 := Lib.hid (below_on HBh.out.drew hb3); clear hb3
          refine hK.out _ _ ⟨HX3.out, HY3.out⟩ (fun hS1 => ?_)
          clear hK K
          try simp only [Act.put, List.setIfInBounds_toArray, List.set_cons_zero, List.set_cons_succ]
          refine wpAnyH_ready (rs := [7]) (by kernel_rfl) (by simp) ?_
          refine AllReadyH.cons rfl (fun K hK => ?_) AllReadyH.nil
          go_simp; go_at_call 34; refine (HCb.out _ x y z2 HB3.out (mem_of_at HAt.out) (mem_of_at HAt2.out) HZ2.out).mono ?_; rintro e w4 ⟨rfl, hb4⟩; have HX4 := Lib.hid (HX3.out.below hb4); have HY4 := Lib.hid (HY3.out.below hb4); have HB4 := Lib.hid (below_on HB3.out hb4); clear hb4
          refine hK.out _ _ ⟨HX4.out, HY4.out⟩ (fun hS2 => ?_)
          clear hK K
          try simp only [Act.put, List.setIfInBounds_toArray, List.set_cons_zero, List.set_cons_succ]
          refine takeY 37 (i := 8) (v := ?v8a) rfl rfl (by kernel_rfl) (by kernel_rfl) (by kernel_rfl) (fun _ _ _ h => h) (by kernel_rfl) ?y8a hS2 ?_
          case y8a =>
            intro w' hw'; (try dsimp only at hw'); obtain ⟨⟨-, x_0, x_1⟩, ⟨-, y_0, y_1⟩⟩ := hw'; go_simp; try with_reducible rfl
          simp only [Act.put, List.setIfInBounds_toArray, List.set_cons_zero, List.set_cons_succ]
          refine wpAnyH_done (by kernel_rfl) ?_ _
          clear hS0 hS1 hS2
          by_cases hz : z1 = z2
          · have hzz : (z1 != z2) = false := by simpa using hz
            go_wp2
            go_roundw
            case rel => exact ⟨m + 1, by omega, by go_num, take_in HAt2.out HAi.out (.yes HZ1.out HZ2.out hz), HB4.out, HX4.out⟩
            case measure => simp [intOf]; omega
          · have hzz : (z1 != z2) = true := by simpa using hz
            obtain rfl : q = false := by
              cases q
              · rfl
              · exact absurd (HQ.out.1 rfl x (mem_of_at HAt.out) y (mem_of_at HAt2.out)) (AgP.no HZ1.out HZ2.out hz)
            go_wp2
            go_ret
            exact ⟨rfl, HB2.out.trans (HB4.out.mono HB2.out.size)⟩
        · obtain rfl : m = n := by omega
          have ht : its.take m = its := List.take_of_length_le (by rw [HX.out.1]; exact Nat.le_refl _)
          have HAi2 : Hid (∀ y ∈ its, AgP nd1 nd2 x y) := Lib.hid (by have := HAi.out; rwa [ht] at this)
          clear ht hbel
          go_wp2
          go_roundw
          case rel => exact ⟨k + 1, by omega, by go_num, take_in HAt.out HA.out HAi2.out, HBi.out⟩
          case measure => simp [intOf]; omega
    · obtain rfl : k = n := by omega
      have ht : its.take k = its := List.take_of_length_le (by rw [HX.out.1]; exact Nat.le_refl _)
      obtain rfl : q = true := HQ.out.2 (by have := HA.out; rwa [ht] at this)
      clear ht hbel
      go_wp2
      go_ret
      exact ⟨rfl, HB2.out.trans (HB.out.mono HB2.out.size)⟩
set_option maxRecDepth 20000 in
set_option maxHeartbeats 3200000 in
theorem sAgree (w : World) (B : Nat) (A1 A2 A : Option Addr) (n1 n2 n c1 c2 c : Nat) (ns1 ns2 : List Nd) (its : List It) (h1 : Nodes w B A1 n1 ns1) (h2 : Nodes w B A2 n2 ns2) (hi : Items w B A n its) (hB : B ≤ w.heap.size) (hn1 : n1 ≤ 1048576) (hn2 : n2 ≤ 1048576) (hN1 : ShortN ns1) (hN2 : ShortN ns2) (hNi : ∀ t ∈ its, t.n ≤ 1048576) (hn : n ≤ 1048576) (q : Bool) (hq : q = true ↔ AgreeP (datN ns1) (datN ns2) its) :
    Calls Tryz.prog 17 #[.slice A1 n1 c1, .slice A2 n2 c2, .slice A n c] w fun e w' => e = .returned (.bool q) ∧ Below w.heap.size w w' := by
  have HX := Lib.hid hi
  have HQ := Lib.hid hq
  have HCa : Hid (∀ (W : World) (x y : It) (z : Int), Below w.heap.size w W → x ∈ its → y ∈ its → CmpE (datN ns1) x y z → Calls Tryz.prog 37 #[.slice A1 n1 c1, .agg #[.int .i64 x.id, .slice x.A x.n x.c], .agg #[.int .i64 y.id, .slice y.A y.n y.c]] W fun e w' => e = .returned (.int .i64 z) ∧ Below W.heap.size W w') := Lib.hid fun W x y z h hx hy hz => by
    obtain ⟨k, hk, rfl⟩ := List.getElem_of_mem hx
    obtain ⟨m, hm, rfl⟩ := List.getElem_of_mem hy
    exact sCompareBy W B A1 n1 c1 ns1 _ _ (h1.below (h.mono hB)) ((hi.2 k hk).choose_spec.choose_spec.2.2.2.2.below (h.mono hB)) ((hi.2 m hm).choose_spec.choose_spec.2.2.2.2.below (h.mono hB)) (Nat.le_trans hB h.size) hn1 hN1 (hNi _ hx) (hNi _ hy) z hz
  have HCb : Hid (∀ (W : World) (x y : It) (z : Int), Below w.heap.size w W → x ∈ its → y ∈ its → CmpE (datN ns2) x y z → Calls Tryz.prog 37 #[.slice A2 n2 c2, .agg #[.int .i64 x.id, .slice x.A x.n x.c], .agg #[.int .i64 y.id, .slice y.A y.n y.c]] W fun e w' => e = .returned (.int .i64 z) ∧ Below W.heap.size W w') := Lib.hid fun W x y z h hx hy hz => by
    obtain ⟨k, hk, rfl⟩ := List.getElem_of_mem hx
    obtain ⟨m, hm, rfl⟩ := List.getElem_of_mem hy
    exact sCompareBy W B A2 n2 c2 ns2 _ _ (h2.below (h.mono hB)) ((hi.2 k hk).choose_spec.choose_spec.2.2.2.2.below (h.mono hB)) ((hi.2 m hm).choose_spec.choose_spec.2.2.2.2.below (h.mono hB)) (Nat.le_trans hB h.size) hn2 hN2 (hNi _ hx) (hNi _ hy) z hz
  clear h1 h2 hi hN1 hN2 hNi hq
  generalize datN ns1 = nd1 at *
  generalize datN ns2 = nd2 at *
  go_enter Tryz.func17, Tryz.ntmps17
  go_wp2
  go_loopw [7] (fun i wr => ∃ k : Nat, k ≤ n ∧ i = .int .i64 k ∧ (∀ x ∈ its.take k, ∀ y ∈ its, AgP nd1 nd2 x y) ∧ Below w.heap.size w wr) (fun i _ => n - (intOf i).toNat)
  case atStart => exact ⟨0, Nat.zero_le _, rfl, by simp, Below.refl _ _⟩
  case round =>
    obtain ⟨k, hk, rfl, hall, hbel⟩ := hrel
    have HA := Lib.hid hall
    have HB := Lib.hid hbel
    clear hall
    by_cases hlt : k < n
    · obtain ⟨b1, off, x, rfl, hb1, hat, d0, d1, -⟩ := HX.out.at k hlt
      have hbw : b1 < w.heap.size := Nat.lt_of_lt_of_le hb1 hB
      have HAt := Lib.hid hat
      have HD := Lib.hid (And.intro d0 d1)
      have hlt' : (k : Int) < (n : Int) := by omega
      have hk0 : (0 : Int) ≤ (k : Int) := by omega
      clear d0 d1 hat hbel
      go_wp2
      go_loopw [8] (fun j wr => ∃ m : Nat, m ≤ n ∧ j = .int .i64 m ∧ (∀ y ∈ its.take m, AgP nd1 nd2 x y) ∧ Below w.heap.size w wr) (fun j _ => n - (intOf j).toNat)
      case atStart => exact ⟨0, Nat.zero_le _, rfl, by simp, HB.out⟩
      case round =>
        obtain ⟨m, hm, rfl, hall, hbel⟩ := hrel
        have HAi := Lib.hid hall
        have HBi := Lib.hid hbel
        clear hall
        by_cases hmt : m < n
        · obtain ⟨b2, off2, y, hA2, hb2, hat, d0, d1, -⟩ := HX.out.at m hmt
          injection hA2 with hA2
          injection hA2 with e1 e2
          subst e1 e2
          have HAt2 := Lib.hid hat
          have HD2 := Lib.hid (And.intro d0 d1)
          have hmt' : (m : Int) < (n : Int) := by omega
          have hm0 : (0 : Int) ≤ (m : Int) := by omega
          obtain ⟨z1, hz1⟩ := CmpE.some nd1 x y
          obtain ⟨z2, hz2⟩ := CmpE.some nd2 x y
          have HZ1 := Lib.hid hz1
          have HZ2 := Lib.hid hz2
          have HS : Hid (∀ W, Below w.heap.size w W → (W.cell? ⟨b1, off + k * 2, none⟩ = some (.int .i64 x.id) ∧ W.cell? ⟨b1, off + k * 2 + 1, none⟩ = some (.slice x.A x.n x.c) ∧ W.cell? ⟨b1, off + m * 2, none⟩ = some (.int .i64 y.id) ∧ W.cell? ⟨b1, off + m * 2 + 1, none⟩ = some (.slice y.A y.n y.c))) := Lib.hid fun W h => ⟨(h.cell (p := ⟨b1, off + k * 2, none⟩) hbw).trans HD.out.1, (h.cell (p := ⟨b1, off + k * 2 + 1, none⟩) hbw).trans HD.out.2, (h.cell (p := ⟨b1, off + m * 2, none⟩) hbw).trans HD2.out.1, (h.cell (p := ⟨b1, off + m * 2 + 1, none⟩) hbw).trans HD2.out.2⟩
          clear d0 d1 hat hz1 hz2
          go_wp2
          have hS0 : (fun w' => (w'.cell? ⟨b1, off + k * 2, none⟩ = some (.int .i64 x.id) ∧ w'.cell? ⟨b1, off + k * 2 + 1, none⟩ = some (.slice x.A x.n x.c) ∧ w'.cell? ⟨b1, off + m * 2, none⟩ = some (.int .i64 y.id) ∧ w'.cell? ⟨b1, off + m * 2 + 1, none⟩ = some (.slice y.A y.n y.c))) (World.drew wr) := HS.out _ HBi.out.drew
          clear hbel
          refine wp_region_held (S := fun w' => (w'.cell? ⟨b1, off + k * 2, none⟩ = some (.int .i64 x.id) ∧ w'.cell? ⟨b1, off + k * 2 + 1, none⟩ = some (.slice x.A x.n x.c) ∧ w'.cell? ⟨b1, off + m * 2, none⟩ = some (.int .i64 y.id) ∧ w'.cell? ⟨b1, off + m * 2 + 1, none⟩ = some (.slice y.A y.n y.c))) (by kernel_rfl) ?_
          change wpAnyH _ _ _ _ _ _ _ _ (World.drew _)
          refine takeY 21 (i := 0) (v := ?v0a) rfl rfl (by kernel_rfl) (by kernel_rfl) (by kernel_rfl) (fun _ _ _ h => h) (by kernel_rfl) ?y0a hS0 ?_
          case y0a =>
            intro w' hw'; (try dsimp only at hw'); obtain ⟨x_0, x_1, y_0, y_1⟩ := hw'; go_simp; try with_reducible rfl
          simp only [Act.put, List.setIfInBounds_toArray, List.set_cons_zero, List.set_cons_succ]
          refine takeY 22 (i := 1) (v := ?v1a) rfl rfl (by kernel_rfl) (by kernel_rfl) (by kernel_rfl) (fun _ _ _ h => h) (by kernel_rfl) ?y1a hS0 ?_
          case y1a =>
            intro w' hw'; (try dsimp only at hw'); obtain ⟨x_0, x_1, y_0, y_1⟩ := hw'; go_simp; try with_reducible rfl
          simp only [Act.put, List.setIfInBounds_toArray, List.set_cons_zero, List.set_cons_succ]
          refine takeY 23 (i := 2) (v := ?v2a) rfl rfl (by kernel_rfl) (by kernel_rfl) (by kernel_rfl) (fun _ _ _ h => h) (by kernel_rfl) ?y2a hS0 ?_
          case y2a =>
            intro w' hw'; (try dsimp only at hw'); obtain ⟨x_0, x_1, y_0, y_1⟩ := hw'; go_simp; try with_reducible rfl
          simp only [Act.put, List.setIfInBounds_toArray, List.set_cons_zero, List.set_cons_succ]
          refine takeY 24 (i := 3) (v := ?v3a) rfl rfl (by kernel_rfl) (by kernel_rfl) (by kernel_rfl) (fun _ _ _ h => h) (by kernel_rfl) ?y3a hS0 ?_
          case y3a =>
            intro w' hw'; (try dsimp only at hw'); obtain ⟨x_0, x_1, y_0, y_1⟩ := hw'; go_simp; try with_reducible rfl
          simp only [Act.put, List.setIfInBounds_toArray, List.set_cons_zero, List.set_cons_succ]
          refine takeY 25 (i := 4) (v := ?v4a) rfl rfl (by kernel_rfl) (by kernel_rfl) (by kernel_rfl) (fun _ _ _ h => h) (by kernel_rfl) ?y4a hS0 ?_
          case y4a =>
            intro w' hw'; (try dsimp only at hw'); obtain ⟨x_0, x_1, y_0, y_1⟩ := hw'; go_simp; try with_reducible rfl
          simp only [Act.put, List.setIfInBounds_toArray, List.set_cons_zero, List.set_cons_succ]
          refine takeY 26 (i := 5) (v := ?v5a) rfl rfl (by kernel_rfl) (by kernel_rfl) (by kernel_rfl) (fun _ _ _ h => h) (by kernel_rfl) ?y5a hS0 ?_
          case y5a =>
            intro w' hw'; (try dsimp only at hw'); obtain ⟨x_0, x_1, y_0, y_1⟩ := hw'; go_simp; try with_reducible rfl
          simp only [Act.put, List.setIfInBounds_toArray, List.set_cons_zero, List.set_cons_succ]
          refine takeY 27 (i := 6) (v := ?v6a) rfl rfl (by kernel_rfl) (by kernel_rfl) (by kernel_rfl) (fun _ _ _ h => h) (by kernel_rfl) ?y6a hS0 ?_
          case y6a =>
            intro w' hw'; (try dsimp only at hw'); obtain ⟨x_0, x_1, y_0, y_1⟩ := hw'; go_simp; try with_reducible rfl
          simp only [Act.put, List.setIfInBounds_toArray, List.set_cons_zero, List.set_cons_succ]
          refine takeY 28 (i := 7) (v := ?v7a) rfl rfl (by kernel_rfl) (by kernel_rfl) (by kernel_rfl) (fun _ _ _ h => h) (by kernel_rfl) ?y7a hS0 ?_
          case y7a =>
            intro w' hw'; (try dsimp only at hw'); obtain ⟨x_0, x_1, y_0, y_1⟩ := hw'; go_simp; try with_reducible rfl
          simp only [Act.put, List.setIfInBounds_toArray, List.set_cons_zero, List.set_cons_succ]
          refine takeY 29 (i := 8) (v := ?v8a) rfl rfl (by kernel_rfl) (by kernel_rfl) (by kernel_rfl) (fun _ _ _ h => h) (by kernel_rfl) ?y8a hS0 ?_
          case y8a =>
            intro w' hw'; (try dsimp only at hw'); obtain ⟨x_0, x_1, y_0, y_1⟩ := hw'; go_simp; try with_reducible rfl
          simp only [Act.put, List.setIfInBounds_toArray, List.set_cons_zero, List.set_cons_succ]
          refine takeY 31 (i := 10) (v := ?v10a) rfl rfl (by kernel_rfl) (by kernel_rfl) (by kernel_rfl) (fun _ _ _ h => h) (by kernel_rfl) ?y10a hS0 ?_
          case y10a =>
            intro w' hw'; (try dsimp only at hw'); obtain ⟨x_0, x_1, y_0, y_1⟩ := hw'; go_simp; try with_reducible rfl
          simp only [Act.put, List.setIfInBounds_toArray, List.set_cons_zero, List.set_cons_succ]
          refine takeY 32 (i := 11) (v := ?v11a) rfl rfl (by kernel_rfl) (by kernel_rfl) (by kernel_rfl) (fun _ _ _ h => h) (by kernel_rfl) ?y11a hS0 ?_
          case y11a =>
            intro w' hw'; (try dsimp only at hw'); obtain ⟨x_0, x_1, y_0, y_1⟩ := hw'; go_simp; try with_reducible rfl
          simp only [Act.put, List.setIfInBounds_toArray, List.set_cons_zero, List.set_cons_succ]
          refine takeY 33 (i := 12) (v := ?v12a) rfl rfl (by kernel_rfl) (by kernel_rfl) (by kernel_rfl) (fun _ _ _ h => h) (by kernel_rfl) ?y12a hS0 ?_
          case y12a =>
            intro w' hw'; (try dsimp only at hw'); obtain ⟨x_0, x_1, y_0, y_1⟩ := hw'; go_simp; try with_reducible rfl
          simp only [Act.put, List.setIfInBounds_toArray, List.set_cons_zero, List.set_cons_succ]
          refine takeY 34 (i := 13) (v := ?v13a) rfl rfl (by kernel_rfl) (by kernel_rfl) (by kernel_rfl) (fun _ _ _ h => h) (by kernel_rfl) ?y13a hS0 ?_
          case y13a =>
            intro w' hw'; (try dsimp only at hw'); obtain ⟨x_0, x_1, y_0, y_1⟩ := hw'; go_simp; try with_reducible rfl
          simp only [Act.put, List.setIfInBounds_toArray, List.set_cons_zero, List.set_cons_succ]
          refine takeY 35 (i := 14) (v := ?v14a) rfl rfl (by kernel_rfl) (by kernel_rfl) (by kernel_rfl) (fun _ _ _ h => h) (by kernel_rfl) ?y14a hS0 ?_
          case y14a =>
            intro w' hw'; (try dsimp only at hw'); obtain ⟨x_0, x_1, y_0, y_1⟩ := hw'; go_simp; try with_reducible rfl
          simp only [Act.put, List.setIfInBounds_toArray, List.set_cons_zero, List.set_cons_succ]
          refine takeY 36 (i := 15) (v := ?v15a) rfl rfl (by kernel_rfl) (by kernel_rfl) (by kernel_rfl) (fun _ _ _ h => h) (by kernel_rfl) ?y15a hS0 ?_
          case y15a =>
            intro w' hw'; (try dsimp only at hw'); obtain ⟨x_0, x_1, y_0, y_1⟩ := hw'; go_simp; try with_reducible rfl
          simp only [Act.put, List.setIfInBounds_toArray, List.set_cons_zero, List.set_cons_succ]
          refine takeY 37 (i := 16) (v := ?v16a) rfl rfl (by kernel_rfl) (by kernel_rfl) (by kernel_rfl) (fun _ _ _ h => h) (by kernel_rfl) ?y16a hS0 ?_
          case y16a =>
            intro w' hw'; (try dsimp only at hw'); obtain ⟨x_0, x_1, y_0, y_1⟩ := hw'; go_simp; try with_reducible rfl
          simp only [Act.put, List.setIfInBounds_toArray, List.set_cons_zero, List.set_cons_succ]
          refine takeY 38 (i := 17) (v := ?v17a) rfl rfl (by kernel_rfl) (by kernel_rfl) (by kernel_rfl) (fun _ _ _ h => h) (by kernel_rfl) ?y17a hS0 ?_
          case y17a =>
            intro w' hw'; (try dsimp only at hw'); obtain ⟨x_0, x_1, y_0, y_1⟩ := hw'; go_simp; try with_reducible rfl
          simp only [Act.put, List.setIfInBounds_toArray, List.set_cons_zero, List.set_cons_succ]
          refine takeY 39 (i := 18) (v := ?v18a) rfl rfl (by kernel_rfl) (by kernel_rfl) (by kernel_rfl) (fun _ _ _ h => h) (by kernel_rfl) ?y18a hS0 ?_
          case y18a =>
            intro w' hw'; (try dsimp only at hw'); obtain ⟨x_0, x_1, y_0, y_1⟩ := hw'; go_simp; try with_reducible rfl
          simp only [Act.put, List.setIfInBounds_toArray, List.set_cons_zero, List.set_cons_succ]
          refine wpAnyH_ready (rs := [9]) (by kernel_rfl) (by simp) ?_
          refine AllReadyH.cons rfl (fun K hK => ?_) AllReadyH.nil
          go_simp; go_at_call 37; refine (HCa.out _ x y z1 HBi.out.drew (mem_of_at HAt.out) (mem_of_at HAt2.out) HZ1.out).mono ?_; rintro e w3 ⟨rfl, hb3⟩; have HB3 := Lib.hid (below_on HBi.out.drew hb3); clear hb3
          refine hK.out _ _ (HS.out _ HB3.out) (fun hS1 => ?_)
          clear hK K
          try simp only [Act.put, List.setIfInBounds_toArray, List.set_cons_zero, List.set_cons_succ]
          refine wpAnyH_ready (rs := [19]) (by kernel_rfl) (by simp) ?_
          refine AllReadyH.cons rfl (fun K hK => ?_) AllReadyH.nil
          go_simp; go_at_call 37; refine (HCb.out _ x y z2 HB3.out (mem_of_at HAt.out) (mem_of_at HAt2.out) HZ2.out).mono ?_; rintro e w4 ⟨rfl, hb4⟩; have HB4 := Lib.hid (below_on HB3.out hb4); clear hb4
          refine hK.out _ _ (HS.out _ HB4.out) (fun hS2 => ?_)
          clear hK K
          try simp only [Act.put, List.setIfInBounds_toArray, List.set_cons_zero, List.set_cons_succ]
          refine takeY 41 (i := 20) (v := ?v20a) rfl rfl (by kernel_rfl) (by kernel_rfl) (by kernel_rfl) (fun _ _ _ h => h) (by kernel_rfl) ?y20a hS2 ?_
          case y20a =>
            intro w' hw'; (try dsimp only at hw'); obtain ⟨x_0, x_1, y_0, y_1⟩ := hw'; go_simp; try with_reducible rfl
          simp only [Act.put, List.setIfInBounds_toArray, List.set_cons_zero, List.set_cons_succ]
          refine wpAnyH_done (by kernel_rfl) ?_ _
          clear hS0 hS1 hS2
          by_cases hz : z1 = z2
          · have hzz : (z1 != z2) = false := by simpa using hz
            go_wp2
            go_roundw
            case rel => exact ⟨m + 1, by omega, by go_num, take_in HAt2.out HAi.out (.yes HZ1.out HZ2.out hz), HB4.out⟩
            case measure => simp [intOf]; omega
          · have hzz : (z1 != z2) = true := by simpa using hz
            obtain rfl : q = false := by
              cases q
              · rfl
              · exact absurd (HQ.out.1 rfl x (mem_of_at HAt.out) y (mem_of_at HAt2.out)) (AgP.no HZ1.out HZ2.out hz)
            go_wp2
            go_ret
            exact ⟨rfl, HB4.out⟩
        · obtain rfl : m = n := by omega
          have ht : its.take m = its := List.take_of_length_le (by rw [HX.out.1]; exact Nat.le_refl _)
          have HAi2 : Hid (∀ y ∈ its, AgP nd1 nd2 x y) := Lib.hid (by have := HAi.out; rwa [ht] at this)
          clear ht hbel
          go_wp2
          go_roundw
          case rel => exact ⟨k + 1, by omega, by go_num, take_in HAt.out HA.out HAi2.out, HBi.out⟩
          case measure => simp [intOf]; omega
    · obtain rfl : k = n := by omega
      have ht : its.take k = its := List.take_of_length_le (by rw [HX.out.1]; exact Nat.le_refl _)
      obtain rfl : q = true := HQ.out.2 (by have := HA.out; rwa [ht] at this)
      clear ht hbel
      go_wp2
      go_ret
      exact ⟨rfl, HB.out⟩
end Go.Proofs.YtaijajajpnekbaaGreat.num
