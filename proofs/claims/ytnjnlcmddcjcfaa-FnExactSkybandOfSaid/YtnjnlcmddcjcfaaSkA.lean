/- Contracts of functions that the laws of this chapter call, packed. -/
import Derived.Test.YtnjnlcmddcjcfaaWishProgA
import Derived.Test.YtnjnlcmddcjcfaaWishCmp
import Derived.Test.YtnjnlcmddcjcfaaWishSpecD
import Derived.Test.YtnjnlcmddcjcfaaWishLaw
import Derived.Test.YtnjnlcmddcjcfaaItemImpl
import Derived.Test.YtnjnlcmddcjcfaaExpIs
import Derived.Test.YtnjnlcmddcjcfaaRowG
import Derived.Test.YtnjnlcmddcjcfaaPairMark
import Derived.Laws.OwnMore
import Derived.Lib.SlFresh
import Derived.Test.YtnjnlcmddcjcfaaItemIds
import Derived.Test.YtnjnlcmddcjcfaaExpSpec
import Derived.Test.YtnjnlcmddcjcfaaWishSpecC
import Derived.Test.YtnjnlcmddcjcfaaRegion
import Derived.Test.YtnjnlcmddcjcfaaExpMath
import Derived.Test.YtnjnlcmddcjcfaaItemEq
import Derived.Test.YtnjnlcmddcjcfaaItemSpec
import Derived.Test.YtnjnlcmddcjcfaaExpCopy
import Derived.Test.YtnjnlcmddcjcfaaPairMarkI
import Derived.Test.YtnjnlcmddcjcfaaExpOpen
import Derived.Test.YtnjnlcmddcjcfaaPairLaw
import Derived.ChangeSame
import Derived.Test.YtnjnlcmddcjcfaaPairSpecB
namespace Go.Proofs.Ytnjnlcmddcjcfaa.num
set_option maxRecDepth 20000
open Go.RowKit Go.Maps
set_option linter.unusedVariables false

end Go.Proofs.Ytnjnlcmddcjcfaa.num
namespace Go.Proofs.Ytnjnlcmddcjcfaa.num
set_option maxRecDepth 20000
open Go.RowKit Go.Maps
set_option linter.unusedVariables false

/-- The value of an item's field. -/
def fval (t : It) (f : Int) : Int := t.xs.getD f.toNat 0
theorem fval_in {t : It} (h : IsP t.dat) {f : Int} (hf : 0 ≤ f ∧ f ≤ 2) : InR (fval t f) := by
  obtain ⟨h1, _, h3⟩ := h
  have hl : t.xs.length = 3 := h3
  unfold fval
  rw [List.getD_eq_getElem?_getD, List.getElem?_eq_getElem (by omega)]
  exact h1 _ (List.getElem_mem _)
theorem fval_dat {t t' : It} (h : t'.dat = t.dat) (f : Int) : fval t' f = fval t f := by unfold fval; rw [show t'.xs = t.xs from congrArg Prod.snd h]
theorem cmpV_dat {t t' : Wi} {x x' y y' : It} {q : Bool} (h : t'.dat = t.dat) (hx : x'.dat = x.dat) (hy : y'.dat = y.dat) : cmpV t'.dat q (fval x' t'.field) (fval y' t'.field) = cmpV t.dat q (fval x t.field) (fval y t.field) := by
  rw [h, fval_dat hx, fval_dat hy, show t'.field = t.field from congrArg WD.field h]
/-- The cell of an item's field. -/
theorem fval_cell {w : World} {B : Nat} {t : It} (hi : Ints w B t.A t.n t.xs) (h : IsP t.dat) {f : Int} (hf : 0 ≤ f ∧ f ≤ 2) : ∃ b off : Nat, t.A = some ⟨b, off, none⟩ ∧ b < B ∧ (f.toNat : Int) = f ∧ f < (t.n : Int) ∧ w.cell? ⟨b, off + f.toNat, none⟩ = some (.int .i64 (fval t f)) := by
  have hl : t.xs.length = 3 := h.2.2
  have hn : t.n = 3 := hi.1.symm.trans hl
  obtain ⟨b, off, h1, h2, h3⟩ := hi.2 f.toNat (by omega)
  exact ⟨b, off, h1, h2, by omega, by omega, h3⟩

end Go.Proofs.Ytnjnlcmddcjcfaa.num
namespace Go.Proofs.Ytnjnlcmddcjcfaa.num
set_option maxRecDepth 20000
open Go.RowKit Go.Maps
set_option linter.unusedVariables false
set_option linter.unusedSimpArgs false

/-- What each wish says of two items. -/
def wishF (x y : It) (d : WD) : Int := cmpW d (fval x d.field) (fval y d.field)
theorem cmpW_code (d : WD) (a b : Int) : Code (cmpW d a b) := by
  unfold cmpW Code
  split
  · split
    · omega
    · split
      · omega
      · split <;> omega
  · split
    · omega
    · split <;> omega
theorem wishF_code (x y : It) (d : WD) : Code (wishF x y d) := cmpW_code _ _ _
theorem wishF_dat {x x' y y' : It} (hx : x'.dat = x.dat) (hy : y'.dat = y.dat) : wishF x' y' = wishF x y := by
  funext d
  unfold wishF
  rw [fval_dat hx, fval_dat hy]
/-- The taste's comparison, whatever it is. -/
def TasteCalls (w : World) (T : TypeId) (g : FuncId) (v : Value) (a b z : Int) : Prop :=
  ∃ x, v = .iface T x ∧ (∀ w1, (method 265 T x "loop.example/g01987/impl.compare").run Try.prog w1 = .ok (g, x) w1) ∧ (∀ w1, (nilAhead 265 T x "loop.example/g01987/impl.compare").run Try.prog w1 = .ok (some false) w1) ∧
    ∀ w1, Below w.heap.size w w1 → Calls Try.prog g #[x, .int .i64 a, .int .i64 b] w1 fun e w' => e = .returned (.int .i64 z) ∧ Below w1.heap.size w1 w'
theorem tasteCalls {w : World} {B : Nat} {t : Wi} {v : Value} (hB : B ≤ w.heap.size) (h : TasteAt w t v) (hi : WiIn w B t) (hn : t.Short) {a b : Int} (ha : InR a) (hb : InR b) : TasteCalls w 126 115 v a b (cmpW t.dat a b) ∨ TasteCalls w 128 120 v a b (cmpW t.dat a b) ∨ TasteCalls w 134 124 v a b (cmpW t.dat a b) := by
  rcases h with ⟨h4, c, hc, rfl, hr⟩ | ⟨h4, rfl, hr⟩ | ⟨h4, o, B2, rfl, hab⟩
  · refine .inl ⟨_, rfl, near_cmp_m c, near_cmp_n c, fun w1 h1 => ?_⟩
    rw [show cmpW t.dat a b = (if (if a < c then c - a else a - c) < (if b < c then c - b else b - c) then 1 else if (if b < c then c - b else b - c) < (if a < c then c - a else a - c) then -1 else 0) by unfold cmpW; rw [if_neg (show ¬ t.dat.kind = 4 from h4), hr _ ha, hr _ hb]]
    exact nearCmp w1 c a b hc ha hb
  · refine .inr (.inl ⟨_, rfl, among_cmp_m _ _ _, among_cmp_n _ _ _, fun w1 h1 => ?_⟩)
    rw [show cmpW t.dat a b = (if (if a ∈ t.ls then (0 : Int) else 1) < (if b ∈ t.ls then (0 : Int) else 1) then 1 else if (if b ∈ t.ls then (0 : Int) else 1) < (if a ∈ t.ls then (0 : Int) else 1) then -1 else 0) by unfold cmpW; rw [if_neg (show ¬ t.dat.kind = 4 from h4), hr, hr]]
    exact amongCmp w1 B t.LA t.Ln t.Lc t.ls a b (hi.l.below (h1.mono hB)) (Nat.le_trans hB h1.size) hn.1
  · refine .inr (.inr ⟨_, rfl, order_cmp_m o, order_cmp_n o, fun w1 h1 => ?_⟩)
    rw [show cmpW t.dat a b = (if a = b then 0 else if rb t.ps a b = true then 1 else if rb t.ps b a = true then -1 else 2) by unfold cmpW; rw [if_pos (show t.dat.kind = 4 from h4)]; rfl]
    exact orderCmp w1 B2 o t.ps (hab.below h1) a b ha hb

set_option maxRecDepth 20000 in
set_option maxHeartbeats 3200000 in
theorem iCompare (B lo : Nat) (x y : It) (hpx : IsP x.dat) (hpy : IsP y.dat) : ∀ (t : Tr) (p : Nat) (w : World), PartAt w B lo t p → B ≤ w.heap.size → Ints w B x.A x.n x.xs → Ints w B y.A y.n y.xs →
    Calls Try.prog 82 #[.pointer (some ⟨p, 0, none⟩), x.val, y.val] w fun e w' => e = .returned (.int .i64 (cmpT (wishF x y) t)) ∧ Below w.heap.size w w' := by
  have hvx : x.val = .agg #[.int .i64 x.id, .slice x.A x.n x.c] := rfl
  have hvy : y.val = .agg #[.int .i64 y.id, .slice y.A y.n y.c] := rfl
  intro t
  induction t with
  | base d =>
    intro p w hp hB hix hiy
    rw [hvx, hvy]
    clear hvx hvy
    obtain ⟨_, hpl, t, v, hrow, rfl, hsh, hwi, hw, hta⟩ := hp
    have c0 := part0 hrow
    have c2 := part2 hrow
    have c6 := part6 hrow
    clear hrow
    have hf : 0 ≤ t.field ∧ t.field ≤ 2 := hw.f
    have HZ : Hid (cmpT (wishF x y) (.base t.dat) = cmpW t.dat (fval x t.field) (fval y t.field)) := Lib.hid rfl
    rw [HZ.out]
    rcases tasteCalls hB hta.at' hwi hsh (fval_in hpx hf) (fval_in hpy hf) with ⟨tx, rfl, hm, hm2, hcall⟩ | ⟨tx, rfl, hm, hm2, hcall⟩ | ⟨tx, rfl, hm, hm2, hcall⟩
    all_goals
      obtain ⟨bx, ox, hxA, hbx, hfn, hfx, cx0⟩ := fval_cell hix hpx hf
      obtain ⟨by', oy, hyA, hby, -, hfy, cy0⟩ := fval_cell hiy hpy hf
      generalize cmpW t.dat (fval x t.field) (fval y t.field) = z at *
      have HC := Lib.hid hcall
      have HW2 : Hid (Below w.heap.size w ((w.alloc (.cells #[.int .i64 x.id, .slice x.A x.n x.c] 50)).alloc (.cells #[.int .i64 y.id, .slice y.A y.n y.c] 50))) := Lib.hid (((Below.refl _ w).alloc (Nat.le_refl _) _).alloc (by simp) _)
      have hbx3 : bx < w.heap.size := by omega
      have hby3 : by' < w.heap.size := by omega
      have hfw : IntKind.i64.wrap t.field = t.field := IntWalk.i64_in _ ⟨by omega, by omega⟩
      have hf0 := hf.1
      clear hcall hix hiy hwi hw hta hsh hpx hpy hf HZ
      generalize fval x t.field = vx at *
      generalize fval y t.field = vy at *
      obtain ⟨xi, xA, xn, xc, xxs⟩ := x
      obtain ⟨yi, yA, yn, yc, yxs⟩ := y
      dsimp only at *
      subst hxA hyA
      have d2 := (HW2.out.cell (p := ⟨p, 2, none⟩) hpl).trans c2
      have d6 := (HW2.out.cell (p := ⟨p, 6, none⟩) hpl).trans c6
      have dx := (HW2.out.cell (p := ⟨bx, ox + t.field.toNat, none⟩) hbx3).trans cx0
      have dy := (HW2.out.cell (p := ⟨by', oy + t.field.toNat, none⟩) hby3).trans cy0
      have Xx := Lib.hid ((Box2.new w ⟨xi, some ⟨bx, ox, none⟩, xn, xc, []⟩ 50).alloc (.cells #[.int .i64 yi, .slice (some ⟨by', oy, none⟩) yn yc] 50))
      have Xy := Lib.hid (Box2.new (w.alloc (.cells #[.int .i64 xi, .slice (some ⟨bx, ox, none⟩) xn xc] 50)) ⟨yi, some ⟨by', oy, none⟩, yn, yc, []⟩ 50)
      obtain ⟨-, x_0, x_1⟩ := Xx.out
      obtain ⟨-, y_0, y_1⟩ := Xy.out
      rw [World.size_alloc] at y_0 y_1
      clear Xx Xy
      go_enter Try.func82, Try.ntmps82
      go_wp2
      generalize ((w.alloc (.cells #[.int .i64 xi, .slice (some ⟨bx, ox, none⟩) xn xc] 50)).alloc (.cells #[.int .i64 yi, .slice (some ⟨by', oy, none⟩) yn yc] 50)) = w0 at *
      clear c0 c2 c6 cx0 cy0
      go_still_tail 26, (by kernel_rfl)
      change wpList _ _ _ _ _ w0.drew
      generalize hw1 : w0.drew = w1 at *
      have HB1 : Hid (Below w.heap.size w w1) := Lib.hid (hw1 ▸ HW2.out.drew)
      clear d2 d6 dx dy x_0 x_1 y_0 y_1 hw1
      go_wp2_with fail
      refine (HC.out _ HB1.out).mono ?_
      rintro e w2 ⟨rfl, hb2⟩
      have HB2 := Lib.hid (below_on HB1.out hb2)
      clear hb2
      go_wp2
      go_ret
      exact ⟨rfl, HB2.out⟩
  | dual a ih =>
    intro p w hp hB hix hiy
    rw [hvx, hvy] at ih ⊢
    obtain ⟨_, hpl, t, q, hrow, -, -, -, hpa⟩ := hp
    have c0 := part0 hrow
    have c7 := part7 hrow
    clear hrow
    have HIH : Hid (∀ w1, Below w.heap.size w w1 → Calls Try.prog 82 #[.pointer (some ⟨q, 0, none⟩), .agg #[.int .i64 x.id, .slice x.A x.n x.c], .agg #[.int .i64 y.id, .slice y.A y.n y.c]] w1 fun e w' => e = .returned (.int .i64 (cmpT (wishF x y) a)) ∧ Below w1.heap.size w1 w') := Lib.hid fun w1 h => ih q w1 (hpa.below hB h) (Nat.le_trans hB h.size) (hix.below (h.mono hB)) (hiy.below (h.mono hB))
    have HZ : Hid (cmpT (wishF x y) (.dual a) = revC (cmpT (wishF x y) a)) := Lib.hid rfl
    rw [HZ.out]
    generalize cmpT (wishF x y) a = z at *
    clear HZ ih hix hiy hpa hvx hvy
    have HW2 : Hid (Below w.heap.size w ((w.alloc (.cells #[.int .i64 x.id, .slice x.A x.n x.c] 50)).alloc (.cells #[.int .i64 y.id, .slice y.A y.n y.c] 50))) := Lib.hid (((Below.refl _ w).alloc (Nat.le_refl _) _).alloc (by simp) _)
    have HP0 : Hid (w.cell? ⟨p, 0, none⟩ = some (.int .i64 3)) := Lib.hid c0
    have d7 := (HW2.out.cell (p := ⟨p, 7, none⟩) hpl).trans c7
    have Xx := Lib.hid ((Box2.new w x 50).alloc (.cells #[.int .i64 y.id, .slice y.A y.n y.c] 50))
    have Xy := Lib.hid (Box2.new (w.alloc (.cells #[.int .i64 x.id, .slice x.A x.n x.c] 50)) y 50)
    obtain ⟨-, x_0, x_1⟩ := Xx.out
    obtain ⟨-, y_0, y_1⟩ := Xy.out
    rw [World.size_alloc] at y_0 y_1
    clear Xx Xy
    go_enter Try.func82, Try.ntmps82
    go_wp2
    generalize ((w.alloc (.cells #[.int .i64 x.id, .slice x.A x.n x.c] 50)).alloc (.cells #[.int .i64 y.id, .slice y.A y.n y.c] 50)) = w0 at *
    clear c0 c7
    go_still_tail 6, (by kernel_rfl)
    change wpList _ _ _ _ _ w0.drew
    generalize hw1 : w0.drew = w1 at *
    have HB1 : Hid (Below w.heap.size w w1) := Lib.hid (hw1 ▸ HW2.out.drew)
    clear d7 x_0 x_1 y_0 y_1 hw1
    go_wp2_with fail
    refine (HIH.out _ HB1.out).mono ?_
    rintro e w2 ⟨rfl, hb2⟩
    have HB2 := Lib.hid (below_on HB1.out hb2)
    have c0 := (HB2.out.cell (p := ⟨p, 0, none⟩) hpl).trans HP0.out
    clear hb2
    go_wp2_with fail
    refine (iRev w2 z).mono ?_
    rintro e w3 ⟨rfl, rfl⟩
    go_wp2
    go_ret
    exact ⟨rfl, HB2.out⟩
  | bin op a b iha ihb =>
    intro p w hp hB hix hiy
    rw [hvx, hvy] at iha ihb ⊢
    obtain ⟨_, hpl, hop, t, q, r, hrow, -, -, -, hpa, hpb⟩ := hp
    have c0 := part0 hrow
    have c7 := part7 hrow
    have c8 := part8 hrow
    clear hrow
    have HIA : Hid (∀ w1, Below w.heap.size w w1 → Calls Try.prog 82 #[.pointer (some ⟨q, 0, none⟩), .agg #[.int .i64 x.id, .slice x.A x.n x.c], .agg #[.int .i64 y.id, .slice y.A y.n y.c]] w1 fun e w' => e = .returned (.int .i64 (cmpT (wishF x y) a)) ∧ Below w1.heap.size w1 w') := Lib.hid fun w1 h => iha q w1 (hpa.below hB h) (Nat.le_trans hB h.size) (hix.below (h.mono hB)) (hiy.below (h.mono hB))
    have HIB : Hid (∀ w1, Below w.heap.size w w1 → Calls Try.prog 82 #[.pointer (some ⟨r, 0, none⟩), .agg #[.int .i64 x.id, .slice x.A x.n x.c], .agg #[.int .i64 y.id, .slice y.A y.n y.c]] w1 fun e w' => e = .returned (.int .i64 (cmpT (wishF x y) b)) ∧ Below w1.heap.size w1 w') := Lib.hid fun w1 h => ihb r w1 (hpb.below hB h) (Nat.le_trans hB h.size) (hix.below (h.mono hB)) (hiy.below (h.mono hB))
    have HZ : Hid (cmpT (wishF x y) (.bin op a b) = opC op (cmpT (wishF x y) a) (cmpT (wishF x y) b)) := Lib.hid rfl
    have HCa := Lib.hid (cmpT_code (wishF_code x y) a)
    have HCb := Lib.hid (cmpT_code (wishF_code x y) b)
    rw [HZ.out]
    generalize cmpT (wishF x y) a = za at *
    generalize cmpT (wishF x y) b = zb at *
    obtain ⟨zz, hzz⟩ : ∃ zz, opC op za zb = zz := ⟨_, rfl⟩
    rw [hzz]
    have HV := Lib.hid hzz
    clear hzz
    clear HZ iha ihb hix hiy hpa hpb hvx hvy
    have HW2 : Hid (Below w.heap.size w ((w.alloc (.cells #[.int .i64 x.id, .slice x.A x.n x.c] 50)).alloc (.cells #[.int .i64 y.id, .slice y.A y.n y.c] 50))) := Lib.hid (((Below.refl _ w).alloc (Nat.le_refl _) _).alloc (by simp) _)
    have HP0 : Hid (w.cell? ⟨p, 0, none⟩ = some (.int .i64 op)) := Lib.hid c0
    have HP8 : Hid (w.cell? ⟨p, 8, none⟩ = some (.pointer (some ⟨r, 0, none⟩))) := Lib.hid c8
    have d7 := (HW2.out.cell (p := ⟨p, 7, none⟩) hpl).trans c7
    have f0 : (op == 0) = false := by have := (bin_ne hop).1; simpa using this
    have f3 : (op == 3) = false := by have := (bin_ne hop).2; simpa using this
    have HOp : Hid (op = 1 ∨ op = 2 ∨ op = 4) := Lib.hid hop
    clear hop
    have Xx := Lib.hid ((Box2.new w x 50).alloc (.cells #[.int .i64 y.id, .slice y.A y.n y.c] 50))
    have Xy := Lib.hid (Box2.new (w.alloc (.cells #[.int .i64 x.id, .slice x.A x.n x.c] 50)) y 50)
    obtain ⟨-, x_0, x_1⟩ := Xx.out
    obtain ⟨-, y_0, y_1⟩ := Xy.out
    rw [World.size_alloc] at y_0 y_1
    clear Xx Xy
    have HXB := Lib.hid (And.intro x_0 (And.intro x_1 (And.intro y_0 y_1)))
    go_enter Try.func82, Try.ntmps82
    go_wp2
    generalize hw0 : ((w.alloc (.cells #[.int .i64 x.id, .slice x.A x.n x.c] 50)).alloc (.cells #[.int .i64 y.id, .slice y.A y.n y.c] 50)) = w0 at *
    clear c0 c7 c8
    go_still_tail 6, (by kernel_rfl)
    change wpList _ _ _ _ _ w0.drew
    have HX0 : Hid (w.heap.size < w0.heap.size ∧ w.heap.size + 1 < w0.heap.size) := Lib.hid (by rw [← hw0]; simp; omega)
    generalize hw1 : w0.drew = w1 at *
    have HB1 : Hid (Below w.heap.size w w1) := Lib.hid (hw1 ▸ HW2.out.drew)
    have HB01 : Hid (Below w0.heap.size w0 w1) := Lib.hid (hw1 ▸ (Below.refl _ _).drew)
    clear d7 x_0 x_1 y_0 y_1 hw1 hw0
    go_wp2_with fail
    refine (HIA.out _ HB1.out).mono ?_
    rintro e w2 ⟨rfl, hb2⟩
    have HB2 := Lib.hid (below_on HB1.out hb2)
    have HB02 := Lib.hid (below_on HB01.out hb2)
    have c0 := (HB2.out.cell (p := ⟨p, 0, none⟩) hpl).trans HP0.out
    have c8 := (HB2.out.cell (p := ⟨p, 8, none⟩) hpl).trans HP8.out
    obtain ⟨x_0, x_1, y_0, y_1⟩ := HXB.out
    obtain ⟨hx0, hy0⟩ := HX0.out
    replace x_0 := (HB02.out.cell (p := ⟨w.heap.size, 0, none⟩) hx0).trans x_0
    replace x_1 := (HB02.out.cell (p := ⟨w.heap.size, 1, none⟩) hx0).trans x_1
    replace y_0 := (HB02.out.cell (p := ⟨w.heap.size + 1, 0, none⟩) hy0).trans y_0
    replace y_1 := (HB02.out.cell (p := ⟨w.heap.size + 1, 1, none⟩) hy0).trans y_1
    clear hb2
    go_wp2
    go_still_tail 6, (by kernel_rfl)
    change wpList _ _ _ _ _ w2.drew
    generalize hw3 : w2.drew = w3 at *
    have HB3 : Hid (Below w.heap.size w w3) := Lib.hid (hw3 ▸ HB2.out.drew)
    clear c0 c8 x_0 x_1 y_0 y_1 hx0 hy0 hw3
    go_wp2_with fail
    refine (HIB.out _ HB3.out).mono ?_
    rintro e w4 ⟨rfl, hb4⟩
    have HB4 := Lib.hid (below_on HB3.out hb4)
    have c0 := (HB4.out.cell (p := ⟨p, 0, none⟩) hpl).trans HP0.out
    clear hb4
    rcases HOp.out with rfl | rfl | rfl
    · have HR : Hid (zz = if apartC za zb = true then 2 else if za ≠ 0 then za else zb) := Lib.hid (by rw [← HV.out]; exact opC_pareto HCa.out HCb.out)
      clear HV
      go_wp2_with fail
      refine (iDis w4 za zb HCa.out HCb.out).mono ?_
      rintro e w5 ⟨rfl, rfl⟩
      generalize apartC za zb = qa at *
      cases qa
      · by_cases h : za = 0
        · subst h
          obtain rfl : zz = zb := by rw [HR.out]; simp
          go_wp2
          go_ret
          exact ⟨rfl, HB4.out⟩
        · obtain rfl : zz = za := by rw [HR.out, if_neg (by simp), if_pos h]
          have hne : (zz != 0) = true := by simpa using h
          go_wp2
          go_ret
          exact ⟨rfl, HB4.out⟩
      · obtain rfl : zz = 2 := by rw [HR.out, if_pos rfl]
        go_wp2
        go_ret
        exact ⟨rfl, HB4.out⟩
    · have HR : Hid (zz = if za ≠ 0 then za else zb) := Lib.hid (by rw [← HV.out]; rfl)
      clear HV
      by_cases h : za = 0
      · subst h
        obtain rfl : zz = zb := by rw [HR.out]; simp
        go_wp2
        go_ret
        exact ⟨rfl, HB4.out⟩
      · obtain rfl : zz = za := by rw [HR.out, if_pos h]
        have hne : (zz != 0) = true := by simpa using h
        go_wp2
        go_ret
        exact ⟨rfl, HB4.out⟩
    · have HR : Hid (zz = if za = zb then za else 2) := Lib.hid (by rw [← HV.out]; rfl)
      clear HV
      by_cases h : za = zb
      · subst h
        obtain rfl : zz = za := by rw [HR.out, if_pos rfl]
        have hne2 : (zz != zz) = false := by simp
        by_cases h : zz = 0
        · subst h
          go_wp2
          go_ret
          exact ⟨rfl, HB4.out⟩
        · have hne : (zz != 0) = true := by simpa using h
          go_wp2
          go_ret
          exact ⟨rfl, HB4.out⟩
      · obtain rfl : zz = 2 := by rw [HR.out, if_neg h]
        have hne : (za != zb) = true := by simpa using h
        go_wp2
        go_ret
        exact ⟨rfl, HB4.out⟩
end Go.Proofs.Ytnjnlcmddcjcfaa.num
namespace Go.Proofs.Ytnjnlcmddcjcfaa.num
set_option maxRecDepth 20000
open Go.RowKit
set_option linter.unusedVariables false

theorem run_app_none {P : Program} {w : World} {B : Nat} {T tS ty : TypeId} {z : Value} {s bytes : Nat} (ht : P.underlying tS = some (.slice T)) (hinf : (P.info? T).map (fun i => (i.zero, i.size, i.bytes)) = some (some z, s, bytes)) {v : Value} {n c : Nat} {xs : List Value} (hown : w.ownsRow B T s v n xs) :
    ∃ v' w', (Builtin.append_ #[tS, tS] ty #[v, .slice none 0 c]).run P w = .ok v' w' ∧ w'.ownsRow B T s v' (n + 0) (xs ++ []) ∧ w.grownBy w' v.ownBlock ∧ (v'.ownBlock = v.ownBlock ∨ v'.ownBlock = some w.heap.size) := by
  obtain ⟨i, hi, hz⟩ := Option.map_eq_some_iff.1 hinf
  refine ⟨v, w, ?_, by simpa using hown, ⟨rfl, rfl, rfl, Nat.le_refl _, fun _ _ _ => rfl⟩, .inl rfl⟩
  rcases hown.2 with ⟨rfl, rfl⟩ | ⟨g, cap, cur, rfl, _, _, hnc, _⟩
  · simp [Builtin.append_, run_underlying ht, sizeOf, typeInfo, hi, Builtin.lenOf, Builtin.firstCells]
  · simp [Builtin.append_, run_underlying ht, sizeOf, typeInfo, hi, Builtin.lenOf, Builtin.firstCells, hnc, storeCells]
theorem run_app_some {P : Program} {w : World} {B : Nat} {T tS ty : TypeId} {z : Value} {s bytes : Nat} (ht : P.underlying tS = some (.slice T)) (hinf : (P.info? T).map (fun i => (i.zero, i.size, i.bytes)) = some (some z, s, bytes)) (hzs : z.cells.size = s) (hs0 : 0 < s) (hbt : 0 < bytes) {v : Value} {n : Nat} {xs : List Value} (hown : w.ownsRow B T s v n xs)
    (a : Addr) {m c : Nat} {news : List Value} (hl : news.length = m * s) (hnews : ∀ j u, news[j]? = some u → w.cell? (a.add j) = some u) (h1 : ∀ u ∈ news, u.oneCell' = true) (hbytes : (n + m) * bytes ≤ 140737488355328) (hB : B ≤ w.heap.size) :
    ∃ v' w', (Builtin.append_ #[tS, tS] ty #[v, .slice (some a) m c]).run P w = .ok v' w' ∧ w'.ownsRow B T s v' (n + m) (xs ++ news) ∧ w.grownBy w' v.ownBlock ∧ (v'.ownBlock = v.ownBlock ∨ v'.ownBlock = some w.heap.size) := by
  obtain ⟨i, hi, hz⟩ := Option.map_eq_some_iff.1 hinf
  simp only [Prod.mk.injEq] at hz
  obtain ⟨hz0, hz1, hz2⟩ := hz
  have hm : n + m ≤ 140737488355328 := Nat.le_trans (Nat.le_mul_of_pos_right _ hbt) hbytes
  obtain ⟨v', w', h1, h2, h3, _, h5⟩ := run_append_own_at (P := P) w B tS ty T i z s bytes ht hi hz0 hz1 hz2 hzs hs0 v n xs hown a m c news hl hnews h1 (by unfold maxLen; omega) hbytes hB
  exact ⟨v', w', h1, h2, h3, h5⟩
theorem addr_add (b off j : Nat) : (⟨b, off, none⟩ : Addr).add j = ⟨b, off + j, none⟩ := by unfold Addr.add; split <;> simp_all
theorem run_spreadI {w : World} {B B' : Nat} {v : Value} {l ys : List Int} {A : Option Addr} {n c : Nat} {ty : TypeId} (h : OwnI w B v l) (hr : Ints w B' A n ys) (hlen : (l.length + n) * 8 ≤ 140737488355328) (hB : B ≤ w.heap.size) :
    ∃ v' w', (Builtin.append_ #[34, 34] ty #[v, .slice A n c]).run Try.prog w = .ok v' w' ∧ OwnI w' B v' (l ++ ys) ∧ w.grownBy w' v.ownBlock ∧ (v'.ownBlock = v.ownBlock ∨ v'.ownBlock = some w.heap.size) := by
  obtain ⟨hl, hc⟩ := hr
  have e : (l ++ ys).length = l.length + n := by rw [List.length_append, hl]
  unfold OwnI
  rw [e, List.map_append]
  cases A with
  | none =>
    obtain rfl : n = 0 := by
      rcases Nat.eq_zero_or_pos n with e | e
      · exact e
      · obtain ⟨_, _, h, _⟩ := hc 0 e; cases h
    obtain rfl : ys = [] := List.eq_nil_of_length_eq_zero hl
    exact run_app_none Try.underlying34 info_int h
  | some a =>
    refine run_app_some Try.underlying34 info_int rfl (by decide) (by decide) h a (by simp [hl]) (fun j u hj => ?_) (fun u hu => ?_) hlen hB
    · have hjl : j < ys.length := by
        rcases Nat.lt_or_ge j ys.length with q | q
        · exact q
        · rw [List.getElem?_eq_none (by simpa using q)] at hj; cases hj
      obtain ⟨b, off, e, _, hcell⟩ := hc j (by omega)
      cases e
      rw [addr_add, hcell]
      rw [List.getElem?_map, List.getElem?_eq_getElem hjl] at hj
      rw [List.getD_eq_getElem?_getD, List.getElem?_eq_getElem hjl]
      exact hj
    · obtain ⟨x, _, rfl⟩ := List.mem_map.1 hu
      rfl
theorem run_spreadP {w : World} {B B' : Nat} {v : Value} {l ys : List (Int × Int)} {A : Option Addr} {n c : Nat} {ty : TypeId} (h : OwnP w B v l) (hr : Pairs w B' A n ys) (hlen : (l.length + n) * 16 ≤ 140737488355328) (hB : B ≤ w.heap.size) :
    ∃ v' w', (Builtin.append_ #[52, 52] ty #[v, .slice A n c]).run Try.prog w = .ok v' w' ∧ OwnP w' B v' (l ++ ys) ∧ w.grownBy w' v.ownBlock ∧ (v'.ownBlock = v.ownBlock ∨ v'.ownBlock = some w.heap.size) := by
  obtain ⟨hl, hc⟩ := hr
  have e : (l ++ ys).length = l.length + n := by rw [List.length_append, hl]
  unfold OwnP
  rw [e, flat_app]
  cases A with
  | none =>
    obtain rfl : ys = [] := by
      cases ys with
      | nil => rfl
      | cons p r => obtain ⟨_, _, h, _⟩ := hc 0 p rfl; cases h
    obtain rfl : n = 0 := hl.symm
    exact run_app_none Try.underlying52 info_pair h
  | some a =>
    refine run_app_some Try.underlying52 info_pair rfl (by decide) (by decide) h a (by rw [flat_len, hl]) (fun j u hj => ?_) (flat_one ys) hlen hB
    have hjl : j < ys.length * 2 := by
      rcases Nat.lt_or_ge j (flat ys).length with q | q
      · rwa [flat_len] at q
      · rw [List.getElem?_eq_none q] at hj; cases hj
    have hk : j / 2 < ys.length := by omega
    have hg : ys[j / 2]? = some (ys[j / 2]) := List.getElem?_eq_getElem hk
    obtain ⟨b, off, e, _, h1, h2⟩ := hc (j / 2) _ hg
    cases e
    rw [addr_add]
    have he := flat_even ys (j / 2) _ hg
    have ho := flat_odd ys (j / 2) _ hg
    by_cases hp : j % 2 = 0
    · have e2 : j = j / 2 * 2 := by omega
      rw [e2] at hj
      rw [he] at hj
      rw [e2, h1]
      exact hj
    · have e2 : j = j / 2 * 2 + 1 := by omega
      rw [e2] at hj
      rw [ho] at hj
      rw [e2, ← Nat.add_assoc, h2]
      exact hj
theorem run_spreadG {α : Type} {f : α → List Value} {s : Nat} (hf : ∀ x, (f x).length = s) (h1 : ∀ x, ∀ u ∈ f x, u.oneCell' = true) {T tS ty : TypeId} {z : Value} {bytes : Nat} (ht : Try.prog.underlying tS = some (.slice T)) (hinf : (Try.prog.info? T).map (fun i => (i.zero, i.size, i.bytes)) = some (some z, s, bytes)) (hzs : z.cells.size = s) (hs0 : 0 < s) (hbt : 0 < bytes)
    {w : World} {B B' : Nat} {v : Value} {l ys : List α} {A : Option Addr} {n c : Nat} (h : OwnG T f s w B v l) (hr : ReadG f s w B' A n ys) (hlen : (l.length + n) * bytes ≤ 140737488355328) (hB : B ≤ w.heap.size) :
    ∃ v' w', (Builtin.append_ #[tS, tS] ty #[v, .slice A n c]).run Try.prog w = .ok v' w' ∧ OwnG T f s w' B v' (l ++ ys) ∧ w.grownBy w' v.ownBlock ∧ (v'.ownBlock = v.ownBlock ∨ v'.ownBlock = some w.heap.size) := by
  have hl := hr.len
  have e : (l ++ ys).length = l.length + n := by rw [List.length_append, hl]
  unfold OwnG
  rw [e, List.flatMap_append]
  cases A with
  | none =>
    obtain rfl : n = 0 := by
      rcases Nat.eq_zero_or_pos n with e | e
      · exact e
      · obtain ⟨_, _, h, _⟩ := hr.cells hf e; cases h
    obtain rfl : ys = [] := List.eq_nil_of_length_eq_zero hl
    exact run_app_none ht hinf h
  | some a =>
    refine run_app_some ht hinf hzs hs0 hbt h a (by rw [fm_len hf, hl]) (fun j u hj => ?_) (fm_one h1 ys) hlen hB
    have hn : 0 < n := by
      rcases Nat.eq_zero_or_pos n with e | e
      · subst e
        obtain rfl : ys = [] := List.eq_nil_of_length_eq_zero hl
        simp at hj
      · exact e
    obtain ⟨b, off, e, _, hcell⟩ := hr.cells hf hn
    cases e
    rw [addr_add]
    exact hcell j u hj
/-- An append whose run is known, as a step of a region that draws. -/
theorem step_run {P : Program} {ops : Array Oper} {o : Oper} {a : Act} {K : Act → World → Prop} {Q : Exit → Act → World → Prop} {E : Prop} (w : World) (hgd : o.guard = none) (s x : Operand) (t : TypeId)
    (ho : o.op = .call { callee := .builtin .append, args := #[s, x], argTypes := #[t, t] }) (v u : Value) (hs : a.eval s = v) (hx : a.eval x = u) {v' : Value} {w' : World}
    (hr : (Builtin.append_ #[t, t] o.type #[v, u]).run P w = .ok v' w') (h : K (a.put o.dst v') w') : if Region.wanted o (yielded ops a.tmps) = true then Oper.wp P o a w K Q else E := by
  have hw : Region.wanted o (yielded ops a.tmps) = true := by simp [Region.wanted, hgd]
  rw [if_pos hw]
  exact Go.Lib.wp_append_run_sl w s x t ho v u hs hx hr h
theorem stepI {ops : Array Oper} {o : Oper} {a : Act} {K : Act → World → Prop} {Q : Exit → Act → World → Prop} {E : Prop} (w : World) (hgd : o.guard = none) (s x : Operand)
    (ho : o.op = .call { callee := .builtin .append, args := #[s, x], argTypes := #[34, 34] })
    (B : Nat) (v : Value) (l : List Int) (hs : a.eval s = v) (hown : OwnI w B v l) (cs : Array Value) (new : List Int) (hcs : cs = (new.map (Value.int .i64)).toArray) (n c : Nat) (hn : n = new.length)
    (hx : a.eval x = .slice (some ⟨w.heap.size, 0, none⟩) n c) (hlen : (l.length + new.length) * 8 ≤ 140737488355328) (hB : B ≤ w.heap.size)
    (h : ∀ v' w', OwnI w' B v' (l ++ new) → Below B w w' → K (a.put o.dst v') w') :
    if Region.wanted o (yielded ops a.tmps) = true then Oper.wp Try.prog o a (w.alloc (.cells cs 3)) K Q else E := by
  have hw : Region.wanted o (yielded ops a.tmps) = true := by simp [Region.wanted, hgd]
  rw [if_pos hw]
  obtain ⟨i0, hi, hz0, hz1, hz2⟩ := info_parts info_int
  subst hcs hn
  refine wp_append_own _ s x 34 ho B 3 i0 (.int .i64 0) 1 8 Try.underlying34 hi hz0 hz1 hz2 rfl (by decide) v l.length (l.map (Value.int .i64)) hs (World.ownsRow.alloc hown _) ⟨w.heap.size, 0, none⟩ new.length c (new.map (Value.int .i64)) hx (by simp) ?_ ?_ (by unfold maxLen; omega) (by omega) (by simp; omega) ?_
  · intro j u hj
    have e : (⟨w.heap.size, 0, none⟩ : Addr).add j = ⟨w.heap.size, j, none⟩ := by unfold Addr.add; split <;> simp_all
    rw [e, World.cell?_alloc_at _ _ _ _ rfl]
    simpa using hj
  · intro u hu
    obtain ⟨b, _, rfl⟩ := List.mem_map.1 hu
    rfl
  · intro v' w' hown' hg _
    refine h v' w' ?_ (((Below.refl B w).alloc hB _).grown hg (by simp; omega) (fun k hk => ?_))
    · have e : (l ++ new).length = l.length + new.length := by simp
      unfold OwnI
      rw [e, List.map_append]
      exact hown'
    · exact (World.ownsRow.lt hown k hk).1

end Go.Proofs.Ytnjnlcmddcjcfaa.num
namespace Go.Proofs.Ytnjnlcmddcjcfaa.num
set_option maxRecDepth 20000
open Go.RowKit
set_option linter.unusedVariables false
set_option linter.unusedSimpArgs false

theorem ownI_take {w : World} {B : Nat} {A : Option Addr} {n c k : Nat} {l : List Int} (h : OwnI w B (.slice A n c) l) (hk : k ≤ n) : OwnI w B (.slice A k c) (l.take k) := by
  rcases h.2 with ⟨e, hl⟩ | ⟨g, cap, cur, e, hB, hg, h1, h2, h3, h4⟩
  · injection e with e1 e2 e3
    subst e1 e2 e3
    obtain rfl : k = 0 := by omega
    exact ⟨by simp, .inl ⟨rfl, by simp⟩⟩
  · injection e with e1 e2 e3
    subst e1 e2 e3
    have hlen : (l.take k).length = k := by rw [List.length_take]; omega
    refine ⟨by simp, .inr ⟨g, c, cur, by rw [hlen], hB, hg, by omega, h2, h3, ?_⟩⟩
    rw [List.map_take, ← h4, List.take_take, hlen]
    congr 1
    omega
theorem ownI_cells {w : World} {B : Nat} {A : Option Addr} {n c : Nat} {l : List Int} (h : OwnI w B (.slice A n c) l) (hn : 0 < n) : l.length = n ∧ n ≤ c ∧ c ≤ maxLen ∧ ∃ g, A = some ⟨g, 0, none⟩ ∧ B ≤ g ∧ g < w.heap.size ∧ ∀ (j : Nat) (x : Int), l[j]? = some x → w.cell? ⟨g, j, none⟩ = some (.int .i64 x) ∧ w.frozen? ⟨g, j, none⟩ = false := by
  rcases ownI_row h with ⟨e, _⟩ | ⟨g, cap, f, e, hB, h1, h2, h3, h4⟩
  · injection e with e1 e2 e3; omega
  · injection e with e1 e2 e3
    subst e1 e2 e3
    refine ⟨rfl, h1, h2, g, rfl, hB, h3.lt, fun j x hj => ?_⟩
    have hlt : j < l.length := by
      rcases Nat.lt_or_ge j l.length with q | q
      · exact q
      · rw [List.getElem?_eq_none q] at hj; cases hj
    have h5 := h4 j hlt
    rw [List.getElem?_map, hj] at h5
    exact ⟨by rw [World.rowIs.cell h3 (by omega)]; exact h5.symm, World.rowIs.frozen h3 j⟩
theorem ownI_setlast {w : World} {B g n c : Nat} {M : List Int} {x : Int} (h : OwnI w B (.slice (some ⟨g, 0, none⟩) n c) (M ++ [x])) (y : Int) : OwnI (w.setCell ⟨g, M.length, none⟩ (.int .i64 y)) B (.slice (some ⟨g, 0, none⟩) n c) (M ++ [y]) := by
  rcases ownI_row h with ⟨e, _⟩ | ⟨g', cap, f, e, hB, h1, h2, h3, h4⟩
  · cases e
  · injection e with e1 e2 e3
    injection e1 with e1
    injection e1 with e1
    subst e1 e2 e3
    refine ownI_of_row hB (by simp) h1 h2 (World.rowIs.set h3 M.length (.int .i64 y)) fun j hj => ?_
    have h5 := h4 j hj
    by_cases e : j = M.length
    · subst e
      rw [if_pos rfl]
      simp
    · rw [if_neg e, ← h5]
      have hlt : j < M.length := by simp at hj; omega
      simp only [List.map_append]
      rw [List.getElem?_append_left (by simpa using hlt), List.getElem?_append_left (by simpa using hlt)]
theorem snoc_of {α : Type} {l : List α} {k : Nat} (h : l.length = k + 1) : ∃ m x, l = m ++ [x] ∧ m.length = k := by
  rcases List.eq_nil_or_concat l with rfl | ⟨m, x, rfl⟩
  · simp at h
  · exact ⟨m, x, by rw [List.concat_eq_append], by simpa using h⟩

theorem sMeet (w : World) (a b : Int) : Calls Try.prog 73 #[.int .i64 a, .int .i64 b] w fun e w' => e = .returned (.int .i64 (if a = b then a else 2)) ∧ w' = w := by
  by_cases h : a = b
  · subst h
    rw [if_pos rfl]
    have hx : (a == a) = true := by simp
    go_enter Try.func73, Try.ntmps73
    go_wp2
    go_ret
    exact ⟨rfl, rfl⟩
  · rw [if_neg h]
    have hx : (a == b) = false := by simpa using h
    go_enter Try.func73, Try.ntmps73
    go_wp2
    go_ret
    exact ⟨rfl, rfl⟩
theorem sPareto (w : World) (a b : Int) (ha : Code a) (hb : Code b) : Calls Try.prog 72 #[.int .i64 a, .int .i64 b] w fun e w' => e = .returned (.int .i64 (opC 1 a b)) ∧ w' = w := by
  rcases ha with rfl | rfl | rfl | rfl <;> rcases hb with rfl | rfl | rfl | rfl <;>
    (go_enter Try.func72, Try.ntmps72
     go_wp2
     go_ret
     exact ⟨by first | rfl | decide, rfl⟩)
theorem sOp (w : World) (op a b : Int) (ho : Bin op) (ha : Code a) (hb : Code b) : Calls Try.prog 59 #[.int .i64 op, .int .i64 a, .int .i64 b] w fun e w' => e = .returned (.int .i64 (opC op a b)) ∧ w' = w := by
  have HP : Hid (∀ w1, Calls Try.prog 72 #[.int .i64 a, .int .i64 b] w1 fun e w' => e = .returned (.int .i64 (opC 1 a b)) ∧ w' = w1) := Lib.hid fun w1 => sPareto w1 a b ha hb
  clear ha hb
  obtain ⟨z, hz⟩ : ∃ z, opC op a b = z := ⟨_, rfl⟩
  rw [hz]
  have HZ := Lib.hid hz
  clear hz
  rcases ho with rfl | rfl | rfl
  · go_enter Try.func59, Try.ntmps59
    go_wp2_with fail
    refine (HP.out _).mono ?_
    rintro e w1 ⟨rfl, rfl⟩
    rw [HZ.out]
    go_wp2
    go_ret
    exact ⟨rfl, rfl⟩
  · by_cases h : a = 0
    · subst h
      obtain rfl : z = b := by rw [← HZ.out]; rfl
      go_enter Try.func59, Try.ntmps59
      go_wp2
      go_ret
      exact ⟨rfl, rfl⟩
    · obtain rfl : z = a := by rw [← HZ.out]; unfold opC; rw [if_neg (by decide), if_pos rfl, if_pos h]
      have hne : (z != 0) = true := by simpa using h
      go_enter Try.func59, Try.ntmps59
      go_wp2
      go_ret
      exact ⟨rfl, rfl⟩
  · go_enter Try.func59, Try.ntmps59
    go_wp2_with fail
    refine (sMeet _ a b).mono ?_
    rintro e w1 ⟨rfl, rfl⟩
    have hv : (if a = b then a else 2) = z := by rw [← HZ.out]; rfl
    rw [hv]
    go_wp2
    go_ret
    exact ⟨rfl, rfl⟩

/-- The codes on the stack, the last one on top. -/
def codes (f : WD → Int) (st : List Tr) : List Int := st.reverse.map (cmpT f)
theorem codes_cons (f : WD → Int) (t : Tr) (st : List Tr) : codes f (t :: st) = codes f st ++ [cmpT f t] := by unfold codes; rw [List.reverse_cons, List.map_append, List.map_singleton]
theorem codes_len (f : WD → Int) (st : List Tr) : (codes f st).length = st.length := by unfold codes; simp
theorem stk_next {l : List ND} {nd : ND} {st : List Tr} (h : Stk l st) (h' : ∃ s, Stk (l ++ [nd]) s) :
    (nd.op = 0 ∧ IsW nd.w) ∨ (nd.op = 3 ∧ NoW nd.w ∧ ∃ a s, st = a :: s) ∨ (Bin nd.op ∧ NoW nd.w ∧ ∃ a b s, st = b :: a :: s) := by
  obtain ⟨s, hs⟩ := h'
  rcases hs.inv with ⟨h1, h2, _⟩ | ⟨h1, h2, a, s', k, _⟩ | ⟨h1, h2, a, b, s', k, _⟩
  · exact .inl ⟨h1, h2⟩
  · exact .inr (.inl ⟨h1, h2, a, s', h.one k⟩)
  · exact .inr (.inr ⟨h1, h2, a, b, s', h.one k⟩)

set_option maxRecDepth 20000 in
set_option maxHeartbeats 6400000 in
theorem sCompare (w : World) (B : Nat) (A : Option Addr) (n c : Nat) (ns : List Nd) (x y : It) (hi : Nodes w B A n ns) (hix : Ints w B x.A x.n x.xs) (hiy : Ints w B y.A y.n y.xs) (hB : B ≤ w.heap.size) (hN : ShortN ns) (hpx : IsP x.dat) (hpy : IsP y.dat) (t : Tr) (hp : Post (datN ns) t) (h9 : n ≤ 9) :
    Calls Try.prog 42 #[.slice A n c, x.val, y.val] w fun e w' => e = .returned (.int .i64 (cmpT (wishF x y) t)) ∧ Below w.heap.size w w' := by
  have HX := Lib.hid hi
  have HN := Lib.hid hN
  have HIx := Lib.hid hix
  have HIy := Lib.hid hiy
  have HPx := Lib.hid hpx
  have HPy := Lib.hid hpy
  have HPo := Lib.hid (post_stk.1 hp)
  have HPre : Hid (∀ k, ∃ s, Stk (datN (ns.take k)) s) := Lib.hid fun k => by
    have h := post_stk.1 hp
    rw [datN_split ns k] at h
    exact h.pre
  have hvx : x.val = .agg #[.int .i64 x.id, .slice x.A x.n x.c] := rfl
  have hvy : y.val = .agg #[.int .i64 y.id, .slice y.A y.n y.c] := rfl
  rw [hvx, hvy]
  clear hi hN hix hiy hpx hpy hp hvx hvy
  have hB1 : Below w.heap.size w (((w.alloc (.cells #[.int .i64 x.id, .slice x.A x.n x.c] 50)).alloc (.cells #[.int .i64 y.id, .slice y.A y.n y.c] 50)).alloc (.cells #[] 3)) := (((Below.refl _ w).alloc (Nat.le_refl _) _).alloc (by simp) _).alloc (by simp; omega) _
  have HB1 := Lib.hid hB1
  have Xx := Lib.hid (((Box2.new w x 50).alloc (.cells #[.int .i64 y.id, .slice y.A y.n y.c] 50)).alloc (.cells #[] 3))
  have Xy := Lib.hid ((Box2.new (w.alloc (.cells #[.int .i64 x.id, .slice x.A x.n x.c] 50)) y 50).alloc (.cells #[] 3))
  have HO : Hid (OwnI (((w.alloc (.cells #[.int .i64 x.id, .slice x.A x.n x.c] 50)).alloc (.cells #[.int .i64 y.id, .slice y.A y.n y.c] 50)).alloc (.cells #[] 3)) (w.heap.size + 2) (.slice (some ⟨((w.alloc (.cells #[.int .i64 x.id, .slice x.A x.n x.c] 50)).alloc (.cells #[.int .i64 y.id, .slice y.A y.n y.c] 50)).heap.size, 0, none⟩) 0 0) []) := Lib.hid (OwnI.empty _ _ (by simp))
  clear hB1
  go_enter Try.func42, Try.ntmps42
  go_wp2
  go_loopw [7, 8] (fun s i wr => ∃ (k m : Nat) (cc : Nat) (SA : Option Addr) (st : List Tr), k ≤ n ∧ i = .int .i64 k ∧ s = .slice SA m cc ∧ m ≤ k ∧ Stk (datN (ns.take k)) st ∧ st.length = m ∧ OwnI wr (w.heap.size + 2) (.slice SA m cc) (codes (wishF x y) st) ∧ Below w.heap.size w wr ∧ w.heap.size + 2 ≤ wr.heap.size ∧
    (wr.cell? ⟨w.heap.size, 0, none⟩ = some (.int .i64 x.id) ∧ wr.cell? ⟨w.heap.size, 1, none⟩ = some (.slice x.A x.n x.c) ∧ wr.cell? ⟨w.heap.size + 1, 0, none⟩ = some (.int .i64 y.id) ∧ wr.cell? ⟨w.heap.size + 1, 1, none⟩ = some (.slice y.A y.n y.c))) (fun _ i _ => n - (intOf i).toNat)
  case atStart =>
    obtain ⟨-, x_0, x_1⟩ := Xx.out
    obtain ⟨-, y_0, y_1⟩ := Xy.out
    rw [World.size_alloc] at y_0 y_1
    refine ⟨0, 0, 0, _, [], Nat.zero_le _, rfl, rfl, Nat.le_refl _, .nil, rfl, ?_, HB1.out, by simp, x_0, x_1, y_0, y_1⟩
    have h := HO.out
    have e : codes (wishF x y) [] = [] := rfl
    rw [e]
    simpa using h
  case round =>
    clear Xx Xy HO HB1
    obtain ⟨k, m, cc, SA, st, hk, rfl, rfl, hmk, hst, hlen, hown, hbel, hs2, hbox⟩ := hrel
    have HSt := Lib.hid hst
    have HLen := Lib.hid hlen
    have HO := Lib.hid hown
    have HB := Lib.hid hbel
    have HS2 := Lib.hid hs2
    have HBox := Lib.hid hbox
    clear hst hlen hown hs2
    by_cases hlt : k < n
    · obtain ⟨b1, off, ⟨op, t⟩, rfl, hb1, hat, hwf, g0, g1, g2, g3, g4, g5⟩ := HX.out.at k hlt
      dsimp only at g0 g1 g2 g3 g4 g5
      have tr : ∀ {bb oo : Nat} {v : Value}, bb < B → w.cell? ⟨bb, oo, none⟩ = some v → wr.cell? ⟨bb, oo, none⟩ = some v := fun {bb oo v} hb h => (hbel.cell (p := ⟨bb, oo, none⟩) (Nat.lt_of_lt_of_le hb hB)).trans h
      have g0 := tr hb1 g0
      have g1 := tr hb1 g1
      have g2 := tr hb1 g2
      have g3 := tr hb1 g3
      have g4 := tr hb1 g4
      have g5 := tr hb1 g5
      have hlt' : (k : Int) < (n : Int) := by omega
      have HWi : Hid (WiIn wr B t) := Lib.hid (hwf.2.below (hbel.mono hB))
      have hBr : B ≤ wr.heap.size := Nat.le_trans hB hbel.size
      have HSh : Hid t.Short := Lib.hid (HN.out _ (List.mem_of_getElem? hat))
      have HE : Hid (datN (ns.take (k + 1)) = datN (ns.take k) ++ [⟨op, t.dat⟩]) := Lib.hid (datN_at hat)
      have hnext := stk_next HSt.out (HE.out ▸ HPre.out (k + 1))
      have HIx1 := Lib.hid (HIx.out.below (hbel.mono hB))
      have HIy1 := Lib.hid (HIy.out.below (hbel.mono hB))
      clear hat hwf hbel tr
      dsimp only at hnext
      rcases hnext with ⟨rfl, hw⟩ | ⟨rfl, hnw, a, s, rfl⟩ | ⟨hbin, hnw, a, b, s, rfl⟩
      · have hf : 0 ≤ t.field ∧ t.field ≤ 2 := hw.f
        obtain ⟨bx, ox, hxA, hbx, hfn, hfx, cx0⟩ := fval_cell HIx1.out HPx.out hf
        obtain ⟨by', oy, hyA, hby, -, hfy, cy0⟩ := fval_cell HIy1.out HPy.out hf
        have HC : Hid (∀ w1, Below wr.heap.size wr w1 → Calls Try.prog 58 #[.agg #[.int .i64 t.kind, .int .i64 t.field, .int .i64 t.value, .slice t.LA t.Ln t.Lc, .slice t.PA t.Pn t.Pc], .int .i64 (fval x t.field), .int .i64 (fval y t.field)] w1 fun e w' => e = .returned (.int .i64 (cmpW t.dat (fval x t.field) (fval y t.field))) ∧ Below w1.heap.size w1 w') := Lib.hid fun w1 h => sCmp w1 B t (HWi.out.below (h.mono hBr)) (Nat.le_trans hBr h.size) HSh.out hw _ _ (fval_in HPx.out hf) (fval_in HPy.out hf)
        have HS1 : Hid (Stk (datN (ns.take (k + 1))) (.base t.dat :: st)) := Lib.hid (by rw [HE.out]; exact .base HSt.out rfl hw)
        have HZ : Hid (codes (wishF x y) (.base t.dat :: st) = codes (wishF x y) st ++ [cmpW t.dat (fval x t.field) (fval y t.field)]) := Lib.hid (codes_cons _ _ _)
        generalize cmpW t.dat (fval x t.field) (fval y t.field) = z at *
        generalize fval x t.field = vx at *
        generalize fval y t.field = vy at *
        have hbx3 : bx < wr.heap.size := by omega
        have hby3 : by' < wr.heap.size := by omega
        have hfw : IntKind.i64.wrap t.field = t.field := IntWalk.i64_in _ ⟨by omega, by omega⟩
        have hf0 := hf.1
        obtain ⟨x_0, x_1, y_0, y_1⟩ := hbox
        rw [hxA] at x_1
        rw [hyA] at y_1
        clear hxA hyA
        have HCap : Hid (((codes (wishF x y) st).length + [z].length) * 8 ≤ 140737488355328) := Lib.hid (by rw [codes_len, HLen.out]; simp; omega)
        clear hf hw
        go_wp2
        have hws0 : w.heap.size < w.heap.size + 2 := by omega
        have hws1 : w.heap.size + 1 < w.heap.size + 2 := by omega
        have hb1r : b1 < w.heap.size + 2 := by omega
        have hbxr : bx < w.heap.size + 2 := by omega
        have hbyr : by' < w.heap.size + 2 := by omega
        have hs0 : (fun w' => Below (w.heap.size + 2) wr w' ∧ w'.cell? ⟨w.heap.size, 0, none⟩ = some (.int .i64 x.id) ∧ w'.cell? ⟨w.heap.size, 1, none⟩ = some (.slice (some ⟨bx, ox, none⟩) x.n x.c) ∧ w'.cell? ⟨w.heap.size + 1, 0, none⟩ = some (.int .i64 y.id) ∧ w'.cell? ⟨w.heap.size + 1, 1, none⟩ = some (.slice (some ⟨by', oy, none⟩) y.n y.c) ∧ w'.cell? ⟨b1, off + k * 6, none⟩ = some (.int .i64 0) ∧ w'.cell? ⟨b1, off + k * 6 + 1, none⟩ = some (.int .i64 t.kind) ∧ w'.cell? ⟨b1, off + k * 6 + 2, none⟩ = some (.int .i64 t.field) ∧ w'.cell? ⟨b1, off + k * 6 + 3, none⟩ = some (.int .i64 t.value) ∧ w'.cell? ⟨b1, off + k * 6 + 4, none⟩ = some (.slice t.LA t.Ln t.Lc) ∧ w'.cell? ⟨b1, off + k * 6 + 5, none⟩ = some (.slice t.PA t.Pn t.Pc) ∧ w'.cell? ⟨bx, ox + t.field.toNat, none⟩ = some (.int .i64 vx) ∧ w'.cell? ⟨by', oy + t.field.toNat, none⟩ = some (.int .i64 vy)) wr.drew := ⟨(Below.refl _ _).drew, x_0, x_1, y_0, y_1, g0, g1, g2, g3, g4, g5, cx0, cy0⟩
        refine wp_region_held (S := fun w' => Below (w.heap.size + 2) wr w' ∧ w'.cell? ⟨w.heap.size, 0, none⟩ = some (.int .i64 x.id) ∧ w'.cell? ⟨w.heap.size, 1, none⟩ = some (.slice (some ⟨bx, ox, none⟩) x.n x.c) ∧ w'.cell? ⟨w.heap.size + 1, 0, none⟩ = some (.int .i64 y.id) ∧ w'.cell? ⟨w.heap.size + 1, 1, none⟩ = some (.slice (some ⟨by', oy, none⟩) y.n y.c) ∧ w'.cell? ⟨b1, off + k * 6, none⟩ = some (.int .i64 0) ∧ w'.cell? ⟨b1, off + k * 6 + 1, none⟩ = some (.int .i64 t.kind) ∧ w'.cell? ⟨b1, off + k * 6 + 2, none⟩ = some (.int .i64 t.field) ∧ w'.cell? ⟨b1, off + k * 6 + 3, none⟩ = some (.int .i64 t.value) ∧ w'.cell? ⟨b1, off + k * 6 + 4, none⟩ = some (.slice t.LA t.Ln t.Lc) ∧ w'.cell? ⟨b1, off + k * 6 + 5, none⟩ = some (.slice t.PA t.Pn t.Pc) ∧ w'.cell? ⟨bx, ox + t.field.toNat, none⟩ = some (.int .i64 vx) ∧ w'.cell? ⟨by', oy + t.field.toNat, none⟩ = some (.int .i64 vy)) (by kernel_rfl) ?_
        change wpAnyH _ _ _ _ _ _ _ _ (World.drew _)
        refine takeY 58 (i := 0) (v := ?v0a) rfl rfl (by kernel_rfl) (by kernel_rfl) (by kernel_rfl) (fun _ _ _ h => h) (by kernel_rfl) ?y0a hs0 ?_
        case y0a =>
          intro w' hw'; (try dsimp only at hw'); obtain ⟨e0, e1, e2, e3, e4, e5, e6, e7, e8, e9, e10, e11, e12⟩ := hw'; go_simp; try with_reducible rfl
        simp only [Act.put, List.setIfInBounds_toArray, List.set_cons_zero, List.set_cons_succ]
        refine takeY 59 (i := 1) (v := ?v1a) rfl rfl (by kernel_rfl) (by kernel_rfl) (by kernel_rfl) (fun _ _ _ h => h) (by kernel_rfl) ?y1a hs0 ?_
        case y1a =>
          intro w' hw'; (try dsimp only at hw'); obtain ⟨e0, e1, e2, e3, e4, e5, e6, e7, e8, e9, e10, e11, e12⟩ := hw'; go_simp; try with_reducible rfl
        simp only [Act.put, List.setIfInBounds_toArray, List.set_cons_zero, List.set_cons_succ]
        refine takeY 60 (i := 2) (v := ?v2a) rfl rfl (by kernel_rfl) (by kernel_rfl) (by kernel_rfl) (fun _ _ _ h => h) (by kernel_rfl) ?y2a hs0 ?_
        case y2a =>
          intro w' hw'; (try dsimp only at hw'); obtain ⟨e0, e1, e2, e3, e4, e5, e6, e7, e8, e9, e10, e11, e12⟩ := hw'; go_simp; try with_reducible rfl
        simp only [Act.put, List.setIfInBounds_toArray, List.set_cons_zero, List.set_cons_succ]
        refine takeY 61 (i := 3) (v := ?v3a) rfl rfl (by kernel_rfl) (by kernel_rfl) (by kernel_rfl) (fun _ _ _ h => h) (by kernel_rfl) ?y3a hs0 ?_
        case y3a =>
          intro w' hw'; (try dsimp only at hw'); obtain ⟨e0, e1, e2, e3, e4, e5, e6, e7, e8, e9, e10, e11, e12⟩ := hw'; go_simp; try with_reducible rfl
        simp only [Act.put, List.setIfInBounds_toArray, List.set_cons_zero, List.set_cons_succ]
        refine takeY 62 (i := 4) (v := ?v4a) rfl rfl (by kernel_rfl) (by kernel_rfl) (by kernel_rfl) (fun _ _ _ h => h) (by kernel_rfl) ?y4a hs0 ?_
        case y4a =>
          intro w' hw'; (try dsimp only at hw'); obtain ⟨e0, e1, e2, e3, e4, e5, e6, e7, e8, e9, e10, e11, e12⟩ := hw'; go_simp; try with_reducible rfl
        simp only [Act.put, List.setIfInBounds_toArray, List.set_cons_zero, List.set_cons_succ]
        refine takeY 63 (i := 5) (v := ?v5a) rfl rfl (by kernel_rfl) (by kernel_rfl) (by kernel_rfl) (fun _ _ _ h => h) (by kernel_rfl) ?y5a hs0 ?_
        case y5a =>
          intro w' hw'; (try dsimp only at hw'); obtain ⟨e0, e1, e2, e3, e4, e5, e6, e7, e8, e9, e10, e11, e12⟩ := hw'; go_simp; try with_reducible rfl
        simp only [Act.put, List.setIfInBounds_toArray, List.set_cons_zero, List.set_cons_succ]
        refine takeY 64 (i := 6) (v := ?v6a) rfl rfl (by kernel_rfl) (by kernel_rfl) (by kernel_rfl) (fun _ _ _ h => h) (by kernel_rfl) ?y6a hs0 ?_
        case y6a =>
          intro w' hw'; (try dsimp only at hw'); obtain ⟨e0, e1, e2, e3, e4, e5, e6, e7, e8, e9, e10, e11, e12⟩ := hw'; go_simp; try with_reducible rfl
        simp only [Act.put, List.setIfInBounds_toArray, List.set_cons_zero, List.set_cons_succ]
        refine takeY 65 (i := 7) (v := ?v7a) rfl rfl (by kernel_rfl) (by kernel_rfl) (by kernel_rfl) (fun _ _ _ h => h) (by kernel_rfl) ?y7a hs0 ?_
        case y7a =>
          intro w' hw'; (try dsimp only at hw'); obtain ⟨e0, e1, e2, e3, e4, e5, e6, e7, e8, e9, e10, e11, e12⟩ := hw'; go_simp; try with_reducible rfl
        simp only [Act.put, List.setIfInBounds_toArray, List.set_cons_zero, List.set_cons_succ]
        refine takeY 66 (i := 8) (v := ?v8a) rfl rfl (by kernel_rfl) (by kernel_rfl) (by kernel_rfl) (fun _ _ _ h => h) (by kernel_rfl) ?y8a hs0 ?_
        case y8a =>
          intro w' hw'; (try dsimp only at hw'); obtain ⟨e0, e1, e2, e3, e4, e5, e6, e7, e8, e9, e10, e11, e12⟩ := hw'; go_simp; try with_reducible rfl
        simp only [Act.put, List.setIfInBounds_toArray, List.set_cons_zero, List.set_cons_succ]
        refine takeY 67 (i := 9) (v := ?v9a) rfl rfl (by kernel_rfl) (by kernel_rfl) (by kernel_rfl) (fun _ _ _ h => h) (by kernel_rfl) ?y9a hs0 ?_
        case y9a =>
          intro w' hw'; (try dsimp only at hw'); obtain ⟨e0, e1, e2, e3, e4, e5, e6, e7, e8, e9, e10, e11, e12⟩ := hw'; go_simp; try with_reducible rfl
        simp only [Act.put, List.setIfInBounds_toArray, List.set_cons_zero, List.set_cons_succ]
        refine takeY 68 (i := 10) (v := ?v10a) rfl rfl (by kernel_rfl) (by kernel_rfl) (by kernel_rfl) (fun _ _ _ h => h) (by kernel_rfl) ?y10a hs0 ?_
        case y10a =>
          intro w' hw'; (try dsimp only at hw'); obtain ⟨e0, e1, e2, e3, e4, e5, e6, e7, e8, e9, e10, e11, e12⟩ := hw'; go_simp; try with_reducible rfl
        simp only [Act.put, List.setIfInBounds_toArray, List.set_cons_zero, List.set_cons_succ]
        refine takeY 69 (i := 11) (v := ?v11a) rfl rfl (by kernel_rfl) (by kernel_rfl) (by kernel_rfl) (fun _ _ _ h => h) (by kernel_rfl) ?y11a hs0 ?_
        case y11a =>
          intro w' hw'; (try dsimp only at hw'); obtain ⟨e0, e1, e2, e3, e4, e5, e6, e7, e8, e9, e10, e11, e12⟩ := hw'; go_simp; try with_reducible rfl
        simp only [Act.put, List.setIfInBounds_toArray, List.set_cons_zero, List.set_cons_succ]
        refine takeY 70 (i := 12) (v := ?v12a) rfl rfl (by kernel_rfl) (by kernel_rfl) (by kernel_rfl) (fun _ _ _ h => h) (by kernel_rfl) ?y12a hs0 ?_
        case y12a =>
          intro w' hw'; (try dsimp only at hw'); obtain ⟨e0, e1, e2, e3, e4, e5, e6, e7, e8, e9, e10, e11, e12⟩ := hw'; go_simp; try with_reducible rfl
        simp only [Act.put, List.setIfInBounds_toArray, List.set_cons_zero, List.set_cons_succ]
        refine takeY 71 (i := 13) (v := ?v13a) rfl rfl (by kernel_rfl) (by kernel_rfl) (by kernel_rfl) (fun _ _ _ h => h) (by kernel_rfl) ?y13a hs0 ?_
        case y13a =>
          intro w' hw'; (try dsimp only at hw'); obtain ⟨e0, e1, e2, e3, e4, e5, e6, e7, e8, e9, e10, e11, e12⟩ := hw'; go_simp; try with_reducible rfl
        simp only [Act.put, List.setIfInBounds_toArray, List.set_cons_zero, List.set_cons_succ]
        refine takeY 72 (i := 14) (v := ?v14a) rfl rfl (by kernel_rfl) (by kernel_rfl) (by kernel_rfl) (fun _ _ _ h => h) (by kernel_rfl) ?y14a hs0 ?_
        case y14a =>
          intro w' hw'; (try dsimp only at hw'); obtain ⟨e0, e1, e2, e3, e4, e5, e6, e7, e8, e9, e10, e11, e12⟩ := hw'; go_simp; try with_reducible rfl
        simp only [Act.put, List.setIfInBounds_toArray, List.set_cons_zero, List.set_cons_succ]
        refine takeY 73 (i := 15) (v := ?v15a) rfl rfl (by kernel_rfl) (by kernel_rfl) (by kernel_rfl) (fun _ _ _ h => h) (by kernel_rfl) ?y15a hs0 ?_
        case y15a =>
          intro w' hw'; (try dsimp only at hw'); obtain ⟨e0, e1, e2, e3, e4, e5, e6, e7, e8, e9, e10, e11, e12⟩ := hw'; go_simp; try with_reducible rfl
        simp only [Act.put, List.setIfInBounds_toArray, List.set_cons_zero, List.set_cons_succ]
        refine wpAnyH_ready (rs := [16]) (by kernel_rfl) (by simp) ?_
        refine AllReadyH.cons rfl (fun K hK => ?_) AllReadyH.nil
        go_simp; go_at_call 58; refine (HC.out _ (Below.refl _ _).drew).mono ?_; rintro e w2 ⟨rfl, hb2⟩; have hb2' : Below wr.heap.size wr w2 := below_on (Below.refl wr.heap.size wr).drew hb2; have HB2 := Lib.hid hb2'; have HO2 := Lib.hid (ownI_below HO.out hb2'); have hs2 : w.heap.size + 2 ≤ w2.heap.size := Nat.le_trans HS2.out hb2'.size; have hb2m : Below (w.heap.size + 2) wr w2 := hb2'.mono HS2.out; clear hb2
        refine hK.out _ _ ⟨hb2m, (hb2m.cell (p := ⟨w.heap.size, 0, none⟩) hws0).trans x_0, (hb2m.cell (p := ⟨w.heap.size, 1, none⟩) hws0).trans x_1, (hb2m.cell (p := ⟨w.heap.size + 1, 0, none⟩) hws1).trans y_0, (hb2m.cell (p := ⟨w.heap.size + 1, 1, none⟩) hws1).trans y_1, (hb2m.cell (p := ⟨b1, off + k * 6, none⟩) hb1r).trans g0, (hb2m.cell (p := ⟨b1, off + k * 6 + 1, none⟩) hb1r).trans g1, (hb2m.cell (p := ⟨b1, off + k * 6 + 2, none⟩) hb1r).trans g2, (hb2m.cell (p := ⟨b1, off + k * 6 + 3, none⟩) hb1r).trans g3, (hb2m.cell (p := ⟨b1, off + k * 6 + 4, none⟩) hb1r).trans g4, (hb2m.cell (p := ⟨b1, off + k * 6 + 5, none⟩) hb1r).trans g5, (hb2m.cell (p := ⟨bx, ox + t.field.toNat, none⟩) hbxr).trans cx0, (hb2m.cell (p := ⟨by', oy + t.field.toNat, none⟩) hbyr).trans cy0⟩ (fun hS1 => ?_)
        clear hK K
        try simp only [Act.put, List.setIfInBounds_toArray, List.set_cons_zero, List.set_cons_succ]
        refine wpAnyH_ready (rs := [17]) (by kernel_rfl) (by simp) ?_
        refine AllReadyH.cons rfl (fun K hK => ?_) AllReadyH.nil
        go_simp; have hb2a : Below (w.heap.size + 2) wr (w2.alloc (.cells #[.int .i64 z] 3)) := hb2m.alloc hs2 _
        refine hK.out _ _ ⟨hb2a, (hb2a.cell (p := ⟨w.heap.size, 0, none⟩) hws0).trans x_0, (hb2a.cell (p := ⟨w.heap.size, 1, none⟩) hws0).trans x_1, (hb2a.cell (p := ⟨w.heap.size + 1, 0, none⟩) hws1).trans y_0, (hb2a.cell (p := ⟨w.heap.size + 1, 1, none⟩) hws1).trans y_1, (hb2a.cell (p := ⟨b1, off + k * 6, none⟩) hb1r).trans g0, (hb2a.cell (p := ⟨b1, off + k * 6 + 1, none⟩) hb1r).trans g1, (hb2a.cell (p := ⟨b1, off + k * 6 + 2, none⟩) hb1r).trans g2, (hb2a.cell (p := ⟨b1, off + k * 6 + 3, none⟩) hb1r).trans g3, (hb2a.cell (p := ⟨b1, off + k * 6 + 4, none⟩) hb1r).trans g4, (hb2a.cell (p := ⟨b1, off + k * 6 + 5, none⟩) hb1r).trans g5, (hb2a.cell (p := ⟨bx, ox + t.field.toNat, none⟩) hbxr).trans cx0, (hb2a.cell (p := ⟨by', oy + t.field.toNat, none⟩) hbyr).trans cy0⟩ (fun hS2 => ?_)
        clear hK K
        try simp only [Act.put, List.setIfInBounds_toArray, List.set_cons_zero, List.set_cons_succ]
        refine wpAnyH_ready (rs := [18]) (by kernel_rfl) (by simp) ?_
        refine AllReadyH.cons rfl (fun K hK => ?_) AllReadyH.nil
        refine stepI w2 (by rfl) (.tmp 58) (.tmp 75) (by rfl) (w.heap.size + 2) _ _ (by rfl) HO2.out _ [z] (by rfl) 1 1 rfl (by rfl) HCap.out hs2 ?_; intro v1 w3 hown3 hb3; have hb3m := hb2m.trans hb3
        refine hK.out _ _ ⟨hb3m, (hb3m.cell (p := ⟨w.heap.size, 0, none⟩) hws0).trans x_0, (hb3m.cell (p := ⟨w.heap.size, 1, none⟩) hws0).trans x_1, (hb3m.cell (p := ⟨w.heap.size + 1, 0, none⟩) hws1).trans y_0, (hb3m.cell (p := ⟨w.heap.size + 1, 1, none⟩) hws1).trans y_1, (hb3m.cell (p := ⟨b1, off + k * 6, none⟩) hb1r).trans g0, (hb3m.cell (p := ⟨b1, off + k * 6 + 1, none⟩) hb1r).trans g1, (hb3m.cell (p := ⟨b1, off + k * 6 + 2, none⟩) hb1r).trans g2, (hb3m.cell (p := ⟨b1, off + k * 6 + 3, none⟩) hb1r).trans g3, (hb3m.cell (p := ⟨b1, off + k * 6 + 4, none⟩) hb1r).trans g4, (hb3m.cell (p := ⟨b1, off + k * 6 + 5, none⟩) hb1r).trans g5, (hb3m.cell (p := ⟨bx, ox + t.field.toNat, none⟩) hbxr).trans cx0, (hb3m.cell (p := ⟨by', oy + t.field.toNat, none⟩) hbyr).trans cy0⟩ (fun hS3 => ?_)
        clear hK K
        try simp only [Act.put, List.setIfInBounds_toArray, List.set_cons_zero, List.set_cons_succ]
        refine takeY 7 (i := 19) (v := ?v19a) rfl rfl (by kernel_rfl) (by kernel_rfl) (by kernel_rfl) (fun _ _ _ h => h) (by kernel_rfl) ?y19a hS3 ?_
        case y19a =>
          intro w' hw'; (try dsimp only at hw'); obtain ⟨e0, e1, e2, e3, e4, e5, e6, e7, e8, e9, e10, e11, e12⟩ := hw'; go_simp; try with_reducible rfl
        simp only [Act.put, List.setIfInBounds_toArray, List.set_cons_zero, List.set_cons_succ]
        refine wpAnyH_done (by kernel_rfl) ?_ _
        clear hs0 hS1 hS2 hS3 hb2a hb2m hb3m hb2' x_0 x_1 y_0 y_1 cx0 cy0 g0 g1 g2 g3 g4 g5
        obtain ⟨LA', Ln', Lc', rfl, hin⟩ := hown3.ints
        have hlen3 : Ln' = m + 1 := by have := hin.1; rw [List.length_append, codes_len, HLen.out] at this; simp at this; omega
        have HO3 := Lib.hid hown3
        have HB3 := Lib.hid (HB2.out.mono HB.out.size)
        have HB4 := Lib.hid (HB.out.trans (HB3.out.trans (hb3.mono (by omega))))
        have HBox3 : Hid (w3.cell? ⟨w.heap.size, 0, none⟩ = some (.int .i64 x.id) ∧ w3.cell? ⟨w.heap.size, 1, none⟩ = some (.slice x.A x.n x.c) ∧ w3.cell? ⟨w.heap.size + 1, 0, none⟩ = some (.int .i64 y.id) ∧ w3.cell? ⟨w.heap.size + 1, 1, none⟩ = some (.slice y.A y.n y.c)) := Lib.hid (by
          have k : ∀ (bb oo : Nat), bb < w.heap.size + 2 → w3.cell? ⟨bb, oo, none⟩ = wr.cell? ⟨bb, oo, none⟩ := fun bb oo h => (hb3.cell (p := ⟨bb, oo, none⟩) h).trans (HB2.out.cell (p := ⟨bb, oo, none⟩) (Nat.lt_of_lt_of_le h HS2.out))
          have := HBox.out
          rw [k _ _ (by omega), k _ _ (by omega), k _ _ (by omega), k _ _ (by omega)]
          exact this)
        have HS3 := Lib.hid (Nat.le_trans hs2 hb3.size)
        clear hown3 hb3 hin
        go_wp2
        go_roundw
        case rel => exact ⟨k + 1, Ln', Lc', LA', .base t.dat :: st, by omega, by go_num, by first | rfl | rw [hlen3], by omega, HS1.out, by simp [HLen.out, hlen3], by rw [HZ.out]; exact HO3.out, HB4.out, HS3.out, HBox3.out⟩
        case measure => simp [intOf]; omega
      · have HS1 : Hid (Stk (datN (ns.take (k + 1))) (.dual a :: s)) := Lib.hid (by rw [HE.out]; exact .dual HSt.out rfl hnw)
        have HCo := Lib.hid (cmpT_code (wishF_code x y) a)
        have HZ : Hid (codes (wishF x y) (.dual a :: s) = codes (wishF x y) s ++ [revC (cmpT (wishF x y) a)]) := Lib.hid (codes_cons _ _ _)
        have hO := HO.out
        rw [codes_cons] at hO
        obtain ⟨j, rfl⟩ : ∃ j, m = j + 1 := ⟨s.length, by have := HLen.out; simp at this; omega⟩
        have hj : (codes (wishF x y) s).length = j := by rw [codes_len]; have := HLen.out; simp at this; omega
        obtain ⟨_, hcc, hcm, g, rfl, hgl, hgs, hcell⟩ := ownI_cells hO (by omega)
        obtain ⟨c1, c2⟩ := hcell j (cmpT (wishF x y) a) (by rw [List.getElem?_append_right (by omega), hj]; simp)
        have HOn := Lib.hid hO
        have HJ := Lib.hid hj
        have HG : Hid (w.heap.size + 2 ≤ g) := Lib.hid hgl
        have hx1 : (j : Int) + 1 - 1 = (j : Int) := by omega
        have hj1 : (j : Int) < (j : Int) + 1 := by omega
        have hj2 : j ≤ 9 := by omega
        clear hO hj hcell hnw hbox hcm
        generalize cmpT (wishF x y) a = z at *
        rcases HCo.out with rfl | rfl | rfl | rfl
        · have HO3 : Hid (OwnI (wr.setCell ⟨g, j, none⟩ (.int .i64 (1))) (w.heap.size + 2) (.slice (some ⟨g, 0, none⟩) (j + 1) cc) (codes (wishF x y) (.dual a :: s))) := Lib.hid (by
            rw [HZ.out, ← HJ.out]
            have h := ownI_setlast HOn.out (1)
            rw [HJ.out] at h ⊢
            exact h)
          go_wp2
          go_roundw
          case rel => exact ⟨k + 1, j + 1, cc, _, .dual a :: s, by omega, by go_num, rfl, by omega, HS1.out, by have := HLen.out; simpa using this, HO3.out, HB.out.setCell (by show w.heap.size ≤ g; omega) _, by simpa using HS2.out, by
            have h := HBox.out
            refine ⟨?_, ?_, ?_, ?_⟩
            · rw [World.cell?_setCell_other _ _ _ _ (fun e => by injection e; omega)]; exact h.1
            · rw [World.cell?_setCell_other _ _ _ _ (fun e => by injection e; omega)]; exact h.2.1
            · rw [World.cell?_setCell_other _ _ _ _ (fun e => by injection e; omega)]; exact h.2.2.1
            · rw [World.cell?_setCell_other _ _ _ _ (fun e => by injection e; omega)]; exact h.2.2.2⟩
          case measure => simp [intOf]; omega
        · have HO3 : Hid (OwnI (wr.setCell ⟨g, j, none⟩ (.int .i64 (0))) (w.heap.size + 2) (.slice (some ⟨g, 0, none⟩) (j + 1) cc) (codes (wishF x y) (.dual a :: s))) := Lib.hid (by
            rw [HZ.out, ← HJ.out]
            have h := ownI_setlast HOn.out (0)
            rw [HJ.out] at h ⊢
            exact h)
          go_wp2
          go_roundw
          case rel => exact ⟨k + 1, j + 1, cc, _, .dual a :: s, by omega, by go_num, rfl, by omega, HS1.out, by have := HLen.out; simpa using this, HO3.out, HB.out.setCell (by show w.heap.size ≤ g; omega) _, by simpa using HS2.out, by
            have h := HBox.out
            refine ⟨?_, ?_, ?_, ?_⟩
            · rw [World.cell?_setCell_other _ _ _ _ (fun e => by injection e; omega)]; exact h.1
            · rw [World.cell?_setCell_other _ _ _ _ (fun e => by injection e; omega)]; exact h.2.1
            · rw [World.cell?_setCell_other _ _ _ _ (fun e => by injection e; omega)]; exact h.2.2.1
            · rw [World.cell?_setCell_other _ _ _ _ (fun e => by injection e; omega)]; exact h.2.2.2⟩
          case measure => simp [intOf]; omega
        · have HO3 : Hid (OwnI (wr.setCell ⟨g, j, none⟩ (.int .i64 (-1))) (w.heap.size + 2) (.slice (some ⟨g, 0, none⟩) (j + 1) cc) (codes (wishF x y) (.dual a :: s))) := Lib.hid (by
            rw [HZ.out, ← HJ.out]
            have h := ownI_setlast HOn.out (-1)
            rw [HJ.out] at h ⊢
            exact h)
          go_wp2
          go_roundw
          case rel => exact ⟨k + 1, j + 1, cc, _, .dual a :: s, by omega, by go_num, rfl, by omega, HS1.out, by have := HLen.out; simpa using this, HO3.out, HB.out.setCell (by show w.heap.size ≤ g; omega) _, by simpa using HS2.out, by
            have h := HBox.out
            refine ⟨?_, ?_, ?_, ?_⟩
            · rw [World.cell?_setCell_other _ _ _ _ (fun e => by injection e; omega)]; exact h.1
            · rw [World.cell?_setCell_other _ _ _ _ (fun e => by injection e; omega)]; exact h.2.1
            · rw [World.cell?_setCell_other _ _ _ _ (fun e => by injection e; omega)]; exact h.2.2.1
            · rw [World.cell?_setCell_other _ _ _ _ (fun e => by injection e; omega)]; exact h.2.2.2⟩
          case measure => simp [intOf]; omega
        · have HO3 : Hid (OwnI wr (w.heap.size + 2) (.slice (some ⟨g, 0, none⟩) (j + 1) cc) (codes (wishF x y) (.dual a :: s))) := Lib.hid (by rw [HZ.out]; exact HOn.out)
          go_wp2
          go_roundw
          case rel => exact ⟨k + 1, j + 1, cc, _, .dual a :: s, by omega, by go_num, rfl, by omega, HS1.out, by have := HLen.out; simpa using this, HO3.out, HB.out, HS2.out, HBox.out⟩
          case measure => simp [intOf]; omega
      · have HS1 : Hid (Stk (datN (ns.take (k + 1))) (.bin op a b :: s)) := Lib.hid (by rw [HE.out]; exact .bin HSt.out hbin hnw)
        have HCa := Lib.hid (cmpT_code (wishF_code x y) a)
        have HCb := Lib.hid (cmpT_code (wishF_code x y) b)
        have HBin := Lib.hid hbin
        have HZ : Hid (codes (wishF x y) (.bin op a b :: s) = codes (wishF x y) s ++ [opC op (cmpT (wishF x y) a) (cmpT (wishF x y) b)]) := Lib.hid (codes_cons _ _ _)
        have hO := HO.out
        rw [codes_cons, codes_cons, List.append_assoc] at hO
        obtain ⟨j, rfl⟩ : ∃ j, m = j + 2 := ⟨s.length, by have := HLen.out; simp at this; omega⟩
        have hj : (codes (wishF x y) s).length = j := by rw [codes_len]; have := HLen.out; simp at this; omega
        obtain ⟨_, hcc, hcm, g, rfl, hgl, hgs, hcell⟩ := ownI_cells hO (by omega)
        obtain ⟨c1, -⟩ := hcell j (cmpT (wishF x y) a) (by rw [List.getElem?_append_right (by omega), hj]; simp)
        obtain ⟨c2, -⟩ := hcell (j + 1) (cmpT (wishF x y) b) (by rw [List.getElem?_append_right (by omega), hj, show j + 1 - j = 1 by omega]; rfl)
        have HTk : Hid (OwnI wr (w.heap.size + 2) (.slice (some ⟨g, 0, none⟩) j cc) (codes (wishF x y) s)) := Lib.hid (by
          have h := ownI_take hO (k := j) (by omega)
          rwa [List.take_left' hj] at h)
        have HJ := Lib.hid hj
        have HG : Hid (w.heap.size + 2 ≤ g) := Lib.hid hgl
        have hx1 : (j : Int) + 2 - 1 = (j : Int) + 1 := by omega
        have hx2 : (j : Int) + 2 - 2 = (j : Int) := by omega
        have hj1 : (j : Int) < (j : Int) + 2 := by omega
        have hj3 : (j : Int) + 1 < (j : Int) + 2 := by omega
        have hj4 : (j : Int) ≤ (cc : Int) := by omega
        have hj5 : (0 : Int) ≤ (j : Int) + 1 := by omega
        have hj6 : ((j : Int) + 1).toNat = j + 1 := by omega
        have hj7 : ¬ ((j : Int) + 1 < 0) := by omega
        have hj2 : j ≤ 9 := by omega
        have hwj : IntKind.i64.wrap (j : Int) = (j : Int) := IntWalk.i64_in _ ⟨by omega, by omega⟩
        have hwj1 : IntKind.i64.wrap ((j : Int) + 1) = (j : Int) + 1 := IntWalk.i64_in _ ⟨by omega, by omega⟩
        have hc9 : cc ≤ 9223372036854775807 := by unfold maxLen at hcm; omega
        have f0 : (op == 0) = false := by have := (bin_ne hbin).1; simpa using this
        have f3 : (op == 3) = false := by have := (bin_ne hbin).2; simpa using this
        clear hO hj hcell hnw hbox hcm hbin
        generalize cmpT (wishF x y) a = za at *
        generalize cmpT (wishF x y) b = zb at *
        have HCl : Hid (∀ w1, Calls Try.prog 59 #[.int .i64 op, .int .i64 za, .int .i64 zb] w1 fun e w' => e = .returned (.int .i64 (opC op za zb)) ∧ w' = w1) := Lib.hid fun w1 => sOp w1 op za zb HBin.out HCa.out HCb.out
        generalize opC op za zb = z at *
        have HCap : Hid (((codes (wishF x y) s).length + [z].length) * 8 ≤ 140737488355328) := Lib.hid (by rw [HJ.out]; simp; omega)
        go_wp2
        go_still_tail 15, (by kernel_rfl)
        change wpList _ _ _ _ _ wr.drew
        generalize hw1 : wr.drew = w1 at *
        have HB1 : Hid (Below wr.heap.size wr w1) := Lib.hid (hw1 ▸ (Below.refl _ _).drew)
        clear c1 c2 g0 g1 g2 g3 g4 g5 hw1
        go_wp2_with fail
        refine (HCl.out _).mono ?_
        rintro e w2 ⟨rfl, rfl⟩
        have HO2 := Lib.hid (ownI_below HTk.out HB1.out)
        have hs2 : w.heap.size + 2 ≤ w2.heap.size := Nat.le_trans HS2.out HB1.out.size
        go_wp2_with (at_builtin; refine wp_appI _ (by rfl) (.tmp 46) (.tmp 48) (by rfl) (w.heap.size + 2) _ _ (by rfl) HO2.out _ [z] (by rfl) 1 1 rfl (by rfl) HCap.out hs2 ?_)
        intro v1 w3 hown3 hb3
        obtain ⟨LA', Ln', Lc', rfl, hin⟩ := hown3.ints
        have hlen3 : Ln' = j + 1 := by have := hin.1; rw [List.length_append, HJ.out] at this; simp at this; omega
        have HO3 := Lib.hid hown3
        have HB3 := Lib.hid (HB1.out.mono HB.out.size)
        have HB4 := Lib.hid (HB.out.trans (HB3.out.trans (hb3.mono (by omega))))
        have HBox3 : Hid (w3.cell? ⟨w.heap.size, 0, none⟩ = some (.int .i64 x.id) ∧ w3.cell? ⟨w.heap.size, 1, none⟩ = some (.slice x.A x.n x.c) ∧ w3.cell? ⟨w.heap.size + 1, 0, none⟩ = some (.int .i64 y.id) ∧ w3.cell? ⟨w.heap.size + 1, 1, none⟩ = some (.slice y.A y.n y.c)) := Lib.hid (by
          have k : ∀ (bb oo : Nat), bb < w.heap.size + 2 → w3.cell? ⟨bb, oo, none⟩ = wr.cell? ⟨bb, oo, none⟩ := fun bb oo h => (hb3.cell (p := ⟨bb, oo, none⟩) h).trans (HB1.out.cell (p := ⟨bb, oo, none⟩) (Nat.lt_of_lt_of_le h HS2.out))
          have := HBox.out
          rw [k _ _ (by omega), k _ _ (by omega), k _ _ (by omega), k _ _ (by omega)]
          exact this)
        have HS3 := Lib.hid (Nat.le_trans hs2 hb3.size)
        clear hown3 hb3 hin
        go_wp2
        go_roundw
        case rel => exact ⟨k + 1, Ln', Lc', LA', .bin op a b :: s, by omega, by go_num, by first | rfl | rw [hlen3], by omega, HS1.out, by have := HLen.out; simp at this ⊢; omega, by rw [HZ.out]; exact HO3.out, HB4.out, HS3.out, HBox3.out⟩
        case measure => simp [intOf]; omega
    · obtain rfl : k = n := by omega
      have hst := HSt.out
      rw [ptake_all HX.out.len] at hst
      obtain rfl : st = [t] := hst.one HPo.out
      have hO := HO.out
      rw [codes_cons] at hO
      obtain rfl : m = 1 := by have := HLen.out; simp at this; omega
      obtain ⟨_, hcc, hcm, g, rfl, hgl, hgs, hcell⟩ := ownI_cells hO (by omega)
      obtain ⟨c1, -⟩ := hcell 0 (cmpT (wishF x y) t) rfl
      clear hO hst hcell hbel hbox
      go_wp2
      go_ret
      exact ⟨rfl, HB.out⟩
end Go.Proofs.Ytnjnlcmddcjcfaa.num
namespace Go.Proofs.Ytnjnlcmddcjcfaa.num
set_option maxRecDepth 20000
open Go.RowKit
set_option linter.unusedVariables false
set_option linter.unusedSimpArgs false

/-- What CompareBy answers. -/
def CmpE (nds : List ND) (x y : It) (z : Int) : Prop := (∃ t, IsE nds ∧ Post nds t ∧ IsP x.dat ∧ IsP y.dat ∧ z = cmpT (wishF x y) t) ∨ (¬ (IsE nds ∧ IsP x.dat ∧ IsP y.dat) ∧ z = 2)
theorem CmpE.some (nds : List ND) (x y : It) : ∃ z, CmpE nds x y z := by
  by_cases h : IsE nds ∧ IsP x.dat ∧ IsP y.dat
  · obtain ⟨h1, h2, h3⟩ := h
    obtain ⟨_, t, ht⟩ := id h1
    exact ⟨_, .inl ⟨t, h1, ht, h2, h3, rfl⟩⟩
  · exact ⟨2, .inr ⟨h, rfl⟩⟩
theorem CmpE.to {nds nds' : List ND} {x y x' y' : It} {z : Int} (h : CmpE nds x y z) (hn : nds' = nds) (hx : x'.dat = x.dat) (hy : y'.dat = y.dat) : CmpE nds' x' y' z := by
  subst hn
  unfold CmpE at *
  rw [wishF_dat hx hy, hx, hy]
  exact h
theorem CmpE.code {nds : List ND} {x y : It} {z : Int} (h : CmpE nds x y z) : Code z := by
  rcases h with ⟨t, _, _, _, _, rfl⟩ | ⟨_, rfl⟩
  · exact cmpT_code (wishF_code x y) t
  · exact .inr (.inr (.inr rfl))

/-- The pointer to an expression's tree, nil if the expression is not valid. -/
def TreeV (w : World) (B lo : Nat) (nds : List ND) (v : Value) : Prop :=
  (IsE nds ∧ ∃ t p, Post nds t ∧ v = .pointer (some ⟨p, 0, none⟩) ∧ PartAt w B lo t p) ∨ (¬ IsE nds ∧ v = .pointer none)
theorem TreeV.below {w w' : World} {B lo : Nat} {nds : List ND} {v : Value} (h : TreeV w B lo nds v) (hB : B ≤ w.heap.size) (hb : Below w.heap.size w w') : TreeV w' B lo nds v := by
  rcases h with ⟨h, t, p, h1, h2, h3⟩ | h
  · exact .inl ⟨h, t, p, h1, h2, h3.below hB hb⟩
  · exact .inr h
theorem TreeOut.v {w : World} {B lo : Nat} {nds : List ND} {e : Ending} (h : TreeOut B lo nds e w) : ∃ v, e = .returned v ∧ TreeV w B lo nds v := by
  rcases h with ⟨h, t, p, h1, rfl, h3⟩ | ⟨h, rfl⟩
  · exact ⟨_, rfl, .inl ⟨h, t, p, h1, rfl, h3⟩⟩
  · exact ⟨_, rfl, .inr ⟨h, rfl⟩⟩
end Go.Proofs.Ytnjnlcmddcjcfaa.num
namespace Go.Proofs.Ytnjnlcmddcjcfaa.num
set_option maxRecDepth 20000
set_option linter.unusedVariables false

/-- Two expressions and an operator behind them. -/
theorem joinE {a b : List ND} {nd : ND} (ha : IsE a) (hb : IsE b) (hw : NoW nd.w) : IsE (a ++ b ++ [nd]) ↔ Bin nd.op ∧ a.length + b.length < 9 := by
  obtain ⟨la, ta, pa⟩ := ha
  obtain ⟨lb, tb, pb⟩ := hb
  have hs : Stk (a ++ b) [tb, ta] := pb.stk (post_stk.1 pa)
  constructor
  · rintro ⟨h1, t, ht⟩
    have h2 := post_stk.1 ht
    refine ⟨?_, by simp at h1; omega⟩
    rcases h2.inv with ⟨_, _, s, k, e⟩ | ⟨_, _, x, s, k, e⟩ | ⟨h, _⟩
    · have := hs.one k
      subst this
      simp at e
    · have := hs.one k
      simp only [List.cons.injEq] at this
      obtain ⟨_, rfl⟩ := this
      simp at e
    · exact h
  · rintro ⟨h1, h2⟩
    exact ⟨by simp; omega, _, .bin h1 hw pa pb⟩
theorem joinE' {a b : List ND} {nd : ND} (ha : IsE a) (hb : IsE b) (hw : NoW nd.w) {q : Bool} (hq : q = true ↔ Bin nd.op ∧ a.length + b.length < 9) : q = true ↔ IsE (a ++ b ++ [nd]) := hq.trans (joinE ha hb hw).symm

/-- The wishes of a list of nodes, in their order. -/
def wishL (nds : List ND) : List WD := nds.filterMap fun nd => if nd.op = 0 then some nd.w else none
theorem wishL_snoc_base {nds : List ND} {nd : ND} (h : nd.op = 0) : wishL (nds ++ [nd]) = wishL nds ++ [nd.w] := by
  unfold wishL; rw [List.filterMap_append]; simp [h]
theorem wishL_snoc_op {nds : List ND} {nd : ND} (h : nd.op ≠ 0) : wishL (nds ++ [nd]) = wishL nds := by
  unfold wishL; rw [List.filterMap_append]; simp [h]
theorem wishL_len (nds : List ND) : (wishL nds).length ≤ nds.length := List.length_filterMap_le _ _
/-- What WishesOf answers. -/
def wishesE (q : Bool) (nds : List ND) : List WD := if q then wishL nds else []
end Go.Proofs.Ytnjnlcmddcjcfaa.num
namespace Go.Proofs.Ytnjnlcmddcjcfaa.num
set_option maxRecDepth 20000
set_option linter.unusedVariables false
set_option linter.unusedSimpArgs false

theorem okp_of {d : WD} (hw : IsW d) (h4 : d.kind = 4) : OkP d.ps := by
  have hp := hw.p
  rwa [if_pos h4] at hp
theorem rb_not {d : WD} (hw : IsW d) (h4 : d.kind = 4) {x y : Int} (h : rb d.ps x y = true) : rb d.ps y x = false := by
  rcases h2 : rb d.ps y x with _ | _
  · rfl
  · exact ((okp_of hw h4).1.acy x (((rb_iff _ _ _).1 h).trans ((rb_iff _ _ _).1 h2))).elim
theorem rb_self {d : WD} (hw : IsW d) (h4 : d.kind = 4) (x : Int) : rb d.ps x x = false := (okp_of hw h4).1.rb_self x
theorem rb_tr {ps : List (Int × Int)} {x y z : Int} (h : rb ps x y = true) (h' : rb ps y z = true) : rb ps x z = true := (rb_iff _ _ _).2 (((rb_iff _ _ _).1 h).trans ((rb_iff _ _ _).1 h'))
theorem cmpW_turn {d : WD} (hw : IsW d) (x y : Int) : cmpW d y x = revC (cmpW d x y) := by
  unfold cmpW revC
  by_cases h4 : d.kind = 4
  · rw [if_pos h4, if_pos h4]
    by_cases hxy : x = y
    · subst hxy; simp
    · have hyx : ¬ y = x := fun h => hxy h.symm
      rcases h1 : rb d.ps x y with _ | _
      · rcases h2 : rb d.ps y x with _ | _ <;> simp [hxy, hyx]
      · have h2 := rb_not hw h4 h1
        simp [hxy, hyx, h2]
  · rw [if_neg h4, if_neg h4]
    by_cases h1 : rankW d x < rankW d y
    · have h2 : ¬ rankW d y < rankW d x := by omega
      simp [h1, h2]
    · by_cases h2 : rankW d y < rankW d x
      · simp [h1, h2]
      · simp [h1, h2]
theorem cmpW_self (d : WD) (x : Int) : cmpW d x x = 0 := by
  unfold cmpW
  split
  · simp
  · simp
/-- The codes of three comparisons fit. -/
def Tr3 (c d r : Int) : Prop := ((c = 0 ∨ c = 1) → (d = 0 ∨ d = 1) → r = max c d) ∧ ((c = 0 ∨ c = -1) → (d = 0 ∨ d = -1) → r = min c d)
theorem cmpW_tr {d : WD} (hw : IsW d) (x y z : Int) : Tr3 (cmpW d x y) (cmpW d y z) (cmpW d x z) := by
  by_cases h4 : d.kind = 4
  · have e : ∀ a b, cmpW d a b = if a = b then 0 else if rb d.ps a b = true then 1 else if rb d.ps b a = true then -1 else 2 := fun a b => by unfold cmpW; rw [if_pos h4]
    rw [e, e, e]
    by_cases hxy : x = y
    · subst hxy
      unfold Tr3
      rw [if_pos rfl]
      constructor <;> (intro _ h; omega)
    · by_cases hyz : y = z
      · subst hyz
        unfold Tr3
        rw [if_pos rfl]
        constructor <;> (intro h _; omega)
      · rw [if_neg hxy, if_neg hyz]
        unfold Tr3
        rcases h1 : rb d.ps x y with _ | _
        · rcases h2 : rb d.ps y x with _ | _
          · exact ⟨fun h => by simp at h, fun h => by simp at h⟩
          · refine ⟨fun h => by simp at h, fun _ => ?_⟩
            rcases k1 : rb d.ps y z with _ | _
            · rcases k2 : rb d.ps z y with _ | _
              · exact fun h => by simp at h
              · intro _
                have hzx := rb_tr k2 h2
                have hxz := rb_not hw h4 hzx
                have hne : ¬ x = z := fun e => by subst e; rw [rb_self hw h4] at hzx; cases hzx
                rw [if_neg hne, hxz, hzx]
                simp
            · exact fun h => by simp at h
        · refine ⟨fun _ => ?_, fun h => by simp at h⟩
          rcases k1 : rb d.ps y z with _ | _
          · rcases k2 : rb d.ps z y with _ | _
            · exact fun h => by simp at h
            · exact fun h => by simp at h
          · intro _
            have hxz := rb_tr h1 k1
            have hne : ¬ x = z := fun e => by subst e; rw [rb_self hw h4] at hxz; cases hxz
            rw [if_neg hne, hxz]
            simp
  · have e : ∀ a b, cmpW d a b = if rankW d a < rankW d b then 1 else if rankW d b < rankW d a then -1 else 0 := fun a b => by unfold cmpW; rw [if_neg h4]
    rw [e, e, e]
    unfold Tr3
    constructor
    · intro h1 h2
      (repeat' split at h1) <;> (repeat' split at h2) <;> (repeat' split) <;> omega
    · intro h1 h2
      (repeat' split at h1) <;> (repeat' split at h2) <;> (repeat' split) <;> omega
theorem opC_rev {op a b : Int} (ha : Code a) (hb : Code b) : opC op (revC a) (revC b) = revC (opC op a b) := by
  unfold opC
  by_cases h1 : op = 1
  · rw [if_pos h1, if_pos h1]
    rcases ha with rfl | rfl | rfl | rfl <;> rcases hb with rfl | rfl | rfl | rfl <;> decide
  · rw [if_neg h1, if_neg h1]
    by_cases h2 : op = 2
    · rw [if_pos h2, if_pos h2]
      rcases ha with rfl | rfl | rfl | rfl <;> rcases hb with rfl | rfl | rfl | rfl <;> decide
    · rw [if_neg h2, if_neg h2]
      rcases ha with rfl | rfl | rfl | rfl <;> rcases hb with rfl | rfl | rfl | rfl <;> decide
theorem opC_zero (op : Int) : opC op 0 0 = 0 := by
  unfold opC
  split
  · decide
  · split <;> decide
theorem op1_code : ∀ a b : Int, Code a → Code b → ((opC 1 a b = 0 ∨ opC 1 a b = 1) → (a = 0 ∨ a = 1) ∧ (b = 0 ∨ b = 1)) ∧ ((opC 1 a b = 0 ∨ opC 1 a b = -1) → (a = 0 ∨ a = -1) ∧ (b = 0 ∨ b = -1)) ∧ ((a = 0 ∨ a = 1) → (b = 0 ∨ b = 1) → opC 1 a b = max a b) ∧ ((a = 0 ∨ a = -1) → (b = 0 ∨ b = -1) → opC 1 a b = min a b) := by
  intro a b ha hb
  rcases ha with rfl | rfl | rfl | rfl <;> rcases hb with rfl | rfl | rfl | rfl <;> decide
theorem opC_tr {op a b a' b' ra rb' : Int} (ha : Code a) (hb : Code b) (ha' : Code a') (hb' : Code b') (hra : Code ra) (hrb : Code rb') (h : Tr3 a a' ra) (k : Tr3 b b' rb') : Tr3 (opC op a b) (opC op a' b') (opC op ra rb') := by
  by_cases h1 : op = 1
  · subst h1
    obtain ⟨p1, p2, p3, p4⟩ := op1_code a b ha hb
    obtain ⟨q1, q2, q3, q4⟩ := op1_code a' b' ha' hb'
    obtain ⟨r1, r2, r3, r4⟩ := op1_code ra rb' hra hrb
    obtain ⟨h1, h2⟩ := h
    obtain ⟨k1, k2⟩ := k
    constructor
    · intro c d
      obtain ⟨u1, u2⟩ := p1 c
      obtain ⟨v1, v2⟩ := q1 d
      have e1 := h1 u1 v1
      have e2 := k1 u2 v2
      rw [p3 u1 u2, q3 v1 v2, r3 (by omega) (by omega)]
      omega
    · intro c d
      obtain ⟨u1, u2⟩ := p2 c
      obtain ⟨v1, v2⟩ := q2 d
      have e1 := h2 u1 v1
      have e2 := k2 u2 v2
      rw [p4 u1 u2, q4 v1 v2, r4 (by omega) (by omega)]
      omega
  · unfold opC
    rw [if_neg h1, if_neg h1, if_neg h1]
    by_cases h2 : op = 2
    · rw [if_pos h2, if_pos h2, if_pos h2]
      obtain ⟨h1, h2⟩ := h
      obtain ⟨k1, k2⟩ := k
      unfold Tr3 Code at *
      constructor <;> (intro c d; (repeat' split at c) <;> (repeat' split at d) <;> (repeat' split) <;> omega)
    · rw [if_neg h2, if_neg h2, if_neg h2]
      obtain ⟨h1, h2⟩ := h
      obtain ⟨k1, k2⟩ := k
      unfold Tr3 Code at *
      constructor <;> (intro c d; (repeat' split at c) <;> (repeat' split at d) <;> (repeat' split) <;> omega)
theorem revC_tr {a b r : Int} (ha : Code a) (hb : Code b) (hr : Code r) (h : Tr3 a b r) : Tr3 (revC a) (revC b) (revC r) := by
  obtain ⟨h1, h2⟩ := h
  unfold Tr3 Code revC at *
  constructor <;> (intro c d; (repeat' split at c) <;> (repeat' split at d) <;> (repeat' split) <;> omega)
theorem cmpT_turn {nds : List ND} {t : Tr} (h : Post nds t) (x y : It) : cmpT (wishF y x) t = revC (cmpT (wishF x y) t) := by
  induction h with
  | base h hw => exact cmpW_turn hw _ _
  | dual h hw ha ih => unfold cmpT; rw [ih]
  | bin h hw ha hb iha ihb => unfold cmpT; rw [iha, ihb]; exact opC_rev (cmpT_code (wishF_code x y) _) (cmpT_code (wishF_code x y) _)
theorem cmpT_self {nds : List ND} {t : Tr} (h : Post nds t) (x : It) : cmpT (wishF x x) t = 0 := by
  induction h with
  | base h hw => exact cmpW_self _ _
  | dual h hw ha ih => unfold cmpT; rw [ih]; decide
  | bin h hw ha hb iha ihb => unfold cmpT; rw [iha, ihb]; exact opC_zero _
theorem cmpT_tr {nds : List ND} {t : Tr} (h : Post nds t) (x y z : It) : Tr3 (cmpT (wishF x y) t) (cmpT (wishF y z) t) (cmpT (wishF x z) t) := by
  induction h with
  | base h hw => exact cmpW_tr hw _ _ _
  | dual h hw ha ih => exact revC_tr (cmpT_code (wishF_code x y) _) (cmpT_code (wishF_code y z) _) (cmpT_code (wishF_code x z) _) ih
  | bin h hw ha hb iha ihb => exact opC_tr (cmpT_code (wishF_code x y) _) (cmpT_code (wishF_code x y) _) (cmpT_code (wishF_code y z) _) (cmpT_code (wishF_code y z) _) (cmpT_code (wishF_code x z) _) (cmpT_code (wishF_code x z) _) iha ihb
theorem post_wishes {nds : List ND} {t : Tr} (h : Post nds t) : 2 * (wishL nds).length ≤ nds.length + 1 := by
  induction h with
  | base h hw => unfold wishL; simp [h]
  | dual h hw ha ih => rw [wishL_snoc_op (by omega), List.length_append, List.length_singleton]; omega
  | bin h hw ha hb iha ihb =>
    rw [wishL_snoc_op (bin_ne h).1, List.length_append, List.length_singleton]
    unfold wishL at *
    rw [List.filterMap_append, List.length_append, List.length_append]
    omega
theorem wishes_five {q : Bool} {nds : List ND} (hq : q = true ↔ IsE nds) : (wishesE q nds).length ≤ 5 := by
  unfold wishesE
  cases q
  · simp
  · obtain ⟨h9, t, ht⟩ := hq.1 rfl
    have := post_wishes ht
    simp only [if_true]
    omega
theorem CmpE.turn {nds : List ND} {x y : It} {z z' : Int} (h : CmpE nds x y z) (h' : CmpE nds y x z') : z' = revC z := by
  rcases h with ⟨t, a1, a2, a3, a4, rfl⟩ | ⟨a1, rfl⟩
  · rcases h' with ⟨t', b1, b2, b3, b4, rfl⟩ | ⟨b1, rfl⟩
    · rw [b2.one a2]; exact cmpT_turn a2 x y
    · exact absurd ⟨a1, a4, a3⟩ b1
  · rcases h' with ⟨t', b1, b2, b3, b4, rfl⟩ | ⟨b1, rfl⟩
    · exact absurd ⟨b1, b4, b3⟩ a1
    · decide
theorem CmpE.self {nds : List ND} {x : It} {z : Int} (h : CmpE nds x x z) (h1 : IsE nds) (h2 : IsP x.dat) : z = 0 := by
  rcases h with ⟨t, a1, a2, a3, a4, rfl⟩ | ⟨a1, rfl⟩
  · exact cmpT_self a2 x
  · exact absurd ⟨h1, h2, h2⟩ a1
theorem CmpE.tr {nds : List ND} {x y z : It} {c d r : Int} (h : CmpE nds x y c) (h' : CmpE nds y z d) (h'' : CmpE nds x z r) (hc : c ≠ 2) (hd : d ≠ 2) (c0 : 0 ≤ c) (d0 : 0 ≤ d) : r = max c d := by
  have kc := h.code
  have kd := h'.code
  rcases h with ⟨t, a1, a2, a3, a4, rfl⟩ | ⟨a1, rfl⟩
  · rcases h' with ⟨t', b1, b2, b3, b4, rfl⟩ | ⟨b1, rfl⟩
    · rcases h'' with ⟨t2, e1, e2, e3, e4, rfl⟩ | ⟨e1, rfl⟩
      · rw [b2.one a2] at *
        rw [e2.one a2]
        unfold Code at *
        exact (cmpT_tr a2 x y z).1 (by omega) (by omega)
      · exact absurd ⟨a1, a3, b4⟩ e1
    · exact absurd rfl hd
  · exact absurd rfl hc
theorem code_neq {c : Int} (h : Code c) : (c = 2 ∧ revC c = 2) ∨ (c ≠ 2 ∧ revC c = -c ∧ revC c ≠ 2) := by
  unfold Code revC at *
  rcases h with rfl | rfl | rfl | rfl <;> decide
end Go.Proofs.Ytnjnlcmddcjcfaa.num
namespace Go.Proofs.Ytnjnlcmddcjcfaa.num
set_option maxRecDepth 20000
open Go.RowKit

/-- The first item of that number, or -1. -/
def FindP (ds : List (Int × List Int)) (x r : Int) : Prop := (r = -1 ∧ ∀ d ∈ ds, d.1 ≠ x) ∨ ∃ k : Nat, r = k ∧ (∃ d, ds[k]? = some d ∧ d.1 = x) ∧ ∀ d ∈ ds.take k, d.1 ≠ x
theorem FindP.one {ds : List (Int × List Int)} {x r s : Int} (h : FindP ds x r) (g : FindP ds x s) : r = s := by
  have aux : ∀ {k : Nat}, (∃ d, ds[k]? = some d ∧ d.1 = x) → (∀ d ∈ ds, d.1 ≠ x) → False := fun ⟨d, hd, he⟩ hn => hn d (mem_of_at hd) he
  have aux2 : ∀ {k j : Nat}, k < j → (∃ d, ds[k]? = some d ∧ d.1 = x) → (∀ d ∈ ds.take j, d.1 ≠ x) → False := fun {k j} hkj ⟨d, hd, he⟩ hn => hn d (mem_of_at (k := k) (by rw [List.getElem?_take_of_lt hkj]; exact hd)) he
  rcases h with ⟨rfl, h⟩ | ⟨k, rfl, hk, h⟩ <;> rcases g with ⟨rfl, g⟩ | ⟨j, rfl, hj, g⟩
  · rfl
  · exact (aux hj h).elim
  · exact (aux hk g).elim
  · rcases Nat.lt_trichotomy k j with h1 | h1 | h1
    · exact (aux2 h1 hk g).elim
    · rw [h1]
    · exact (aux2 h1 hj h).elim
theorem FindP.hit {its : List It} {x : Int} {k : Nat} {t : It} (hat : its[k]? = some t) (he : t.id = x) (h : ∀ u ∈ its.take k, u.id ≠ x) : FindP (its.map It.dat) x k :=
  .inr ⟨k, rfl, ⟨t.dat, by simp [hat], he⟩, fun d hd => by
    rw [← List.map_take] at hd
    obtain ⟨u, hu, rfl⟩ := List.mem_map.1 hd
    exact h u hu⟩
theorem FindP.miss {its : List It} {x : Int} (h : ∀ u ∈ its, u.id ≠ x) : FindP (its.map It.dat) x (-1) :=
  .inl ⟨rfl, fun d hd => by
    obtain ⟨u, hu, rfl⟩ := List.mem_map.1 hd
    exact h u hu⟩
theorem ne_step {its : List It} {x : Int} {k : Nat} {t : It} (hat : its[k]? = some t) (h : ∀ u ∈ its.take k, u.id ≠ x) (h1 : t.id ≠ x) : ∀ u ∈ its.take (k + 1), u.id ≠ x := by
  rw [take_at hat]
  intro u hu
  rcases List.mem_append.1 hu with h2 | h2
  · exact h u h2
  · obtain rfl := List.mem_singleton.1 h2
    exact h1

theorem sFind (w : World) (B : Nat) (A : Option Addr) (n c : Nat) (its : List It) (hi : Items w B A n its) (hB : B ≤ w.heap.size) (hn : n ≤ 1048576) (x : Int) :
    Calls Try.prog 22 #[.slice A n c, .int .i64 x] w fun e w' => (∃ r, e = .returned (.int .i64 r) ∧ FindP (its.map It.dat) x r) ∧ Below w.heap.size w w' := by
  have HX := Lib.hid hi
  clear hi
  go_enter Try.func22, Try.ntmps22
  go_wp2
  go_loopw [5] (fun i wr => ∃ k : Nat, k ≤ n ∧ i = .int .i64 k ∧ (∀ u ∈ its.take k, u.id ≠ x) ∧ Below w.heap.size w wr) (fun i _ => n - (intOf i).toNat)
  case atStart => exact ⟨0, Nat.zero_le _, rfl, by simp, Below.refl _ _⟩
  case round =>
    obtain ⟨k, hk, rfl, hall, hbel⟩ := hrel
    have HA := Lib.hid hall
    have HB := Lib.hid hbel
    clear hall
    by_cases hlt : k < n
    · obtain ⟨b1, off, t, rfl, hb1, hat, hc1, _, _⟩ := HX.out.at k hlt
      have f1 := (hbel.cell (p := ⟨b1, off + k * 2, none⟩) (by exact Nat.lt_of_lt_of_le hb1 hB)).trans hc1
      have HAt := Lib.hid hat
      clear hc1 hat hbel
      by_cases he : t.id = x
      · have he' : (t.id == x) = true := by simpa using he
        have HE := Lib.hid he
        clear he
        go_wp2
        go_ret
        exact ⟨⟨_, rfl, FindP.hit HAt.out HE.out HA.out⟩, HB.out⟩
      · have he' : (t.id == x) = false := by simpa using he
        have HE := Lib.hid he
        clear he
        go_wp2
        go_roundw
        case rel => exact ⟨k + 1, by omega, by go_num, ne_step HAt.out HA.out HE.out, HB.out⟩
        case measure => simp [intOf]; omega
    · obtain rfl : k = n := by omega
      clear hbel
      go_wp2
      go_ret
      exact ⟨⟨_, rfl, FindP.miss (by have := HA.out; rwa [take_all HX.out.1] at this)⟩, HB.out⟩

end Go.Proofs.Ytnjnlcmddcjcfaa.num
namespace Go.Proofs.Ytnjnlcmddcjcfaa.num
set_option maxRecDepth 20000
open Go.RowKit
set_option linter.unusedSimpArgs false

/-- The first k numbers rise. -/
def Rise (l : List Int) (k : Nat) : Prop := ∀ j, 0 < j → j < k → l.getD (j - 1) 0 < l.getD j 0
theorem Rise.zero (l : List Int) : Rise l 0 := fun j _ h => by omega
theorem Rise.step {l : List Int} {k : Nat} (h : Rise l k) (h1 : 0 < k → l.getD (k - 1) 0 < l.getD k 0) : Rise l (k + 1) := fun j h0 hj => by
  by_cases e : j = k
  · subst e; exact h1 h0
  · exact h j h0 (by omega)
/-- What makes a list of items. -/
def AreP (ds : List (Int × List Int)) : Prop := (∀ d ∈ ds, IsP d) ∧ Rise (ds.map (·.1)) ds.length ∧ ds.length ≤ 16
theorem id_at {its : List It} {k : Nat} {t : It} (h : its[k]? = some t) : ((its.map It.dat).map (·.1)).getD k 0 = t.id := by
  simp [List.getD_eq_getElem?_getD, h, It.dat]
theorem dat_mem {its : List It} {k : Nat} {t : It} (h : its[k]? = some t) : t.dat ∈ its.map It.dat := List.mem_map.2 ⟨t, mem_of_at h, rfl⟩

/-- IsItem in a world that still bears what held of w0 below its end. -/
theorem sIsItem_in (w0 w : World) (B : Nat) (t : It) (hi : Ints w0 B t.A t.n t.xs) (hB : B ≤ w0.heap.size) (hw : Below w0.heap.size w0 w) (hn : t.n ≤ 1048576) (b : Bool) (hb : b = true ↔ IsP t.dat) :
    Calls Try.prog 55 #[t.val] w fun e w' => e = .returned (.bool b) ∧ Below w0.heap.size w0 w' :=
  (sIsItem w B t (hi.below (hw.mono hB)) (Nat.le_trans hB hw.size) hn b hb).mono fun _ _ ⟨he, h⟩ => ⟨he, hw.trans (h.mono hw.size)⟩

theorem are_step {its : List It} {k : Nat} {t : It} (hat : its[k]? = some t) (h : ∀ u ∈ its.take k, IsP u.dat) (h1 : IsP t.dat) : ∀ u ∈ its.take (k + 1), IsP u.dat := by
  rw [take_at hat]
  intro u hu
  rcases List.mem_append.1 hu with h2 | h2
  · exact h u h2
  · obtain rfl := List.mem_singleton.1 h2
    exact h1

set_option maxRecDepth 20000 in
set_option maxHeartbeats 1600000 in
theorem sAre (w : World) (B : Nat) (A : Option Addr) (n c : Nat) (its : List It) (hi : Items w B A n its) (hB : B ≤ w.heap.size) (hn : n ≤ 1048576) (hN : ∀ t ∈ its, t.n ≤ 1048576) (b : Bool) (hb : b = true ↔ AreP (its.map It.dat)) :
    Calls Try.prog 40 #[.slice A n c] w fun e w' => e = .returned (.bool b) ∧ Below w.heap.size w w' := by
  have HX := Lib.hid hi
  have HN := Lib.hid hN
  have HBo := Lib.hid hb
  clear hi hN hb
  go_enter Try.func40, Try.ntmps40
  go_wp2
  go_loopw [3] (fun i wr => ∃ k : Nat, k ≤ n ∧ i = .int .i64 k ∧ (∀ t ∈ its.take k, IsP t.dat) ∧ Rise ((its.map It.dat).map (·.1)) k ∧ Below w.heap.size w wr) (fun i _ => n - (intOf i).toNat)
  case atStart => exact ⟨0, Nat.zero_le _, rfl, by simp, Rise.zero _, Below.refl _ _⟩
  case round =>
    obtain ⟨k, hk, rfl, hall, hrise, hbel⟩ := hrel
    have HA := Lib.hid hall
    have HR := Lib.hid hrise
    have HB := Lib.hid hbel
    clear hall hrise
    by_cases hlt : k < n
    · obtain ⟨b1, off, t, hA1, hb1, hat, hc1, hd1, hx⟩ := HX.out.at k hlt
      have f1 := (hbel.cell (p := ⟨b1, off + k * 2, none⟩) (by exact Nat.lt_of_lt_of_le hb1 hB)).trans hc1
      have f2 := (hbel.cell (p := ⟨b1, off + k * 2 + 1, none⟩) (by exact Nat.lt_of_lt_of_le hb1 hB)).trans hd1
      have HI := Lib.hid (hx.below (hbel.mono hB))
      have HAt := Lib.hid hat
      have htn := Lib.hid (HN.out t (mem_of_at hat))
      have hsz := Lib.hid hbel.size
      have hlt' : (k : Int) < (n : Int) := by omega
      obtain ⟨q, hq⟩ := bool_of (IsP t.dat)
      have HQ := Lib.hid hq
      clear hc1 hd1 hx hat hq
      cases q
      · have HF : Hid (b = false) := by
          show _ = _
          cases b
          · rfl
          · exact absurd ((HBo.out.1 rfl).1 _ (dat_mem HAt.out)) (fun h => by have := HQ.out.2 h; cases this)
        subst hA1
        clear hbel
        go_wp2
        have hs0 : Below wr.heap.size wr wr.drew ∧ wr.drew.cell? ⟨b1, off + k * 2, none⟩ = some (.int .i64 t.id) ∧ wr.drew.cell? ⟨b1, off + k * 2 + 1, none⟩ = some (.slice t.A t.n t.c) := ⟨(Below.refl _ _).drew, f1, f2⟩
        refine wp_region_held (S := fun w' => Below wr.heap.size wr w' ∧ w'.cell? ⟨b1, off + k * 2, none⟩ = some (.int .i64 t.id) ∧ w'.cell? ⟨b1, off + k * 2 + 1, none⟩ = some (.slice t.A t.n t.c)) (by kernel_rfl) ?_
        change wpAnyH _ _ _ _ _ _ _ _ (World.drew _)
        refine takeY 10 (i := 0) (v := ?v0a) rfl rfl (by kernel_rfl) (by kernel_rfl) (by kernel_rfl) (fun _ _ _ h => h) (by kernel_rfl) ?y0a hs0 ?_
        case y0a =>
          intro w' hw'; (try dsimp only at hw'); obtain ⟨e0, e1, e2⟩ := hw'; go_simp; try with_reducible rfl
        simp only [Act.put, List.setIfInBounds_toArray, List.set_cons_zero, List.set_cons_succ]
        refine takeY 11 (i := 1) (v := ?v1a) rfl rfl (by kernel_rfl) (by kernel_rfl) (by kernel_rfl) (fun _ _ _ h => h) (by kernel_rfl) ?y1a hs0 ?_
        case y1a =>
          intro w' hw'; (try dsimp only at hw'); obtain ⟨e0, e1, e2⟩ := hw'; go_simp; try with_reducible rfl
        simp only [Act.put, List.setIfInBounds_toArray, List.set_cons_zero, List.set_cons_succ]
        refine takeY 12 (i := 2) (v := ?v2a) rfl rfl (by kernel_rfl) (by kernel_rfl) (by kernel_rfl) (fun _ _ _ h => h) (by kernel_rfl) ?y2a hs0 ?_
        case y2a =>
          intro w' hw'; (try dsimp only at hw'); obtain ⟨e0, e1, e2⟩ := hw'; go_simp; try with_reducible rfl
        simp only [Act.put, List.setIfInBounds_toArray, List.set_cons_zero, List.set_cons_succ]
        refine takeY 13 (i := 3) (v := ?v3a) rfl rfl (by kernel_rfl) (by kernel_rfl) (by kernel_rfl) (fun _ _ _ h => h) (by kernel_rfl) ?y3a hs0 ?_
        case y3a =>
          intro w' hw'; (try dsimp only at hw'); obtain ⟨e0, e1, e2⟩ := hw'; go_simp; try with_reducible rfl
        simp only [Act.put, List.setIfInBounds_toArray, List.set_cons_zero, List.set_cons_succ]
        refine wpAnyH_ready (rs := [4]) (by kernel_rfl) (by simp) ?_
        refine AllReadyH.cons rfl (fun K hK => ?_) AllReadyH.nil
        go_simp; go_at_call 55; refine (sIsItem_in wr _ B t HI.out (Nat.le_trans hB hsz.out) (Below.refl _ _).drew htn.out false HQ.out).mono ?_; rintro e w3 ⟨rfl, hb3⟩
        refine hK.out _ _ ⟨hb3, (hb3.cell (p := ⟨b1, off + k * 2, none⟩) (by exact Nat.lt_of_lt_of_le hb1 (Nat.le_trans hB hsz.out))).trans f1, (hb3.cell (p := ⟨b1, off + k * 2 + 1, none⟩) (by exact Nat.lt_of_lt_of_le hb1 (Nat.le_trans hB hsz.out))).trans f2⟩ (fun hS1 => ?_)
        clear hK K
        try simp only [Act.put, List.setIfInBounds_toArray, List.set_cons_zero, List.set_cons_succ]
        refine takeY 15 (i := 5) (v := ?v5a) rfl rfl (by kernel_rfl) (by kernel_rfl) (by kernel_rfl) (fun _ _ _ h => h) (by kernel_rfl) ?y5a hS1 ?_
        case y5a =>
          intro w' hw'; (try dsimp only at hw'); obtain ⟨e0, e1, e2⟩ := hw'; go_simp; try with_reducible rfl
        simp only [Act.put, List.setIfInBounds_toArray, List.set_cons_zero, List.set_cons_succ]
        refine takeY 16 (i := 6) (v := ?v6a) rfl rfl (by kernel_rfl) (by kernel_rfl) (by kernel_rfl) (fun _ _ _ h => h) (by kernel_rfl) ?y6a hS1 ?_
        case y6a =>
          intro w' hw'; (try dsimp only at hw'); obtain ⟨e0, e1, e2⟩ := hw'; go_simp; try with_reducible rfl
        simp only [Act.put, List.setIfInBounds_toArray, List.set_cons_zero, List.set_cons_succ]
        refine takeU 17 (i := 7) rfl rfl (by kernel_rfl) (by kernel_rfl) (by kernel_rfl) (fun _ _ _ h => h) (by kernel_rfl) hS1 ?_
        simp only [Act.put, List.setIfInBounds_toArray, List.set_cons_zero, List.set_cons_succ]
        refine takeU 18 (i := 8) rfl rfl (by kernel_rfl) (by kernel_rfl) (by kernel_rfl) (fun _ _ _ h => h) (by kernel_rfl) hS1 ?_
        simp only [Act.put, List.setIfInBounds_toArray, List.set_cons_zero, List.set_cons_succ]
        refine takeU 19 (i := 9) rfl rfl (by kernel_rfl) (by kernel_rfl) (by kernel_rfl) (fun _ _ _ h => h) (by kernel_rfl) hS1 ?_
        simp only [Act.put, List.setIfInBounds_toArray, List.set_cons_zero, List.set_cons_succ]
        refine takeU 20 (i := 10) rfl rfl (by kernel_rfl) (by kernel_rfl) (by kernel_rfl) (fun _ _ _ h => h) (by kernel_rfl) hS1 ?_
        simp only [Act.put, List.setIfInBounds_toArray, List.set_cons_zero, List.set_cons_succ]
        refine takeU 21 (i := 11) rfl rfl (by kernel_rfl) (by kernel_rfl) (by kernel_rfl) (fun _ _ _ h => h) (by kernel_rfl) hS1 ?_
        simp only [Act.put, List.setIfInBounds_toArray, List.set_cons_zero, List.set_cons_succ]
        refine takeU 22 (i := 12) rfl rfl (by kernel_rfl) (by kernel_rfl) (by kernel_rfl) (fun _ _ _ h => h) (by kernel_rfl) hS1 ?_
        simp only [Act.put, List.setIfInBounds_toArray, List.set_cons_zero, List.set_cons_succ]
        refine takeU 23 (i := 13) rfl rfl (by kernel_rfl) (by kernel_rfl) (by kernel_rfl) (fun _ _ _ h => h) (by kernel_rfl) hS1 ?_
        simp only [Act.put, List.setIfInBounds_toArray, List.set_cons_zero, List.set_cons_succ]
        refine takeU 24 (i := 14) rfl rfl (by kernel_rfl) (by kernel_rfl) (by kernel_rfl) (fun _ _ _ h => h) (by kernel_rfl) hS1 ?_
        simp only [Act.put, List.setIfInBounds_toArray, List.set_cons_zero, List.set_cons_succ]
        refine takeU 25 (i := 15) rfl rfl (by kernel_rfl) (by kernel_rfl) (by kernel_rfl) (fun _ _ _ h => h) (by kernel_rfl) hS1 ?_
        simp only [Act.put, List.setIfInBounds_toArray, List.set_cons_zero, List.set_cons_succ]
        refine takeU 26 (i := 16) rfl rfl (by kernel_rfl) (by kernel_rfl) (by kernel_rfl) (fun _ _ _ h => h) (by kernel_rfl) hS1 ?_
        simp only [Act.put, List.setIfInBounds_toArray, List.set_cons_zero, List.set_cons_succ]
        refine takeU 27 (i := 17) rfl rfl (by kernel_rfl) (by kernel_rfl) (by kernel_rfl) (fun _ _ _ h => h) (by kernel_rfl) hS1 ?_
        simp only [Act.put, List.setIfInBounds_toArray, List.set_cons_zero, List.set_cons_succ]
        refine takeU 28 (i := 18) rfl rfl (by kernel_rfl) (by kernel_rfl) (by kernel_rfl) (fun _ _ _ h => h) (by kernel_rfl) hS1 ?_
        simp only [Act.put, List.setIfInBounds_toArray, List.set_cons_zero, List.set_cons_succ]
        refine takeU 29 (i := 19) rfl rfl (by kernel_rfl) (by kernel_rfl) (by kernel_rfl) (fun _ _ _ h => h) (by kernel_rfl) hS1 ?_
        simp only [Act.put, List.setIfInBounds_toArray, List.set_cons_zero, List.set_cons_succ]
        refine takeU 30 (i := 20) rfl rfl (by kernel_rfl) (by kernel_rfl) (by kernel_rfl) (fun _ _ _ h => h) (by kernel_rfl) hS1 ?_
        simp only [Act.put, List.setIfInBounds_toArray, List.set_cons_zero, List.set_cons_succ]
        refine takeU 31 (i := 21) rfl rfl (by kernel_rfl) (by kernel_rfl) (by kernel_rfl) (fun _ _ _ h => h) (by kernel_rfl) hS1 ?_
        simp only [Act.put, List.setIfInBounds_toArray, List.set_cons_zero, List.set_cons_succ]
        refine takeU 32 (i := 22) rfl rfl (by kernel_rfl) (by kernel_rfl) (by kernel_rfl) (fun _ _ _ h => h) (by kernel_rfl) hS1 ?_
        simp only [Act.put, List.setIfInBounds_toArray, List.set_cons_zero, List.set_cons_succ]
        refine takeY 33 (i := 23) (v := ?v23a) rfl rfl (by kernel_rfl) (by kernel_rfl) (by kernel_rfl) (fun _ _ _ h => h) (by kernel_rfl) ?y23a hS1 ?_
        case y23a =>
          intro w' hw'; (try dsimp only at hw'); obtain ⟨e0, e1, e2⟩ := hw'; go_simp; try with_reducible rfl
        simp only [Act.put, List.setIfInBounds_toArray, List.set_cons_zero, List.set_cons_succ]
        refine wpAnyH_done (by kernel_rfl) ?_ _
        go_wp2
        go_ret
        exact ⟨HF.out.symm ▸ rfl, HB.out.trans (hb3.mono hsz.out)⟩
      · have HD := Lib.hid (HQ.out.1 rfl)
        rcases Nat.eq_zero_or_pos k with h0 | h0
        · have HK := Lib.hid h0
          subst hA1
          clear hbel h0
          go_wp2
          have hk0 : decide (0 < k) = false := decide_eq_false (by have := HK.out; omega)
          have hs0 : Below wr.heap.size wr wr.drew ∧ wr.drew.cell? ⟨b1, off + k * 2, none⟩ = some (.int .i64 t.id) ∧ wr.drew.cell? ⟨b1, off + k * 2 + 1, none⟩ = some (.slice t.A t.n t.c) := ⟨(Below.refl _ _).drew, f1, f2⟩
          refine wp_region_held (S := fun w' => Below wr.heap.size wr w' ∧ w'.cell? ⟨b1, off + k * 2, none⟩ = some (.int .i64 t.id) ∧ w'.cell? ⟨b1, off + k * 2 + 1, none⟩ = some (.slice t.A t.n t.c)) (by kernel_rfl) ?_
          change wpAnyH _ _ _ _ _ _ _ _ (World.drew _)
          refine takeY 10 (i := 0) (v := ?v0b) rfl rfl (by kernel_rfl) (by kernel_rfl) (by kernel_rfl) (fun _ _ _ h => h) (by kernel_rfl) ?y0b hs0 ?_
          case y0b =>
            intro w' hw'; (try dsimp only at hw'); obtain ⟨e0, e1, e2⟩ := hw'; go_simp; try with_reducible rfl
          simp only [Act.put, List.setIfInBounds_toArray, List.set_cons_zero, List.set_cons_succ]
          refine takeY 11 (i := 1) (v := ?v1b) rfl rfl (by kernel_rfl) (by kernel_rfl) (by kernel_rfl) (fun _ _ _ h => h) (by kernel_rfl) ?y1b hs0 ?_
          case y1b =>
            intro w' hw'; (try dsimp only at hw'); obtain ⟨e0, e1, e2⟩ := hw'; go_simp; try with_reducible rfl
          simp only [Act.put, List.setIfInBounds_toArray, List.set_cons_zero, List.set_cons_succ]
          refine takeY 12 (i := 2) (v := ?v2b) rfl rfl (by kernel_rfl) (by kernel_rfl) (by kernel_rfl) (fun _ _ _ h => h) (by kernel_rfl) ?y2b hs0 ?_
          case y2b =>
            intro w' hw'; (try dsimp only at hw'); obtain ⟨e0, e1, e2⟩ := hw'; go_simp; try with_reducible rfl
          simp only [Act.put, List.setIfInBounds_toArray, List.set_cons_zero, List.set_cons_succ]
          refine takeY 13 (i := 3) (v := ?v3b) rfl rfl (by kernel_rfl) (by kernel_rfl) (by kernel_rfl) (fun _ _ _ h => h) (by kernel_rfl) ?y3b hs0 ?_
          case y3b =>
            intro w' hw'; (try dsimp only at hw'); obtain ⟨e0, e1, e2⟩ := hw'; go_simp; try with_reducible rfl
          simp only [Act.put, List.setIfInBounds_toArray, List.set_cons_zero, List.set_cons_succ]
          refine wpAnyH_ready (rs := [4]) (by kernel_rfl) (by simp) ?_
          refine AllReadyH.cons rfl (fun K hK => ?_) AllReadyH.nil
          go_simp; go_at_call 55; refine (sIsItem_in wr _ B t HI.out (Nat.le_trans hB hsz.out) (Below.refl _ _).drew htn.out true ⟨fun _ => HD.out, fun _ => rfl⟩).mono ?_; rintro e w3 ⟨rfl, hb3⟩
          refine hK.out _ _ ⟨hb3, (hb3.cell (p := ⟨b1, off + k * 2, none⟩) (by exact Nat.lt_of_lt_of_le hb1 (Nat.le_trans hB hsz.out))).trans f1, (hb3.cell (p := ⟨b1, off + k * 2 + 1, none⟩) (by exact Nat.lt_of_lt_of_le hb1 (Nat.le_trans hB hsz.out))).trans f2⟩ (fun hS1 => ?_)
          clear hK K
          try simp only [Act.put, List.setIfInBounds_toArray, List.set_cons_zero, List.set_cons_succ]
          refine takeY 15 (i := 5) (v := ?v5b) rfl rfl (by kernel_rfl) (by kernel_rfl) (by kernel_rfl) (fun _ _ _ h => h) (by kernel_rfl) ?y5b hS1 ?_
          case y5b =>
            intro w' hw'; (try dsimp only at hw'); obtain ⟨e0, e1, e2⟩ := hw'; go_simp; try with_reducible rfl
          simp only [Act.put, List.setIfInBounds_toArray, List.set_cons_zero, List.set_cons_succ]
          refine takeY 16 (i := 6) (v := ?v6b) rfl rfl (by kernel_rfl) (by kernel_rfl) (by kernel_rfl) (fun _ _ _ h => h) (by kernel_rfl) ?y6b hS1 ?_
          case y6b =>
            intro w' hw'; (try dsimp only at hw'); obtain ⟨e0, e1, e2⟩ := hw'; go_simp; try with_reducible rfl
          simp only [Act.put, List.setIfInBounds_toArray, List.set_cons_zero, List.set_cons_succ]
          refine takeY 17 (i := 7) (v := ?v7b) rfl rfl (by kernel_rfl) (by kernel_rfl) (by kernel_rfl) (fun _ _ _ h => h) (by kernel_rfl) ?y7b hS1 ?_
          case y7b =>
            intro w' hw'; (try dsimp only at hw'); obtain ⟨e0, e1, e2⟩ := hw'; go_simp; try with_reducible rfl
          simp only [Act.put, List.setIfInBounds_toArray, List.set_cons_zero, List.set_cons_succ]
          refine takeY 18 (i := 8) (v := ?v8b) rfl rfl (by kernel_rfl) (by kernel_rfl) (by kernel_rfl) (fun _ _ _ h => h) (by kernel_rfl) ?y8b hS1 ?_
          case y8b =>
            intro w' hw'; (try dsimp only at hw'); obtain ⟨e0, e1, e2⟩ := hw'; go_simp; try with_reducible rfl
          simp only [Act.put, List.setIfInBounds_toArray, List.set_cons_zero, List.set_cons_succ]
          refine takeY 19 (i := 9) (v := ?v9b) rfl rfl (by kernel_rfl) (by kernel_rfl) (by kernel_rfl) (fun _ _ _ h => h) (by kernel_rfl) ?y9b hS1 ?_
          case y9b =>
            intro w' hw'; (try dsimp only at hw'); obtain ⟨e0, e1, e2⟩ := hw'; go_simp; try with_reducible rfl
          simp only [Act.put, List.setIfInBounds_toArray, List.set_cons_zero, List.set_cons_succ]
          refine takeU 20 (i := 10) rfl rfl (by kernel_rfl) (by kernel_rfl) (by kernel_rfl) (fun _ _ _ h => h) (by kernel_rfl) hS1 ?_
          simp only [Act.put, List.setIfInBounds_toArray, List.set_cons_zero, List.set_cons_succ]
          refine takeU 21 (i := 11) rfl rfl (by kernel_rfl) (by kernel_rfl) (by kernel_rfl) (fun _ _ _ h => h) (by kernel_rfl) hS1 ?_
          simp only [Act.put, List.setIfInBounds_toArray, List.set_cons_zero, List.set_cons_succ]
          refine takeU 22 (i := 12) rfl rfl (by kernel_rfl) (by kernel_rfl) (by kernel_rfl) (fun _ _ _ h => h) (by kernel_rfl) hS1 ?_
          simp only [Act.put, List.setIfInBounds_toArray, List.set_cons_zero, List.set_cons_succ]
          refine takeU 23 (i := 13) rfl rfl (by kernel_rfl) (by kernel_rfl) (by kernel_rfl) (fun _ _ _ h => h) (by kernel_rfl) hS1 ?_
          simp only [Act.put, List.setIfInBounds_toArray, List.set_cons_zero, List.set_cons_succ]
          refine takeU 24 (i := 14) rfl rfl (by kernel_rfl) (by kernel_rfl) (by kernel_rfl) (fun _ _ _ h => h) (by kernel_rfl) hS1 ?_
          simp only [Act.put, List.setIfInBounds_toArray, List.set_cons_zero, List.set_cons_succ]
          refine takeU 25 (i := 15) rfl rfl (by kernel_rfl) (by kernel_rfl) (by kernel_rfl) (fun _ _ _ h => h) (by kernel_rfl) hS1 ?_
          simp only [Act.put, List.setIfInBounds_toArray, List.set_cons_zero, List.set_cons_succ]
          refine takeU 26 (i := 16) rfl rfl (by kernel_rfl) (by kernel_rfl) (by kernel_rfl) (fun _ _ _ h => h) (by kernel_rfl) hS1 ?_
          simp only [Act.put, List.setIfInBounds_toArray, List.set_cons_zero, List.set_cons_succ]
          refine takeU 27 (i := 17) rfl rfl (by kernel_rfl) (by kernel_rfl) (by kernel_rfl) (fun _ _ _ h => h) (by kernel_rfl) hS1 ?_
          simp only [Act.put, List.setIfInBounds_toArray, List.set_cons_zero, List.set_cons_succ]
          refine takeU 28 (i := 18) rfl rfl (by kernel_rfl) (by kernel_rfl) (by kernel_rfl) (fun _ _ _ h => h) (by kernel_rfl) hS1 ?_
          simp only [Act.put, List.setIfInBounds_toArray, List.set_cons_zero, List.set_cons_succ]
          refine takeU 29 (i := 19) rfl rfl (by kernel_rfl) (by kernel_rfl) (by kernel_rfl) (fun _ _ _ h => h) (by kernel_rfl) hS1 ?_
          simp only [Act.put, List.setIfInBounds_toArray, List.set_cons_zero, List.set_cons_succ]
          refine takeU 30 (i := 20) rfl rfl (by kernel_rfl) (by kernel_rfl) (by kernel_rfl) (fun _ _ _ h => h) (by kernel_rfl) hS1 ?_
          simp only [Act.put, List.setIfInBounds_toArray, List.set_cons_zero, List.set_cons_succ]
          refine takeU 31 (i := 21) rfl rfl (by kernel_rfl) (by kernel_rfl) (by kernel_rfl) (fun _ _ _ h => h) (by kernel_rfl) hS1 ?_
          simp only [Act.put, List.setIfInBounds_toArray, List.set_cons_zero, List.set_cons_succ]
          refine takeY 32 (i := 22) (v := ?v22b) rfl rfl (by kernel_rfl) (by kernel_rfl) (by kernel_rfl) (fun _ _ _ h => h) (by kernel_rfl) ?y22b hS1 ?_
          case y22b =>
            intro w' hw'; (try dsimp only at hw'); obtain ⟨e0, e1, e2⟩ := hw'; go_simp; try with_reducible rfl
          simp only [Act.put, List.setIfInBounds_toArray, List.set_cons_zero, List.set_cons_succ]
          refine takeY 33 (i := 23) (v := ?v23b) rfl rfl (by kernel_rfl) (by kernel_rfl) (by kernel_rfl) (fun _ _ _ h => h) (by kernel_rfl) ?y23b hS1 ?_
          case y23b =>
            intro w' hw'; (try dsimp only at hw'); obtain ⟨e0, e1, e2⟩ := hw'; go_simp; try with_reducible rfl
          simp only [Act.put, List.setIfInBounds_toArray, List.set_cons_zero, List.set_cons_succ]
          refine wpAnyH_done (by kernel_rfl) ?_ _
          clear hk0
          go_wp2
          go_roundw
          case rel => exact ⟨k + 1, by omega, by go_num, are_step HAt.out HA.out HD.out, HR.out.step (fun h0 => absurd h0 (by have := HK.out; omega)), HB.out.trans (hb3.mono hsz.out)⟩
          case measure => simp [intOf]; omega
        · obtain ⟨j, hj⟩ : ∃ j, j + 1 = k := ⟨k - 1, by omega⟩
          obtain ⟨b2, off2, t0, hA2, hb2, hat2, hc2, _, _⟩ := HX.out.at j (by omega)
          obtain ⟨rfl, rfl⟩ : b1 = b2 ∧ off = off2 := by rw [hA1] at hA2; injection hA2 with h; injection h with h1 h2; exact ⟨h1, h2⟩
          have f3 := (hbel.cell (p := ⟨b1, off + j * 2, none⟩) (by exact Nat.lt_of_lt_of_le hb1 hB)).trans hc2
          have HAt0 := Lib.hid hat2
          have HJ := Lib.hid hj
          have HK0 : Hid ((0 : Int) < (k : Int)) := by show _ < _; omega
          have hkj : (k : Int) - 1 = (j : Int) := by omega
          have hkw : IntKind.i64.wrap ((k : Int) - 1) = (j : Int) := by rw [hkj]; exact IntWalk.i64_in _ ⟨by omega, by omega⟩
          have hjw : IntKind.i64.wrap (j : Int) = (j : Int) := IntWalk.i64_in _ ⟨by omega, by omega⟩
          have hjn : (j : Int) < (n : Int) := by omega
          have hjn' : j < n := by omega
          subst hA1
          clear hbel h0 hj hc2 hat2 hA2
          have HLt : Hid (((its.map It.dat).map (·.1)).getD (k - 1) 0 = t0.id ∧ ((its.map It.dat).map (·.1)).getD k 0 = t.id) := by
            refine ⟨?_, id_at HAt.out⟩
            rw [show k - 1 = j by have := HJ.out; omega]
            exact id_at HAt0.out
          by_cases hle : t.id ≤ t0.id
          · have HF : Hid (b = false) := by
              show _ = _
              cases b
              · rfl
              · have hr := (HBo.out.1 rfl).2.1 k (by omega) (by rw [List.length_map, HX.out.1]; exact hlt)
                rw [HLt.out.1, HLt.out.2] at hr
                omega
            go_wp2
            have hk0 : decide (0 < k) = true := decide_eq_true (by have := HK0.out; omega)
            have hs0 : Below wr.heap.size wr wr.drew ∧ wr.drew.cell? ⟨b1, off + k * 2, none⟩ = some (.int .i64 t.id) ∧ wr.drew.cell? ⟨b1, off + k * 2 + 1, none⟩ = some (.slice t.A t.n t.c) ∧ wr.drew.cell? ⟨b1, off + j * 2, none⟩ = some (.int .i64 t0.id) := ⟨(Below.refl _ _).drew, f1, f2, f3⟩
            refine wp_region_held (S := fun w' => Below wr.heap.size wr w' ∧ w'.cell? ⟨b1, off + k * 2, none⟩ = some (.int .i64 t.id) ∧ w'.cell? ⟨b1, off + k * 2 + 1, none⟩ = some (.slice t.A t.n t.c) ∧ w'.cell? ⟨b1, off + j * 2, none⟩ = some (.int .i64 t0.id)) (by kernel_rfl) ?_
            change wpAnyH _ _ _ _ _ _ _ _ (World.drew _)
            refine takeY 10 (i := 0) (v := ?v0c) rfl rfl (by kernel_rfl) (by kernel_rfl) (by kernel_rfl) (fun _ _ _ h => h) (by kernel_rfl) ?y0c hs0 ?_
            case y0c =>
              intro w' hw'; (try dsimp only at hw'); obtain ⟨e0, e1, e2, e3⟩ := hw'; go_simp; try with_reducible rfl
            simp only [Act.put, List.setIfInBounds_toArray, List.set_cons_zero, List.set_cons_succ]
            refine takeY 11 (i := 1) (v := ?v1c) rfl rfl (by kernel_rfl) (by kernel_rfl) (by kernel_rfl) (fun _ _ _ h => h) (by kernel_rfl) ?y1c hs0 ?_
            case y1c =>
              intro w' hw'; (try dsimp only at hw'); obtain ⟨e0, e1, e2, e3⟩ := hw'; go_simp; try with_reducible rfl
            simp only [Act.put, List.setIfInBounds_toArray, List.set_cons_zero, List.set_cons_succ]
            refine takeY 12 (i := 2) (v := ?v2c) rfl rfl (by kernel_rfl) (by kernel_rfl) (by kernel_rfl) (fun _ _ _ h => h) (by kernel_rfl) ?y2c hs0 ?_
            case y2c =>
              intro w' hw'; (try dsimp only at hw'); obtain ⟨e0, e1, e2, e3⟩ := hw'; go_simp; try with_reducible rfl
            simp only [Act.put, List.setIfInBounds_toArray, List.set_cons_zero, List.set_cons_succ]
            refine takeY 13 (i := 3) (v := ?v3c) rfl rfl (by kernel_rfl) (by kernel_rfl) (by kernel_rfl) (fun _ _ _ h => h) (by kernel_rfl) ?y3c hs0 ?_
            case y3c =>
              intro w' hw'; (try dsimp only at hw'); obtain ⟨e0, e1, e2, e3⟩ := hw'; go_simp; try with_reducible rfl
            simp only [Act.put, List.setIfInBounds_toArray, List.set_cons_zero, List.set_cons_succ]
            refine wpAnyH_ready (rs := [4]) (by kernel_rfl) (by simp) ?_
            refine AllReadyH.cons rfl (fun K hK => ?_) AllReadyH.nil
            go_simp; go_at_call 55; refine (sIsItem_in wr _ B t HI.out (Nat.le_trans hB hsz.out) (Below.refl _ _).drew htn.out true ⟨fun _ => HD.out, fun _ => rfl⟩).mono ?_; rintro e w3 ⟨rfl, hb3⟩
            refine hK.out _ _ ⟨hb3, (hb3.cell (p := ⟨b1, off + k * 2, none⟩) (by exact Nat.lt_of_lt_of_le hb1 (Nat.le_trans hB hsz.out))).trans f1, (hb3.cell (p := ⟨b1, off + k * 2 + 1, none⟩) (by exact Nat.lt_of_lt_of_le hb1 (Nat.le_trans hB hsz.out))).trans f2, (hb3.cell (p := ⟨b1, off + j * 2, none⟩) (by exact Nat.lt_of_lt_of_le hb1 (Nat.le_trans hB hsz.out))).trans f3⟩ (fun hS1 => ?_)
            clear hK K
            try simp only [Act.put, List.setIfInBounds_toArray, List.set_cons_zero, List.set_cons_succ]
            refine takeY 15 (i := 5) (v := ?v5c) rfl rfl (by kernel_rfl) (by kernel_rfl) (by kernel_rfl) (fun _ _ _ h => h) (by kernel_rfl) ?y5c hS1 ?_
            case y5c =>
              intro w' hw'; (try dsimp only at hw'); obtain ⟨e0, e1, e2, e3⟩ := hw'; go_simp; try with_reducible rfl
            simp only [Act.put, List.setIfInBounds_toArray, List.set_cons_zero, List.set_cons_succ]
            refine takeY 16 (i := 6) (v := ?v6c) rfl rfl (by kernel_rfl) (by kernel_rfl) (by kernel_rfl) (fun _ _ _ h => h) (by kernel_rfl) ?y6c hS1 ?_
            case y6c =>
              intro w' hw'; (try dsimp only at hw'); obtain ⟨e0, e1, e2, e3⟩ := hw'; go_simp; try with_reducible rfl
            simp only [Act.put, List.setIfInBounds_toArray, List.set_cons_zero, List.set_cons_succ]
            refine takeY 17 (i := 7) (v := ?v7c) rfl rfl (by kernel_rfl) (by kernel_rfl) (by kernel_rfl) (fun _ _ _ h => h) (by kernel_rfl) ?y7c hS1 ?_
            case y7c =>
              intro w' hw'; (try dsimp only at hw'); obtain ⟨e0, e1, e2, e3⟩ := hw'; go_simp; try with_reducible rfl
            simp only [Act.put, List.setIfInBounds_toArray, List.set_cons_zero, List.set_cons_succ]
            refine takeY 18 (i := 8) (v := ?v8c) rfl rfl (by kernel_rfl) (by kernel_rfl) (by kernel_rfl) (fun _ _ _ h => h) (by kernel_rfl) ?y8c hS1 ?_
            case y8c =>
              intro w' hw'; (try dsimp only at hw'); obtain ⟨e0, e1, e2, e3⟩ := hw'; go_simp; try with_reducible rfl
            simp only [Act.put, List.setIfInBounds_toArray, List.set_cons_zero, List.set_cons_succ]
            refine takeY 19 (i := 9) (v := ?v9c) rfl rfl (by kernel_rfl) (by kernel_rfl) (by kernel_rfl) (fun _ _ _ h => h) (by kernel_rfl) ?y9c hS1 ?_
            case y9c =>
              intro w' hw'; (try dsimp only at hw'); obtain ⟨e0, e1, e2, e3⟩ := hw'; go_simp; try with_reducible rfl
            simp only [Act.put, List.setIfInBounds_toArray, List.set_cons_zero, List.set_cons_succ]
            refine takeY 20 (i := 10) (v := ?v10c) rfl rfl (by kernel_rfl) (by kernel_rfl) (by kernel_rfl) (fun _ _ _ h => h) (by kernel_rfl) ?y10c hS1 ?_
            case y10c =>
              intro w' hw'; (try dsimp only at hw'); obtain ⟨e0, e1, e2, e3⟩ := hw'; go_simp; try with_reducible rfl
            simp only [Act.put, List.setIfInBounds_toArray, List.set_cons_zero, List.set_cons_succ]
            refine takeY 21 (i := 11) (v := ?v11c) rfl rfl (by kernel_rfl) (by kernel_rfl) (by kernel_rfl) (fun _ _ _ h => h) (by kernel_rfl) ?y11c hS1 ?_
            case y11c =>
              intro w' hw'; (try dsimp only at hw'); obtain ⟨e0, e1, e2, e3⟩ := hw'; go_simp; try with_reducible rfl
            simp only [Act.put, List.setIfInBounds_toArray, List.set_cons_zero, List.set_cons_succ]
            refine takeY 22 (i := 12) (v := ?v12c) rfl rfl (by kernel_rfl) (by kernel_rfl) (by kernel_rfl) (fun _ _ _ h => h) (by kernel_rfl) ?y12c hS1 ?_
            case y12c =>
              intro w' hw'; (try dsimp only at hw'); obtain ⟨e0, e1, e2, e3⟩ := hw'; go_simp; try with_reducible rfl
            simp only [Act.put, List.setIfInBounds_toArray, List.set_cons_zero, List.set_cons_succ]
            refine takeY 23 (i := 13) (v := ?v13c) rfl rfl (by kernel_rfl) (by kernel_rfl) (by kernel_rfl) (fun _ _ _ h => h) (by kernel_rfl) ?y13c hS1 ?_
            case y13c =>
              intro w' hw'; (try dsimp only at hw'); obtain ⟨e0, e1, e2, e3⟩ := hw'; go_simp; try with_reducible rfl
            simp only [Act.put, List.setIfInBounds_toArray, List.set_cons_zero, List.set_cons_succ]
            refine takeY 24 (i := 14) (v := ?v14c) rfl rfl (by kernel_rfl) (by kernel_rfl) (by kernel_rfl) (fun _ _ _ h => h) (by kernel_rfl) ?y14c hS1 ?_
            case y14c =>
              intro w' hw'; (try dsimp only at hw'); obtain ⟨e0, e1, e2, e3⟩ := hw'; go_simp; try with_reducible rfl
            simp only [Act.put, List.setIfInBounds_toArray, List.set_cons_zero, List.set_cons_succ]
            refine takeY 25 (i := 15) (v := ?v15c) rfl rfl (by kernel_rfl) (by kernel_rfl) (by kernel_rfl) (fun _ _ _ h => h) (by kernel_rfl) ?y15c hS1 ?_
            case y15c =>
              intro w' hw'; (try dsimp only at hw'); obtain ⟨e0, e1, e2, e3⟩ := hw'; go_simp; try with_reducible rfl
            simp only [Act.put, List.setIfInBounds_toArray, List.set_cons_zero, List.set_cons_succ]
            refine takeY 26 (i := 16) (v := ?v16c) rfl rfl (by kernel_rfl) (by kernel_rfl) (by kernel_rfl) (fun _ _ _ h => h) (by kernel_rfl) ?y16c hS1 ?_
            case y16c =>
              intro w' hw'; (try dsimp only at hw'); obtain ⟨e0, e1, e2, e3⟩ := hw'; go_simp; try with_reducible rfl
            simp only [Act.put, List.setIfInBounds_toArray, List.set_cons_zero, List.set_cons_succ]
            refine takeY 27 (i := 17) (v := ?v17c) rfl rfl (by kernel_rfl) (by kernel_rfl) (by kernel_rfl) (fun _ _ _ h => h) (by kernel_rfl) ?y17c hS1 ?_
            case y17c =>
              intro w' hw'; (try dsimp only at hw'); obtain ⟨e0, e1, e2, e3⟩ := hw'; go_simp; try with_reducible rfl
            simp only [Act.put, List.setIfInBounds_toArray, List.set_cons_zero, List.set_cons_succ]
            refine takeY 28 (i := 18) (v := ?v18c) rfl rfl (by kernel_rfl) (by kernel_rfl) (by kernel_rfl) (fun _ _ _ h => h) (by kernel_rfl) ?y18c hS1 ?_
            case y18c =>
              intro w' hw'; (try dsimp only at hw'); obtain ⟨e0, e1, e2, e3⟩ := hw'; go_simp; try with_reducible rfl
            simp only [Act.put, List.setIfInBounds_toArray, List.set_cons_zero, List.set_cons_succ]
            refine takeY 29 (i := 19) (v := ?v19c) rfl rfl (by kernel_rfl) (by kernel_rfl) (by kernel_rfl) (fun _ _ _ h => h) (by kernel_rfl) ?y19c hS1 ?_
            case y19c =>
              intro w' hw'; (try dsimp only at hw'); obtain ⟨e0, e1, e2, e3⟩ := hw'; go_simp; try with_reducible rfl
            simp only [Act.put, List.setIfInBounds_toArray, List.set_cons_zero, List.set_cons_succ]
            refine takeY 30 (i := 20) (v := ?v20c) rfl rfl (by kernel_rfl) (by kernel_rfl) (by kernel_rfl) (fun _ _ _ h => h) (by kernel_rfl) ?y20c hS1 ?_
            case y20c =>
              intro w' hw'; (try dsimp only at hw'); obtain ⟨e0, e1, e2, e3⟩ := hw'; go_simp; try with_reducible rfl
            simp only [Act.put, List.setIfInBounds_toArray, List.set_cons_zero, List.set_cons_succ]
            refine takeY 31 (i := 21) (v := ?v21c) rfl rfl (by kernel_rfl) (by kernel_rfl) (by kernel_rfl) (fun _ _ _ h => h) (by kernel_rfl) ?y21c hS1 ?_
            case y21c =>
              intro w' hw'; (try dsimp only at hw'); obtain ⟨e0, e1, e2, e3⟩ := hw'; go_simp; try with_reducible rfl
            simp only [Act.put, List.setIfInBounds_toArray, List.set_cons_zero, List.set_cons_succ]
            refine takeY 32 (i := 22) (v := ?v22c) rfl rfl (by kernel_rfl) (by kernel_rfl) (by kernel_rfl) (fun _ _ _ h => h) (by kernel_rfl) ?y22c hS1 ?_
            case y22c =>
              intro w' hw'; (try dsimp only at hw'); obtain ⟨e0, e1, e2, e3⟩ := hw'; go_simp; try with_reducible rfl
            simp only [Act.put, List.setIfInBounds_toArray, List.set_cons_zero, List.set_cons_succ]
            refine takeY 33 (i := 23) (v := ?v23c) rfl rfl (by kernel_rfl) (by kernel_rfl) (by kernel_rfl) (fun _ _ _ h => h) (by kernel_rfl) ?y23c hS1 ?_
            case y23c =>
              intro w' hw'; (try dsimp only at hw'); obtain ⟨e0, e1, e2, e3⟩ := hw'; go_simp; try with_reducible rfl
            simp only [Act.put, List.setIfInBounds_toArray, List.set_cons_zero, List.set_cons_succ]
            refine wpAnyH_done (by kernel_rfl) ?_ _
            clear hk0
            go_wp2
            go_ret
            exact ⟨HF.out.symm ▸ rfl, HB.out.trans (hb3.mono hsz.out)⟩
          · go_wp2
            have hk0 : decide (0 < k) = true := decide_eq_true (by have := HK0.out; omega)
            have hs0 : Below wr.heap.size wr wr.drew ∧ wr.drew.cell? ⟨b1, off + k * 2, none⟩ = some (.int .i64 t.id) ∧ wr.drew.cell? ⟨b1, off + k * 2 + 1, none⟩ = some (.slice t.A t.n t.c) ∧ wr.drew.cell? ⟨b1, off + j * 2, none⟩ = some (.int .i64 t0.id) := ⟨(Below.refl _ _).drew, f1, f2, f3⟩
            refine wp_region_held (S := fun w' => Below wr.heap.size wr w' ∧ w'.cell? ⟨b1, off + k * 2, none⟩ = some (.int .i64 t.id) ∧ w'.cell? ⟨b1, off + k * 2 + 1, none⟩ = some (.slice t.A t.n t.c) ∧ w'.cell? ⟨b1, off + j * 2, none⟩ = some (.int .i64 t0.id)) (by kernel_rfl) ?_
            change wpAnyH _ _ _ _ _ _ _ _ (World.drew _)
            refine takeY 10 (i := 0) (v := ?v0d) rfl rfl (by kernel_rfl) (by kernel_rfl) (by kernel_rfl) (fun _ _ _ h => h) (by kernel_rfl) ?y0d hs0 ?_
            case y0d =>
              intro w' hw'; (try dsimp only at hw'); obtain ⟨e0, e1, e2, e3⟩ := hw'; go_simp; try with_reducible rfl
            simp only [Act.put, List.setIfInBounds_toArray, List.set_cons_zero, List.set_cons_succ]
            refine takeY 11 (i := 1) (v := ?v1d) rfl rfl (by kernel_rfl) (by kernel_rfl) (by kernel_rfl) (fun _ _ _ h => h) (by kernel_rfl) ?y1d hs0 ?_
            case y1d =>
              intro w' hw'; (try dsimp only at hw'); obtain ⟨e0, e1, e2, e3⟩ := hw'; go_simp; try with_reducible rfl
            simp only [Act.put, List.setIfInBounds_toArray, List.set_cons_zero, List.set_cons_succ]
            refine takeY 12 (i := 2) (v := ?v2d) rfl rfl (by kernel_rfl) (by kernel_rfl) (by kernel_rfl) (fun _ _ _ h => h) (by kernel_rfl) ?y2d hs0 ?_
            case y2d =>
              intro w' hw'; (try dsimp only at hw'); obtain ⟨e0, e1, e2, e3⟩ := hw'; go_simp; try with_reducible rfl
            simp only [Act.put, List.setIfInBounds_toArray, List.set_cons_zero, List.set_cons_succ]
            refine takeY 13 (i := 3) (v := ?v3d) rfl rfl (by kernel_rfl) (by kernel_rfl) (by kernel_rfl) (fun _ _ _ h => h) (by kernel_rfl) ?y3d hs0 ?_
            case y3d =>
              intro w' hw'; (try dsimp only at hw'); obtain ⟨e0, e1, e2, e3⟩ := hw'; go_simp; try with_reducible rfl
            simp only [Act.put, List.setIfInBounds_toArray, List.set_cons_zero, List.set_cons_succ]
            refine wpAnyH_ready (rs := [4]) (by kernel_rfl) (by simp) ?_
            refine AllReadyH.cons rfl (fun K hK => ?_) AllReadyH.nil
            go_simp; go_at_call 55; refine (sIsItem_in wr _ B t HI.out (Nat.le_trans hB hsz.out) (Below.refl _ _).drew htn.out true ⟨fun _ => HD.out, fun _ => rfl⟩).mono ?_; rintro e w3 ⟨rfl, hb3⟩
            refine hK.out _ _ ⟨hb3, (hb3.cell (p := ⟨b1, off + k * 2, none⟩) (by exact Nat.lt_of_lt_of_le hb1 (Nat.le_trans hB hsz.out))).trans f1, (hb3.cell (p := ⟨b1, off + k * 2 + 1, none⟩) (by exact Nat.lt_of_lt_of_le hb1 (Nat.le_trans hB hsz.out))).trans f2, (hb3.cell (p := ⟨b1, off + j * 2, none⟩) (by exact Nat.lt_of_lt_of_le hb1 (Nat.le_trans hB hsz.out))).trans f3⟩ (fun hS1 => ?_)
            clear hK K
            try simp only [Act.put, List.setIfInBounds_toArray, List.set_cons_zero, List.set_cons_succ]
            refine takeY 15 (i := 5) (v := ?v5d) rfl rfl (by kernel_rfl) (by kernel_rfl) (by kernel_rfl) (fun _ _ _ h => h) (by kernel_rfl) ?y5d hS1 ?_
            case y5d =>
              intro w' hw'; (try dsimp only at hw'); obtain ⟨e0, e1, e2, e3⟩ := hw'; go_simp; try with_reducible rfl
            simp only [Act.put, List.setIfInBounds_toArray, List.set_cons_zero, List.set_cons_succ]
            refine takeY 16 (i := 6) (v := ?v6d) rfl rfl (by kernel_rfl) (by kernel_rfl) (by kernel_rfl) (fun _ _ _ h => h) (by kernel_rfl) ?y6d hS1 ?_
            case y6d =>
              intro w' hw'; (try dsimp only at hw'); obtain ⟨e0, e1, e2, e3⟩ := hw'; go_simp; try with_reducible rfl
            simp only [Act.put, List.setIfInBounds_toArray, List.set_cons_zero, List.set_cons_succ]
            refine takeY 17 (i := 7) (v := ?v7d) rfl rfl (by kernel_rfl) (by kernel_rfl) (by kernel_rfl) (fun _ _ _ h => h) (by kernel_rfl) ?y7d hS1 ?_
            case y7d =>
              intro w' hw'; (try dsimp only at hw'); obtain ⟨e0, e1, e2, e3⟩ := hw'; go_simp; try with_reducible rfl
            simp only [Act.put, List.setIfInBounds_toArray, List.set_cons_zero, List.set_cons_succ]
            refine takeY 18 (i := 8) (v := ?v8d) rfl rfl (by kernel_rfl) (by kernel_rfl) (by kernel_rfl) (fun _ _ _ h => h) (by kernel_rfl) ?y8d hS1 ?_
            case y8d =>
              intro w' hw'; (try dsimp only at hw'); obtain ⟨e0, e1, e2, e3⟩ := hw'; go_simp; try with_reducible rfl
            simp only [Act.put, List.setIfInBounds_toArray, List.set_cons_zero, List.set_cons_succ]
            refine takeY 19 (i := 9) (v := ?v9d) rfl rfl (by kernel_rfl) (by kernel_rfl) (by kernel_rfl) (fun _ _ _ h => h) (by kernel_rfl) ?y9d hS1 ?_
            case y9d =>
              intro w' hw'; (try dsimp only at hw'); obtain ⟨e0, e1, e2, e3⟩ := hw'; go_simp; try with_reducible rfl
            simp only [Act.put, List.setIfInBounds_toArray, List.set_cons_zero, List.set_cons_succ]
            refine takeY 20 (i := 10) (v := ?v10d) rfl rfl (by kernel_rfl) (by kernel_rfl) (by kernel_rfl) (fun _ _ _ h => h) (by kernel_rfl) ?y10d hS1 ?_
            case y10d =>
              intro w' hw'; (try dsimp only at hw'); obtain ⟨e0, e1, e2, e3⟩ := hw'; go_simp; try with_reducible rfl
            simp only [Act.put, List.setIfInBounds_toArray, List.set_cons_zero, List.set_cons_succ]
            refine takeY 21 (i := 11) (v := ?v11d) rfl rfl (by kernel_rfl) (by kernel_rfl) (by kernel_rfl) (fun _ _ _ h => h) (by kernel_rfl) ?y11d hS1 ?_
            case y11d =>
              intro w' hw'; (try dsimp only at hw'); obtain ⟨e0, e1, e2, e3⟩ := hw'; go_simp; try with_reducible rfl
            simp only [Act.put, List.setIfInBounds_toArray, List.set_cons_zero, List.set_cons_succ]
            refine takeY 22 (i := 12) (v := ?v12d) rfl rfl (by kernel_rfl) (by kernel_rfl) (by kernel_rfl) (fun _ _ _ h => h) (by kernel_rfl) ?y12d hS1 ?_
            case y12d =>
              intro w' hw'; (try dsimp only at hw'); obtain ⟨e0, e1, e2, e3⟩ := hw'; go_simp; try with_reducible rfl
            simp only [Act.put, List.setIfInBounds_toArray, List.set_cons_zero, List.set_cons_succ]
            refine takeY 23 (i := 13) (v := ?v13d) rfl rfl (by kernel_rfl) (by kernel_rfl) (by kernel_rfl) (fun _ _ _ h => h) (by kernel_rfl) ?y13d hS1 ?_
            case y13d =>
              intro w' hw'; (try dsimp only at hw'); obtain ⟨e0, e1, e2, e3⟩ := hw'; go_simp; try with_reducible rfl
            simp only [Act.put, List.setIfInBounds_toArray, List.set_cons_zero, List.set_cons_succ]
            refine takeY 24 (i := 14) (v := ?v14d) rfl rfl (by kernel_rfl) (by kernel_rfl) (by kernel_rfl) (fun _ _ _ h => h) (by kernel_rfl) ?y14d hS1 ?_
            case y14d =>
              intro w' hw'; (try dsimp only at hw'); obtain ⟨e0, e1, e2, e3⟩ := hw'; go_simp; try with_reducible rfl
            simp only [Act.put, List.setIfInBounds_toArray, List.set_cons_zero, List.set_cons_succ]
            refine takeY 25 (i := 15) (v := ?v15d) rfl rfl (by kernel_rfl) (by kernel_rfl) (by kernel_rfl) (fun _ _ _ h => h) (by kernel_rfl) ?y15d hS1 ?_
            case y15d =>
              intro w' hw'; (try dsimp only at hw'); obtain ⟨e0, e1, e2, e3⟩ := hw'; go_simp; try with_reducible rfl
            simp only [Act.put, List.setIfInBounds_toArray, List.set_cons_zero, List.set_cons_succ]
            refine takeY 26 (i := 16) (v := ?v16d) rfl rfl (by kernel_rfl) (by kernel_rfl) (by kernel_rfl) (fun _ _ _ h => h) (by kernel_rfl) ?y16d hS1 ?_
            case y16d =>
              intro w' hw'; (try dsimp only at hw'); obtain ⟨e0, e1, e2, e3⟩ := hw'; go_simp; try with_reducible rfl
            simp only [Act.put, List.setIfInBounds_toArray, List.set_cons_zero, List.set_cons_succ]
            refine takeY 27 (i := 17) (v := ?v17d) rfl rfl (by kernel_rfl) (by kernel_rfl) (by kernel_rfl) (fun _ _ _ h => h) (by kernel_rfl) ?y17d hS1 ?_
            case y17d =>
              intro w' hw'; (try dsimp only at hw'); obtain ⟨e0, e1, e2, e3⟩ := hw'; go_simp; try with_reducible rfl
            simp only [Act.put, List.setIfInBounds_toArray, List.set_cons_zero, List.set_cons_succ]
            refine takeY 28 (i := 18) (v := ?v18d) rfl rfl (by kernel_rfl) (by kernel_rfl) (by kernel_rfl) (fun _ _ _ h => h) (by kernel_rfl) ?y18d hS1 ?_
            case y18d =>
              intro w' hw'; (try dsimp only at hw'); obtain ⟨e0, e1, e2, e3⟩ := hw'; go_simp; try with_reducible rfl
            simp only [Act.put, List.setIfInBounds_toArray, List.set_cons_zero, List.set_cons_succ]
            refine takeY 29 (i := 19) (v := ?v19d) rfl rfl (by kernel_rfl) (by kernel_rfl) (by kernel_rfl) (fun _ _ _ h => h) (by kernel_rfl) ?y19d hS1 ?_
            case y19d =>
              intro w' hw'; (try dsimp only at hw'); obtain ⟨e0, e1, e2, e3⟩ := hw'; go_simp; try with_reducible rfl
            simp only [Act.put, List.setIfInBounds_toArray, List.set_cons_zero, List.set_cons_succ]
            refine takeY 30 (i := 20) (v := ?v20d) rfl rfl (by kernel_rfl) (by kernel_rfl) (by kernel_rfl) (fun _ _ _ h => h) (by kernel_rfl) ?y20d hS1 ?_
            case y20d =>
              intro w' hw'; (try dsimp only at hw'); obtain ⟨e0, e1, e2, e3⟩ := hw'; go_simp; try with_reducible rfl
            simp only [Act.put, List.setIfInBounds_toArray, List.set_cons_zero, List.set_cons_succ]
            refine takeY 31 (i := 21) (v := ?v21d) rfl rfl (by kernel_rfl) (by kernel_rfl) (by kernel_rfl) (fun _ _ _ h => h) (by kernel_rfl) ?y21d hS1 ?_
            case y21d =>
              intro w' hw'; (try dsimp only at hw'); obtain ⟨e0, e1, e2, e3⟩ := hw'; go_simp; try with_reducible rfl
            simp only [Act.put, List.setIfInBounds_toArray, List.set_cons_zero, List.set_cons_succ]
            refine takeY 32 (i := 22) (v := ?v22d) rfl rfl (by kernel_rfl) (by kernel_rfl) (by kernel_rfl) (fun _ _ _ h => h) (by kernel_rfl) ?y22d hS1 ?_
            case y22d =>
              intro w' hw'; (try dsimp only at hw'); obtain ⟨e0, e1, e2, e3⟩ := hw'; go_simp; try with_reducible rfl
            simp only [Act.put, List.setIfInBounds_toArray, List.set_cons_zero, List.set_cons_succ]
            refine takeY 33 (i := 23) (v := ?v23d) rfl rfl (by kernel_rfl) (by kernel_rfl) (by kernel_rfl) (fun _ _ _ h => h) (by kernel_rfl) ?y23d hS1 ?_
            case y23d =>
              intro w' hw'; (try dsimp only at hw'); obtain ⟨e0, e1, e2, e3⟩ := hw'; go_simp; try with_reducible rfl
            simp only [Act.put, List.setIfInBounds_toArray, List.set_cons_zero, List.set_cons_succ]
            refine wpAnyH_done (by kernel_rfl) ?_ _
            clear hk0
            go_wp2
            go_roundw
            case rel => exact ⟨k + 1, by omega, by go_num, are_step HAt.out HA.out HD.out, HR.out.step (fun h0 => by rw [HLt.out.1, HLt.out.2]; omega), HB.out.trans (hb3.mono hsz.out)⟩
            case measure => simp [intOf]; omega
    · obtain rfl : k = n := by omega
      clear hbel
      obtain ⟨q, hq⟩ := bool_of (k ≤ 16)
      have hbq : Hid (b = q) := by
        show _ = _
        have h1 := HA.out
        rw [take_all HX.out.1] at h1
        rw [Bool.eq_iff_iff, HBo.out, hq]
        unfold AreP
        rw [List.length_map, HX.out.1]
        exact ⟨fun h => h.2.2, fun h => ⟨fun d hd => by obtain ⟨u, hu, rfl⟩ := List.mem_map.1 hd; exact h1 u hu, HR.out, h⟩⟩
      cases q
      · have hq' : ¬ ((k : Int) ≤ 16) := by have := mt hq.2 (by simp); omega
        clear hq
        go_wp2
        go_ret
        exact ⟨hbq.out.symm ▸ rfl, HB.out⟩
      · have hq' : (k : Int) ≤ 16 := by have := hq.1 rfl; omega
        clear hq
        go_wp2
        go_ret
        exact ⟨hbq.out.symm ▸ rfl, HB.out⟩
end Go.Proofs.Ytnjnlcmddcjcfaa.num
namespace Go.Proofs.Ytnjnlcmddcjcfaa.num
set_option maxRecDepth 20000
set_option linter.unusedVariables false
set_option linter.unusedSimpArgs false

/-- What an item says: its number and its values. -/
abbrev Dt := Int × List Int
def dIt (d : Dt) : It := ⟨d.1, none, 0, 0, d.2⟩
/-- How x compares with y. -/
def cmpD (t : Tr) (x y : Dt) : Int := cmpT (wishF (dIt x) (dIt y)) t
theorem cmpD_it (t : Tr) (x y : It) : cmpT (wishF x y) t = cmpD t x.dat y.dat := by
  unfold cmpD
  rw [wishF_dat (x := dIt x.dat) (x' := x) (y := dIt y.dat) (y' := y) rfl rfl]
theorem cmpD_code (t : Tr) (x y : Dt) : Code (cmpD t x y) := cmpT_code (wishF_code _ _) t
theorem cmpD_turn {nds : List ND} {t : Tr} (h : Post nds t) (x y : Dt) : cmpD t y x = revC (cmpD t x y) := cmpT_turn h _ _
theorem cmpD_self {nds : List ND} {t : Tr} (h : Post nds t) (x : Dt) : cmpD t x x = 0 := cmpT_self h _
theorem cmpD_tr {nds : List ND} {t : Tr} (h : Post nds t) (x y z : Dt) : Tr3 (cmpD t x y) (cmpD t y z) (cmpD t x z) := cmpT_tr h _ _ _
/-- x is better than y. -/
def btD (t : Tr) (x y : Dt) : Bool := cmpD t x y == 1
def lvB (t : Tr) (x y : Dt) : Bool := !btD t x y && !btD t y x
def bestB (t : Tr) (ds : List Dt) (x : Dt) : Bool := ds.all fun y => !btD t y x
def bestD (t : Tr) (ds : List Dt) : List Dt := ds.filter (bestB t ds)
def domD (t : Tr) (ds : List Dt) (x : Dt) : List Dt := ds.filter fun y => btD t y x
def subD (t : Tr) (ds : List Dt) (x : Dt) : List Dt := ds.filter fun y => btD t x y
def lvD (t : Tr) (ds : List Dt) (x : Dt) : List Dt := ds.filter fun y => lvB t x y
def mostD (t : Tr) (ds : List Dt) : List Dt → Nat
  | [] => 0
  | x :: r => max (lvD t ds x).length (mostD t ds r)
def idsD (ds : List Dt) : List Int := ds.map (·.1)
theorem mostD_snoc (t : Tr) (ds : List Dt) (x : Dt) : ∀ l, mostD t ds (l ++ [x]) = max (mostD t ds l) (lvD t ds x).length
  | [] => by simp [mostD]
  | y :: r => by rw [List.cons_append, mostD, mostD_snoc t ds x r, mostD]; omega
theorem mostD_le (t : Tr) (ds : List Dt) : ∀ l, mostD t ds l ≤ ds.length
  | [] => by simp [mostD]
  | y :: r => by
    have h1 := mostD_le t ds r
    have h2 : (lvD t ds y).length ≤ ds.length := List.length_filter_le _ _
    rw [mostD]; omega
theorem mostD_mem {t : Tr} {ds : List Dt} {x : Dt} : ∀ {l : List Dt}, x ∈ l → (lvD t ds x).length ≤ mostD t ds l
  | y :: r, h => by
    rcases List.mem_cons.1 h with rfl | h
    · rw [mostD]; omega
    · have := mostD_mem (t := t) (ds := ds) h
      rw [mostD]; omega
/-- The greatest count of items that lev takes beside one of l. -/
def mostL (lev : It → It → Bool) (its : List It) : List It → Nat
  | [] => 0
  | x :: r => max (its.filter (lev x)).length (mostL lev its r)
theorem mostL_snoc (lev : It → It → Bool) (its : List It) (x : It) : ∀ l, mostL lev its (l ++ [x]) = max (mostL lev its l) (its.filter (lev x)).length
  | [] => by simp [mostL]
  | y :: r => by rw [List.cons_append, mostL, mostL_snoc lev its x r, mostL]; omega
theorem mostL_le (lev : It → It → Bool) (its : List It) : ∀ l, mostL lev its l ≤ its.length
  | [] => by simp [mostL]
  | y :: r => by
    have h1 := mostL_le lev its r
    have h2 : (its.filter (lev y)).length ≤ its.length := List.length_filter_le _ _
    rw [mostL]; omega
theorem mostD_it (t : Tr) (its : List It) : ∀ l : List It, mostD t (its.map It.dat) (l.map It.dat) = mostL (fun x y => lvB t x.dat y.dat) its l
  | [] => rfl
  | y :: r => by
    rw [List.map_cons, mostD, mostL, mostD_it t its r]
    congr 1
    unfold lvD
    rw [List.filter_map, List.length_map]
    rfl
/-- The answer of a function that asks first whether what came in is valid. -/
def AnsP {β : Type} (nds : List ND) (ds : List Dt) (f : Tr → β) (z r : β) : Prop := (∃ t, IsE nds ∧ AreP ds ∧ Post nds t ∧ r = f t) ∨ (¬ (IsE nds ∧ AreP ds) ∧ r = z)
section
variable {β : Type} {nds : List ND} {ds : List Dt} {f : Tr → β} {z r r' : β}
theorem AnsP.some (nds : List ND) (ds : List Dt) (f : Tr → β) (z : β) : ∃ r, AnsP nds ds f z r := by
  by_cases h : IsE nds ∧ AreP ds
  · obtain ⟨t, ht⟩ := h.1.2
    exact ⟨f t, .inl ⟨t, h.1, h.2, ht, rfl⟩⟩
  · exact ⟨z, .inr ⟨h, rfl⟩⟩
theorem AnsP.yes (h : AnsP nds ds f z r) (h1 : IsE nds) (h2 : AreP ds) {t : Tr} (ht : Post nds t) : r = f t := by
  rcases h with ⟨t', _, _, ht', rfl⟩ | ⟨hn, _⟩
  · rw [ht'.one ht]
  · exact absurd ⟨h1, h2⟩ hn
theorem AnsP.no (h : AnsP nds ds f z r) (hn : ¬ (IsE nds ∧ AreP ds)) : r = z := by
  rcases h with ⟨t', h1, h2, _⟩ | ⟨_, h⟩
  · exact absurd ⟨h1, h2⟩ hn
  · exact h
theorem AnsP.one (h : AnsP nds ds f z r) (h' : AnsP nds ds f z r') : r = r' := by
  rcases h with ⟨t, h1, h2, h3, rfl⟩ | ⟨hn, rfl⟩
  · exact (h'.yes h1 h2 h3).symm
  · exact (h'.no hn).symm
theorem AnsP.all (h : AnsP nds ds f z r) {P : β → Prop} (hf : AreP ds → ∀ t, Post nds t → P (f t)) (hz : P z) : P r := by
  rcases h with ⟨t, h1, h2, h3, rfl⟩ | ⟨hn, rfl⟩
  · exact hf h2 t h3
  · exact hz
end
/-- The item of that number. -/
def findD (ds : List Dt) (x : Int) : Option Dt := ds.find? fun d => d.1 == x
theorem findD_no {ds : List Dt} {x : Int} (h : ∀ d ∈ ds, d.1 ≠ x) : findD ds x = none := by
  unfold findD
  rw [List.find?_eq_none]
  intro d hd
  simpa using h d hd
theorem findD_yes : ∀ {ds : List Dt} {x : Int} {k : Nat} {d : Dt}, ds[k]? = some d → d.1 = x → (∀ u ∈ ds.take k, u.1 ≠ x) → findD ds x = some d
  | [], _, _, _, h, _, _ => by simp at h
  | y :: r, x, 0, d, h, he, _ => by
    simp at h
    subst h
    simp [findD, he]
  | y :: r, x, k + 1, d, h, he, hn => by
    have h1 : y.1 ≠ x := hn y (by simp)
    have ih := findD_yes (ds := r) (k := k) (by simpa using h) he fun u hu => hn u (by simp [hu])
    unfold findD at ih ⊢
    rw [List.find?_cons, show (y.1 == x) = false by simpa using h1]
    exact ih
theorem FindP.find {ds : List Dt} {x r : Int} (h : FindP ds x r) : (r = -1 ∧ findD ds x = none) ∨ ∃ (k : Nat) (d : Dt), r = k ∧ ds[k]? = some d ∧ d.1 = x ∧ findD ds x = some d := by
  rcases h with ⟨rfl, h⟩ | ⟨k, rfl, ⟨d, hd, he⟩, h⟩
  · exact .inl ⟨rfl, findD_no h⟩
  · exact .inr ⟨k, d, rfl, hd, he, findD_yes hd he h⟩
/-- What each function answers. -/
def BestP (nds : List ND) (ds : List Dt) (r : List Int) : Prop := AnsP nds ds (fun t => idsD (bestD t ds)) [] r
def onFind {β : Type} (ds : List Dt) (x : Int) (z : β) (f : Dt → β) : β := match findD ds x with | none => z | some d => f d
def DomP (nds : List ND) (ds : List Dt) (x : Int) (r : List Int) : Prop := AnsP nds ds (fun t => onFind ds x [] fun d => idsD (domD t ds d)) [] r
def SubP (nds : List ND) (ds : List Dt) (x : Int) (r : List Int) : Prop := AnsP nds ds (fun t => onFind ds x [] fun d => idsD (subD t ds d)) [] r
def RankP (nds : List ND) (ds : List Dt) (x : Int) (r : Int) : Prop := AnsP nds ds (fun t => onFind ds x (-1) fun d => (((domD t ds d).length : Nat) : Int)) (-1) r
def WidP (nds : List ND) (ds : List Dt) (r : Int) : Prop := AnsP nds ds (fun t => ((mostD t ds ds : Nat) : Int)) 0 r
def IsBP (nds : List ND) (ds : List Dt) (x : Int) (b : Bool) : Prop := AnsP nds ds (fun t => decide (x ∈ idsD (bestD t ds))) false b
theorem IsBP.iff {nds : List ND} {ds : List Dt} {x : Int} {b : Bool} {l : List Int} (h : IsBP nds ds x b) (g : BestP nds ds l) : b = true ↔ x ∈ l := by
  rcases h with ⟨t, h1, h2, h3, rfl⟩ | ⟨hn, rfl⟩
  · rw [g.yes h1 h2 h3]; exact decide_eq_true_iff
  · rw [g.no hn]; simp
theorem onFind_some {β : Type} {ds : List Dt} {x : Int} {z : β} {f : Dt → β} {d : Dt} (h : findD ds x = some d) : onFind ds x z f = f d := by unfold onFind; rw [h]
theorem onFind_none {β : Type} {ds : List Dt} {x : Int} {z : β} {f : Dt → β} (h : findD ds x = none) : onFind ds x z f = z := by unfold onFind; rw [h]
theorem DomP.none {nds : List ND} {ds : List Dt} {x : Int} {l : List Int} (h : DomP nds ds x l) (hf : findD ds x = none) : l = [] := h.all (P := fun l => l = []) (fun _ t _ => onFind_none hf) rfl
theorem SubP.none {nds : List ND} {ds : List Dt} {x : Int} {l : List Int} (h : SubP nds ds x l) (hf : findD ds x = none) : l = [] := h.all (P := fun l => l = []) (fun _ t _ => onFind_none hf) rfl
theorem ids_le {ds : List Dt} {p : Dt → Bool} (h : AreP ds) : (idsD (ds.filter p)).length ≤ 16 := by
  have h1 : (ds.filter p).length ≤ ds.length := List.length_filter_le _ _
  have h2 := h.2.2
  unfold idsD
  rw [List.length_map]; omega
theorem BestP.small {nds : List ND} {ds : List Dt} {r : List Int} (h : BestP nds ds r) : r.length ≤ 16 := h.all (P := fun r => r.length ≤ 16) (fun ha t _ => ids_le ha) (by simp)
theorem DomP.small {nds : List ND} {ds : List Dt} {x : Int} {r : List Int} (h : DomP nds ds x r) : r.length ≤ 16 := h.all (P := fun r => r.length ≤ 16) (fun ha t _ => by unfold onFind; split; simp; exact ids_le ha) (by simp)
theorem SubP.small {nds : List ND} {ds : List Dt} {x : Int} {r : List Int} (h : SubP nds ds x r) : r.length ≤ 16 := h.all (P := fun r => r.length ≤ 16) (fun ha t _ => by unfold onFind; split; simp; exact ids_le ha) (by simp)
theorem RankP.small {nds : List ND} {ds : List Dt} {x r : Int} (h : RankP nds ds x r) : -1 ≤ r ∧ r ≤ 16 := h.all (P := fun r => -1 ≤ r ∧ r ≤ 16) (fun ha t _ => by
  unfold onFind
  split
  · omega
  · rename_i d _
    have h1 : (domD t ds d).length ≤ ds.length := List.length_filter_le _ _
    have h2 := ha.2.2
    show -1 ≤ ((domD t ds d).length : Int) ∧ ((domD t ds d).length : Int) ≤ 16
    omega) (by omega)
theorem WidP.small {nds : List ND} {ds : List Dt} {r : Int} (h : WidP nds ds r) : 0 ≤ r ∧ r ≤ 16 := h.all (P := fun r => 0 ≤ r ∧ r ≤ 16) (fun ha t _ => by
  have h1 := mostD_le t ds ds
  have h2 := ha.2.2
  omega) (by omega)
theorem rank_dom {nds : List ND} {ds : List Dt} {x r : Int} {l : List Int} (h : RankP nds ds x r) (g : DomP nds ds x l) (hv : IsE nds) (ha : AreP ds) {d : Dt} (hd : findD ds x = some d) : r = l.length := by
  obtain ⟨t, ht⟩ := hv.2
  rw [h.yes hv ha ht, g.yes hv ha ht]
  simp [onFind, hd, idsD]
theorem lv_code {nds : List ND} {t : Tr} (h : Post nds t) (x y : Dt) : lvB t x y = (cmpD t x y == 2 || cmpD t x y == 0) := by
  have h1 := cmpD_turn h x y
  unfold lvB btD
  rw [h1]
  rcases cmpD_code t x y with e | e | e | e <;> rw [e] <;> rfl
end Go.Proofs.Ytnjnlcmddcjcfaa.num
namespace Go.Proofs.Ytnjnlcmddcjcfaa.num
set_option maxRecDepth 20000
open Go.RowKit
set_option linter.unusedVariables false
set_option linter.unusedSimpArgs false

def wishCells (x : Wi) : List Value := [.int .i64 x.kind, .int .i64 x.field, .int .i64 x.value, .slice x.LA x.Ln x.Lc, .slice x.PA x.Pn x.Pc]
theorem wishCells_len (x : Wi) : (wishCells x).length = 5 := rfl
theorem wishCells_one (x : Wi) : ∀ u ∈ wishCells x, u.oneCell' = true := by
  intro u hu
  simp only [wishCells, List.mem_cons, List.not_mem_nil, or_false] at hu
  rcases hu with rfl | rfl | rfl | rfl | rfl <;> rfl
/-- A slice of wishes that reads as ns, below block B. -/
structure Wishes (w : World) (B : Nat) (A : Option Addr) (n : Nat) (ns : List Wi) : Prop where
  r : ReadG wishCells 5 w B A n ns
  x : ∀ x ∈ ns, WiIn w B x
theorem Wishes.below {w w' : World} {B : Nat} {A : Option Addr} {n : Nat} {ns : List Wi} (h : Wishes w B A n ns) (hb : Below B w w') : Wishes w' B A n ns := ⟨h.r.below hb, fun x hx => (h.x x hx).below hb⟩
theorem Wishes.more {w : World} {B B' : Nat} {A : Option Addr} {n : Nat} {ns : List Wi} (h : Wishes w B A n ns) (hB : B ≤ B') : Wishes w B' A n ns := ⟨h.r.more hB, fun x hx => (h.x x hx).more hB⟩
theorem Wishes.step {w w' : World} {A : Option Addr} {n : Nat} {ns : List Wi} (h : Wishes w w.heap.size A n ns) (hb : Below w.heap.size w w') : Wishes w' w'.heap.size A n ns := (h.below hb).more hb.size
theorem Wishes.len {w : World} {B : Nat} {A : Option Addr} {n : Nat} {ns : List Wi} (h : Wishes w B A n ns) : ns.length = n := h.r.len
theorem Wishes.nil (w : World) (B : Nat) (A : Option Addr) : Wishes w B A 0 [] := ⟨.nil _ _ _, by simp⟩
theorem Wishes.at {w : World} {B : Nat} {A : Option Addr} {n : Nat} {ns : List Wi} (h : Wishes w B A n ns) (k : Nat) (hk : k < n) :
    ∃ (b off : Nat) (x : Wi), A = some ⟨b, off, none⟩ ∧ b < B ∧ ns[k]? = some x ∧ WiIn w B x ∧ w.cell? ⟨b, off + k * 5, none⟩ = some (.int .i64 x.kind) ∧ w.cell? ⟨b, off + k * 5 + 1, none⟩ = some (.int .i64 x.field) ∧
      w.cell? ⟨b, off + k * 5 + 2, none⟩ = some (.int .i64 x.value) ∧ w.cell? ⟨b, off + k * 5 + 3, none⟩ = some (.slice x.LA x.Ln x.Lc) ∧ w.cell? ⟨b, off + k * 5 + 4, none⟩ = some (.slice x.PA x.Pn x.Pc) := by
  obtain ⟨x, hx⟩ := h.r.get hk
  obtain ⟨b, off, h1, h2, h3⟩ := h.r.at' k x hx
  exact ⟨b, off, x, h1, h2, hx, h.x x (List.mem_of_getElem? hx), h3 0 _ rfl, h3 1 _ rfl, h3 2 _ rfl, h3 3 _ rfl, h3 4 _ rfl⟩
def ShortWs (ns : List Wi) : Prop := ∀ x ∈ ns, x.Short
def datWs (ns : List Wi) : List WD := ns.map Wi.dat

/-- The slice of wishes v and all that its wishes hold are the call's own, apart from one another. -/
structure OwnWs (w : World) (B : Nat) (v : Value) (ns : List Wi) : Prop where
  r : OwnG 54 wishCells 5 w B v ns
  x : ∀ (k : Nat) (x : Wi), ns[k]? = some x → WiO w B x
  a : ∀ (k : Nat) (x : Wi) (b : Nat), ns[k]? = some x → x.has b → v.ownBlock ≠ some b
  d : ∀ (i j : Nat) (x y : Wi) (b : Nat), i < j → ns[i]? = some x → ns[j]? = some y → x.has b → ¬ y.has b
/-- The blocks of the slice v and of its wishes. -/
def hasWs (v : Value) (ns : List Wi) (b : Nat) : Prop := v.ownBlock = some b ∨ ∃ x ∈ ns, x.has b
theorem OwnWs.has_in {w : World} {B : Nat} {v : Value} {ns : List Wi} (h : OwnWs w B v ns) {b : Nat} (hb : hasWs v ns b) : B ≤ b ∧ b < w.heap.size := by
  rcases hb with hb | ⟨x, hx, hb⟩
  · exact ⟨h.r.lows b hb, h.r.tops b hb⟩
  · obtain ⟨k, hk, rfl⟩ := List.getElem_of_mem hx
    exact (h.x k _ (List.getElem?_eq_getElem hk)).has_in hb
theorem OwnWs.blocks {w w' : World} {B : Nat} {v : Value} {ns : List Wi} (h : OwnWs w B v ns) (hb : ∀ b, hasWs v ns b → w'.heap[b]? = w.heap[b]?) : OwnWs w' B v ns :=
  ⟨h.r.blocks fun k hk => hb k (.inl hk), fun k x hk => (h.x k x hk).blocks fun b hb' => hb b (.inr ⟨x, List.mem_of_getElem? hk, hb'⟩), h.a, h.d⟩
theorem OwnWs.below {w w' : World} {B : Nat} {v : Value} {ns : List Wi} (h : OwnWs w B v ns) (hb : Below w.heap.size w w') : OwnWs w' B v ns := h.blocks fun b k => hb.block b (h.has_in k).2
theorem OwnWs.low {w : World} {B B' : Nat} {v : Value} {ns : List Wi} (h : OwnWs w B v ns) (hB : B' ≤ B) : OwnWs w B' v ns := ⟨h.r.low hB, fun k x hk => (h.x k x hk).low hB, h.a, h.d⟩
theorem OwnWs.wishes {w : World} {B : Nat} {A : Option Addr} {n c : Nat} {ns : List Wi} (h : OwnWs w B (.slice A n c) ns) : Wishes w w.heap.size A n ns :=
  ⟨h.r.read wishCells_len, fun x hx => by
    obtain ⟨k, hk, rfl⟩ := List.getElem_of_mem hx
    exact (h.x k _ (List.getElem?_eq_getElem hk)).wi⟩
theorem OwnWs.nil (w : World) (B : Nat) : OwnWs w B (.slice none 0 0) [] := ⟨.nil _ _, by simp, by simp, by simp⟩

theorem ne_wi {l l' : List Wi} {k : Nat} {t t' : Wi} (h1 : l[k]? = some t) (h2 : l'[k]? = some t') (h : t.dat ≠ t'.dat) : l.map Wi.dat ≠ l'.map Wi.dat := fun e => h (by
  have := congrArg (·[k]?) e
  simpa [h1, h2] using this)
/-- append of one element to a slice of the call's own: the new slice lies in the old one's row or in a new block. -/
theorem wp_appG {α : Type} {f : α → List Value} {s : Nat} (hf : ∀ x, (f x).length = s) (h1 : ∀ x, ∀ u ∈ f x, u.oneCell' = true) {T tS : TypeId} {z : Value} {bytes : Nat} (ht : Try.prog.underlying tS = some (.slice T)) (hinf : (Try.prog.info? T).map (fun i => (i.zero, i.size, i.bytes)) = some (some z, s, bytes)) (hzs : z.cells.size = s) (hs0 : 0 < s)
    {ops : Array Oper} {rest : List Oper} {o : Oper} {a : Act} {Q : Exit → Act → World → Prop} (w : World) (hgd : o.guard = none) (sl x : Operand)
    (ho : o.op = .call { callee := .builtin .append, args := #[sl, x], argTypes := #[tS, tS] })
    (B : Nat) (v : Value) (l : List α) (hs : a.eval sl = v) (hown : OwnG T f s w B v l) (cs : Array Value) (y : α) (hcs : cs = (f y).toArray) (c : Nat)
    (N : Nat) (hNw : w.heap.size = N) (hx : a.eval x = .slice (some ⟨N, 0, none⟩) 1 c) (hlen : (l.length + 1) * bytes ≤ 140737488355328) (hbt : 0 < bytes) (hB : B ≤ w.heap.size)
    (h : ∀ v' w', OwnG T f s w' B v' (l ++ [y]) → w.grownBy w' v.ownBlock → (v'.ownBlock = v.ownBlock ∨ v'.ownBlock = some (w.heap.size + 1)) → wpList Try.prog ops Q rest (a.put o.dst v') w') :
    wpList Try.prog ops Q (o :: rest) a (w.alloc (.cells cs T)) := by
  obtain ⟨i0, hi, hz⟩ := Option.map_eq_some_iff.1 hinf
  simp only [Prod.mk.injEq] at hz
  obtain ⟨hz0, hz1, hz2⟩ := hz
  have hm : l.length + 1 ≤ 140737488355328 := Nat.le_trans (Nat.le_mul_of_pos_right _ hbt) hlen
  subst hcs hNw
  refine wpList_append_own_at _ hgd sl x tS ho B T i0 z s bytes ht hi hz0 hz1 hz2 hzs hs0 v l.length (l.flatMap f) hs (World.ownsRow.alloc hown _) ⟨w.heap.size, 0, none⟩ 1 c (f y) hx (by rw [hf, Nat.one_mul]) ?_ (h1 y) (by unfold maxLen; omega) hlen (by simp; omega) ?_
  · intro j u hj
    have e : (⟨w.heap.size, 0, none⟩ : Addr).add j = ⟨w.heap.size, j, none⟩ := by unfold Addr.add; split <;> simp_all
    rw [e, World.cell?_alloc_at _ _ _ _ rfl]
    simpa using hj
  · intro v' w' hown' hg _ hat
    refine h v' w' ?_ ⟨hg.os, hg.tape, hg.output, Nat.le_trans (by simp) hg.size, fun k hk hv => (hg.block k (by simp; omega) hv).trans (Below.heap_alloc _ _ _ hk)⟩ (by simpa using hat)
    unfold OwnG
    rw [List.length_append, List.length_singleton, List.flatMap_append, List.flatMap_singleton]
    exact hown'
theorem OwnWs.snoc {w w' : World} {B : Nat} {v v' : Value} {ns : List Wi} {x : Wi} (h : OwnWs w B v ns) (hg : w.grownBy w' v.ownBlock) (hat : v'.ownBlock = v.ownBlock ∨ v'.ownBlock = some (w.heap.size + 1)) (hr : OwnG 54 wishCells 5 w' B v' (ns ++ [x])) (hx : WiO w B x) (hap : ∀ b, x.has b → ¬ hasWs v ns b) : OwnWs w' B v' (ns ++ [x]) := by
  have hin : ∀ (i : Nat) (y : Wi) (b : Nat), ns[i]? = some y → y.has b → hasWs v ns b := fun i y b hy hb => .inr ⟨y, List.mem_of_getElem? hy, hb⟩
  have hnb : ∀ b, x.has b → some b ≠ v.ownBlock := fun b hb e => hap b hb (.inl e.symm)
  refine ⟨hr, ?_, ?_, ?_⟩
  · intro i y hy
    rcases get_snoc rfl hy with ⟨_, hy⟩ | ⟨_, rfl⟩
    · exact (h.x i y hy).blocks fun b hb => hg.block b ((h.x i y hy).has_in hb).2 fun e => h.a i y b hy hb e.symm
    · exact hx.blocks fun b hb => hg.block b (hx.has_in hb).2 (hnb b hb)
  · intro i y b hy hb e
    rcases get_snoc rfl hy with ⟨_, hy⟩ | ⟨_, rfl⟩
    · rcases hat with q | q
      · exact h.a i y b hy hb (q ▸ e)
      · have h2 := (h.has_in (hin i y b hy hb)).2
        rw [q] at e
        have := Option.some.inj e
        omega
    · rcases hat with q | q
      · exact hnb b hb (q ▸ e).symm
      · have h2 := (hx.has_in hb).2
        rw [q] at e
        have := Option.some.inj e
        omega
  · intro i j y z b hij hy hz hb hb'
    rcases get_snoc rfl hz with ⟨hj, hz⟩ | ⟨hj, rfl⟩
    · rcases get_snoc rfl hy with ⟨_, hy⟩ | ⟨hi, _⟩
      · exact h.d i j y z b hij hy hz hb hb'
      · omega
    · rcases get_snoc rfl hy with ⟨_, hy⟩ | ⟨hi, _⟩
      · exact hap b hb' (hin i y b hy hb)
      · omega
theorem OwnN.snoc {w w' : World} {B : Nat} {v v' : Value} {ns : List Nd} {x : Nd} (h : OwnN w B v ns) (hg : w.grownBy w' v.ownBlock) (hat : v'.ownBlock = v.ownBlock ∨ v'.ownBlock = some (w.heap.size + 1)) (hr : OwnG 56 nodeCells 6 w' B v' (ns ++ [x])) (hwf : (Lit.int .i64 x.op).wf = true) (hx : WiO w B x.t) (hap : ∀ b, x.t.has b → ¬ hasN v ns b) : OwnN w' B v' (ns ++ [x]) := by
  have hin : ∀ (i : Nat) (y : Nd) (b : Nat), ns[i]? = some y → y.t.has b → hasN v ns b := fun i y b hy hb => .inr ⟨y, List.mem_of_getElem? hy, hb⟩
  have hnb : ∀ b, x.t.has b → some b ≠ v.ownBlock := fun b hb e => hap b hb (.inl e.symm)
  refine ⟨hr, ?_, ?_, ?_⟩
  · intro i y hy
    rcases get_snoc rfl hy with ⟨_, hy⟩ | ⟨_, rfl⟩
    · exact ⟨(h.x i y hy).1, (h.x i y hy).2.blocks fun b hb => hg.block b ((h.x i y hy).2.has_in hb).2 fun e => h.a i y b hy hb e.symm⟩
    · exact ⟨hwf, hx.blocks fun b hb => hg.block b (hx.has_in hb).2 (hnb b hb)⟩
  · intro i y b hy hb e
    rcases get_snoc rfl hy with ⟨_, hy⟩ | ⟨_, rfl⟩
    · rcases hat with q | q
      · exact h.a i y b hy hb (q ▸ e)
      · have h2 := (h.has_in (hin i y b hy hb)).2
        rw [q] at e
        have := Option.some.inj e
        omega
    · rcases hat with q | q
      · exact hnb b hb (q ▸ e).symm
      · have h2 := (hx.has_in hb).2
        rw [q] at e
        have := Option.some.inj e
        omega
  · intro i j y z b hij hy hz hb hb'
    rcases get_snoc rfl hz with ⟨hj, hz⟩ | ⟨hj, rfl⟩
    · rcases get_snoc rfl hy with ⟨_, hy⟩ | ⟨hi, _⟩
      · exact h.d i j y z b hij hy hz hb hb'
      · omega
    · rcases get_snoc rfl hy with ⟨_, hy⟩ | ⟨hi, _⟩
      · exact hap b hb' (hin i y b hy hb)
      · omega
end Go.Proofs.Ytnjnlcmddcjcfaa.num
namespace Go.Proofs.Ytnjnlcmddcjcfaa.num
set_option maxRecDepth 20000
open Go.RowKit
set_option linter.unusedSimpArgs false

/-- IsItem in a world that still bears what held of w0 below its end. -/
theorem iIsItem_in (w0 w : World) (B : Nat) (t : It) (hi : Ints w0 B t.A t.n t.xs) (hB : B ≤ w0.heap.size) (hw : Below w0.heap.size w0 w) (b : Bool) (hb : b = true ↔ IsP t.dat) :
    Calls Try.prog 62 #[t.val] w fun e w' => e = .returned (.bool b) ∧ Below w0.heap.size w0 w' :=
  (iIsItem w B t (hi.below (hw.mono hB)) (Nat.le_trans hB hw.size) b hb).mono fun _ _ ⟨he, h⟩ => ⟨he, hw.trans (h.mono hw.size)⟩

set_option maxRecDepth 20000 in
set_option maxHeartbeats 1600000 in
theorem iAre (w : World) (B : Nat) (A : Option Addr) (n c : Nat) (its : List It) (hi : Items w B A n its) (hB : B ≤ w.heap.size) (b : Bool) (hb : b = true ↔ AreP (its.map It.dat)) :
    Calls Try.prog 49 #[.slice A n c] w fun e w' => e = .returned (.bool b) ∧ Below w.heap.size w w' := by
  by_cases hn : n ≤ 16
  case neg =>
    obtain rfl : b = false := by
      cases b
      · rfl
      · have := (hb.1 rfl).2.2
        rw [List.length_map, hi.1] at this
        exact absurd this hn
    clear hi hb
    have hgt : (16 : Int) < (n : Int) := by omega
    go_enter Try.func49, Try.ntmps49
    go_wp2
    go_ret
    exact ⟨rfl, Below.refl _ _⟩
  have HX := Lib.hid hi
  have HBo := Lib.hid hb
  clear hi hb
  have hle16 : ¬ ((16 : Int) < (n : Int)) := by omega
  go_enter Try.func49, Try.ntmps49
  go_wp2
  clear hle16
  go_loopw [10] (fun i wr => ∃ k : Nat, k ≤ n ∧ i = .int .i64 k ∧ (∀ t ∈ its.take k, IsP t.dat) ∧ Rise ((its.map It.dat).map (·.1)) k ∧ Below w.heap.size w wr) (fun i _ => n - (intOf i).toNat)
  case atStart => exact ⟨0, Nat.zero_le _, rfl, by simp, Rise.zero _, Below.refl _ _⟩
  case round =>
    obtain ⟨k, hk, rfl, hall, hrise, hbel⟩ := hrel
    have HA := Lib.hid hall
    have HR := Lib.hid hrise
    have HB := Lib.hid hbel
    clear hall hrise
    by_cases hlt : k < n
    · obtain ⟨b1, off, t, hA1, hb1, hat, hc1, hd1, hx⟩ := HX.out.at k hlt
      have f1 := (hbel.cell (p := ⟨b1, off + k * 2, none⟩) (by exact Nat.lt_of_lt_of_le hb1 hB)).trans hc1
      have f2 := (hbel.cell (p := ⟨b1, off + k * 2 + 1, none⟩) (by exact Nat.lt_of_lt_of_le hb1 hB)).trans hd1
      have HI0 := Lib.hid hx
      have HAt := Lib.hid hat
      have hsz0 := Lib.hid hbel.size
      have hlt' : (k : Int) < (n : Int) := by omega
      obtain ⟨q, hq⟩ := bool_of (IsP t.dat)
      have HQ := Lib.hid hq
      clear hc1 hd1 hx hat hq
      cases q
      · have HF : Hid (b = false) := by
          show _ = _
          cases b
          · rfl
          · exact absurd ((HBo.out.1 rfl).1 _ (dat_mem HAt.out)) (fun h => by have := HQ.out.2 h; cases this)
        subst hA1
        clear hbel
        go_wp2
        generalize hW : World.alloc wr _ = wg
        obtain ⟨g, hgw⟩ : ∃ g, g = wr.heap.size := ⟨_, rfl⟩
        rw [← hgw]
        have HBg : Hid (Below w.heap.size w wg) := Lib.hid (by subst hW; exact HB.out.alloc hsz0.out _)
        have hrow : wg.heap[g]? = some (.cells #[.int .i64 t.id, .slice t.A t.n t.c] 50 (0, 0)) := by subst hW hgw; exact heap_alloc_new wr _
        have hg : g < wg.heap.size := lt_of_block hrow
        have hsz : Hid (w.heap.size ≤ wg.heap.size) := Lib.hid HBg.out.size
        have HI := Lib.hid (HI0.out.below (HBg.out.mono hB))
        have e0 : wg.cell? ⟨g, 0, none⟩ = some (.int .i64 t.id) := cell_of_row wg _ 0 _ _ (0, 0) hrow
        have e1 : wg.cell? ⟨g, 1, none⟩ = some (.slice t.A t.n t.c) := cell_of_row wg _ 1 _ _ (0, 0) hrow
        clear hW hgw hrow
        have hs0 : Below wg.heap.size wg wg.drew ∧ wg.drew.cell? ⟨g, 0, none⟩ = some (.int .i64 t.id) ∧ wg.drew.cell? ⟨g, 1, none⟩ = some (.slice t.A t.n t.c) := ⟨(Below.refl _ _).drew, e0, e1⟩
        refine wp_region_held (S := fun w' => Below wg.heap.size wg w' ∧ w'.cell? ⟨g, 0, none⟩ = some (.int .i64 t.id) ∧ w'.cell? ⟨g, 1, none⟩ = some (.slice t.A t.n t.c)) (by kernel_rfl) ?_
        change wpAnyH _ _ _ _ _ _ _ _ (World.drew _)
        refine takeY 15 (i := 0) (v := ?v0a) rfl rfl (by kernel_rfl) (by kernel_rfl) (by kernel_rfl) (fun _ _ _ h => h) (by kernel_rfl) ?y0a hs0 ?_
        case y0a =>
          intro w' hw'; (try dsimp only at hw'); obtain ⟨x0, x1, x2⟩ := hw'; go_simp; try with_reducible rfl
        simp only [Act.put, List.setIfInBounds_toArray, List.set_cons_zero, List.set_cons_succ]
        refine wpAnyH_ready (rs := [1]) (by kernel_rfl) (by simp) ?_
        refine AllReadyH.cons rfl (fun K hK => ?_) AllReadyH.nil
        go_simp; go_at_call 62; refine (iIsItem_in wg _ B t HI.out (Nat.le_trans hB hsz.out) (Below.refl _ _).drew false HQ.out).mono ?_; rintro e w3 ⟨rfl, hb3⟩
        refine hK.out _ _ ⟨hb3, (hb3.cell (p := ⟨g, 0, none⟩) hg).trans e0, (hb3.cell (p := ⟨g, 1, none⟩) hg).trans e1⟩ (fun hS1 => ?_)
        clear hK K
        try simp only [Act.put, List.setIfInBounds_toArray, List.set_cons_zero, List.set_cons_succ]
        refine takeY 17 (i := 2) (v := ?v2a) rfl rfl (by kernel_rfl) (by kernel_rfl) (by kernel_rfl) (fun _ _ _ h => h) (by kernel_rfl) ?y2a hS1 ?_
        case y2a =>
          intro w' hw'; (try dsimp only at hw'); obtain ⟨x0, x1, x2⟩ := hw'; go_simp; try with_reducible rfl
        simp only [Act.put, List.setIfInBounds_toArray, List.set_cons_zero, List.set_cons_succ]
        refine takeY 18 (i := 3) (v := ?v3a) rfl rfl (by kernel_rfl) (by kernel_rfl) (by kernel_rfl) (fun _ _ _ h => h) (by kernel_rfl) ?y3a hS1 ?_
        case y3a =>
          intro w' hw'; (try dsimp only at hw'); obtain ⟨x0, x1, x2⟩ := hw'; go_simp; try with_reducible rfl
        simp only [Act.put, List.setIfInBounds_toArray, List.set_cons_zero, List.set_cons_succ]
        refine takeU 19 (i := 4) rfl rfl (by kernel_rfl) (by kernel_rfl) (by kernel_rfl) (fun _ _ _ h => h) (by kernel_rfl) hS1 ?_
        simp only [Act.put, List.setIfInBounds_toArray, List.set_cons_zero, List.set_cons_succ]
        refine takeU 20 (i := 5) rfl rfl (by kernel_rfl) (by kernel_rfl) (by kernel_rfl) (fun _ _ _ h => h) (by kernel_rfl) hS1 ?_
        simp only [Act.put, List.setIfInBounds_toArray, List.set_cons_zero, List.set_cons_succ]
        refine takeU 21 (i := 6) rfl rfl (by kernel_rfl) (by kernel_rfl) (by kernel_rfl) (fun _ _ _ h => h) (by kernel_rfl) hS1 ?_
        simp only [Act.put, List.setIfInBounds_toArray, List.set_cons_zero, List.set_cons_succ]
        refine takeU 22 (i := 7) rfl rfl (by kernel_rfl) (by kernel_rfl) (by kernel_rfl) (fun _ _ _ h => h) (by kernel_rfl) hS1 ?_
        simp only [Act.put, List.setIfInBounds_toArray, List.set_cons_zero, List.set_cons_succ]
        refine takeU 23 (i := 8) rfl rfl (by kernel_rfl) (by kernel_rfl) (by kernel_rfl) (fun _ _ _ h => h) (by kernel_rfl) hS1 ?_
        simp only [Act.put, List.setIfInBounds_toArray, List.set_cons_zero, List.set_cons_succ]
        refine takeU 24 (i := 9) rfl rfl (by kernel_rfl) (by kernel_rfl) (by kernel_rfl) (fun _ _ _ h => h) (by kernel_rfl) hS1 ?_
        simp only [Act.put, List.setIfInBounds_toArray, List.set_cons_zero, List.set_cons_succ]
        refine takeU 25 (i := 10) rfl rfl (by kernel_rfl) (by kernel_rfl) (by kernel_rfl) (fun _ _ _ h => h) (by kernel_rfl) hS1 ?_
        simp only [Act.put, List.setIfInBounds_toArray, List.set_cons_zero, List.set_cons_succ]
        refine takeU 26 (i := 11) rfl rfl (by kernel_rfl) (by kernel_rfl) (by kernel_rfl) (fun _ _ _ h => h) (by kernel_rfl) hS1 ?_
        simp only [Act.put, List.setIfInBounds_toArray, List.set_cons_zero, List.set_cons_succ]
        refine takeU 27 (i := 12) rfl rfl (by kernel_rfl) (by kernel_rfl) (by kernel_rfl) (fun _ _ _ h => h) (by kernel_rfl) hS1 ?_
        simp only [Act.put, List.setIfInBounds_toArray, List.set_cons_zero, List.set_cons_succ]
        refine takeU 28 (i := 13) rfl rfl (by kernel_rfl) (by kernel_rfl) (by kernel_rfl) (fun _ _ _ h => h) (by kernel_rfl) hS1 ?_
        simp only [Act.put, List.setIfInBounds_toArray, List.set_cons_zero, List.set_cons_succ]
        refine takeU 29 (i := 14) rfl rfl (by kernel_rfl) (by kernel_rfl) (by kernel_rfl) (fun _ _ _ h => h) (by kernel_rfl) hS1 ?_
        simp only [Act.put, List.setIfInBounds_toArray, List.set_cons_zero, List.set_cons_succ]
        refine takeU 30 (i := 15) rfl rfl (by kernel_rfl) (by kernel_rfl) (by kernel_rfl) (fun _ _ _ h => h) (by kernel_rfl) hS1 ?_
        simp only [Act.put, List.setIfInBounds_toArray, List.set_cons_zero, List.set_cons_succ]
        refine takeU 31 (i := 16) rfl rfl (by kernel_rfl) (by kernel_rfl) (by kernel_rfl) (fun _ _ _ h => h) (by kernel_rfl) hS1 ?_
        simp only [Act.put, List.setIfInBounds_toArray, List.set_cons_zero, List.set_cons_succ]
        refine takeY 32 (i := 17) (v := ?v17a) rfl rfl (by kernel_rfl) (by kernel_rfl) (by kernel_rfl) (fun _ _ _ h => h) (by kernel_rfl) ?y17a hS1 ?_
        case y17a =>
          intro w' hw'; (try dsimp only at hw'); obtain ⟨x0, x1, x2⟩ := hw'; go_simp; try with_reducible rfl
        simp only [Act.put, List.setIfInBounds_toArray, List.set_cons_zero, List.set_cons_succ]
        refine wpAnyH_done (by kernel_rfl) ?_ _
        go_wp2
        go_ret
        exact ⟨HF.out.symm ▸ rfl, HBg.out.trans (hb3.mono hsz.out)⟩
      · have HD := Lib.hid (HQ.out.1 rfl)
        rcases Nat.eq_zero_or_pos k with h0 | h0
        · have HK := Lib.hid h0
          subst hA1
          clear hbel h0
          go_wp2
          generalize hW : World.alloc wr _ = wg
          obtain ⟨g, hgw⟩ : ∃ g, g = wr.heap.size := ⟨_, rfl⟩
          rw [← hgw]
          have HBg : Hid (Below w.heap.size w wg) := Lib.hid (by subst hW; exact HB.out.alloc hsz0.out _)
          have hrow : wg.heap[g]? = some (.cells #[.int .i64 t.id, .slice t.A t.n t.c] 50 (0, 0)) := by subst hW hgw; exact heap_alloc_new wr _
          have hg : g < wg.heap.size := lt_of_block hrow
          have hsz : Hid (w.heap.size ≤ wg.heap.size) := Lib.hid HBg.out.size
          have HI := Lib.hid (HI0.out.below (HBg.out.mono hB))
          have e0 : wg.cell? ⟨g, 0, none⟩ = some (.int .i64 t.id) := cell_of_row wg _ 0 _ _ (0, 0) hrow
          have e1 : wg.cell? ⟨g, 1, none⟩ = some (.slice t.A t.n t.c) := cell_of_row wg _ 1 _ _ (0, 0) hrow
          clear hW hgw hrow
          have hk0 : decide (0 < k) = false := decide_eq_false (by have := HK.out; omega)
          have hs0 : Below wg.heap.size wg wg.drew ∧ wg.drew.cell? ⟨g, 0, none⟩ = some (.int .i64 t.id) ∧ wg.drew.cell? ⟨g, 1, none⟩ = some (.slice t.A t.n t.c) := ⟨(Below.refl _ _).drew, e0, e1⟩
          refine wp_region_held (S := fun w' => Below wg.heap.size wg w' ∧ w'.cell? ⟨g, 0, none⟩ = some (.int .i64 t.id) ∧ w'.cell? ⟨g, 1, none⟩ = some (.slice t.A t.n t.c)) (by kernel_rfl) ?_
          change wpAnyH _ _ _ _ _ _ _ _ (World.drew _)
          refine takeY 15 (i := 0) (v := ?v0b) rfl rfl (by kernel_rfl) (by kernel_rfl) (by kernel_rfl) (fun _ _ _ h => h) (by kernel_rfl) ?y0b hs0 ?_
          case y0b =>
            intro w' hw'; (try dsimp only at hw'); obtain ⟨x0, x1, x2⟩ := hw'; go_simp; try with_reducible rfl
          simp only [Act.put, List.setIfInBounds_toArray, List.set_cons_zero, List.set_cons_succ]
          refine wpAnyH_ready (rs := [1]) (by kernel_rfl) (by simp) ?_
          refine AllReadyH.cons rfl (fun K hK => ?_) AllReadyH.nil
          go_simp; go_at_call 62; refine (iIsItem_in wg _ B t HI.out (Nat.le_trans hB hsz.out) (Below.refl _ _).drew true ⟨fun _ => HD.out, fun _ => rfl⟩).mono ?_; rintro e w3 ⟨rfl, hb3⟩
          refine hK.out _ _ ⟨hb3, (hb3.cell (p := ⟨g, 0, none⟩) hg).trans e0, (hb3.cell (p := ⟨g, 1, none⟩) hg).trans e1⟩ (fun hS1 => ?_)
          clear hK K
          try simp only [Act.put, List.setIfInBounds_toArray, List.set_cons_zero, List.set_cons_succ]
          refine takeY 17 (i := 2) (v := ?v2b) rfl rfl (by kernel_rfl) (by kernel_rfl) (by kernel_rfl) (fun _ _ _ h => h) (by kernel_rfl) ?y2b hS1 ?_
          case y2b =>
            intro w' hw'; (try dsimp only at hw'); obtain ⟨x0, x1, x2⟩ := hw'; go_simp; try with_reducible rfl
          simp only [Act.put, List.setIfInBounds_toArray, List.set_cons_zero, List.set_cons_succ]
          refine takeY 18 (i := 3) (v := ?v3b) rfl rfl (by kernel_rfl) (by kernel_rfl) (by kernel_rfl) (fun _ _ _ h => h) (by kernel_rfl) ?y3b hS1 ?_
          case y3b =>
            intro w' hw'; (try dsimp only at hw'); obtain ⟨x0, x1, x2⟩ := hw'; go_simp; try with_reducible rfl
          simp only [Act.put, List.setIfInBounds_toArray, List.set_cons_zero, List.set_cons_succ]
          refine takeY 19 (i := 4) (v := ?v4b) rfl rfl (by kernel_rfl) (by kernel_rfl) (by kernel_rfl) (fun _ _ _ h => h) (by kernel_rfl) ?y4b hS1 ?_
          case y4b =>
            intro w' hw'; (try dsimp only at hw'); obtain ⟨x0, x1, x2⟩ := hw'; go_simp; try with_reducible rfl
          simp only [Act.put, List.setIfInBounds_toArray, List.set_cons_zero, List.set_cons_succ]
          refine takeY 20 (i := 5) (v := ?v5b) rfl rfl (by kernel_rfl) (by kernel_rfl) (by kernel_rfl) (fun _ _ _ h => h) (by kernel_rfl) ?y5b hS1 ?_
          case y5b =>
            intro w' hw'; (try dsimp only at hw'); obtain ⟨x0, x1, x2⟩ := hw'; go_simp; try with_reducible rfl
          simp only [Act.put, List.setIfInBounds_toArray, List.set_cons_zero, List.set_cons_succ]
          refine takeY 21 (i := 6) (v := ?v6b) rfl rfl (by kernel_rfl) (by kernel_rfl) (by kernel_rfl) (fun _ _ _ h => h) (by kernel_rfl) ?y6b hS1 ?_
          case y6b =>
            intro w' hw'; (try dsimp only at hw'); obtain ⟨x0, x1, x2⟩ := hw'; go_simp; try with_reducible rfl
          simp only [Act.put, List.setIfInBounds_toArray, List.set_cons_zero, List.set_cons_succ]
          refine takeU 22 (i := 7) rfl rfl (by kernel_rfl) (by kernel_rfl) (by kernel_rfl) (fun _ _ _ h => h) (by kernel_rfl) hS1 ?_
          simp only [Act.put, List.setIfInBounds_toArray, List.set_cons_zero, List.set_cons_succ]
          refine takeU 23 (i := 8) rfl rfl (by kernel_rfl) (by kernel_rfl) (by kernel_rfl) (fun _ _ _ h => h) (by kernel_rfl) hS1 ?_
          simp only [Act.put, List.setIfInBounds_toArray, List.set_cons_zero, List.set_cons_succ]
          refine takeU 24 (i := 9) rfl rfl (by kernel_rfl) (by kernel_rfl) (by kernel_rfl) (fun _ _ _ h => h) (by kernel_rfl) hS1 ?_
          simp only [Act.put, List.setIfInBounds_toArray, List.set_cons_zero, List.set_cons_succ]
          refine takeU 25 (i := 10) rfl rfl (by kernel_rfl) (by kernel_rfl) (by kernel_rfl) (fun _ _ _ h => h) (by kernel_rfl) hS1 ?_
          simp only [Act.put, List.setIfInBounds_toArray, List.set_cons_zero, List.set_cons_succ]
          refine takeU 26 (i := 11) rfl rfl (by kernel_rfl) (by kernel_rfl) (by kernel_rfl) (fun _ _ _ h => h) (by kernel_rfl) hS1 ?_
          simp only [Act.put, List.setIfInBounds_toArray, List.set_cons_zero, List.set_cons_succ]
          refine takeU 27 (i := 12) rfl rfl (by kernel_rfl) (by kernel_rfl) (by kernel_rfl) (fun _ _ _ h => h) (by kernel_rfl) hS1 ?_
          simp only [Act.put, List.setIfInBounds_toArray, List.set_cons_zero, List.set_cons_succ]
          refine takeU 28 (i := 13) rfl rfl (by kernel_rfl) (by kernel_rfl) (by kernel_rfl) (fun _ _ _ h => h) (by kernel_rfl) hS1 ?_
          simp only [Act.put, List.setIfInBounds_toArray, List.set_cons_zero, List.set_cons_succ]
          refine takeU 29 (i := 14) rfl rfl (by kernel_rfl) (by kernel_rfl) (by kernel_rfl) (fun _ _ _ h => h) (by kernel_rfl) hS1 ?_
          simp only [Act.put, List.setIfInBounds_toArray, List.set_cons_zero, List.set_cons_succ]
          refine takeU 30 (i := 15) rfl rfl (by kernel_rfl) (by kernel_rfl) (by kernel_rfl) (fun _ _ _ h => h) (by kernel_rfl) hS1 ?_
          simp only [Act.put, List.setIfInBounds_toArray, List.set_cons_zero, List.set_cons_succ]
          refine takeY 31 (i := 16) (v := ?v16b) rfl rfl (by kernel_rfl) (by kernel_rfl) (by kernel_rfl) (fun _ _ _ h => h) (by kernel_rfl) ?y16b hS1 ?_
          case y16b =>
            intro w' hw'; (try dsimp only at hw'); obtain ⟨x0, x1, x2⟩ := hw'; go_simp; try with_reducible rfl
          simp only [Act.put, List.setIfInBounds_toArray, List.set_cons_zero, List.set_cons_succ]
          refine takeY 32 (i := 17) (v := ?v17b) rfl rfl (by kernel_rfl) (by kernel_rfl) (by kernel_rfl) (fun _ _ _ h => h) (by kernel_rfl) ?y17b hS1 ?_
          case y17b =>
            intro w' hw'; (try dsimp only at hw'); obtain ⟨x0, x1, x2⟩ := hw'; go_simp; try with_reducible rfl
          simp only [Act.put, List.setIfInBounds_toArray, List.set_cons_zero, List.set_cons_succ]
          refine wpAnyH_done (by kernel_rfl) ?_ _
          clear hk0
          go_wp2
          go_roundw
          case rel => exact ⟨k + 1, by omega, by go_num, are_step HAt.out HA.out HD.out, HR.out.step (fun h0 => absurd h0 (by have := HK.out; omega)), HBg.out.trans (hb3.mono hsz.out)⟩
          case measure => simp [intOf]; omega
        · obtain ⟨j, hj⟩ : ∃ j, j + 1 = k := ⟨k - 1, by omega⟩
          obtain ⟨b2, off2, t0, hA2, hb2, hat2, hc2, _, _⟩ := HX.out.at j (by omega)
          obtain ⟨rfl, rfl⟩ : b1 = b2 ∧ off = off2 := by rw [hA1] at hA2; injection hA2 with h; injection h with h1 h2; exact ⟨h1, h2⟩
          have F3 := Lib.hid hc2
          have HAt0 := Lib.hid hat2
          have HJ := Lib.hid hj
          have HK0 : Hid ((0 : Int) < (k : Int)) := by show _ < _; omega
          have hkj : (k : Int) - 1 = (j : Int) := by omega
          have hkw : IntKind.i64.wrap ((k : Int) - 1) = (j : Int) := by rw [hkj]; exact IntWalk.i64_in _ ⟨by omega, by omega⟩
          have hjw : IntKind.i64.wrap (j : Int) = (j : Int) := IntWalk.i64_in _ ⟨by omega, by omega⟩
          have hjn : (j : Int) < (n : Int) := by omega
          have hjn' : j < n := by omega
          subst hA1
          clear hbel h0 hj hc2 hat2 hA2
          have HLt : Hid (((its.map It.dat).map (·.1)).getD (k - 1) 0 = t0.id ∧ ((its.map It.dat).map (·.1)).getD k 0 = t.id) := by
            refine ⟨?_, id_at HAt.out⟩
            rw [show k - 1 = j by have := HJ.out; omega]
            exact id_at HAt0.out
          by_cases hle : t.id ≤ t0.id
          · have HF : Hid (b = false) := by
              show _ = _
              cases b
              · rfl
              · have hr := (HBo.out.1 rfl).2.1 k (by omega) (by rw [List.length_map, HX.out.1]; exact hlt)
                rw [HLt.out.1, HLt.out.2] at hr
                omega
            go_wp2
            generalize hW : World.alloc wr _ = wg
            obtain ⟨g, hgw⟩ : ∃ g, g = wr.heap.size := ⟨_, rfl⟩
            rw [← hgw]
            have HBg : Hid (Below w.heap.size w wg) := Lib.hid (by subst hW; exact HB.out.alloc hsz0.out _)
            have hrow : wg.heap[g]? = some (.cells #[.int .i64 t.id, .slice t.A t.n t.c] 50 (0, 0)) := by subst hW hgw; exact heap_alloc_new wr _
            have hg : g < wg.heap.size := lt_of_block hrow
            have hsz : Hid (w.heap.size ≤ wg.heap.size) := Lib.hid HBg.out.size
            have HI := Lib.hid (HI0.out.below (HBg.out.mono hB))
            have e0 : wg.cell? ⟨g, 0, none⟩ = some (.int .i64 t.id) := cell_of_row wg _ 0 _ _ (0, 0) hrow
            have e1 : wg.cell? ⟨g, 1, none⟩ = some (.slice t.A t.n t.c) := cell_of_row wg _ 1 _ _ (0, 0) hrow
            have hb1g : b1 < wg.heap.size := by have := hsz.out; omega
            have f3 : wg.cell? ⟨b1, off + j * 2, none⟩ = some (.int .i64 t0.id) := by
              have h := F3.out
              exact (HBg.out.cell (p := ⟨b1, off + j * 2, none⟩) (by exact Nat.lt_of_lt_of_le hb1 hB)).trans h
            clear hW hgw hrow
            have hk0 : decide (0 < k) = true := decide_eq_true (by have := HK0.out; omega)
            have hs0 : Below wg.heap.size wg wg.drew ∧ wg.drew.cell? ⟨g, 0, none⟩ = some (.int .i64 t.id) ∧ wg.drew.cell? ⟨g, 1, none⟩ = some (.slice t.A t.n t.c) ∧ wg.drew.cell? ⟨b1, off + j * 2, none⟩ = some (.int .i64 t0.id) := ⟨(Below.refl _ _).drew, e0, e1, f3⟩
            refine wp_region_held (S := fun w' => Below wg.heap.size wg w' ∧ w'.cell? ⟨g, 0, none⟩ = some (.int .i64 t.id) ∧ w'.cell? ⟨g, 1, none⟩ = some (.slice t.A t.n t.c) ∧ w'.cell? ⟨b1, off + j * 2, none⟩ = some (.int .i64 t0.id)) (by kernel_rfl) ?_
            change wpAnyH _ _ _ _ _ _ _ _ (World.drew _)
            refine takeY 15 (i := 0) (v := ?v0c) rfl rfl (by kernel_rfl) (by kernel_rfl) (by kernel_rfl) (fun _ _ _ h => h) (by kernel_rfl) ?y0c hs0 ?_
            case y0c =>
              intro w' hw'; (try dsimp only at hw'); obtain ⟨x0, x1, x2, x3⟩ := hw'; go_simp; try with_reducible rfl
            simp only [Act.put, List.setIfInBounds_toArray, List.set_cons_zero, List.set_cons_succ]
            refine wpAnyH_ready (rs := [1]) (by kernel_rfl) (by simp) ?_
            refine AllReadyH.cons rfl (fun K hK => ?_) AllReadyH.nil
            go_simp; go_at_call 62; refine (iIsItem_in wg _ B t HI.out (Nat.le_trans hB hsz.out) (Below.refl _ _).drew true ⟨fun _ => HD.out, fun _ => rfl⟩).mono ?_; rintro e w3 ⟨rfl, hb3⟩
            refine hK.out _ _ ⟨hb3, (hb3.cell (p := ⟨g, 0, none⟩) hg).trans e0, (hb3.cell (p := ⟨g, 1, none⟩) hg).trans e1, (hb3.cell (p := ⟨b1, off + j * 2, none⟩) hb1g).trans f3⟩ (fun hS1 => ?_)
            clear hK K
            try simp only [Act.put, List.setIfInBounds_toArray, List.set_cons_zero, List.set_cons_succ]
            refine takeY 17 (i := 2) (v := ?v2c) rfl rfl (by kernel_rfl) (by kernel_rfl) (by kernel_rfl) (fun _ _ _ h => h) (by kernel_rfl) ?y2c hS1 ?_
            case y2c =>
              intro w' hw'; (try dsimp only at hw'); obtain ⟨x0, x1, x2, x3⟩ := hw'; go_simp; try with_reducible rfl
            simp only [Act.put, List.setIfInBounds_toArray, List.set_cons_zero, List.set_cons_succ]
            refine takeY 18 (i := 3) (v := ?v3c) rfl rfl (by kernel_rfl) (by kernel_rfl) (by kernel_rfl) (fun _ _ _ h => h) (by kernel_rfl) ?y3c hS1 ?_
            case y3c =>
              intro w' hw'; (try dsimp only at hw'); obtain ⟨x0, x1, x2, x3⟩ := hw'; go_simp; try with_reducible rfl
            simp only [Act.put, List.setIfInBounds_toArray, List.set_cons_zero, List.set_cons_succ]
            refine takeY 19 (i := 4) (v := ?v4c) rfl rfl (by kernel_rfl) (by kernel_rfl) (by kernel_rfl) (fun _ _ _ h => h) (by kernel_rfl) ?y4c hS1 ?_
            case y4c =>
              intro w' hw'; (try dsimp only at hw'); obtain ⟨x0, x1, x2, x3⟩ := hw'; go_simp; try with_reducible rfl
            simp only [Act.put, List.setIfInBounds_toArray, List.set_cons_zero, List.set_cons_succ]
            refine takeY 20 (i := 5) (v := ?v5c) rfl rfl (by kernel_rfl) (by kernel_rfl) (by kernel_rfl) (fun _ _ _ h => h) (by kernel_rfl) ?y5c hS1 ?_
            case y5c =>
              intro w' hw'; (try dsimp only at hw'); obtain ⟨x0, x1, x2, x3⟩ := hw'; go_simp; try with_reducible rfl
            simp only [Act.put, List.setIfInBounds_toArray, List.set_cons_zero, List.set_cons_succ]
            refine takeY 21 (i := 6) (v := ?v6c) rfl rfl (by kernel_rfl) (by kernel_rfl) (by kernel_rfl) (fun _ _ _ h => h) (by kernel_rfl) ?y6c hS1 ?_
            case y6c =>
              intro w' hw'; (try dsimp only at hw'); obtain ⟨x0, x1, x2, x3⟩ := hw'; go_simp; try with_reducible rfl
            simp only [Act.put, List.setIfInBounds_toArray, List.set_cons_zero, List.set_cons_succ]
            refine takeY 22 (i := 7) (v := ?v7c) rfl rfl (by kernel_rfl) (by kernel_rfl) (by kernel_rfl) (fun _ _ _ h => h) (by kernel_rfl) ?y7c hS1 ?_
            case y7c =>
              intro w' hw'; (try dsimp only at hw'); obtain ⟨x0, x1, x2, x3⟩ := hw'; go_simp; try with_reducible rfl
            simp only [Act.put, List.setIfInBounds_toArray, List.set_cons_zero, List.set_cons_succ]
            refine takeY 23 (i := 8) (v := ?v8c) rfl rfl (by kernel_rfl) (by kernel_rfl) (by kernel_rfl) (fun _ _ _ h => h) (by kernel_rfl) ?y8c hS1 ?_
            case y8c =>
              intro w' hw'; (try dsimp only at hw'); obtain ⟨x0, x1, x2, x3⟩ := hw'; go_simp; try with_reducible rfl
            simp only [Act.put, List.setIfInBounds_toArray, List.set_cons_zero, List.set_cons_succ]
            refine takeY 24 (i := 9) (v := ?v9c) rfl rfl (by kernel_rfl) (by kernel_rfl) (by kernel_rfl) (fun _ _ _ h => h) (by kernel_rfl) ?y9c hS1 ?_
            case y9c =>
              intro w' hw'; (try dsimp only at hw'); obtain ⟨x0, x1, x2, x3⟩ := hw'; go_simp; try with_reducible rfl
            simp only [Act.put, List.setIfInBounds_toArray, List.set_cons_zero, List.set_cons_succ]
            refine takeY 25 (i := 10) (v := ?v10c) rfl rfl (by kernel_rfl) (by kernel_rfl) (by kernel_rfl) (fun _ _ _ h => h) (by kernel_rfl) ?y10c hS1 ?_
            case y10c =>
              intro w' hw'; (try dsimp only at hw'); obtain ⟨x0, x1, x2, x3⟩ := hw'; go_simp; try with_reducible rfl
            simp only [Act.put, List.setIfInBounds_toArray, List.set_cons_zero, List.set_cons_succ]
            refine takeY 26 (i := 11) (v := ?v11c) rfl rfl (by kernel_rfl) (by kernel_rfl) (by kernel_rfl) (fun _ _ _ h => h) (by kernel_rfl) ?y11c hS1 ?_
            case y11c =>
              intro w' hw'; (try dsimp only at hw'); obtain ⟨x0, x1, x2, x3⟩ := hw'; go_simp; try with_reducible rfl
            simp only [Act.put, List.setIfInBounds_toArray, List.set_cons_zero, List.set_cons_succ]
            refine takeY 27 (i := 12) (v := ?v12c) rfl rfl (by kernel_rfl) (by kernel_rfl) (by kernel_rfl) (fun _ _ _ h => h) (by kernel_rfl) ?y12c hS1 ?_
            case y12c =>
              intro w' hw'; (try dsimp only at hw'); obtain ⟨x0, x1, x2, x3⟩ := hw'; go_simp; try with_reducible rfl
            simp only [Act.put, List.setIfInBounds_toArray, List.set_cons_zero, List.set_cons_succ]
            refine takeY 28 (i := 13) (v := ?v13c) rfl rfl (by kernel_rfl) (by kernel_rfl) (by kernel_rfl) (fun _ _ _ h => h) (by kernel_rfl) ?y13c hS1 ?_
            case y13c =>
              intro w' hw'; (try dsimp only at hw'); obtain ⟨x0, x1, x2, x3⟩ := hw'; go_simp; try with_reducible rfl
            simp only [Act.put, List.setIfInBounds_toArray, List.set_cons_zero, List.set_cons_succ]
            refine takeY 29 (i := 14) (v := ?v14c) rfl rfl (by kernel_rfl) (by kernel_rfl) (by kernel_rfl) (fun _ _ _ h => h) (by kernel_rfl) ?y14c hS1 ?_
            case y14c =>
              intro w' hw'; (try dsimp only at hw'); obtain ⟨x0, x1, x2, x3⟩ := hw'; go_simp; try with_reducible rfl
            simp only [Act.put, List.setIfInBounds_toArray, List.set_cons_zero, List.set_cons_succ]
            refine takeY 30 (i := 15) (v := ?v15c) rfl rfl (by kernel_rfl) (by kernel_rfl) (by kernel_rfl) (fun _ _ _ h => h) (by kernel_rfl) ?y15c hS1 ?_
            case y15c =>
              intro w' hw'; (try dsimp only at hw'); obtain ⟨x0, x1, x2, x3⟩ := hw'; go_simp; try with_reducible rfl
            simp only [Act.put, List.setIfInBounds_toArray, List.set_cons_zero, List.set_cons_succ]
            refine takeY 31 (i := 16) (v := ?v16c) rfl rfl (by kernel_rfl) (by kernel_rfl) (by kernel_rfl) (fun _ _ _ h => h) (by kernel_rfl) ?y16c hS1 ?_
            case y16c =>
              intro w' hw'; (try dsimp only at hw'); obtain ⟨x0, x1, x2, x3⟩ := hw'; go_simp; try with_reducible rfl
            simp only [Act.put, List.setIfInBounds_toArray, List.set_cons_zero, List.set_cons_succ]
            refine takeY 32 (i := 17) (v := ?v17c) rfl rfl (by kernel_rfl) (by kernel_rfl) (by kernel_rfl) (fun _ _ _ h => h) (by kernel_rfl) ?y17c hS1 ?_
            case y17c =>
              intro w' hw'; (try dsimp only at hw'); obtain ⟨x0, x1, x2, x3⟩ := hw'; go_simp; try with_reducible rfl
            simp only [Act.put, List.setIfInBounds_toArray, List.set_cons_zero, List.set_cons_succ]
            refine wpAnyH_done (by kernel_rfl) ?_ _
            clear hk0
            go_wp2
            go_ret
            exact ⟨HF.out.symm ▸ rfl, HBg.out.trans (hb3.mono hsz.out)⟩
          · go_wp2
            generalize hW : World.alloc wr _ = wg
            obtain ⟨g, hgw⟩ : ∃ g, g = wr.heap.size := ⟨_, rfl⟩
            rw [← hgw]
            have HBg : Hid (Below w.heap.size w wg) := Lib.hid (by subst hW; exact HB.out.alloc hsz0.out _)
            have hrow : wg.heap[g]? = some (.cells #[.int .i64 t.id, .slice t.A t.n t.c] 50 (0, 0)) := by subst hW hgw; exact heap_alloc_new wr _
            have hg : g < wg.heap.size := lt_of_block hrow
            have hsz : Hid (w.heap.size ≤ wg.heap.size) := Lib.hid HBg.out.size
            have HI := Lib.hid (HI0.out.below (HBg.out.mono hB))
            have e0 : wg.cell? ⟨g, 0, none⟩ = some (.int .i64 t.id) := cell_of_row wg _ 0 _ _ (0, 0) hrow
            have e1 : wg.cell? ⟨g, 1, none⟩ = some (.slice t.A t.n t.c) := cell_of_row wg _ 1 _ _ (0, 0) hrow
            have hb1g : b1 < wg.heap.size := by have := hsz.out; omega
            have f3 : wg.cell? ⟨b1, off + j * 2, none⟩ = some (.int .i64 t0.id) := by
              have h := F3.out
              exact (HBg.out.cell (p := ⟨b1, off + j * 2, none⟩) (by exact Nat.lt_of_lt_of_le hb1 hB)).trans h
            clear hW hgw hrow
            have hk0 : decide (0 < k) = true := decide_eq_true (by have := HK0.out; omega)
            have hs0 : Below wg.heap.size wg wg.drew ∧ wg.drew.cell? ⟨g, 0, none⟩ = some (.int .i64 t.id) ∧ wg.drew.cell? ⟨g, 1, none⟩ = some (.slice t.A t.n t.c) ∧ wg.drew.cell? ⟨b1, off + j * 2, none⟩ = some (.int .i64 t0.id) := ⟨(Below.refl _ _).drew, e0, e1, f3⟩
            refine wp_region_held (S := fun w' => Below wg.heap.size wg w' ∧ w'.cell? ⟨g, 0, none⟩ = some (.int .i64 t.id) ∧ w'.cell? ⟨g, 1, none⟩ = some (.slice t.A t.n t.c) ∧ w'.cell? ⟨b1, off + j * 2, none⟩ = some (.int .i64 t0.id)) (by kernel_rfl) ?_
            change wpAnyH _ _ _ _ _ _ _ _ (World.drew _)
            refine takeY 15 (i := 0) (v := ?v0d) rfl rfl (by kernel_rfl) (by kernel_rfl) (by kernel_rfl) (fun _ _ _ h => h) (by kernel_rfl) ?y0d hs0 ?_
            case y0d =>
              intro w' hw'; (try dsimp only at hw'); obtain ⟨x0, x1, x2, x3⟩ := hw'; go_simp; try with_reducible rfl
            simp only [Act.put, List.setIfInBounds_toArray, List.set_cons_zero, List.set_cons_succ]
            refine wpAnyH_ready (rs := [1]) (by kernel_rfl) (by simp) ?_
            refine AllReadyH.cons rfl (fun K hK => ?_) AllReadyH.nil
            go_simp; go_at_call 62; refine (iIsItem_in wg _ B t HI.out (Nat.le_trans hB hsz.out) (Below.refl _ _).drew true ⟨fun _ => HD.out, fun _ => rfl⟩).mono ?_; rintro e w3 ⟨rfl, hb3⟩
            refine hK.out _ _ ⟨hb3, (hb3.cell (p := ⟨g, 0, none⟩) hg).trans e0, (hb3.cell (p := ⟨g, 1, none⟩) hg).trans e1, (hb3.cell (p := ⟨b1, off + j * 2, none⟩) hb1g).trans f3⟩ (fun hS1 => ?_)
            clear hK K
            try simp only [Act.put, List.setIfInBounds_toArray, List.set_cons_zero, List.set_cons_succ]
            refine takeY 17 (i := 2) (v := ?v2d) rfl rfl (by kernel_rfl) (by kernel_rfl) (by kernel_rfl) (fun _ _ _ h => h) (by kernel_rfl) ?y2d hS1 ?_
            case y2d =>
              intro w' hw'; (try dsimp only at hw'); obtain ⟨x0, x1, x2, x3⟩ := hw'; go_simp; try with_reducible rfl
            simp only [Act.put, List.setIfInBounds_toArray, List.set_cons_zero, List.set_cons_succ]
            refine takeY 18 (i := 3) (v := ?v3d) rfl rfl (by kernel_rfl) (by kernel_rfl) (by kernel_rfl) (fun _ _ _ h => h) (by kernel_rfl) ?y3d hS1 ?_
            case y3d =>
              intro w' hw'; (try dsimp only at hw'); obtain ⟨x0, x1, x2, x3⟩ := hw'; go_simp; try with_reducible rfl
            simp only [Act.put, List.setIfInBounds_toArray, List.set_cons_zero, List.set_cons_succ]
            refine takeY 19 (i := 4) (v := ?v4d) rfl rfl (by kernel_rfl) (by kernel_rfl) (by kernel_rfl) (fun _ _ _ h => h) (by kernel_rfl) ?y4d hS1 ?_
            case y4d =>
              intro w' hw'; (try dsimp only at hw'); obtain ⟨x0, x1, x2, x3⟩ := hw'; go_simp; try with_reducible rfl
            simp only [Act.put, List.setIfInBounds_toArray, List.set_cons_zero, List.set_cons_succ]
            refine takeY 20 (i := 5) (v := ?v5d) rfl rfl (by kernel_rfl) (by kernel_rfl) (by kernel_rfl) (fun _ _ _ h => h) (by kernel_rfl) ?y5d hS1 ?_
            case y5d =>
              intro w' hw'; (try dsimp only at hw'); obtain ⟨x0, x1, x2, x3⟩ := hw'; go_simp; try with_reducible rfl
            simp only [Act.put, List.setIfInBounds_toArray, List.set_cons_zero, List.set_cons_succ]
            refine takeY 21 (i := 6) (v := ?v6d) rfl rfl (by kernel_rfl) (by kernel_rfl) (by kernel_rfl) (fun _ _ _ h => h) (by kernel_rfl) ?y6d hS1 ?_
            case y6d =>
              intro w' hw'; (try dsimp only at hw'); obtain ⟨x0, x1, x2, x3⟩ := hw'; go_simp; try with_reducible rfl
            simp only [Act.put, List.setIfInBounds_toArray, List.set_cons_zero, List.set_cons_succ]
            refine takeY 22 (i := 7) (v := ?v7d) rfl rfl (by kernel_rfl) (by kernel_rfl) (by kernel_rfl) (fun _ _ _ h => h) (by kernel_rfl) ?y7d hS1 ?_
            case y7d =>
              intro w' hw'; (try dsimp only at hw'); obtain ⟨x0, x1, x2, x3⟩ := hw'; go_simp; try with_reducible rfl
            simp only [Act.put, List.setIfInBounds_toArray, List.set_cons_zero, List.set_cons_succ]
            refine takeY 23 (i := 8) (v := ?v8d) rfl rfl (by kernel_rfl) (by kernel_rfl) (by kernel_rfl) (fun _ _ _ h => h) (by kernel_rfl) ?y8d hS1 ?_
            case y8d =>
              intro w' hw'; (try dsimp only at hw'); obtain ⟨x0, x1, x2, x3⟩ := hw'; go_simp; try with_reducible rfl
            simp only [Act.put, List.setIfInBounds_toArray, List.set_cons_zero, List.set_cons_succ]
            refine takeY 24 (i := 9) (v := ?v9d) rfl rfl (by kernel_rfl) (by kernel_rfl) (by kernel_rfl) (fun _ _ _ h => h) (by kernel_rfl) ?y9d hS1 ?_
            case y9d =>
              intro w' hw'; (try dsimp only at hw'); obtain ⟨x0, x1, x2, x3⟩ := hw'; go_simp; try with_reducible rfl
            simp only [Act.put, List.setIfInBounds_toArray, List.set_cons_zero, List.set_cons_succ]
            refine takeY 25 (i := 10) (v := ?v10d) rfl rfl (by kernel_rfl) (by kernel_rfl) (by kernel_rfl) (fun _ _ _ h => h) (by kernel_rfl) ?y10d hS1 ?_
            case y10d =>
              intro w' hw'; (try dsimp only at hw'); obtain ⟨x0, x1, x2, x3⟩ := hw'; go_simp; try with_reducible rfl
            simp only [Act.put, List.setIfInBounds_toArray, List.set_cons_zero, List.set_cons_succ]
            refine takeY 26 (i := 11) (v := ?v11d) rfl rfl (by kernel_rfl) (by kernel_rfl) (by kernel_rfl) (fun _ _ _ h => h) (by kernel_rfl) ?y11d hS1 ?_
            case y11d =>
              intro w' hw'; (try dsimp only at hw'); obtain ⟨x0, x1, x2, x3⟩ := hw'; go_simp; try with_reducible rfl
            simp only [Act.put, List.setIfInBounds_toArray, List.set_cons_zero, List.set_cons_succ]
            refine takeY 27 (i := 12) (v := ?v12d) rfl rfl (by kernel_rfl) (by kernel_rfl) (by kernel_rfl) (fun _ _ _ h => h) (by kernel_rfl) ?y12d hS1 ?_
            case y12d =>
              intro w' hw'; (try dsimp only at hw'); obtain ⟨x0, x1, x2, x3⟩ := hw'; go_simp; try with_reducible rfl
            simp only [Act.put, List.setIfInBounds_toArray, List.set_cons_zero, List.set_cons_succ]
            refine takeY 28 (i := 13) (v := ?v13d) rfl rfl (by kernel_rfl) (by kernel_rfl) (by kernel_rfl) (fun _ _ _ h => h) (by kernel_rfl) ?y13d hS1 ?_
            case y13d =>
              intro w' hw'; (try dsimp only at hw'); obtain ⟨x0, x1, x2, x3⟩ := hw'; go_simp; try with_reducible rfl
            simp only [Act.put, List.setIfInBounds_toArray, List.set_cons_zero, List.set_cons_succ]
            refine takeY 29 (i := 14) (v := ?v14d) rfl rfl (by kernel_rfl) (by kernel_rfl) (by kernel_rfl) (fun _ _ _ h => h) (by kernel_rfl) ?y14d hS1 ?_
            case y14d =>
              intro w' hw'; (try dsimp only at hw'); obtain ⟨x0, x1, x2, x3⟩ := hw'; go_simp; try with_reducible rfl
            simp only [Act.put, List.setIfInBounds_toArray, List.set_cons_zero, List.set_cons_succ]
            refine takeY 30 (i := 15) (v := ?v15d) rfl rfl (by kernel_rfl) (by kernel_rfl) (by kernel_rfl) (fun _ _ _ h => h) (by kernel_rfl) ?y15d hS1 ?_
            case y15d =>
              intro w' hw'; (try dsimp only at hw'); obtain ⟨x0, x1, x2, x3⟩ := hw'; go_simp; try with_reducible rfl
            simp only [Act.put, List.setIfInBounds_toArray, List.set_cons_zero, List.set_cons_succ]
            refine takeY 31 (i := 16) (v := ?v16d) rfl rfl (by kernel_rfl) (by kernel_rfl) (by kernel_rfl) (fun _ _ _ h => h) (by kernel_rfl) ?y16d hS1 ?_
            case y16d =>
              intro w' hw'; (try dsimp only at hw'); obtain ⟨x0, x1, x2, x3⟩ := hw'; go_simp; try with_reducible rfl
            simp only [Act.put, List.setIfInBounds_toArray, List.set_cons_zero, List.set_cons_succ]
            refine takeY 32 (i := 17) (v := ?v17d) rfl rfl (by kernel_rfl) (by kernel_rfl) (by kernel_rfl) (fun _ _ _ h => h) (by kernel_rfl) ?y17d hS1 ?_
            case y17d =>
              intro w' hw'; (try dsimp only at hw'); obtain ⟨x0, x1, x2, x3⟩ := hw'; go_simp; try with_reducible rfl
            simp only [Act.put, List.setIfInBounds_toArray, List.set_cons_zero, List.set_cons_succ]
            refine wpAnyH_done (by kernel_rfl) ?_ _
            clear hk0
            go_wp2
            go_roundw
            case rel => exact ⟨k + 1, by omega, by go_num, are_step HAt.out HA.out HD.out, HR.out.step (fun h0 => by rw [HLt.out.1, HLt.out.2]; omega), HBg.out.trans (hb3.mono hsz.out)⟩
            case measure => simp [intOf]; omega
    · obtain rfl : k = n := by omega
      clear hbel
      obtain rfl : b = true := HBo.out.2 (by
        have h1 := HA.out
        rw [take_all HX.out.1] at h1
        refine ⟨fun d hd => by obtain ⟨u, hu, rfl⟩ := List.mem_map.1 hd; exact h1 u hu, ?_, ?_⟩
        · rw [List.length_map, HX.out.1]; exact HR.out
        · rw [List.length_map, HX.out.1]; exact hn)
      go_wp2
      go_ret
      exact ⟨rfl, HB.out⟩
end Go.Proofs.Ytnjnlcmddcjcfaa.num
namespace Go.Proofs.Ytnjnlcmddcjcfaa.num
set_option maxRecDepth 20000
open Go.RowKit
set_option linter.unusedVariables false
set_option linter.unusedSimpArgs false

/-- What comes in: items and nodes. -/
structure InB (w : World) (B : Nat) (A : Option Addr) (n : Nat) (its : List It) (A2 : Option Addr) (n2 c2 : Nat) (ns : List Nd) : Prop where
  i : Items w B A n its
  e : Nodes w B A2 n2 ns
  hB : B ≤ w.heap.size
  hn : n ≤ 1048576
  hn2 : n2 ≤ 1048576
  hnc : n2 ≤ c2
  hc : c2 ≤ 9223372036854775807
  si : ∀ t ∈ its, t.n ≤ 1048576
  se : ShortN ns
theorem InB.below {w w' : World} {B : Nat} {A : Option Addr} {n : Nat} {its : List It} {A2 : Option Addr} {n2 c2 : Nat} {ns : List Nd} (h : InB w B A n its A2 n2 c2 ns) (hb : Below w.heap.size w w') : InB w' B A n its A2 n2 c2 ns :=
  ⟨h.i.below (hb.mono h.hB), h.e.below (hb.mono h.hB), Nat.le_trans h.hB hb.size, h.hn, h.hn2, h.hnc, h.hc, h.si, h.se⟩
theorem Items.mem {w : World} {B : Nat} {A : Option Addr} {n : Nat} {its : List It} (h : Items w B A n its) {t : It} (ht : t ∈ its) : Ints w B t.A t.n t.xs := by
  obtain ⟨k, hk, rfl⟩ := List.getElem_of_mem ht
  exact (h.2 k hk).choose_spec.choose_spec.2.2.2.2

def ctCells (p : Nat) (t : It) : List Value := [.int .i64 t.id, .slice t.A t.n t.c, .pointer (some ⟨p, 0, none⟩)]
def ctV (p : Nat) (t : It) : Value := .agg #[.int .i64 t.id, .slice t.A t.n t.c, .pointer (some ⟨p, 0, none⟩)]
theorem ctCells_len (p : Nat) (t : It) : (ctCells p t).length = 3 := rfl
theorem ctCells_one (p : Nat) (t : It) : ∀ u ∈ ctCells p t, u.oneCell' = true := by simp [ctCells, Value.oneCell']
theorem info_ct : (Try.prog.info? 69).map (fun i => (i.zero, i.size, i.bytes)) = some (some (.agg #[.int .i64 0, .slice none 0 0, .pointer none]), 3, 40) := by kernel_rfl
/-- A box that holds a contestant. -/
def Box3 (w : World) (g p : Nat) (t : It) : Prop := g < w.heap.size ∧ w.cell? ⟨g, 0, none⟩ = some (.int .i64 t.id) ∧ w.cell? ⟨g, 1, none⟩ = some (.slice t.A t.n t.c) ∧ w.cell? ⟨g, 2, none⟩ = some (.pointer (some ⟨p, 0, none⟩))
theorem Box3.below {w w' : World} {g p : Nat} {t : It} (h : Box3 w g p t) (hb : Below w.heap.size w w') : Box3 w' g p t :=
  ⟨Nat.lt_of_lt_of_le h.1 hb.size, (hb.cell (p := ⟨g, 0, none⟩) h.1).trans h.2.1, (hb.cell (p := ⟨g, 1, none⟩) h.1).trans h.2.2.1, (hb.cell (p := ⟨g, 2, none⟩) h.1).trans h.2.2.2⟩
theorem Box3.alloc {w : World} {g p : Nat} {t : It} (h : Box3 w g p t) (o : Obj) : Box3 (w.alloc o) g p t := h.below ((Below.refl _ w).alloc (Nat.le_refl _) _)
theorem Box3.new (w : World) (p : Nat) (t : It) (T : TypeId) : Box3 (w.alloc (.cells #[.int .i64 t.id, .slice t.A t.n t.c, .pointer (some ⟨p, 0, none⟩)] T)) w.heap.size p t :=
  ⟨by simp, World.cell?_alloc_at _ _ _ _ rfl, World.cell?_alloc_at _ _ _ _ rfl, World.cell?_alloc_at _ _ _ _ rfl⟩
/-- A contest: the slice (A, n) holds the items its, valid ones (their values below block B), each with the tree t at block p (its memory from block lo on). -/
structure CtIn (w : World) (B lo p : Nat) (t : Tr) (A : Option Addr) (n : Nat) (its : List It) : Prop where
  r : ReadG (ctCells p) 3 w w.heap.size A n its
  x : ∀ u ∈ its, Ints w B u.A u.n u.xs ∧ IsP u.dat
  t : PartAt w B lo t p
  hB : B ≤ w.heap.size
theorem CtIn.step {w w' : World} {B lo p : Nat} {t : Tr} {A : Option Addr} {n : Nat} {its : List It} (h : CtIn w B lo p t A n its) (hb : Below w.heap.size w w') : CtIn w' B lo p t A n its :=
  ⟨(h.r.below hb).more hb.size, fun u hu => ⟨(h.x u hu).1.below (hb.mono h.hB), (h.x u hu).2⟩, h.t.below h.hB hb, Nat.le_trans h.hB hb.size⟩
theorem ct_at {w : World} {p : Nat} {A : Option Addr} {n : Nat} {its : List It} (h : ReadG (ctCells p) 3 w w.heap.size A n its) (k : Nat) (hk : k < n) :
    ∃ (b off : Nat) (x : It), A = some ⟨b, off, none⟩ ∧ b < w.heap.size ∧ its[k]? = some x ∧ w.cell? ⟨b, off + k * 3, none⟩ = some (.int .i64 x.id) ∧ w.cell? ⟨b, off + k * 3 + 1, none⟩ = some (.slice x.A x.n x.c) ∧ w.cell? ⟨b, off + k * 3 + 2, none⟩ = some (.pointer (some ⟨p, 0, none⟩)) := by
  obtain ⟨x, hx⟩ := h.get hk
  obtain ⟨b, off, h1, h2, h3⟩ := h.at' k x hx
  exact ⟨b, off, x, h1, h2, hx, h3 0 _ rfl, h3 1 _ rfl, h3 2 _ rfl⟩

set_option maxRecDepth 20000 in
theorem iBeats (w : World) (B lo p : Nat) (t : Tr) (x y : It) (ht : PartAt w B lo t p) (hB : B ≤ w.heap.size) (hx : Ints w B x.A x.n x.xs) (hy : Ints w B y.A y.n y.xs) (px : IsP x.dat) (py : IsP y.dat) :
    Calls Try.prog 66 #[ctV p x, ctV p y] w fun e w' => e = .returned (.bool (btD t x.dat y.dat)) ∧ Below w.heap.size w w' := by
  have HC : Hid (∀ w1, Below w.heap.size w w1 → Calls Try.prog 82 #[.pointer (some ⟨p, 0, none⟩), .agg #[.int .i64 x.id, .slice x.A x.n x.c], .agg #[.int .i64 y.id, .slice y.A y.n y.c]] w1 fun e w' => e = .returned (.int .i64 (cmpD t x.dat y.dat)) ∧ Below w1.heap.size w1 w') := Lib.hid fun w1 h => by
    rw [← cmpD_it]
    exact iCompare B lo x y px py t p w1 (ht.below hB h) (Nat.le_trans hB h.size) (hx.below (h.mono hB)) (hy.below (h.mono hB))
  have HZ : Hid (btD t x.dat y.dat = (cmpD t x.dat y.dat == 1)) := Lib.hid rfl
  rw [HZ.out]
  generalize cmpD t x.dat y.dat = z at *
  have hvx : ctV p x = .agg #[.int .i64 x.id, .slice x.A x.n x.c, .pointer (some ⟨p, 0, none⟩)] := rfl
  have hvy : ctV p y = .agg #[.int .i64 y.id, .slice y.A y.n y.c, .pointer (some ⟨p, 0, none⟩)] := rfl
  rw [hvx, hvy]
  clear HZ hvx hvy ht hB hx hy px py
  have HB0 : Hid (Below w.heap.size w ((w.alloc (.cells #[.int .i64 x.id, .slice x.A x.n x.c, .pointer (some ⟨p, 0, none⟩)] 69)).alloc (.cells #[.int .i64 y.id, .slice y.A y.n y.c, .pointer (some ⟨p, 0, none⟩)] 69))) := Lib.hid (((Below.refl _ w).alloc (Nat.le_refl _) _).alloc (by simp) _)
  go_enter Try.func66, Try.ntmps66
  go_wp2_with fail
  refine (HC.out _ HB0.out).mono ?_
  rintro e w1 ⟨rfl, hb1⟩
  have HB1 := Lib.hid (below_on HB0.out hb1)
  clear hb1
  go_wp2
  go_ret
  exact ⟨rfl, HB1.out⟩
set_option maxRecDepth 20000 in
theorem iBeaten (w : World) (B lo p : Nat) (t : Tr) (x y : It) (ht : PartAt w B lo t p) (hB : B ≤ w.heap.size) (hx : Ints w B x.A x.n x.xs) (hy : Ints w B y.A y.n y.xs) (px : IsP x.dat) (py : IsP y.dat) :
    Calls Try.prog 53 #[ctV p x, ctV p y] w fun e w' => e = .returned (.bool (btD t y.dat x.dat)) ∧ Below w.heap.size w w' := by
  have HC : Hid (∀ w1, Below w.heap.size w w1 → Calls Try.prog 66 #[.agg #[.int .i64 y.id, .slice y.A y.n y.c, .pointer (some ⟨p, 0, none⟩)], .agg #[.int .i64 x.id, .slice x.A x.n x.c, .pointer (some ⟨p, 0, none⟩)]] w1 fun e w' => e = .returned (.bool (btD t y.dat x.dat)) ∧ Below w1.heap.size w1 w') := Lib.hid fun w1 h => iBeats w1 B lo p t y x (ht.below hB h) (Nat.le_trans hB h.size) (hy.below (h.mono hB)) (hx.below (h.mono hB)) py px
  generalize btD t y.dat x.dat = z at *
  have hvx : ctV p x = .agg #[.int .i64 x.id, .slice x.A x.n x.c, .pointer (some ⟨p, 0, none⟩)] := rfl
  have hvy : ctV p y = .agg #[.int .i64 y.id, .slice y.A y.n y.c, .pointer (some ⟨p, 0, none⟩)] := rfl
  rw [hvx, hvy]
  clear hvx hvy ht hB hx hy px py
  have HB0 : Hid (Below w.heap.size w ((w.alloc (.cells #[.int .i64 x.id, .slice x.A x.n x.c, .pointer (some ⟨p, 0, none⟩)] 69)).alloc (.cells #[.int .i64 y.id, .slice y.A y.n y.c, .pointer (some ⟨p, 0, none⟩)] 69))) := Lib.hid (((Below.refl _ w).alloc (Nat.le_refl _) _).alloc (by simp) _)
  go_enter Try.func53, Try.ntmps53
  go_wp2_with fail
  refine (HC.out _ HB0.out).mono ?_
  rintro e w1 ⟨rfl, hb1⟩
  have HB1 := Lib.hid (below_on HB0.out hb1)
  clear hb1
  go_wp2
  go_ret
  exact ⟨rfl, HB1.out⟩
end Go.Proofs.Ytnjnlcmddcjcfaa.num
namespace Go.Proofs.Ytnjnlcmddcjcfaa.num
set_option maxRecDepth 20000
open Go.RowKit
set_option linter.unusedVariables false
set_option linter.unusedSimpArgs false

/-- w' is w but for the blocks in S. -/
structure OnlyS (S : Nat → Prop) (w w' : World) : Prop where
  os : w'.os = w.os
  tape : w'.tape = w.tape
  output : w'.output = w.output
  size : w'.heap.size = w.heap.size
  block : ∀ k, ¬ S k → w'.heap[k]? = w.heap[k]?
theorem OnlyS.refl (S : Nat → Prop) (w : World) : OnlyS S w w := ⟨rfl, rfl, rfl, rfl, fun _ _ => rfl⟩
theorem OnlyS.trans {S : Nat → Prop} {w w1 w2 : World} (h : OnlyS S w w1) (h' : OnlyS S w1 w2) : OnlyS S w w2 :=
  ⟨h'.os.trans h.os, h'.tape.trans h.tape, h'.output.trans h.output, h'.size.trans h.size, fun k hk => (h'.block k hk).trans (h.block k hk)⟩
theorem OnlyS.sub {S S' : Nat → Prop} {w w' : World} (h : OnlyS S w w') (hs : ∀ k, S k → S' k) : OnlyS S' w w' := ⟨h.os, h.tape, h.output, h.size, fun k hk => h.block k fun e => hk (hs k e)⟩
theorem OnlyS.set {S : Nat → Prop} {w w' : World} (h : OnlyS S w w') {g : Nat} (hg : S g) (j : Nat) (u : Value) : OnlyS S w (w'.setCell ⟨g, j, none⟩ u) :=
  ⟨h.os, h.tape, h.output, by simpa [World.setCell] using h.size, fun k hk => (Below.heap_setCell w' ⟨g, j, none⟩ u k (fun e => hk (by rw [e]; exact hg))).trans (h.block k hk)⟩
theorem OnlyV.s {v : Value} {S : Nat → Prop} {w w' : World} (h : OnlyV v w w') (hS : ∀ k, v.ownBlock = some k → S k) : OnlyS S w w' := ⟨h.os, h.tape, h.output, h.size, fun k hk => h.block k fun e => hk (hS k e)⟩
theorem OnlyS.below {S : Nat → Prop} {B : Nat} {w w' : World} (h : OnlyS S w w') (hB : ∀ k, S k → B ≤ k) : Below B w w' :=
  ⟨h.os, h.tape, h.output, by rw [h.size]; exact Nat.le_refl _, fun k hk => h.block k (fun e => by have := hB k e; omega)⟩
theorem wf_small {k : Nat} (h : k ≤ 9223372036854775807) : (Lit.int .i64 (k : Int)).wf = true := by simp [Lit.wf, IntKind.min, IntKind.max, IntKind.signed, IntKind.bits]; omega
theorem markI' (w : World) (B : Nat) (v : Value) (l : List Int) (h : OwnI w B v l) (hn : l.length ≤ 1048576) (z : Int) (k0 : Nat) (hz : z = (k0 : Int)) (hk0 : k0 ≤ 1152921504606846976) :
    Calls Try.prog 18 #[v, .int .i64 z] w fun e w' => e = .returned (.int .i64 ((k0 + l.length : Nat) : Int)) ∧ OwnI w' B v (marks k0 l.length) ∧ OnlyV v w w' := by
  rw [hz]; exact markI w B v l h hn k0 hk0
theorem heldI' (w : World) (B : Nat) (v : Value) (k0 n : Nat) (h : OwnI w B v (marks k0 n)) (hn : n ≤ 1048576) (z : Int) (hz : z = (k0 : Int)) (hk0 : k0 ≤ 1152921504606846976) :
    Calls Try.prog 19 #[v, .int .i64 z] w fun e w' => e = .returned (.int .i64 ((k0 + n : Nat) : Int)) ∧ w = w' := by
  rw [hz]; exact heldI w B v k0 n h hn hk0
theorem fm_set {α : Type} {f : α → List Value} {s : Nat} (hf : ∀ x, (f x).length = s) (l : List α) (k : Nat) (y : α) (hk : k < l.length) (j : Nat) (hj : j < l.length * s) : ((l.set k y).flatMap f)[j]? = if j / s = k then (f y)[j % s]? else (l.flatMap f)[j]? := by
  have hs : 0 < s := by
    rcases Nat.eq_zero_or_pos s with e | e
    · subst e; simp at hj
    · exact e
  have hi : j / s < l.length := by rw [Nat.div_lt_iff_lt_mul hs]; exact hj
  have hm := Nat.mod_lt j hs
  have e : j / s * s + j % s = j := by rw [Nat.mul_comm]; exact Nat.div_add_mod j s
  by_cases h : j / s = k
  · rw [if_pos h]
    have h1 := fm_at hf (l.set k y) (j / s) (j % s) y (by rw [h, List.getElem?_set_self hk]) hm
    rwa [e] at h1
  · rw [if_neg h]
    have hg : l[j / s]? = some l[j / s] := List.getElem?_eq_getElem hi
    have h1 := fm_at hf (l.set k y) (j / s) (j % s) l[j / s] (by rw [List.getElem?_set_ne (fun e => h e.symm)]; exact hg) hm
    have h2 := fm_at hf l (j / s) (j % s) l[j / s] hg hm
    rw [e] at h1 h2
    rw [h1, h2]
def markNd (k : Nat) (x : Nd) : Nd := ⟨((k : Nat) : Int), ⟨((k + 1 : Nat) : Int), ((k + 2 : Nat) : Int), ((k + 3 : Nat) : Int), x.t.LA, x.t.Ln, x.t.Lc, marks (k + 4) x.t.ls.length, x.t.PA, x.t.Pn, x.t.Pc, pmarks (k + 4 + x.t.ls.length) x.t.ps.length⟩⟩
def cntNd (x : Nd) : Nat := 4 + x.t.ls.length + 2 * x.t.ps.length
def markN : Nat → List Nd → List Nd
  | _, [] => []
  | k, x :: r => markNd k x :: markN (k + cntNd x) r
def cntN : List Nd → Nat
  | [] => 0
  | x :: r => cntNd x + cntN r
theorem cntN_snoc (l : List Nd) (x : Nd) : cntN (l ++ [x]) = cntN l + cntNd x := by
  induction l with
  | nil => simp [cntN]
  | cons y r ih => simp only [List.cons_append, cntN, ih]; omega
theorem markN_snoc (l : List Nd) (x : Nd) : ∀ k, markN k (l ++ [x]) = markN k l ++ [markNd (k + cntN l) x] := by
  induction l with
  | nil => intro k; simp [markN, cntN]
  | cons y r ih => intro k; simp only [List.cons_append, markN, cntN, ih]; rw [Nat.add_assoc]
theorem markN_len (l : List Nd) : ∀ k, (markN k l).length = l.length := by
  induction l with
  | nil => intro k; rfl
  | cons y r ih => intro k; simp [markN, ih]
theorem markN_at (l : List Nd) : ∀ (k i : Nat) (x : Nd), l[i]? = some x → (markN k l)[i]? = some (markNd (k + cntN (l.take i)) x) := by
  induction l with
  | nil => intro k i x h; simp at h
  | cons y r ih =>
    intro k i x h
    cases i with
    | zero => simp at h; subst h; simp [markN, cntN]
    | succ i =>
      have h' : r[i]? = some x := by simpa using h
      simp only [markN, List.getElem?_cons_succ, List.take_succ_cons, cntN]
      rw [ih _ i x h', Nat.add_assoc]
/-- Each count of a short list is small. -/
theorem cntN_le {l : List Nd} (h : ∀ x ∈ l, x.t.ls.length ≤ 1048576 ∧ x.t.ps.length ≤ 1048576) : cntN l ≤ l.length * 3145732 := by
  induction l with
  | nil => simp [cntN]
  | cons y r ih =>
    have h1 := ih fun x hx => h x (List.mem_cons_of_mem _ hx)
    have h2 := h y (List.mem_cons_self ..)
    simp only [cntN, cntNd, List.length_cons]
    omega
/-- As far as k, the marks; the rest as it was. -/
theorem markN_step {l : List Nd} {k k0 : Nat} {x : Nd} (h : l[k]? = some x) : (markN k0 (l.take k) ++ l.drop k)[k]? = some x ∧ (markN k0 (l.take k) ++ l.drop k).set k (markNd (k0 + cntN (l.take k)) x) = markN k0 (l.take (k + 1)) ++ l.drop (k + 1) := by
  have hlt : k < l.length := by
    rcases Nat.lt_or_ge k l.length with g | g
    · exact g
    · rw [List.getElem?_eq_none g] at h; cases h
  have hl : (markN k0 (l.take k)).length = k := by rw [markN_len, List.length_take]; omega
  have hd : l.drop k = x :: l.drop (k + 1) := by
    rw [List.drop_eq_getElem_cons hlt]
    rw [List.getElem?_eq_getElem hlt] at h
    rw [Option.some.inj h]
  refine ⟨by rw [List.getElem?_append_right (by omega), hl, hd]; simp, ?_⟩
  rw [hd, List.set_append_right _ _ (by omega), hl, Nat.sub_self, List.set_cons_zero, ptake_at h, markN_snoc, List.append_assoc, List.singleton_append]

theorem OwnN.cells_at {w : World} {B g n c k : Nat} {l : List Nd} {x : Nd} (h : OwnN w B (.slice (some ⟨g, 0, none⟩) n c) l) (hk : l[k]? = some x) : (∀ (j : Nat) (v : Value), (nodeCells x)[j]? = some v → w.cell? ⟨g, k * 6 + j, none⟩ = some v) ∧ ∀ j, w.frozen? ⟨g, j, none⟩ = false := by
  refine ⟨fun j v hv => ?_, fun j => ?_⟩
  · obtain ⟨b, off, e, _, hc⟩ := (h.r.read nodeCells_len).at' k x hk
    injection e with e
    injection e with e1 e2
    subst e1 e2
    have := hc j v hv
    rwa [Nat.zero_add] at this
  · rcases h.r.row with ⟨e, _⟩ | ⟨g', cap, f, e, _, _, _, hrow, _⟩
    · cases e
    · injection e with e _ _
      injection e with e
      injection e with e
      subst e
      exact World.rowIs.frozen hrow j
set_option maxRecDepth 20000 in
/-- One element is marked. -/
theorem OwnN.mark1 {w w5 w6 : World} {B g n c : Nat} {l : List Nd} {k m : Nat} {x : Nd} {u0 : Int} {u1 : Int} {u2 : Int} {u3 : Int} (hu0 : u0 = ((m : Nat) : Int)) (hu1 : u1 = ((m + 1 : Nat) : Int)) (hu2 : u2 = ((m + 2 : Nat) : Int)) (hu3 : u3 = ((m + 3 : Nat) : Int)) (hm : m ≤ 4700000000000000000) (h : OwnN w B (.slice (some ⟨g, 0, none⟩) n c) l) (hk : l[k]? = some x)
    (h5 : OnlyV (.slice x.t.LA x.t.Ln x.t.Lc) (((((w.setCell ⟨g, k * 6, none⟩ (.int .i64 u0)).setCell ⟨g, k * 6 + 1, none⟩ (.int .i64 u1)).setCell ⟨g, k * 6 + 2, none⟩ (.int .i64 u2)).setCell ⟨g, k * 6 + 3, none⟩ (.int .i64 u3))) w5) (hl : OwnI w5 B (.slice x.t.LA x.t.Ln x.t.Lc) (marks (m + 4) x.t.ls.length)) (h6 : OnlyV (.slice x.t.PA x.t.Pn x.t.Pc) w5 w6) (hp : OwnP w6 B (.slice x.t.PA x.t.Pn x.t.Pc) (pmarks (m + 4 + x.t.ls.length) x.t.ps.length)) :
    OwnN w6 B (.slice (some ⟨g, 0, none⟩) n c) (l.set k (markNd m x)) ∧ OnlyS (hasN (.slice (some ⟨g, 0, none⟩) n c) l) w w6 ∧ ∀ b, hasN (.slice (some ⟨g, 0, none⟩) n c) (l.set k (markNd m x)) b → hasN (.slice (some ⟨g, 0, none⟩) n c) l b := by
  have hlt : k < l.length := by
    rcases Nat.lt_or_ge k l.length with q | q
    · exact q
    · rw [List.getElem?_eq_none q] at hk; cases hk
  obtain ⟨hwf, hx⟩ := (⟨trivial, (h.x k x hk).2⟩ : True ∧ WiO w B x.t)
  have hmem : x ∈ l := List.mem_of_getElem? hk
  have a1 : (Value.slice x.t.LA x.t.Ln x.t.Lc).ownBlock ≠ some g := fun e => h.a k x g hk (.inl e) rfl
  have a2 : (Value.slice x.t.PA x.t.Pn x.t.Pc).ownBlock ≠ some g := fun e => h.a k x g hk (.inr e) rfl
  have hoth : ∀ b, b ≠ g → ¬ x.t.has b → w6.heap[b]? = w.heap[b]? := fun b hb hn => by
    rw [h6.block b fun e => hn (.inr e), h5.block b fun e => hn (.inl e)]
    repeat rw [heap_setCell_other _ _ _ _ (by simpa using hb)]
  have hget : ∀ (i : Nat) (y : Nd), (l.set k (markNd m x))[i]? = some y → (i = k ∧ y = markNd m x) ∨ (i ≠ k ∧ l[i]? = some y) := fun i y hy => by
    by_cases e : i = k
    · subst e
      rw [List.getElem?_set_self hlt] at hy
      exact .inl ⟨rfl, (Option.some.inj hy).symm⟩
    · rw [List.getElem?_set_ne (fun e' => e e'.symm)] at hy
      exact .inr ⟨e, hy⟩
  have hhas : ∀ b, (markNd m x).t.has b → x.t.has b := fun b hb => hb
  refine ⟨⟨?_, ?_, ?_, ?_⟩, ?_, ?_⟩
  · rcases h.r.row with ⟨e, _⟩ | ⟨g', cap, f, e, hB, hle, hcap, hrow, hf⟩
    · cases e
    · injection e with e1 e2 e3
      injection e1 with e1
      injection e1 with e1
      subst e1 e2 e3
      have hr6 := World.rowIs.of_block (World.rowIs.of_block (World.rowIs.set (World.rowIs.set (World.rowIs.set (World.rowIs.set hrow (k * 6) (.int .i64 u0)) (k * 6 + 1) (.int .i64 u1)) (k * 6 + 2) (.int .i64 u2)) (k * 6 + 3) (.int .i64 u3)) (h5.block g a1)) (h6.block g a2)
      refine OwnG.of_row nodeCells_len hB (by simp) hle hcap hr6 fun j hj => ?_
      rw [fm_set nodeCells_len l k _ hlt j hj]
      by_cases e : j / 6 = k
      · obtain ⟨r, hr, rfl⟩ : ∃ r, r < 6 ∧ j = k * 6 + r := ⟨j % 6, Nat.mod_lt _ (by decide), by omega⟩
        rw [if_pos e, show (k * 6 + r) % 6 = r by omega]
        have hold := hf _ hj
        rw [fm_at nodeCells_len l k r x hk hr] at hold
        have hr' : r = 0 ∨ r = 1 ∨ r = 2 ∨ r = 3 ∨ r = 4 ∨ r = 5 := by omega
        rcases hr' with rfl | rfl | rfl | rfl | rfl | rfl
        · rw [if_neg (by omega), if_neg (by omega), if_neg (by omega), if_pos (by omega)]; exact (congrArg some (congrArg (Value.int .i64) hu0)).symm
        · rw [if_neg (by omega), if_neg (by omega), if_pos rfl]; exact (congrArg some (congrArg (Value.int .i64) hu1)).symm
        · rw [if_neg (by omega), if_pos rfl]; exact (congrArg some (congrArg (Value.int .i64) hu2)).symm
        · rw [if_pos rfl]; exact (congrArg some (congrArg (Value.int .i64) hu3)).symm
        · rw [if_neg (by omega), if_neg (by omega), if_neg (by omega), if_neg (by omega)]
          exact hold
        · rw [if_neg (by omega), if_neg (by omega), if_neg (by omega), if_neg (by omega)]
          exact hold
      · rw [if_neg e, hf j hj]
        congr 1
        have hj' : ¬ (k * 6 ≤ j ∧ j < k * 6 + 6) := by omega
        rw [if_neg (by omega), if_neg (by omega), if_neg (by omega), if_neg (by omega)]
  · intro i y hy
    rcases hget i y hy with ⟨rfl, rfl⟩ | ⟨hne, hy⟩
    · exact ⟨wf_small (by omega), ⟨wf_small (by omega), wf_small (by omega), wf_small (by omega), ownI_blocks hl (fun b hb => h6.block b (hx.a b hb)), hp, hx.a⟩⟩
    · obtain ⟨q1, q2⟩ := h.x i y hy
      refine ⟨q1, q2.blocks fun b hb => hoth b (fun e => h.a i y b hy hb (by rw [e]; rfl)) fun hb' => ?_⟩
      rcases Nat.lt_or_gt_of_ne hne with q | q
      · exact h.d i k y x b q hy hk hb hb'
      · exact h.d k i x y b q hk hy hb' hb
  · intro i y b hy hb
    rcases hget i y hy with ⟨rfl, rfl⟩ | ⟨hne, hy⟩
    · exact h.a i x b hk (hhas b hb)
    · exact h.a i y b hy hb
  · intro i j y z b hij hy hz hb hb'
    rcases hget i y hy with ⟨ei, rfl⟩ | ⟨_, hy2⟩ <;> rcases hget j z hz with ⟨ej, rfl⟩ | ⟨_, hz2⟩
    · omega
    · exact h.d i j x z b hij (by rw [ei]; exact hk) hz2 (hhas b hb) hb'
    · exact h.d i j y x b hij hy2 (by rw [ej]; exact hk) hb (hhas b hb')
    · exact h.d i j y z b hij hy2 hz2 hb hb'
  · have hs : ∀ b, x.t.has b → hasN (.slice (some ⟨g, 0, none⟩) n c) l b := fun b hb => .inr ⟨x, hmem, hb⟩
    exact ((((((OnlyS.refl _ w).set (.inl rfl) _ _).set (.inl rfl) _ _).set (.inl rfl) _ _).set (.inl rfl) _ _).trans (h5.s fun b hb => hs b (.inl hb))).trans (h6.s fun b hb => hs b (.inr hb))
  · intro b hb
    rcases hb with hb | ⟨y, hy, hb⟩
    · exact .inl hb
    · obtain ⟨i, hi, rfl⟩ := List.getElem_of_mem hy
      rcases hget i _ (List.getElem?_eq_getElem hi) with ⟨_, e⟩ | ⟨_, hy'⟩
      · rw [e] at hb
        exact .inr ⟨x, hmem, hhas b hb⟩
      · exact .inr ⟨_, List.mem_of_getElem? hy', hb⟩
set_option maxRecDepth 20000 in
set_option maxHeartbeats 1600000 in
theorem markNodeS_c (w : World) (B : Nat) (v : Value) (ns : List Nd) (h : OwnN w B v ns) (hn : ns.length ≤ 1048576) (hN : ∀ x ∈ ns, x.t.ls.length ≤ 1048576 ∧ x.t.ps.length ≤ 1048576) (k0 : Nat) (hk0 : k0 ≤ 1125899906842624) :
    Calls Try.prog 17 #[v, .int .i64 k0] w fun e w' => e = .returned (.int .i64 ((k0 + cntN ns : Nat) : Int)) ∧ OwnN w' B v (markN k0 ns) ∧ OnlyS (hasN v ns) w w' := by
  rcases h.r.row with ⟨rfl, rfl⟩ | ⟨g, cap, f, rfl, hB, hle, hcap, hrow, hf⟩
  · go_enter Try.func17, Try.ntmps17
    go_wp2
    go_loopw [1, 5] (fun m i wr => i = .int .i64 0 ∧ m = .int .i64 k0 ∧ wr = w) (fun _ _ _ => 0)
    case atStart => exact ⟨rfl, rfl, rfl⟩
    case round =>
      obtain ⟨rfl, rfl, rfl⟩ := hrel
      go_wp2
      go_ret
      exact ⟨rfl, h, OnlyS.refl _ _⟩
  · obtain ⟨n, hn'⟩ : ∃ n, n = ns.length := ⟨_, rfl⟩
    rw [← hn'] at hn hle ⊢
    rw [← hn'] at h
    have HX := Lib.hid h
    have HN := Lib.hid hN
    have HLen := Lib.hid hn'
    have hcap' : cap ≤ 9223372036854775807 := by unfold maxLen at hcap; omega
    clear h hrow hf hN hn' hcap
    go_enter Try.func17, Try.ntmps17
    go_wp2
    go_loopw [1, 5] (fun m i wr => ∃ k : Nat, k ≤ n ∧ i = .int .i64 k ∧ m = .int .i64 ((k0 + cntN (ns.take k) : Nat) : Int) ∧ OwnN wr B (.slice (some ⟨g, 0, none⟩) n cap) (markN k0 (ns.take k) ++ ns.drop k) ∧ OnlyS (hasN (.slice (some ⟨g, 0, none⟩) n cap) ns) w wr ∧ ∀ b, hasN (.slice (some ⟨g, 0, none⟩) n cap) (markN k0 (ns.take k) ++ ns.drop k) b → hasN (.slice (some ⟨g, 0, none⟩) n cap) ns b) (fun _ i _ => n - (intOf i).toNat)
    case atStart => exact ⟨0, Nat.zero_le _, rfl, rfl, by simpa [markN] using HX.out, OnlyS.refl _ _, by simp [markN]⟩
    case round =>
      obtain ⟨k, hk, rfl, rfl, hown, honly, hsub⟩ := hrel
      have HR := Lib.hid hown
      have HO := Lib.hid honly
      have HSub := Lib.hid hsub
      have hcnt : cntN (ns.take k) ≤ k * 3145732 := by
        have := cntN_le (l := ns.take k) fun x hx => HN.out x (List.mem_of_mem_take hx)
        rw [List.length_take] at this
        have h2 : min k ns.length * 3145732 ≤ k * 3145732 := Nat.mul_le_mul_right _ (Nat.min_le_left _ _)
        exact Nat.le_trans this h2
      by_cases hlt : k < n
      · obtain ⟨x, hat⟩ : ∃ x, ns[k]? = some x := ⟨_, List.getElem?_eq_getElem (by rw [← HLen.out]; exact hlt)⟩
        obtain ⟨hst1, hst2⟩ := markN_step (k0 := k0) hat
        obtain ⟨hc, hz⟩ := hown.cells_at hst1
        obtain ⟨hl, hp⟩ := HN.out x (List.mem_of_getElem? hat)
        have hwio : WiO wr B x.t := (hown.x k x hst1).2
        have e0 : wr.cell? ⟨g, k * 6, none⟩ = some (.int .i64 x.op) := hc 0 _ rfl
        have e1 := hc 1 _ rfl
        have e2 := hc 2 _ rfl
        have e3 := hc 3 _ rfl
        have e4 := hc 4 _ rfl
        have e5 := hc 5 _ rfl
        have f0 := hz (k * 6)
        have f1 := hz (k * 6 + 1)
        have f2 := hz (k * 6 + 2)
        have f3 := hz (k * 6 + 3)
        have HST1 := Lib.hid hst1
        have HST2 := Lib.hid hst2
        have HCnt : Hid (cntN (ns.take (k + 1)) = cntN (ns.take k) + cntNd x) := Lib.hid (by rw [ptake_at hat, cntN_snoc])
        have HA1 : Hid ((Value.slice x.t.LA x.t.Ln x.t.Lc).ownBlock ≠ some g) := Lib.hid fun e => hown.a k x g hst1 (.inl e) rfl
        have HA2 : Hid ((Value.slice x.t.PA x.t.Pn x.t.Pc).ownBlock ≠ some g) := Lib.hid fun e => hown.a k x g hst1 (.inr e) rfl
        have HWo := Lib.hid hwio
        have HLp := Lib.hid (And.intro hl hp)
        obtain ⟨m, hm⟩ : ∃ m : Nat, m = k0 + cntN (ns.take k) := ⟨_, rfl⟩
        rw [← hm]
        have hm1 : m ≤ 1200000000000000 := by omega
        have HM := Lib.hid hm
        clear hown honly hsub hm hst1 hst2 hc hz hl hp hwio hcnt hat
        go_wp2_with fail
        refine (markI' _ B _ x.t.ls (ownI_blocks HWo.out.l fun b hb => by
          have hne : b ≠ g := fun e => HA1.out (by rw [← e]; exact hb)
          repeat rw [heap_setCell_other _ _ _ _ (by simpa using hne)]) HLp.out.1 _ (m + 4) (by omega) (by omega)).mono ?_
        rintro e w5 ⟨rfl, hm5, h5⟩
        have HM5 := Lib.hid hm5
        have H5 := Lib.hid h5
        have e5 := (World.cell?_of_block (a := ⟨g, k * 6 + 5, none⟩) (h5.block g HA1.out)).trans (((World.cell?_setCell_other _ _ _ _ (by simp)).trans ((World.cell?_setCell_other _ _ _ _ (by simp)).trans ((World.cell?_setCell_other _ _ _ _ (by simp)).trans (World.cell?_setCell_other _ _ _ _ (by simp))))).trans e5)
        have HP5 : Hid (OwnP w5 B (.slice x.t.PA x.t.Pn x.t.Pc) x.t.ps) := Lib.hid (HWo.out.p.blocks fun b hb => by
          have hne : b ≠ g := fun e => HA2.out (by rw [← e]; exact hb)
          rw [h5.block b fun e => HWo.out.a b e hb]
          repeat rw [heap_setCell_other _ _ _ _ (by simpa using hne)])
        clear hm5 h5 e0 e1 e2 e3 e4 f0 f1 f2 f3
        go_wp2_with fail
        refine (markP w5 B _ x.t.ps HP5.out HLp.out.2 (m + 4 + x.t.ls.length) (by have := HLp.out.1; omega)).mono ?_
        rintro e w6 ⟨rfl, hm6, h6⟩
        have HS := Lib.hid (OwnN.mark1 (by omega) (by omega) (by omega) (by omega) (Nat.le_trans hm1 (by decide)) HR.out HST1.out H5.out HM5.out h6 hm6)
        clear hm6 h6 e5
        go_wp2
        go_roundw
        case rel =>
          obtain ⟨s1, s2, s3⟩ := HS.out
          have e1 := HM.out
          refine ⟨k + 1, by omega, by go_num, ?_, ?_, ?_, ?_⟩
          · rw [HCnt.out]; congr 2; unfold cntNd; omega
          · rw [← HST2.out, ← e1]; exact s1
          · exact HO.out.trans (s2.sub HSub.out)
          · rw [← HST2.out, ← e1]; exact fun b hb => HSub.out b (s3 b hb)
        case measure => simp [intOf]; omega
      · obtain rfl : k = n := by omega
        have ht : ns.take k = ns := List.take_of_length_le (by rw [← HLen.out]; exact Nat.le_refl _)
        have hd : ns.drop k = [] := List.drop_eq_nil_of_le (by rw [← HLen.out]; exact Nat.le_refl _)
        rw [ht]
        have HR2 : Hid (OwnN wr B (.slice (some ⟨g, 0, none⟩) k cap) (markN k0 ns)) := Lib.hid (by have := HR.out; rwa [ht, hd, List.append_nil] at this)
        clear hown honly hsub ht hd
        obtain ⟨m, hm⟩ : ∃ m : Nat, m = k0 + cntN ns := ⟨_, rfl⟩
        rw [← hm]
        have HM := Lib.hid hm
        clear hm hcnt
        go_wp2
        go_ret
        exact ⟨by show Ending.returned (.int .i64 (m : Int)) = _; rw [HM.out], HR2.out, HO.out⟩
end Go.Proofs.Ytnjnlcmddcjcfaa.num
namespace Go.Proofs.Ytnjnlcmddcjcfaa.num
set_option maxRecDepth 20000
open Go.RowKit
set_option linter.unusedVariables false
set_option linter.unusedSimpArgs false

def markWi (k : Nat) (x : Wi) : Wi := ⟨((k : Nat) : Int), ((k + 1 : Nat) : Int), ((k + 2 : Nat) : Int), x.LA, x.Ln, x.Lc, marks (k + 3) x.ls.length, x.PA, x.Pn, x.Pc, pmarks (k + 3 + x.ls.length) x.ps.length⟩
def cntWi (x : Wi) : Nat := 3 + x.ls.length + 2 * x.ps.length
def markWs : Nat → List Wi → List Wi
  | _, [] => []
  | k, x :: r => markWi k x :: markWs (k + cntWi x) r
def cntWs : List Wi → Nat
  | [] => 0
  | x :: r => cntWi x + cntWs r
theorem cntWs_snoc (l : List Wi) (x : Wi) : cntWs (l ++ [x]) = cntWs l + cntWi x := by
  induction l with
  | nil => simp [cntWs]
  | cons y r ih => simp only [List.cons_append, cntWs, ih]; omega
theorem markWs_snoc (l : List Wi) (x : Wi) : ∀ k, markWs k (l ++ [x]) = markWs k l ++ [markWi (k + cntWs l) x] := by
  induction l with
  | nil => intro k; simp [markWs, cntWs]
  | cons y r ih => intro k; simp only [List.cons_append, markWs, cntWs, ih]; rw [Nat.add_assoc]
theorem markWs_len (l : List Wi) : ∀ k, (markWs k l).length = l.length := by
  induction l with
  | nil => intro k; rfl
  | cons y r ih => intro k; simp [markWs, ih]
theorem markWs_at (l : List Wi) : ∀ (k i : Nat) (x : Wi), l[i]? = some x → (markWs k l)[i]? = some (markWi (k + cntWs (l.take i)) x) := by
  induction l with
  | nil => intro k i x h; simp at h
  | cons y r ih =>
    intro k i x h
    cases i with
    | zero => simp at h; subst h; simp [markWs, cntWs]
    | succ i =>
      have h' : r[i]? = some x := by simpa using h
      simp only [markWs, List.getElem?_cons_succ, List.take_succ_cons, cntWs]
      rw [ih _ i x h', Nat.add_assoc]
/-- Each count of a short list is small. -/
theorem cntWs_le {l : List Wi} (h : ∀ x ∈ l, x.ls.length ≤ 1048576 ∧ x.ps.length ≤ 1048576) : cntWs l ≤ l.length * 3145732 := by
  induction l with
  | nil => simp [cntWs]
  | cons y r ih =>
    have h1 := ih fun x hx => h x (List.mem_cons_of_mem _ hx)
    have h2 := h y (List.mem_cons_self ..)
    simp only [cntWs, cntWi, List.length_cons]
    omega
/-- As far as k, the marks; the rest as it was. -/
theorem markWs_step {l : List Wi} {k k0 : Nat} {x : Wi} (h : l[k]? = some x) : (markWs k0 (l.take k) ++ l.drop k)[k]? = some x ∧ (markWs k0 (l.take k) ++ l.drop k).set k (markWi (k0 + cntWs (l.take k)) x) = markWs k0 (l.take (k + 1)) ++ l.drop (k + 1) := by
  have hlt : k < l.length := by
    rcases Nat.lt_or_ge k l.length with g | g
    · exact g
    · rw [List.getElem?_eq_none g] at h; cases h
  have hl : (markWs k0 (l.take k)).length = k := by rw [markWs_len, List.length_take]; omega
  have hd : l.drop k = x :: l.drop (k + 1) := by
    rw [List.drop_eq_getElem_cons hlt]
    rw [List.getElem?_eq_getElem hlt] at h
    rw [Option.some.inj h]
  refine ⟨by rw [List.getElem?_append_right (by omega), hl, hd]; simp, ?_⟩
  rw [hd, List.set_append_right _ _ (by omega), hl, Nat.sub_self, List.set_cons_zero, ptake_at h, markWs_snoc, List.append_assoc, List.singleton_append]

theorem OwnWs.cells_at {w : World} {B g n c k : Nat} {l : List Wi} {x : Wi} (h : OwnWs w B (.slice (some ⟨g, 0, none⟩) n c) l) (hk : l[k]? = some x) : (∀ (j : Nat) (v : Value), (wishCells x)[j]? = some v → w.cell? ⟨g, k * 5 + j, none⟩ = some v) ∧ ∀ j, w.frozen? ⟨g, j, none⟩ = false := by
  refine ⟨fun j v hv => ?_, fun j => ?_⟩
  · obtain ⟨b, off, e, _, hc⟩ := (h.r.read wishCells_len).at' k x hk
    injection e with e
    injection e with e1 e2
    subst e1 e2
    have := hc j v hv
    rwa [Nat.zero_add] at this
  · rcases h.r.row with ⟨e, _⟩ | ⟨g', cap, f, e, _, _, _, hrow, _⟩
    · cases e
    · injection e with e _ _
      injection e with e
      injection e with e
      subst e
      exact World.rowIs.frozen hrow j
set_option maxRecDepth 20000 in
/-- One element is marked. -/
theorem OwnWs.mark1 {w w5 w6 : World} {B g n c : Nat} {l : List Wi} {k m : Nat} {x : Wi} {u0 : Int} {u1 : Int} {u2 : Int} (hu0 : u0 = ((m : Nat) : Int)) (hu1 : u1 = ((m + 1 : Nat) : Int)) (hu2 : u2 = ((m + 2 : Nat) : Int)) (hm : m ≤ 4700000000000000000) (h : OwnWs w B (.slice (some ⟨g, 0, none⟩) n c) l) (hk : l[k]? = some x)
    (h5 : OnlyV (.slice x.LA x.Ln x.Lc) ((((w.setCell ⟨g, k * 5, none⟩ (.int .i64 u0)).setCell ⟨g, k * 5 + 1, none⟩ (.int .i64 u1)).setCell ⟨g, k * 5 + 2, none⟩ (.int .i64 u2))) w5) (hl : OwnI w5 B (.slice x.LA x.Ln x.Lc) (marks (m + 3) x.ls.length)) (h6 : OnlyV (.slice x.PA x.Pn x.Pc) w5 w6) (hp : OwnP w6 B (.slice x.PA x.Pn x.Pc) (pmarks (m + 3 + x.ls.length) x.ps.length)) :
    OwnWs w6 B (.slice (some ⟨g, 0, none⟩) n c) (l.set k (markWi m x)) ∧ OnlyS (hasWs (.slice (some ⟨g, 0, none⟩) n c) l) w w6 ∧ ∀ b, hasWs (.slice (some ⟨g, 0, none⟩) n c) (l.set k (markWi m x)) b → hasWs (.slice (some ⟨g, 0, none⟩) n c) l b := by
  have hlt : k < l.length := by
    rcases Nat.lt_or_ge k l.length with q | q
    · exact q
    · rw [List.getElem?_eq_none q] at hk; cases hk
  obtain ⟨hwf, hx⟩ := (⟨trivial, h.x k x hk⟩ : True ∧ WiO w B x)
  have hmem : x ∈ l := List.mem_of_getElem? hk
  have a1 : (Value.slice x.LA x.Ln x.Lc).ownBlock ≠ some g := fun e => h.a k x g hk (.inl e) rfl
  have a2 : (Value.slice x.PA x.Pn x.Pc).ownBlock ≠ some g := fun e => h.a k x g hk (.inr e) rfl
  have hoth : ∀ b, b ≠ g → ¬ x.has b → w6.heap[b]? = w.heap[b]? := fun b hb hn => by
    rw [h6.block b fun e => hn (.inr e), h5.block b fun e => hn (.inl e)]
    repeat rw [heap_setCell_other _ _ _ _ (by simpa using hb)]
  have hget : ∀ (i : Nat) (y : Wi), (l.set k (markWi m x))[i]? = some y → (i = k ∧ y = markWi m x) ∨ (i ≠ k ∧ l[i]? = some y) := fun i y hy => by
    by_cases e : i = k
    · subst e
      rw [List.getElem?_set_self hlt] at hy
      exact .inl ⟨rfl, (Option.some.inj hy).symm⟩
    · rw [List.getElem?_set_ne (fun e' => e e'.symm)] at hy
      exact .inr ⟨e, hy⟩
  have hhas : ∀ b, (markWi m x).has b → x.has b := fun b hb => hb
  refine ⟨⟨?_, ?_, ?_, ?_⟩, ?_, ?_⟩
  · rcases h.r.row with ⟨e, _⟩ | ⟨g', cap, f, e, hB, hle, hcap, hrow, hf⟩
    · cases e
    · injection e with e1 e2 e3
      injection e1 with e1
      injection e1 with e1
      subst e1 e2 e3
      have hr6 := World.rowIs.of_block (World.rowIs.of_block (World.rowIs.set (World.rowIs.set (World.rowIs.set hrow (k * 5) (.int .i64 u0)) (k * 5 + 1) (.int .i64 u1)) (k * 5 + 2) (.int .i64 u2)) (h5.block g a1)) (h6.block g a2)
      refine OwnG.of_row wishCells_len hB (by simp) hle hcap hr6 fun j hj => ?_
      rw [fm_set wishCells_len l k _ hlt j hj]
      by_cases e : j / 5 = k
      · obtain ⟨r, hr, rfl⟩ : ∃ r, r < 5 ∧ j = k * 5 + r := ⟨j % 5, Nat.mod_lt _ (by decide), by omega⟩
        rw [if_pos e, show (k * 5 + r) % 5 = r by omega]
        have hold := hf _ hj
        rw [fm_at wishCells_len l k r x hk hr] at hold
        have hr' : r = 0 ∨ r = 1 ∨ r = 2 ∨ r = 3 ∨ r = 4 := by omega
        rcases hr' with rfl | rfl | rfl | rfl | rfl
        · rw [if_neg (by omega), if_neg (by omega), if_pos (by omega)]; exact (congrArg some (congrArg (Value.int .i64) hu0)).symm
        · rw [if_neg (by omega), if_pos rfl]; exact (congrArg some (congrArg (Value.int .i64) hu1)).symm
        · rw [if_pos rfl]; exact (congrArg some (congrArg (Value.int .i64) hu2)).symm
        · rw [if_neg (by omega), if_neg (by omega), if_neg (by omega)]
          exact hold
        · rw [if_neg (by omega), if_neg (by omega), if_neg (by omega)]
          exact hold
      · rw [if_neg e, hf j hj]
        congr 1
        have hj' : ¬ (k * 5 ≤ j ∧ j < k * 5 + 5) := by omega
        rw [if_neg (by omega), if_neg (by omega), if_neg (by omega)]
  · intro i y hy
    rcases hget i y hy with ⟨rfl, rfl⟩ | ⟨hne, hy⟩
    · exact ⟨wf_small (by omega), wf_small (by omega), wf_small (by omega), ownI_blocks hl (fun b hb => h6.block b (hx.a b hb)), hp, hx.a⟩
    · have q2 := h.x i y hy
      refine q2.blocks fun b hb => hoth b (fun e => h.a i y b hy hb (by rw [e]; rfl)) fun hb' => ?_
      rcases Nat.lt_or_gt_of_ne hne with q | q
      · exact h.d i k y x b q hy hk hb hb'
      · exact h.d k i x y b q hk hy hb' hb
  · intro i y b hy hb
    rcases hget i y hy with ⟨rfl, rfl⟩ | ⟨hne, hy⟩
    · exact h.a i x b hk (hhas b hb)
    · exact h.a i y b hy hb
  · intro i j y z b hij hy hz hb hb'
    rcases hget i y hy with ⟨ei, rfl⟩ | ⟨_, hy2⟩ <;> rcases hget j z hz with ⟨ej, rfl⟩ | ⟨_, hz2⟩
    · omega
    · exact h.d i j x z b hij (by rw [ei]; exact hk) hz2 (hhas b hb) hb'
    · exact h.d i j y x b hij hy2 (by rw [ej]; exact hk) hb (hhas b hb')
    · exact h.d i j y z b hij hy2 hz2 hb hb'
  · have hs : ∀ b, x.has b → hasWs (.slice (some ⟨g, 0, none⟩) n c) l b := fun b hb => .inr ⟨x, hmem, hb⟩
    exact (((((OnlyS.refl _ w).set (.inl rfl) _ _).set (.inl rfl) _ _).set (.inl rfl) _ _).trans (h5.s fun b hb => hs b (.inl hb))).trans (h6.s fun b hb => hs b (.inr hb))
  · intro b hb
    rcases hb with hb | ⟨y, hy, hb⟩
    · exact .inl hb
    · obtain ⟨i, hi, rfl⟩ := List.getElem_of_mem hy
      rcases hget i _ (List.getElem?_eq_getElem hi) with ⟨_, e⟩ | ⟨_, hy'⟩
      · rw [e] at hb
        exact .inr ⟨x, hmem, hhas b hb⟩
      · exact .inr ⟨_, List.mem_of_getElem? hy', hb⟩
end Go.Proofs.Ytnjnlcmddcjcfaa.num
namespace Go.Proofs.Ytnjnlcmddcjcfaa.num
set_option maxRecDepth 20000
open Go.RowKit
set_option linter.unusedVariables false

/-- A copy of the nodes ns at block lo. -/
structure CopyN (w : World) (lo n : Nat) (ns ns' : List Nd) : Prop where
  dat : datN ns' = datN ns
  short : ShortN ns'
  own : OwnN w lo (.slice (some ⟨lo, 0, none⟩) n n) ns'
theorem CopyN.step {w w' : World} {lo n : Nat} {ns ns' : List Nd} (h : CopyN w lo n ns ns') (hb : Below w.heap.size w w') : CopyN w' lo n ns ns' := ⟨h.dat, h.short, h.own.below hb⟩
theorem CopyN.nodes {w : World} {lo n : Nat} {ns ns' : List Nd} (h : CopyN w lo n ns ns') : Nodes w w.heap.size (some ⟨lo, 0, none⟩) n ns' := h.own.nodes
theorem CopyN.lt {w : World} {lo n : Nat} {ns ns' : List Nd} (h : CopyN w lo n ns ns') : lo < w.heap.size := h.own.r.tops lo rfl
theorem toNodes_w (w : World) (B : Nat) (A : Option Addr) (n c : Nat) (ns : List Nd) (hi : Nodes w B A n ns) (hB : B ≤ w.heap.size) (hn : n ≤ 1048576) (hN : ShortN ns) :
    Calls Try.prog 9 #[.slice A n c] w fun e w' => ∃ ns', e = .returned (.slice (some ⟨w.heap.size, 0, none⟩) n n) ∧ CopyN w' w.heap.size n ns ns' ∧ Below w.heap.size w w' :=
  (toNodes_c w B A n c ns hi hB hn hN).mono fun _ _ ⟨ns', h1, h2, h3, h4, h5⟩ => ⟨ns', h1, ⟨h2, h3, h4⟩, h5⟩
theorem eqNodes_w (w : World) (lo lo' n : Nat) (ns xs ys : List Nd) (h1 : CopyN w lo n ns xs) (h2 : CopyN w lo' n ns ys) (hn : n ≤ 1048576) :
    Calls Try.prog 12 #[.slice (some ⟨lo, 0, none⟩) n n, .slice (some ⟨lo', 0, none⟩) n n] w fun e w' => e = .returned (.bool true) ∧ Below w.heap.size w w' :=
  eqNodes_c w w.heap.size _ _ n n n n xs ys h1.nodes h2.nodes (Nat.le_refl _) hn h1.short true ⟨fun _ => by have := h1.dat.trans h2.dat.symm; exact this, fun _ => rfl⟩
end Go.Proofs.Ytnjnlcmddcjcfaa.num
namespace Go.Proofs.Ytnjnlcmddcjcfaa.num
set_option maxRecDepth 20000
open Go.RowKit
set_option linter.unusedVariables false

/-- A slice that a call handed back: it lies between the blocks lo and hi. -/
structure ResWs (w : World) (lo hi : Nat) (v : Value) (ts : List Wi) : Prop where
  own : OwnWs w lo v ts
  top : ∀ b, hasWs v ts b → b < hi
  le : hi ≤ w.heap.size
theorem ResWs.new {w : World} {lo : Nat} {v : Value} {ts : List Wi} (h : OwnWs w lo v ts) : ResWs w lo w.heap.size v ts := ⟨h, fun b hb => (h.has_in hb).2, Nat.le_refl _⟩
theorem ResWs.step {w w' : World} {lo hi : Nat} {v : Value} {ts : List Wi} (h : ResWs w lo hi v ts) (hb : Below w.heap.size w w') : ResWs w' lo hi v ts := ⟨h.own.below hb, h.top, Nat.le_trans h.le hb.size⟩
theorem ResWs.only {S : Nat → Prop} {w w' : World} {lo hi : Nat} {v : Value} {ts : List Wi} (h : ResWs w lo hi v ts) (ho : OnlyS S w w') (hs : ∀ b, S b → b < lo ∨ hi ≤ b) : ResWs w' lo hi v ts :=
  ⟨h.own.blocks fun b hb => ho.block b fun e => by
    have h1 := h.top b hb
    have h2 := (h.own.has_in hb).1
    rcases hs b e with q | q <;> omega, h.top, by rw [ho.size]; exact h.le⟩
theorem lensWs {w : World} {B : Nat} {v : Value} {ts : List Wi} (h : OwnWs w B v ts) (hs : ShortWs ts) : ∀ x ∈ ts, x.ls.length ≤ 1048576 ∧ x.ps.length ≤ 1048576 := fun x hx => by
  obtain ⟨k, hk, rfl⟩ := List.getElem_of_mem hx
  have h1 := (h.x k _ (List.getElem?_eq_getElem hk)).wi
  have h2 := hs _ hx
  exact ⟨by rw [h1.l.1]; exact h2.1, by rw [h1.p.1]; exact h2.2⟩
theorem markWs_has {v : Value} (ts : List Wi) : ∀ (k : Nat) (b : Nat), hasWs v (markWs k ts) b → hasWs v ts b := fun k b hb => by
  rcases hb with hb | ⟨y, hy, hb⟩
  · exact .inl hb
  · obtain ⟨i, hi, rfl⟩ := List.getElem_of_mem hy
    have hi' : i < ts.length := by rw [markWs_len] at hi; exact hi
    have h1 := markWs_at ts k i _ (List.getElem?_eq_getElem hi')
    rw [List.getElem?_eq_getElem hi] at h1
    rw [Option.some.inj h1] at hb
    exact .inr ⟨_, List.getElem_mem hi', hb⟩
/-- A slice that a call handed back: it lies between the blocks lo and hi. -/
structure ResN (w : World) (lo hi : Nat) (v : Value) (ts : List Nd) : Prop where
  own : OwnN w lo v ts
  top : ∀ b, hasN v ts b → b < hi
  le : hi ≤ w.heap.size
theorem ResN.new {w : World} {lo : Nat} {v : Value} {ts : List Nd} (h : OwnN w lo v ts) : ResN w lo w.heap.size v ts := ⟨h, fun b hb => (h.has_in hb).2, Nat.le_refl _⟩
theorem ResN.step {w w' : World} {lo hi : Nat} {v : Value} {ts : List Nd} (h : ResN w lo hi v ts) (hb : Below w.heap.size w w') : ResN w' lo hi v ts := ⟨h.own.below hb, h.top, Nat.le_trans h.le hb.size⟩
theorem ResN.only {S : Nat → Prop} {w w' : World} {lo hi : Nat} {v : Value} {ts : List Nd} (h : ResN w lo hi v ts) (ho : OnlyS S w w') (hs : ∀ b, S b → b < lo ∨ hi ≤ b) : ResN w' lo hi v ts :=
  ⟨h.own.blocks fun b hb => ho.block b fun e => by
    have h1 := h.top b hb
    have h2 := (h.own.has_in hb).1
    rcases hs b e with q | q <;> omega, h.top, by rw [ho.size]; exact h.le⟩
theorem lensN {w : World} {B : Nat} {v : Value} {ts : List Nd} (h : OwnN w B v ts) (hs : ShortN ts) : ∀ x ∈ ts, x.t.ls.length ≤ 1048576 ∧ x.t.ps.length ≤ 1048576 := fun x hx => by
  obtain ⟨k, hk, rfl⟩ := List.getElem_of_mem hx
  have h1 := (h.x k _ (List.getElem?_eq_getElem hk)).2.wi
  have h2 := hs _ hx
  exact ⟨by rw [h1.l.1]; exact h2.1, by rw [h1.p.1]; exact h2.2⟩
theorem ResN.eq {w : World} {lo hi lo' hi' : Nat} {A A' : Option Addr} {c c' : Nat} {ts ts' : List Nd} {D : List ND} (h1 : ResN w lo hi (.slice A ts.length c) ts) (h2 : ResN w lo' hi' (.slice A' ts'.length c') ts') (d1 : datN ts = D) (d2 : datN ts' = D) (hn : D.length ≤ 1048576) (hs : ShortN ts) :
    Calls Try.prog 12 #[.slice A ts.length c, .slice A' ts'.length c'] w fun e w' => e = .returned (.bool true) ∧ Below w.heap.size w w' :=
  eqNodes_c w w.heap.size _ _ _ _ _ _ ts ts' h1.own.nodes h2.own.nodes (Nat.le_refl _) (by rw [← d1] at hn; unfold datN at hn; rwa [List.length_map] at hn) hs true ⟨fun _ => d1.trans d2.symm, fun _ => rfl⟩
theorem markN_has {v : Value} (ts : List Nd) : ∀ (k : Nat) (b : Nat), hasN v (markN k ts) b → hasN v ts b := fun k b hb => by
  rcases hb with hb | ⟨y, hy, hb⟩
  · exact .inl hb
  · obtain ⟨i, hi, rfl⟩ := List.getElem_of_mem hy
    have hi' : i < ts.length := by rw [markN_len] at hi; exact hi
    have h1 := markN_at ts k i _ (List.getElem?_eq_getElem hi')
    rw [List.getElem?_eq_getElem hi] at h1
    rw [Option.some.inj h1] at hb
    exact .inr ⟨_, List.getElem_mem hi', hb⟩
theorem ResN.mark {w : World} {lo hi : Nat} {v : Value} {ts : List Nd} (h : ResN w lo hi v ts) (hn : ts.length ≤ 1048576) (hs : ShortN ts) (z : Int) (k0 : Nat) (hz : z = (k0 : Int)) (hk0 : k0 ≤ 1125899906842624) :
    Calls Try.prog 17 #[v, .int .i64 z] w fun e w' => e = .returned (.int .i64 ((k0 + cntN ts : Nat) : Int)) ∧ ResN w' lo hi v (markN k0 ts) ∧ OnlyS (fun b => lo ≤ b ∧ b < hi) w w' := by
  rw [hz]
  refine (markNodeS_c w lo v ts h.own hn (lensN h.own hs) k0 hk0).mono ?_
  rintro e w' ⟨rfl, h1, h2⟩
  refine ⟨rfl, ⟨h1, fun b hb => ?_, by rw [h2.size]; exact h.le⟩, h2.sub fun b hb => ⟨(h.own.has_in hb).1, h.top b hb⟩⟩
  exact h.top b (markN_has ts k0 b hb)
/-- A copy that the law made, as a slice that a call handed back. -/
theorem CopyN.res {w : World} {lo n : Nat} {ns ns' : List Nd} (h : CopyN w lo n ns ns') : ResN w lo w.heap.size (.slice (some ⟨lo, 0, none⟩) n n) ns' := .new h.own
theorem CopyN.len {w : World} {lo n : Nat} {ns ns' : List Nd} (h : CopyN w lo n ns ns') : ns'.length = n := h.own.nodes.len
theorem OnlyS.lo {lo hi B : Nat} {w w' : World} (h : OnlyS (fun b => lo ≤ b ∧ b < hi) w w') (hB : B ≤ lo) : Below B w w' := h.below fun b hb => Nat.le_trans hB hb.1
end Go.Proofs.Ytnjnlcmddcjcfaa.num
namespace Go.Proofs.Ytnjnlcmddcjcfaa.num
set_option maxRecDepth 20000
open Go.RowKit
set_option linter.unusedVariables false

structure ResI (w : World) (lo hi : Nat) (v : Value) (l : List Int) : Prop where
  own : OwnI w lo v l
  top : ∀ b, v.ownBlock = some b → b < hi
  le : hi ≤ w.heap.size
theorem ResI.new {w : World} {lo : Nat} {v : Value} {l : List Int} (h : OwnI w lo v l) : ResI w lo w.heap.size v l := ⟨h, fun b hb => ownI_tops h b hb, Nat.le_refl _⟩
theorem ResI.step {w w' : World} {lo hi : Nat} {v : Value} {l : List Int} (h : ResI w lo hi v l) (hb : Below w.heap.size w w') : ResI w' lo hi v l := ⟨ownI_below h.own hb, h.top, Nat.le_trans h.le hb.size⟩
theorem ResI.only {S : Nat → Prop} {w w' : World} {lo hi : Nat} {v : Value} {l : List Int} (h : ResI w lo hi v l) (ho : OnlyS S w w') (hs : ∀ b, S b → b < lo ∨ hi ≤ b) : ResI w' lo hi v l :=
  ⟨ownI_blocks h.own fun b hb => ho.block b fun e => by
    have h1 := h.top b hb
    have h2 := ownI_lows h.own b hb
    rcases hs b e with q | q <;> omega, h.top, by rw [ho.size]; exact h.le⟩
theorem ResI.eq {w : World} {lo hi lo' hi' : Nat} {A A' : Option Addr} {n n' c c' : Nat} {l : List Int} (h1 : ResI w lo hi (.slice A n c) l) (h2 : ResI w lo' hi' (.slice A' n' c') l) (hn : l.length ≤ 1048576) :
    Calls Try.prog 15 #[.slice A n c, .slice A' n' c'] w fun e w' => e = .returned (.bool true) ∧ Below w.heap.size w w' := by
  have e1 := (ownI_at h1.own).1
  exact eqInts_b w w.heap.size _ _ n n' c c' l l (ownI_at h1.own) (ownI_at h2.own) (by omega) true (by simp)
theorem ResI.mark {w : World} {lo hi : Nat} {v : Value} {l : List Int} (h : ResI w lo hi v l) (hn : l.length ≤ 1048576) (z : Int) (k0 : Nat) (hz : z = (k0 : Int)) (hk0 : k0 ≤ 1152921504606846976) :
    Calls Try.prog 18 #[v, .int .i64 z] w fun e w' => e = .returned (.int .i64 ((k0 + l.length : Nat) : Int)) ∧ ResI w' lo hi v (marks k0 l.length) ∧ OnlyS (fun b => lo ≤ b ∧ b < hi) w w' := by
  refine (markI' w lo v l h.own hn z k0 hz hk0).mono ?_
  rintro e w' ⟨rfl, h1, h2⟩
  exact ⟨rfl, ⟨h1, h.top, by rw [h2.size]; exact h.le⟩, h2.s fun b hb => ⟨ownI_lows h.own b hb, h.top b hb⟩⟩
theorem ResI.held {w : World} {lo hi : Nat} {v : Value} {n k0 : Nat} (h : ResI w lo hi v (marks k0 n)) (hn : n ≤ 1048576) (z : Int) (hz : z = (k0 : Int)) (hk0 : k0 ≤ 1152921504606846976) :
    Calls Try.prog 19 #[v, .int .i64 z] w fun e w' => e = .returned (.int .i64 ((k0 + n : Nat) : Int)) ∧ w = w' := heldI' w lo v k0 n h.own hn z hz hk0
theorem Mid.onlyS {bx S : Nat} {w w' : World} (h : Mid bx S w w') : OnlyS (fun b => bx ≤ b ∧ b < S) w w' :=
  ⟨h.os, h.tape, h.output, h.size, fun k hk => h.block k (by
    rcases Nat.lt_or_ge k bx with q | q
    · exact .inl q
    · rcases Nat.lt_or_ge k S with r | r
      · exact absurd ⟨q, r⟩ hk
      · exact .inr r)⟩
/-- A copy of items that the law made, and what lies behind it. -/
structure CopyL (w : World) (lo hi n : Nat) (its its' : List It) : Prop where
  c : Copy w lo n its its'
  s : ∀ t ∈ its', Slot w lo hi t
  lt : lo < hi
  le : hi ≤ w.heap.size
theorem CopyL.new {w : World} {lo n : Nat} {its its' : List It} (h : Copy w lo n its its') : CopyL w lo w.heap.size n its its' := ⟨h, slot_start h, h.fresh.lt, Nat.le_refl _⟩
theorem CopyL.step {w w' : World} {lo hi n : Nat} {its its' : List It} (h : CopyL w lo hi n its its') (hb : Below w.heap.size w w') : CopyL w' lo hi n its its' :=
  ⟨h.c.below hb, fun t ht => (h.s t ht).below (hb.mono h.le), h.lt, Nat.le_trans h.le hb.size⟩
theorem CopyL.mark {w : World} {lo hi n : Nat} {its its' : List It} (h : CopyL w lo hi n its its') (hn : n ≤ 1048576) :
    Calls Try.prog 16 #[.slice (some ⟨lo, 0, none⟩) n n, .int .i64 1] w fun e w' => (∃ r : Nat, e = .returned (.int .i64 r) ∧ 0 < r ∧ r ≤ 1099512676353) ∧ OnlyS (fun b => lo ≤ b ∧ b < hi) w w' :=
  (markItemsB w lo n n hi its' (mark_start h.c) h.s h.c.len h.lt hn h.c.small).mono fun _ _ ⟨h1, h2⟩ => ⟨h1, h2.onlyS⟩
theorem eqItems_w (w : World) (lo hi lo' hi' n : Nat) (its xs ys : List It) (h1 : CopyL w lo hi n its xs) (h2 : CopyL w lo' hi' n its ys) (hn : n ≤ 1048576) :
    Calls Try.prog 11 #[.slice (some ⟨lo, 0, none⟩) n n, .slice (some ⟨lo', 0, none⟩) n n] w fun e w' => e = .returned (.bool true) ∧ Below w.heap.size w w' :=
  eqItems w w.heap.size _ _ n n n n xs ys h1.c.items h2.c.items (Nat.le_refl _) hn h1.c.small true (by rw [h1.c.dat, h2.c.dat]; simp)
theorem toItems_w (w : World) (B : Nat) (A : Option Addr) (n c : Nat) (its : List It) (hi : Items w B A n its) (hB : B ≤ w.heap.size) (hn : n ≤ 1048576) (hN : ∀ t ∈ its, t.n ≤ 1048576) :
    Calls Try.prog 8 #[.slice A n c] w fun e w' => ∃ its', e = .returned (.slice (some ⟨w.heap.size, 0, none⟩) n n) ∧ CopyL w' w.heap.size w'.heap.size n its its' ∧ Below w.heap.size w w' :=
  (toItems w B A n c its hi hB hn hN).mono fun _ _ ⟨x, h1, h2, h3, h4⟩ => ⟨x, h1, .new (copy_of hn hN hi h2 h3), h4⟩
theorem InB.copies {w : World} {lo hi n lo2 n2 : Nat} {its its' : List It} {ns ns' : List Nd} (h : CopyL w lo hi n its its') (h2 : CopyN w lo2 n2 ns ns') (hn : n ≤ 1048576) (hn2 : n2 ≤ 1048576) : InB w w.heap.size (some ⟨lo, 0, none⟩) n its' (some ⟨lo2, 0, none⟩) n2 n2 ns' :=
  ⟨h.c.items, h2.nodes, Nat.le_refl _, hn, hn2, Nat.le_refl _, Nat.le_trans hn2 (by decide), h.c.small, h2.short⟩
end Go.Proofs.Ytnjnlcmddcjcfaa.num
namespace Go.Proofs.Ytnjnlcmddcjcfaa.num
set_option maxRecDepth 20000
open Go.RowKit
set_option linter.unusedVariables false
set_option linter.unusedSimpArgs false

theorem eqIntsW (w : World) (B : Nat) (A A' : Option Addr) (n n' c c' : Nat) (xs ys : List Int) (hx : Ints w B A n xs) (hy : Ints w B A' n' ys) (hn : n ≤ 4194304) (b : Bool) (hb : b = true ↔ xs = ys) :
    Calls Try.prog 15 #[.slice A n c, .slice A' n' c'] w fun e w' => e = .returned (.bool b) ∧ ∃ m, w' = w.drewN m := by
  have HX := Lib.hid hx
  have HY := Lib.hid hy
  by_cases hl : n = n'
  · subst hl
    have HB := Lib.hid hb
    clear hx hy hb
    go_enter Try.func15, Try.ntmps15
    go_wp2
    go_loopw [5] (fun i wr => ∃ k : Nat, k ≤ n ∧ i = .int .i64 k ∧ xs.take k = ys.take k ∧ ∃ m, wr = w.drewN m) (fun i _ => n - (intOf i).toNat)
    case atStart => exact ⟨0, Nat.zero_le _, rfl, rfl, 0, rfl⟩
    case round =>
      obtain ⟨k, hk, rfl, htake, m, rfl⟩ := hrel
      have HT := Lib.hid htake
      clear htake
      by_cases hlt : k < n
      · obtain ⟨b1, off1, rfl, hb1, hc1⟩ := HX.out.2 k hlt
        obtain ⟨b2, off2, rfl, hb2, hc2⟩ := HY.out.2 k hlt
        generalize hv1 : xs.getD k 0 = v1 at *
        generalize hv2 : ys.getD k 0 = v2 at *
        have HV1 := Lib.hid hv1
        have HV2 := Lib.hid hv2
        clear hv1 hv2
        have hlt' : (k : Int) < (n : Int) := by omega
        by_cases he : v1 = v2
        · subst he
          go_wp2
          go_quiet (fail)
          go_wp2
          go_roundw
          case rel => exact ⟨k + 1, by omega, by go_num, by rw [take_snoc_getD HX.out.1 hlt, take_snoc_getD HY.out.1 hlt, HT.out, HV1.out, HV2.out], _, rfl⟩
          case measure => simp [intOf]; omega
        · have hne : (v1 != v2) = true := by simpa using he
          have hxy : xs ≠ ys := ne_at (k := k) (by rw [HV1.out, HV2.out]; exact he)
          obtain rfl : b = false := by
            cases b
            · rfl
            · exact absurd (HB.out.1 rfl) hxy
          have HE := Lib.hid he
          clear he hxy
          go_wp2
          go_quiet (fail)
          go_wp2
          go_ret
          exact ⟨rfl, _, World.drewN_drewN _ _ _⟩
      · obtain rfl : k = n := by omega
        obtain rfl : b = true := HB.out.2 (by
          have h1 := HT.out
          rwa [List.take_of_length_le (by rw [HX.out.1]; exact Nat.le_refl _), List.take_of_length_le (by rw [HY.out.1]; exact Nat.le_refl _)] at h1)
        go_wp2
        go_ret
        exact ⟨rfl, _, rfl⟩
  · obtain rfl : b = false := by
      cases b
      · rfl
      · exact absurd (by rw [← hx.1, hb.1 rfl, hy.1]) hl
    clear hx hy hb
    go_enter Try.func15, Try.ntmps15
    go_wp2
    go_ret
    exact ⟨rfl, 0, rfl⟩
set_option maxRecDepth 20000 in
theorem markIW (w : World) (B : Nat) (v : Value) (l : List Int) (h : OwnI w B v l) (hn : l.length ≤ 4194304) (k0 : Nat) (hk0 : k0 ≤ 1152921504606846976) :
    Calls Try.prog 18 #[v, .int .i64 k0] w fun e w' => e = .returned (.int .i64 ((k0 + l.length : Nat) : Int)) ∧ OwnI w' B v (marks k0 l.length) ∧ OnlyV v w w' := by
  rcases ownI_row h with ⟨rfl, rfl⟩ | ⟨g, cap, f, rfl, hB, hle, hcap, hrow, hf⟩
  · go_enter Try.func18, Try.ntmps18
    go_wp2
    go_loopw [1, 5] (fun m i wr => i = .int .i64 0 ∧ m = .int .i64 k0 ∧ wr = w) (fun _ _ _ => 0)
    case atStart => exact ⟨rfl, rfl, rfl⟩
    case round =>
      obtain ⟨rfl, rfl, rfl⟩ := hrel
      go_wp2
      go_ret
      exact ⟨rfl, ownI_nil _ _, OnlyV.refl _ _⟩
  · obtain ⟨n, hn'⟩ : ∃ n, n = l.length := ⟨_, rfl⟩
    rw [← hn'] at hn hle hf ⊢
    clear h hn'
    have HW := Lib.hid hrow
    have hcap' : cap ≤ 9223372036854775807 := by unfold maxLen at hcap; omega
    have HF := Lib.hid hf
    have HCap := Lib.hid hcap
    clear hrow hf hcap
    go_enter Try.func18, Try.ntmps18
    go_wp2
    go_loopw [1, 5] (fun m i wr => ∃ k : Nat, k ≤ n ∧ i = .int .i64 k ∧ m = .int .i64 ((k0 + k : Nat) : Int) ∧ wr.rowIs g 3 cap (fun j => if j < k then .int .i64 ((k0 + j : Nat) : Int) else f j) ∧ OnlyV (.slice (some ⟨g, 0, none⟩) n cap) w wr) (fun _ i _ => n - (intOf i).toNat)
    case atStart => exact ⟨0, Nat.zero_le _, rfl, rfl, by simpa using HW.out, OnlyV.refl _ _⟩
    case round =>
      obtain ⟨k, hk, rfl, rfl, hrow, honly⟩ := hrel
      have HR := Lib.hid hrow
      have HO := Lib.hid honly
      by_cases hlt : k < n
      · have g1 : wr.cell? ⟨g, k, none⟩ = some (f k) := by rw [World.rowIs.cell hrow (by omega), if_neg (by omega)]
        have g3 := World.rowIs.frozen hrow k
        obtain ⟨m, hm⟩ : ∃ m : Nat, m = k0 + k := ⟨_, rfl⟩
        rw [← hm]
        have hm1 : m ≤ 4700000000000000000 := by omega
        have HM := Lib.hid hm
        clear hrow honly hm
        go_wp2
        go_roundw
        case rel =>
          refine ⟨k + 1, by omega, by go_num, ?_, (World.rowIs.set HR.out k (.int .i64 m)).congr (fun j _ => ?_), HO.out.set _ _⟩
          · have := HM.out; congr 1; omega
          · have := HM.out
            by_cases h1 : j = k
            · subst h1; rw [if_pos rfl, if_pos (by omega)]; congr 1; omega
            · by_cases h3 : j < k
              · rw [if_neg h1, if_pos h3, if_pos (by omega)]
              · rw [if_neg h1, if_neg h3, if_neg (by omega)]
        case measure => simp [intOf]; omega
      · obtain rfl : k = n := by omega
        obtain ⟨m, hm⟩ : ∃ m : Nat, m = k0 + k := ⟨_, rfl⟩
        rw [← hm]
        clear hrow honly
        have HM := Lib.hid hm
        clear hm
        go_wp2
        go_ret
        refine ⟨by show Ending.returned (.int .i64 (m : Int)) = _; rw [HM.out], ownI_of_row hB (marks_len _ _) hle HCap.out HR.out (fun j hj => ?_), HO.out⟩
        rw [marks_at hj, if_pos (by omega)]

set_option maxRecDepth 20000 in
theorem heldIW (w : World) (B : Nat) (v : Value) (k0 n : Nat) (h : OwnI w B v (marks k0 n)) (hn : n ≤ 4194304) (hk0 : k0 ≤ 1152921504606846976) :
    Calls Try.prog 19 #[v, .int .i64 k0] w fun e w' => e = .returned (.int .i64 ((k0 + n : Nat) : Int)) ∧ w = w' := by
  rcases ownI_row h with ⟨rfl, h0⟩ | ⟨g, cap, f, rfl, hB, hle, hcap, hrow, hf⟩
  · obtain rfl : n = 0 := by have := congrArg List.length h0; rwa [marks_len] at this
    go_enter Try.func19, Try.ntmps19
    go_wp2
    go_loopw [1, 5] (fun m i wr => i = .int .i64 0 ∧ m = .int .i64 k0 ∧ wr = w) (fun _ _ _ => 0)
    case atStart => exact ⟨rfl, rfl, rfl⟩
    case round =>
      obtain ⟨rfl, rfl, rfl⟩ := hrel
      go_wp2
      go_ret
      exact ⟨rfl, rfl⟩
  · rw [marks_len] at hle hf ⊢
    have HW := Lib.hid hrow
    have hcap' : cap ≤ 9223372036854775807 := by unfold maxLen at hcap; omega
    have HF : Hid (∀ j, j < n → f j = .int .i64 ((k0 + j : Nat) : Int)) := Lib.hid fun j hj => by
      have := hf j hj
      rw [marks_at hj] at this
      exact (Option.some.inj this).symm
    clear hrow hf hcap h
    go_enter Try.func19, Try.ntmps19
    go_wp2
    go_loopw [1, 5] (fun m i wr => ∃ k : Nat, k ≤ n ∧ i = .int .i64 k ∧ m = .int .i64 ((k0 + k : Nat) : Int) ∧ wr = w) (fun _ i _ => n - (intOf i).toNat)
    case atStart => exact ⟨0, Nat.zero_le _, rfl, rfl, rfl⟩
    case round =>
      obtain ⟨k, hk, rfl, rfl, rfl⟩ := hrel
      obtain ⟨m, hm⟩ : ∃ m : Nat, m = k0 + k := ⟨_, rfl⟩
      rw [← hm]
      have hm1 : m ≤ 4700000000000000000 := by omega
      have HM := Lib.hid hm
      by_cases hlt : k < n
      · have g1 : wr.cell? ⟨g, k, none⟩ = some (.int .i64 m) := by
          rw [World.rowIs.cell HW.out (by omega), HF.out _ (by omega), hm]
        clear hm
        go_wp2
        go_roundw
        case rel => exact ⟨k + 1, by omega, by go_num, by have := HM.out; congr 1; omega, by first | rfl | trivial⟩
        case measure => simp [intOf]; omega
      · obtain rfl : k = n := by omega
        clear hm
        go_wp2
        go_ret
        exact ⟨by show Ending.returned (.int .i64 (m : Int)) = _; rw [HM.out], rfl⟩
theorem ResI.eqW {w : World} {lo hi lo' hi' : Nat} {A A' : Option Addr} {n n' c c' : Nat} {l l' : List Int} (h1 : ResI w lo hi (.slice A n c) l) (h2 : ResI w lo' hi' (.slice A' n' c') l') (hn : l.length ≤ 4194304) (b : Bool) (hb : b = true ↔ l = l') :
    Calls Try.prog 15 #[.slice A n c, .slice A' n' c'] w fun e w' => e = .returned (.bool b) ∧ Below w.heap.size w w' := by
  have e1 := (ownI_at h1.own).1
  exact (eqIntsW w w.heap.size _ _ n n' c c' l l' (ownI_at h1.own) (ownI_at h2.own) (by omega) b hb).mono fun _ _ ⟨he, m, hm⟩ => ⟨he, hm ▸ below_drewN (Below.refl _ _) m⟩
theorem ResI.markW {w : World} {lo hi : Nat} {v : Value} {l : List Int} (h : ResI w lo hi v l) (hn : l.length ≤ 4194304) (z : Int) (k0 : Nat) (hz : z = (k0 : Int)) (hk0 : k0 ≤ 1152921504606846976) :
    Calls Try.prog 18 #[v, .int .i64 z] w fun e w' => e = .returned (.int .i64 ((k0 + l.length : Nat) : Int)) ∧ ResI w' lo hi v (marks k0 l.length) ∧ OnlyS (fun b => lo ≤ b ∧ b < hi) w w' := by
  subst hz
  refine (markIW w lo v l h.own hn k0 hk0).mono ?_
  rintro e w' ⟨rfl, h1, h2⟩
  exact ⟨rfl, ⟨h1, h.top, by rw [h2.size]; exact h.le⟩, h2.s fun b hb => ⟨ownI_lows h.own b hb, h.top b hb⟩⟩
theorem ResI.heldW {w : World} {lo hi : Nat} {v : Value} {n k0 : Nat} (h : ResI w lo hi v (marks k0 n)) (hn : n ≤ 4194304) (z : Int) (hz : z = (k0 : Int)) (hk0 : k0 ≤ 1152921504606846976) :
    Calls Try.prog 19 #[v, .int .i64 z] w fun e w' => e = .returned (.int .i64 ((k0 + n : Nat) : Int)) ∧ w = w' := by
  subst hz
  exact heldIW w lo v k0 n h.own hn hk0
theorem ResI.ints {w : World} {lo hi : Nat} {A : Option Addr} {n c : Nat} {l : List Int} (h : ResI w lo hi (.slice A n c) l) : Ints w w.heap.size A n l := ownI_at h.own
/-- toIntS: a copy of the law's own. -/
theorem toInts_r (w : World) (B : Nat) (A : Option Addr) (n c : Nat) (xs : List Int) (hi : Ints w B A n xs) (hB : B ≤ w.heap.size) (hn : n ≤ 1048576) :
    Calls Try.prog 43 #[.slice A n c] w fun e w' => (e = .returned (.slice (some ⟨w.heap.size, 0, none⟩) n n) ∧ ResI w' w.heap.size w'.heap.size (.slice (some ⟨w.heap.size, 0, none⟩) n n) xs) ∧ Below w.heap.size w w' := by
  refine (toInts w B A n c xs hi hB hn).mono ?_
  rintro e w' ⟨rfl, rfl⟩
  have hr := IntRow.made w xs w.heap.size rfl
  refine ⟨⟨rfl, ⟨?_, fun b hb => ?_, Nat.le_refl _⟩⟩, (Below.refl _ _).alloc (Nat.le_refl _) _⟩
  · have hl := hi.1
    refine ownI_of_row (Nat.le_refl _) hl (Nat.le_refl _) (by unfold maxLen; omega) (f := fun j => .int .i64 (xs.getD j 0)) ?_ fun j hj => ?_
    · have h2 := hr
      unfold IntRow at h2
      rwa [hl] at h2
    · rw [List.getElem?_map, List.getD_eq_getElem?_getD, List.getElem?_eq_getElem (by omega)]; rfl
  · have : w.heap.size = b := Option.some.inj hb
    rw [World.size_alloc]
    omega
section
variable {H : Type} {enc : TypeId × Value → H} {W : World}
open Go.ChangeShapes Go.WideShapes
theorem open_intsN {b0 : Nat} {v : Value} {d : DataW H} {p : List MemPlace} (hv : Value.okWide Try.prog W .any b0 34 v) (h : DataW.Trod enc Try.prog W 0 (fun _ => true) true 34 v d p) :
    ∃ A n c xs, v = .slice A n c ∧ n ≤ 9223372036854775807 ∧ Ints W W.heap.size A n xs := by
  obtain ⟨A, n, c, rfl⟩ := okWide_slice Try.underlying34 hv
  obtain ⟨fuel, hf⟩ := h
  rcases open_ints Try.underlying34 Try.underlying3 (by kernel_rfl) hf with ⟨hcs, _⟩ | ⟨x, l, c', zs, hcs, _, hl, hm, hz, _, hcell, hwz⟩
  · simp [Value.cells] at hcs
    obtain ⟨rfl, rfl, rfl⟩ := hcs
    exact ⟨none, 0, 0, [], rfl, by omega, rfl, fun k hk => absurd hk (Nat.not_lt_zero _)⟩
  · simp [Value.cells] at hcs
    obtain ⟨rfl, rfl, rfl⟩ := hcs
    have hz' : zs.length = c := by simpa using hz
    refine ⟨_, n, c, zs.take n, rfl, by unfold maxLen at hm; omega, by rw [List.length_take]; omega, fun k hk => ?_⟩
    have h0 := hcell k (by omega)
    obtain ⟨b, off, spot⟩ := x
    have hspot : spot = none := by
      have h00 := hcell 0 (by omega)
      have := World.cell?_spot h00
      simpa [Addr.add] using this
    subst hspot
    have e : (⟨b, off, none⟩ : Addr).add k = ⟨b, off + k, none⟩ := by unfold Addr.add; split <;> simp_all
    rw [e] at h0
    refine ⟨b, off, rfl, World.block_lt_of_cell? W _ h0, ?_⟩
    rw [h0, List.getD_eq_getElem?_getD, List.getD_eq_getElem?_getD, List.getElem?_take_of_lt hk]
end
end Go.Proofs.Ytnjnlcmddcjcfaa.num
namespace Go.Proofs.Ytnjnlcmddcjcfaa.num
set_option maxRecDepth 20000
open Go.RowKit
set_option linter.unusedVariables false

theorem rise_lt {l : List Int} {k : Nat} (h : Rise l k) : ∀ {j i : Nat}, i < j → j < k → l.getD i 0 < l.getD j 0
  | 0, i, h1, _ => by omega
  | j + 1, i, h1, h2 => by
    have h3 := h (j + 1) (by omega) h2
    rw [Nat.add_sub_cancel] at h3
    rcases Nat.lt_or_ge i j with g | g
    · have := rise_lt h g (show j < k by omega); omega
    · obtain rfl : i = j := by omega
      exact h3
theorem id_one {ds : List Dt} (h : AreP ds) {x y : Dt} (hx : x ∈ ds) (hy : y ∈ ds) (he : x.1 = y.1) : x = y := by
  obtain ⟨i, hi, rfl⟩ := List.getElem_of_mem hx
  obtain ⟨j, hj, rfl⟩ := List.getElem_of_mem hy
  have key : ∀ {a b : Nat} (ha : a < ds.length) (hb : b < ds.length), a < b → ds[a].1 = ds[b].1 → False := fun {a b} ha hb hab e => by
    have h1 := rise_lt h.2.1 hab hb
    simp only [List.getD_eq_getElem?_getD, List.getElem?_map, List.getElem?_eq_getElem ha, List.getElem?_eq_getElem hb, Option.map_some, Option.getD_some] at h1
    omega
  rcases Nat.lt_trichotomy i j with g | g | g
  · exact (key hi hj g he).elim
  · subst g; rfl
  · exact (key hj hi g he.symm).elim
theorem findD_mem {ds : List Dt} {x : Int} {d : Dt} (h : findD ds x = some d) : d ∈ ds ∧ d.1 = x := by
  unfold findD at h
  exact ⟨List.mem_of_find?_eq_some h, by have := List.find?_some h; simpa using this⟩
theorem findD_of {ds : List Dt} (h : AreP ds) {d : Dt} (hd : d ∈ ds) : findD ds d.1 = some d := by
  cases hf : findD ds d.1 with
  | none =>
    unfold findD at hf
    rw [List.find?_eq_none] at hf
    exact absurd (by simp) (hf d hd)
  | some u =>
    obtain ⟨h1, h2⟩ := findD_mem hf
    rw [id_one h h1 hd h2]
end Go.Proofs.Ytnjnlcmddcjcfaa.num
namespace Go.Proofs.Ytnjnlcmddcjcfaa.num
set_option maxRecDepth 20000
open Go.RowKit
set_option linter.unusedVariables false
set_option linter.unusedSimpArgs false

set_option maxRecDepth 20000 in
theorem sFine (w : World) (B : Nat) (A : Option Addr) (n c : Nat) (its : List It) (A2 : Option Addr) (n2 c2 : Nat) (ns : List Nd) (h : InB w B A n its A2 n2 c2 ns) (q : Bool) (hq : q = true ↔ IsE (datN ns) ∧ AreP (its.map It.dat)) :
    Calls Try.prog 23 #[.slice A n c, .slice A2 n2 c2] w fun e w' => e = .returned (.bool q) ∧ Below w.heap.size w w' := by
  obtain ⟨qa, hqa⟩ := bool_of (AreP (its.map It.dat))
  obtain ⟨qe, hqe⟩ := bool_of (IsE (datN ns))
  have HA : Hid (Calls Try.prog 40 #[.slice A n c] w fun e w' => e = .returned (.bool qa) ∧ Below w.heap.size w w') := Lib.hid (sAre w B A n c its h.i h.hB h.hn h.si qa hqa)
  have HE : Hid (∀ w1, Below w.heap.size w w1 → Calls Try.prog 41 #[.slice A2 n2 c2] w1 fun e w' => e = .returned (.bool qe) ∧ Below w1.heap.size w1 w') := Lib.hid fun w1 h1 => sIsE w1 B A2 n2 c2 ns (h.below h1).e (h.below h1).hB h.hn2 h.se qe hqe
  have HQ : Hid (q = (qa && qe)) := Lib.hid (by
    rw [Bool.eq_iff_iff, Bool.and_eq_true, hq, hqa, hqe]
    exact And.comm)
  clear hq hqa hqe h
  go_enter Try.func23, Try.ntmps23
  go_wp2_with fail
  refine HA.out.mono ?_
  rintro e w1 ⟨rfl, hb1⟩
  have HB1 := Lib.hid hb1
  clear hb1 HA
  cases qa
  · obtain rfl : q = false := HQ.out
    go_wp2
    go_ret
    exact ⟨rfl, HB1.out⟩
  · go_wp2_with fail
    refine (HE.out _ HB1.out).mono ?_
    rintro e w2 ⟨rfl, hb2⟩
    have HB2 := Lib.hid (below_on HB1.out hb2)
    clear hb2
    obtain rfl : q = qe := by rw [HQ.out]; rfl
    go_wp2
    go_ret
    exact ⟨rfl, HB2.out⟩
/-- The model's comparison of two of the items. -/
theorem sCmpIn (w : World) (B : Nat) (A : Option Addr) (n c : Nat) (its : List It) (A2 : Option Addr) (n2 c2 : Nat) (ns : List Nd) (h : InB w B A n its A2 n2 c2 ns) (he : IsE (datN ns)) (ha : AreP (its.map It.dat)) (t : Tr) (ht : Post (datN ns) t) (W : World) (hW : Below w.heap.size w W) (x y : It) (hx : x ∈ its) (hy : y ∈ its) :
    Calls Try.prog 42 #[.slice A2 n2 c2, .agg #[.int .i64 x.id, .slice x.A x.n x.c], .agg #[.int .i64 y.id, .slice y.A y.n y.c]] W fun e w' => e = .returned (.int .i64 (cmpD t x.dat y.dat)) ∧ Below W.heap.size W w' := by
  have h1 := h.below hW
  rw [← cmpD_it]
  exact sCompare W B A2 n2 c2 ns x y h1.e (h1.i.mem hx) (h1.i.mem hy) h1.hB h1.se (ha.1 _ (List.mem_map_of_mem hx)) (ha.1 _ (List.mem_map_of_mem hy)) t ht (by
    have h9 := he.1
    have hl : ns.length = n2 := h.e.len
    unfold datN at h9
    rw [List.length_map] at h9
    omega)
theorem all_snoc {its : List It} {f : It → Bool} {k : Nat} {t : It} (hat : its[k]? = some t) : (its.take (k + 1)).all f = ((its.take k).all f && f t) := by
  rw [take_at hat, List.all_append]
  simp
theorem fil_snoc {its : List It} {f : It → Bool} {k : Nat} {t : It} (hat : its[k]? = some t) : idL ((its.take (k + 1)).filter f) = idL ((its.take k).filter f) ++ (if f t then [t.id] else []) := by
  rw [take_at hat, List.filter_append]
  unfold idL
  rw [List.map_append]
  congr 1
  cases h : f t <;> simp [h]
theorem flt_snoc {its : List It} {f : It → Bool} {k : Nat} {t : It} (hat : its[k]? = some t) : ((its.take (k + 1)).filter f).length = ((its.take k).filter f).length + (if f t then 1 else 0) := by
  rw [take_at hat, List.filter_append, List.length_append]
  congr 1
  cases h : f t <;> simp [h]
theorem fil_len (its : List It) (f : It → Bool) (k : Nat) : (idL ((its.take k).filter f)).length ≤ k := by
  rw [idL_len]
  have h1 : ((its.take k).filter f).length ≤ (its.take k).length := List.length_filter_le _ _
  rw [List.length_take] at h1
  omega
theorem ids_fil (its : List It) (f : Dt → Bool) : idsD ((its.map It.dat).filter f) = idL (its.filter fun u => f u.dat) := by
  unfold idsD idL
  rw [List.filter_map, List.map_map]
  rfl
theorem best_ids (t : Tr) (its : List It) : idsD (bestD t (its.map It.dat)) = idL (its.filter fun x => its.all fun y => !btD t y.dat x.dat) := by
  unfold bestD
  rw [ids_fil]
  congr 1
  apply List.filter_congr
  intro x _
  unfold bestB
  rw [List.all_map]
  rfl
theorem ownI_lower {w : World} {B B' : Nat} {v : Value} {l : List Int} (h : OwnI w B v l) (hB : B' ≤ B) : OwnI w B' v l := ⟨h.1, h.2.imp id fun ⟨g, cap, cur, h1, h2, h3⟩ => ⟨g, cap, cur, h1, Nat.le_trans hB h2, h3⟩⟩
set_option maxRecDepth 20000 in
set_option maxHeartbeats 6400000 in
theorem sDom (w : World) (B : Nat) (A : Option Addr) (n c : Nat) (its : List It) (A2 : Option Addr) (n2 c2 : Nat) (ns : List Nd) (h : InB w B A n its A2 n2 c2 ns) (x0 : Int) (L : List Int) (hL : DomP (datN ns) (its.map It.dat) x0 L) :
    Calls Try.prog 52 #[.slice A n c, .slice A2 n2 c2, .int .i64 x0] w fun e w' => (∃ v, e = .returned v ∧ OwnI w' w.heap.size v L) ∧ Below w.heap.size w w' := by
  obtain ⟨q, hq⟩ := bool_of (IsE (datN ns) ∧ AreP (its.map It.dat))
  have HFn : Hid (∀ w1, Below w.heap.size w w1 → Calls Try.prog 23 #[.slice A n c, .slice A2 n2 c2] w1 fun e w' => e = .returned (.bool q) ∧ Below w1.heap.size w1 w') := Lib.hid fun w1 h1 => sFine w1 B A n c its A2 n2 c2 ns (h.below h1) q hq
  have HFi : Hid (∀ w1, Below w.heap.size w w1 → Calls Try.prog 22 #[.slice A n c, .int .i64 x0] w1 fun e w' => (∃ r, e = .returned (.int .i64 r) ∧ FindP (its.map It.dat) x0 r) ∧ Below w1.heap.size w1 w') := Lib.hid fun w1 h1 => sFind w1 B A n c its (h.below h1).i (h.below h1).hB h.hn x0
  have HN : Hid (q = false → L = []) := Lib.hid fun hqf => hL.no (fun hh => by rw [hq.2 hh] at hqf; cases hqf)
  have HN2 : Hid (findD (its.map It.dat) x0 = none → L = []) := Lib.hid fun hf => hL.none hf
  have HK : Hid (∀ y, y ∈ its → findD (its.map It.dat) x0 = some y.dat → ∃ hold : It → Bool, q = true → L = idL (its.filter hold) ∧ ∀ W, Below w.heap.size w W → ∀ u, u ∈ its → Calls Try.prog 42 #[.slice A2 n2 c2, .agg #[.int .i64 u.id, .slice u.A u.n u.c], .agg #[.int .i64 y.id, .slice y.A y.n y.c]] W fun e w' => (∃ z : Int, e = .returned (.int .i64 z) ∧ (z == 1) = hold u) ∧ Below W.heap.size W w') := Lib.hid fun y hy hf => by
    by_cases hqt : q = true
    · obtain ⟨he, ha⟩ := hq.1 hqt
      obtain ⟨t, ht⟩ := he.2
      refine ⟨fun u => btD t u.dat y.dat, fun _ => ⟨?_, fun W hW u hu => ?_⟩⟩
      · rw [hL.yes he ha ht, onFind_some hf]
        exact ids_fil its _
      · exact (sCmpIn w B A n c its A2 n2 c2 ns h he ha t ht W hW _ _ hu hy).mono fun _ _ ⟨h1, h2⟩ => ⟨⟨_, h1, rfl⟩, h2⟩
    · exact ⟨fun _ => false, fun h => absurd h hqt⟩
  have HX := Lib.hid h.i
  have hB := h.hB
  have hn := h.hn
  have HE0 := Lib.hid (OwnI.empty w w.heap.size (Nat.le_refl _))
  have HB0 : Hid (Below w.heap.size w (w.alloc (.cells #[] 3))) := Lib.hid ((Below.refl _ _).alloc (Nat.le_refl _) _)
  clear h hL hq
  go_enter Try.func52, Try.ntmps52
  go_wp2_with fail
  refine (HFi.out _ HB0.out).mono ?_
  rintro e w1 ⟨⟨r, rfl, hr⟩, hb1⟩
  have HB1 := Lib.hid (below_on HB0.out hb1)
  have HO1 := Lib.hid (ownI_below HE0.out hb1)
  have hfd := hr.find
  clear hb1 hr
  rcases hfd with ⟨rfl, hf⟩ | ⟨m, d, rfl, hd, -, hf⟩
  · obtain rfl := HN2.out hf
    clear hf
    go_wp2
    go_loopw [7, 9] (fun v i wr => v = .slice (some ⟨w.heap.size, 0, none⟩) 0 0 ∧ i = .int .i64 0 ∧ wr = w1) (fun _ _ _ => 0)
    case atStart => exact ⟨rfl, rfl, rfl⟩
    case round =>
      obtain ⟨rfl, rfl, rfl⟩ := hrel
      by_cases hlt : 0 < n
      · have hlt' : (0 : Int) < (n : Int) := by omega
        go_wp2
        go_ret
        exact ⟨⟨_, rfl, HO1.out⟩, HB1.out⟩
      · obtain rfl : n = 0 := by omega
        go_wp2
        go_ret
        exact ⟨⟨_, rfl, HO1.out⟩, HB1.out⟩
  · rw [List.getElem?_map] at hd
    obtain ⟨y, hy, rfl⟩ := Option.map_eq_some_iff.1 hd
    obtain ⟨hold, hH⟩ := HK.out y (mem_of_at hy) hf
    have HH := Lib.hid hH
    have HY := Lib.hid hy
    have hmn : m < n := by
      rw [← HX.out.1]
      exact (List.getElem?_eq_some_iff.1 hy).1
    clear hd hf hH hy
    go_wp2
    go_loopw [7, 9] (fun v i wr => ∃ k : Nat, k ≤ n ∧ i = .int .i64 k ∧ (0 < k → q = true) ∧ OwnI wr w.heap.size v (idL ((its.take k).filter hold)) ∧ Below w.heap.size w wr) (fun _ i _ => n - (intOf i).toNat)
    case atStart => exact ⟨0, Nat.zero_le _, rfl, fun h => by omega, HO1.out, HB1.out⟩
    case round =>
      obtain ⟨k, hk, rfl, hkq, hown, hbel⟩ := hrel
      have HKq := Lib.hid hkq
      have HO := Lib.hid hown
      have HB := Lib.hid hbel
      clear hown hkq
      by_cases hlt : k < n
      · have hlt0 : (k : Int) < (n : Int) := by omega
        have hm0' : (0 : Int) ≤ (m : Int) := by omega
        clear hbel
        go_wp2_with fail
        refine (HFn.out _ HB.out).mono ?_
        rintro e w2 ⟨rfl, hb2⟩
        have HB2 := Lib.hid (below_on HB.out hb2)
        have HO2 := Lib.hid (ownI_below HO.out hb2)
        have hbel := HB2.out
        clear hb2 hlt0
        cases q
        · obtain rfl : k = 0 := by
            rcases Nat.eq_zero_or_pos k with e | e
            · exact e
            · cases HKq.out e
          obtain rfl := HN.out (by first | rfl | trivial)
          go_wp2
          go_ret
          exact ⟨⟨_, rfl, HO2.out⟩, HB2.out⟩
        · have HC := Lib.hid (HH.out (by first | rfl | trivial)).2
          clear HO HB
          have HO := HO2
          have HB := HB2
          clear HO2 HB2
          obtain ⟨b1, off, x, rfl, hb1, hat, d0, d1, -⟩ := HX.out.at k hlt
          have hbw : b1 < w.heap.size := Nat.lt_of_lt_of_le hb1 hB
          have HAt := Lib.hid hat
          have HD := Lib.hid (And.intro d0 d1)
          have hlt' : (k : Int) < (n : Int) := by omega
          have hk0 : (0 : Int) ≤ (k : Int) := by omega
          clear d0 d1 hat
          have hmt := hmn
          obtain ⟨b2, off2, y2, hA2, hb2, hat, d0, d1, -⟩ := HX.out.at m hmt
          injection hA2 with hA2
          injection hA2 with e1 e2
          subst e1 e2
          obtain rfl : y = y2 := Option.some.inj (HY.out.symm.trans hat)
          have HAt2 := Lib.hid hat
          have HD2 := Lib.hid (And.intro d0 d1)
          have hmt' : (m : Int) < (n : Int) := by omega
          have HS : Hid (∀ w', Below w.heap.size w w' → w'.cell? ⟨b1, off + k * 2, none⟩ = some (.int .i64 x.id) ∧ w'.cell? ⟨b1, off + k * 2 + 1, none⟩ = some (.slice x.A x.n x.c) ∧ w'.cell? ⟨b1, off + m * 2, none⟩ = some (.int .i64 y.id) ∧ w'.cell? ⟨b1, off + m * 2 + 1, none⟩ = some (.slice y.A y.n y.c)) := Lib.hid fun W h => ⟨(h.cell (p := ⟨b1, off + k * 2, none⟩) hbw).trans HD.out.1, (h.cell (p := ⟨b1, off + k * 2 + 1, none⟩) hbw).trans HD.out.2, (h.cell (p := ⟨b1, off + m * 2, none⟩) hbw).trans HD2.out.1, (h.cell (p := ⟨b1, off + m * 2 + 1, none⟩) hbw).trans HD2.out.2⟩
          clear d0 d1 hat
          have f1 := (hbel.cell (p := ⟨b1, off + k * 2, none⟩) hbw).trans HD.out.1
          have HF1 := Lib.hid f1
          have HLn : Hid (((idL ((its.take k).filter hold)).length + [x.id].length) * 8 ≤ 140737488355328) := Lib.hid (by
            have h1 := fil_len its hold k
            simp only [List.length_cons, List.length_nil]
            omega)
          clear f1 hbel
          go_wp2
          have hS0 : (fun w' => w'.cell? ⟨b1, off + k * 2, none⟩ = some (.int .i64 x.id) ∧ w'.cell? ⟨b1, off + k * 2 + 1, none⟩ = some (.slice x.A x.n x.c) ∧ w'.cell? ⟨b1, off + m * 2, none⟩ = some (.int .i64 y.id) ∧ w'.cell? ⟨b1, off + m * 2 + 1, none⟩ = some (.slice y.A y.n y.c)) (World.drew w2) := HS.out _ HB.out.drew
          refine wp_region_held (S := fun w' => w'.cell? ⟨b1, off + k * 2, none⟩ = some (.int .i64 x.id) ∧ w'.cell? ⟨b1, off + k * 2 + 1, none⟩ = some (.slice x.A x.n x.c) ∧ w'.cell? ⟨b1, off + m * 2, none⟩ = some (.int .i64 y.id) ∧ w'.cell? ⟨b1, off + m * 2 + 1, none⟩ = some (.slice y.A y.n y.c)) (by kernel_rfl) ?_
          change wpAnyH _ _ _ _ _ _ _ _ (World.drew _)
          refine takeY 29 (i := 0) (v := ?v0c) rfl rfl (by kernel_rfl) (by kernel_rfl) (by kernel_rfl) (fun _ _ _ h => h) (by kernel_rfl) ?y0c hS0 ?_
          case y0c =>
            intro w' hw'; (try dsimp only at hw'); obtain ⟨x_0, x_1, y_0, y_1⟩ := hw'; go_simp; try with_reducible rfl
          simp only [Act.put, List.setIfInBounds_toArray, List.set_cons_zero, List.set_cons_succ]
          refine takeY 30 (i := 1) (v := ?v1c) rfl rfl (by kernel_rfl) (by kernel_rfl) (by kernel_rfl) (fun _ _ _ h => h) (by kernel_rfl) ?y1c hS0 ?_
          case y1c =>
            intro w' hw'; (try dsimp only at hw'); obtain ⟨x_0, x_1, y_0, y_1⟩ := hw'; go_simp; try with_reducible rfl
          simp only [Act.put, List.setIfInBounds_toArray, List.set_cons_zero, List.set_cons_succ]
          refine takeY 31 (i := 2) (v := ?v2c) rfl rfl (by kernel_rfl) (by kernel_rfl) (by kernel_rfl) (fun _ _ _ h => h) (by kernel_rfl) ?y2c hS0 ?_
          case y2c =>
            intro w' hw'; (try dsimp only at hw'); obtain ⟨x_0, x_1, y_0, y_1⟩ := hw'; go_simp; try with_reducible rfl
          simp only [Act.put, List.setIfInBounds_toArray, List.set_cons_zero, List.set_cons_succ]
          refine takeY 32 (i := 3) (v := ?v3c) rfl rfl (by kernel_rfl) (by kernel_rfl) (by kernel_rfl) (fun _ _ _ h => h) (by kernel_rfl) ?y3c hS0 ?_
          case y3c =>
            intro w' hw'; (try dsimp only at hw'); obtain ⟨x_0, x_1, y_0, y_1⟩ := hw'; go_simp; try with_reducible rfl
          simp only [Act.put, List.setIfInBounds_toArray, List.set_cons_zero, List.set_cons_succ]
          refine takeY 33 (i := 4) (v := ?v4c) rfl rfl (by kernel_rfl) (by kernel_rfl) (by kernel_rfl) (fun _ _ _ h => h) (by kernel_rfl) ?y4c hS0 ?_
          case y4c =>
            intro w' hw'; (try dsimp only at hw'); obtain ⟨x_0, x_1, y_0, y_1⟩ := hw'; go_simp; try with_reducible rfl
          simp only [Act.put, List.setIfInBounds_toArray, List.set_cons_zero, List.set_cons_succ]
          refine takeY 34 (i := 5) (v := ?v5c) rfl rfl (by kernel_rfl) (by kernel_rfl) (by kernel_rfl) (fun _ _ _ h => h) (by kernel_rfl) ?y5c hS0 ?_
          case y5c =>
            intro w' hw'; (try dsimp only at hw'); obtain ⟨x_0, x_1, y_0, y_1⟩ := hw'; go_simp; try with_reducible rfl
          simp only [Act.put, List.setIfInBounds_toArray, List.set_cons_zero, List.set_cons_succ]
          refine takeY 35 (i := 6) (v := ?v6c) rfl rfl (by kernel_rfl) (by kernel_rfl) (by kernel_rfl) (fun _ _ _ h => h) (by kernel_rfl) ?y6c hS0 ?_
          case y6c =>
            intro w' hw'; (try dsimp only at hw'); obtain ⟨x_0, x_1, y_0, y_1⟩ := hw'; go_simp; try with_reducible rfl
          simp only [Act.put, List.setIfInBounds_toArray, List.set_cons_zero, List.set_cons_succ]
          refine takeY 36 (i := 7) (v := ?v7c) rfl rfl (by kernel_rfl) (by kernel_rfl) (by kernel_rfl) (fun _ _ _ h => h) (by kernel_rfl) ?y7c hS0 ?_
          case y7c =>
            intro w' hw'; (try dsimp only at hw'); obtain ⟨x_0, x_1, y_0, y_1⟩ := hw'; go_simp; try with_reducible rfl
          simp only [Act.put, List.setIfInBounds_toArray, List.set_cons_zero, List.set_cons_succ]
          refine takeY 37 (i := 8) (v := ?v8c) rfl rfl (by kernel_rfl) (by kernel_rfl) (by kernel_rfl) (fun _ _ _ h => h) (by kernel_rfl) ?y8c hS0 ?_
          case y8c =>
            intro w' hw'; (try dsimp only at hw'); obtain ⟨x_0, x_1, y_0, y_1⟩ := hw'; go_simp; try with_reducible rfl
          simp only [Act.put, List.setIfInBounds_toArray, List.set_cons_zero, List.set_cons_succ]
          refine wpAnyH_ready (rs := [9]) (by kernel_rfl) (by simp) ?_
          refine AllReadyH.cons rfl (fun K hK => ?_) AllReadyH.nil
          go_simp; go_at_call 42; refine (HC.out _ HB.out.drew x (mem_of_at HAt.out)).mono ?_; rintro e w3 ⟨⟨z, rfl, hz⟩, hb3⟩; have HZ := Lib.hid hz; clear hz; have HB3 := Lib.hid (below_on HB.out.drew hb3); have HO3 := Lib.hid (ownI_below (ownI_below HO.out (Below.refl _ _).drew) hb3); clear hb3
          refine hK.out _ _ (HS.out _ HB3.out) (fun hS1 => ?_)
          clear hK K
          try simp only [Act.put, List.setIfInBounds_toArray, List.set_cons_zero, List.set_cons_succ]
          refine takeY 39 (i := 10) (v := ?v10c) rfl rfl (by kernel_rfl) (by kernel_rfl) (by kernel_rfl) (fun _ _ _ h => h) (by kernel_rfl) ?y10c hS1 ?_
          case y10c =>
            intro w' hw'; (try dsimp only at hw'); obtain ⟨x_0, x_1, y_0, y_1⟩ := hw'; go_simp; try with_reducible rfl
          simp only [Act.put, List.setIfInBounds_toArray, List.set_cons_zero, List.set_cons_succ]
          refine wpAnyH_done (by kernel_rfl) ?_ _
          clear hS0 hS1
          obtain ⟨zz, hzz⟩ : ∃ zz, hold x = zz := ⟨_, rfl⟩
          have hz1 : (z == 1) = zz := HZ.out.trans hzz
          have HZz := Lib.hid hzz
          clear hzz
          cases zz
          · go_wp2
            go_roundw
            case rel => exact ⟨k + 1, by omega, by go_num, fun _ => by first | rfl | trivial, by rw [fil_snoc HAt.out, HZz.out]; simpa using HO3.out, HB3.out⟩
            case measure => simp [intOf]; omega
          · have f1 := (HB3.out.cell (p := ⟨b1, off + k * 2, none⟩) hbw).trans HD.out.1
            go_wp2_with (at_builtin; refine wp_appI w3 (by rfl) (.tmp 40) (.tmp 46) (by rfl) w.heap.size _ _ (by rfl) HO3.out _ [x.id] (by rfl) 1 1 rfl (by rfl) HLn.out HB3.out.size ?_)
            intro v1 w4 hown4 hb4
            have HO4 := Lib.hid hown4
            have HB4 := Lib.hid (HB3.out.trans hb4)
            clear hown4 hb4 f1
            go_wp2
            go_roundw
            case rel => exact ⟨k + 1, by omega, by go_num, fun _ => by first | rfl | trivial, by rw [fil_snoc HAt.out, HZz.out]; exact HO4.out, HB4.out⟩
            case measure => simp [intOf]; omega
      · obtain rfl : k = n := by omega
        have HO' : Hid (OwnI wr w.heap.size u7 (idL (its.filter hold))) := Lib.hid (by have h := HO.out; rwa [take_all HX.out.1] at h)
        have hq' : q = true := HKq.out (by omega)
        obtain rfl := (HH.out hq').1
        clear hbel
        go_wp2
        go_ret
        exact ⟨⟨_, rfl, HO'.out⟩, HB.out⟩
set_option maxRecDepth 20000 in
set_option maxHeartbeats 1600000 in
theorem sRankB (w : World) (B : Nat) (A : Option Addr) (n c : Nat) (its : List It) (A2 : Option Addr) (n2 c2 : Nat) (ns : List Nd) (h : InB w B A n its A2 n2 c2 ns) (x0 : Int) (L : Int) (hL : RankP (datN ns) (its.map It.dat) x0 L) :
    Calls Try.prog 32 #[.slice A n c, .slice A2 n2 c2, .int .i64 x0] w fun e w' => e = .returned (.int .i64 L) ∧ Below w.heap.size w w' := by
  obtain ⟨q, hq⟩ := bool_of (IsE (datN ns) ∧ AreP (its.map It.dat))
  have HFn : Hid (∀ w1, Below w.heap.size w w1 → Calls Try.prog 23 #[.slice A n c, .slice A2 n2 c2] w1 fun e w' => e = .returned (.bool q) ∧ Below w1.heap.size w1 w') := Lib.hid fun w1 h1 => sFine w1 B A n c its A2 n2 c2 ns (h.below h1) q hq
  have HFi : Hid (∀ w1, Below w.heap.size w w1 → Calls Try.prog 22 #[.slice A n c, .int .i64 x0] w1 fun e w' => (∃ r, e = .returned (.int .i64 r) ∧ FindP (its.map It.dat) x0 r) ∧ Below w1.heap.size w1 w') := Lib.hid fun w1 h1 => sFind w1 B A n c its (h.below h1).i (h.below h1).hB h.hn x0
  obtain ⟨D, hD⟩ := AnsP.some (datN ns) (its.map It.dat) (fun t => onFind (its.map It.dat) x0 [] fun d => idsD (domD t (its.map It.dat) d)) []
  replace hD : DomP (datN ns) (its.map It.dat) x0 D := hD
  have HDo : Hid (∀ w1, Below w.heap.size w w1 → Calls Try.prog 52 #[.slice A n c, .slice A2 n2 c2, .int .i64 x0] w1 fun e w' => (∃ v, e = .returned v ∧ OwnI w' w1.heap.size v D) ∧ Below w1.heap.size w1 w') := Lib.hid fun w1 h1 => sDom w1 B A n c its A2 n2 c2 ns (h.below h1) x0 D hD
  have HN : Hid (q = false → L = -1) := Lib.hid fun hqf => hL.no (fun hh => by rw [hq.2 hh] at hqf; cases hqf)
  have HN2 : Hid (q = true → findD (its.map It.dat) x0 = none → L = -1) := Lib.hid fun hqt hf => by
    obtain ⟨t, ht⟩ := (hq.1 hqt).1.2
    rw [hL.yes (hq.1 hqt).1 (hq.1 hqt).2 ht, onFind_none hf]
  have HY : Hid (q = true → ∀ d, findD (its.map It.dat) x0 = some d → L = D.length) := Lib.hid fun hqt d hf => rank_dom hL hD (hq.1 hqt).1 (hq.1 hqt).2 hf
  clear h hL hq hD
  go_enter Try.func32, Try.ntmps32
  go_wp2_with fail
  refine (HFn.out _ (Below.refl _ _)).mono ?_
  rintro e w1 ⟨rfl, hb1⟩
  have HB1 := Lib.hid hb1
  clear hb1
  cases q
  · obtain rfl := HN.out (by first | rfl | trivial)
    go_wp2
    go_ret
    exact ⟨rfl, HB1.out⟩
  · go_wp2_with fail
    refine (HFi.out _ HB1.out).mono ?_
    rintro e w2 ⟨⟨r, rfl, hr⟩, hb2⟩
    have HB2 := Lib.hid (below_on HB1.out hb2)
    have hfd := hr.find
    clear hb2 hr
    rcases hfd with ⟨rfl, hf⟩ | ⟨m, d, rfl, -, -, hf⟩
    · obtain rfl := HN2.out (by first | rfl | trivial) hf
      clear hf
      go_wp2
      go_ret
      exact ⟨rfl, HB2.out⟩
    · obtain rfl := HY.out (by first | rfl | trivial) d hf
      clear hf
      have hm : decide ((m : Int) < 0) = false := by simp
      go_wp2_with fail
      refine (HDo.out _ HB2.out).mono ?_
      rintro e w3 ⟨⟨v, rfl, ho⟩, hb3⟩
      have HB3 := Lib.hid (below_on HB2.out hb3)
      obtain ⟨A', n', c', rfl, hi⟩ := ho.ints
      have HL := Lib.hid hi.1
      clear ho hb3 hi
      go_wp2
      go_ret
      exact ⟨by rw [HL.out]; rfl, HB3.out⟩
end Go.Proofs.Ytnjnlcmddcjcfaa.num
