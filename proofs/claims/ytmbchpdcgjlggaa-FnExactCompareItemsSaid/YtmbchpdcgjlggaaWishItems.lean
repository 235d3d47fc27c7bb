/-
  CompareItems of the model and of the program: contracts.
-/
import Derived.Test.YtmbchpdcgjlggaaWishLaw
import Derived.Test.YtmbchpdcgjlggaaWishSpecD
import Derived.Test.YtmbchpdcgjlggaaWishProgB
import Derived.Test.YtmbchpdcgjlggaaItemImpl
namespace Go.Proofs.Ytmbchpdcgjlggaa.num
set_option maxRecDepth 20000
open Go.RowKit Go.Maps
set_option linter.unusedVariables false

/-- The value of an item's field. -/
def fval (t : It) (f : Int) : Int := t.xs.getD f.toNat 0
theorem fval_in {t : It} (h : IsP t.dat) {f : Int} (hf : 0 ≤ f ∧ f ≤ 2) : InR (fval t f) := by
  obtain ⟨h1, _, h3⟩ := h
  have hl : t.xs.length = 3 := h3
  unfold fval
  rw [List.getD_eq_getElem?_getD, List.getElem?_eq_getElem (by omega)]
  exact h1 _ (List.getElem_mem _)
theorem fval_dat {t t' : It} (h : t'.dat = t.dat) (f : Int) : fval t' f = fval t f := by unfold fval; rw [show t'.xs = t.xs from congrArg Prod.snd h]
theorem cmpV_dat {t t' : Wi} {x x' y y' : It} {q : Bool} (h : t'.dat = t.dat) (hx : x'.dat = x.dat) (hy : y'.dat = y.dat) : cmpV t'.dat q (fval x' t'.field) (fval y' t'.field) = cmpV t.dat q (fval x t.field) (fval y t.field) := by
  rw [h, fval_dat hx, fval_dat hy, show t'.field = t.field from congrArg WD.field h]
/-- The cell of an item's field. -/
theorem fval_cell {w : World} {B : Nat} {t : It} (hi : Ints w B t.A t.n t.xs) (h : IsP t.dat) {f : Int} (hf : 0 ≤ f ∧ f ≤ 2) : ∃ b off : Nat, t.A = some ⟨b, off, none⟩ ∧ b < B ∧ (f.toNat : Int) = f ∧ f < (t.n : Int) ∧ w.cell? ⟨b, off + f.toNat, none⟩ = some (.int .i64 (fval t f)) := by
  have hl : t.xs.length = 3 := h.2.2
  have hn : t.n = 3 := hi.1.symm.trans hl
  obtain ⟨b, off, h1, h2, h3⟩ := hi.2 f.toNat (by omega)
  exact ⟨b, off, h1, h2, by omega, by omega, h3⟩

set_option maxRecDepth 20000 in
set_option maxHeartbeats 1600000 in
theorem sCmpItems (w : World) (B : Nat) (t : Wi) (x y : It) (hi : WiIn w B t) (hx : Ints w B x.A x.n x.xs) (hy : Ints w B y.A y.n y.xs) (hB : B ≤ w.heap.size) (hn : t.Short) (nx : x.n ≤ 1048576) (ny : y.n ≤ 1048576) (q : Bool) (hq : q = true ↔ IsW t.dat ∧ IsP x.dat ∧ IsP y.dat) :
    Calls Try.prog 23 #[t.val, x.val, y.val] w fun e w' => e = .returned (.int .i64 (cmpV t.dat q (fval x t.field) (fval y t.field))) ∧ Below w.heap.size w w' := by
  have HI := Lib.hid hi
  have HX := Lib.hid hx
  have HY := Lib.hid hy
  have HB3 : Hid (∀ o1 o2 o3 : Obj, Below B w (((w.alloc o1).alloc o2).alloc o3)) := Lib.hid fun o1 o2 o3 => below3 hB o1 o2 o3
  have HW3 : Hid (∀ o1 o2 o3 : Obj, Below w.heap.size w (((w.alloc o1).alloc o2).alloc o3)) := Lib.hid fun o1 o2 o3 => below3 (Nat.le_refl _) o1 o2 o3
  obtain ⟨qw, hqw⟩ := bool_of (IsW t.dat)
  obtain ⟨qx, hqx⟩ := bool_of (IsP x.dat)
  obtain ⟨qy, hqy⟩ := bool_of (IsP y.dat)
  have HQX := Lib.hid hqx
  have HQY := Lib.hid hqy
  have HNo : Hid ((qw = false ∨ qx = false ∨ qy = false) → q = false) := Lib.hid fun h => by
    cases q
    · rfl
    · obtain ⟨h1, h2, h3⟩ := hq.1 rfl
      rcases h with h | h | h
      · rw [hqw.2 h1] at h; cases h
      · rw [hqx.2 h2] at h; cases h
      · rw [hqy.2 h3] at h; cases h
  have HYes : Hid (qw = true → qx = true → qy = true → q = true) := Lib.hid fun h1 h2 h3 => hq.2 ⟨hqw.1 h1, hqx.1 h2, hqy.1 h3⟩
  have HV : Hid (q = false → cmpV t.dat q (fval x t.field) (fval y t.field) = 2) := Lib.hid fun h => by subst h; rfl
  have HU : Hid (q = true → cmpV t.dat q (fval x t.field) (fval y t.field) = cmpW t.dat (fval x t.field) (fval y t.field)) := Lib.hid fun h => by subst h; rfl
  have HFx : Hid (q = true → InR (fval x t.field) ∧ InR (fval y t.field) ∧ 0 ≤ t.field ∧ t.field ≤ 2) := Lib.hid fun h => by
    obtain ⟨h1, h2, h3⟩ := hq.1 h
    exact ⟨fval_in h2 h1.f, fval_in h3 h1.f, h1.f⟩
  have HCx : Hid (q = true → ∃ b off : Nat, x.A = some ⟨b, off, none⟩ ∧ b < B ∧ (t.field.toNat : Int) = t.field ∧ t.field < (x.n : Int) ∧ w.cell? ⟨b, off + t.field.toNat, none⟩ = some (.int .i64 (fval x t.field))) := Lib.hid fun h => fval_cell hx (hq.1 h).2.1 (hq.1 h).1.f
  have HCy : Hid (q = true → ∃ b off : Nat, y.A = some ⟨b, off, none⟩ ∧ b < B ∧ (t.field.toNat : Int) = t.field ∧ t.field < (y.n : Int) ∧ w.cell? ⟨b, off + t.field.toNat, none⟩ = some (.int .i64 (fval y t.field))) := Lib.hid fun h => fval_cell hy (hq.1 h).2.2 (hq.1 h).1.f
  have HS : Hid (∀ w1 : World, WiIn w1 B t → B ≤ w1.heap.size → Calls Try.prog 16 #[t.val] w1 fun e w' => e = .returned (.bool qw) ∧ Below w1.heap.size w1 w') := Lib.hid fun w1 h1 h2 => sIsWish w1 B t h1 h2 hn qw hqw
  have HR : Hid (∀ w1 : World, WiIn w1 B t → B ≤ w1.heap.size → q = true → Calls Try.prog 69 #[t.val, .int .i64 (fval x t.field), .int .i64 (fval y t.field)] w1 fun e w' => e = .returned (.int .i64 (cmpV t.dat q (fval x t.field) (fval y t.field))) ∧ Below w1.heap.size w1 w') := Lib.hid fun w1 h1 h2 h => by
    obtain ⟨r1, r2, -, -⟩ := HFx.out h
    rw [HU.out h]
    exact sCmp w1 B t h1 h2 hn (hq.1 h).1 _ _ r1 r2
  clear hi hx hy hq hqw hqx hqy HU
  generalize cmpV t.dat q (fval x t.field) (fval y t.field) = z at *
  have hval : t.val = .agg #[.int .i64 t.kind, .int .i64 t.field, .int .i64 t.value, .slice t.LA t.Ln t.Lc, .slice t.PA t.Pn t.Pc] := rfl
  have hvx : x.val = .agg #[.int .i64 x.id, .slice x.A x.n x.c] := rfl
  have hvy : y.val = .agg #[.int .i64 y.id, .slice y.A y.n y.c] := rfl
  rw [hval] at HS HR ⊢
  rw [hvx, hvy]
  clear hval hvx hvy
  go_enter Try.func23, Try.ntmps23
  go_wp2_with fail
  refine (HS.out _ (HI.out.below (HB3.out _ _ _)) (by simp; omega)).mono ?_
  rintro e w1 ⟨rfl, hb1⟩
  have HBB := Lib.hid (And.intro (below_on (HW3.out _ _ _) hb1) ((HB3.out _ _ _).trans (hb1.mono (by simp; omega))))
  have Xt := Lib.hid ((((Box5.new w t 30).alloc _).alloc _).below hb1)
  have Xx := Lib.hid (((Box2.new (w.alloc (.cells #[.int .i64 t.kind, .int .i64 t.field, .int .i64 t.value, .slice t.LA t.Ln t.Lc, .slice t.PA t.Pn t.Pc] 30)) x 40).alloc _).below hb1)
  have Xy := Lib.hid ((Box2.new ((w.alloc (.cells #[.int .i64 t.kind, .int .i64 t.field, .int .i64 t.value, .slice t.LA t.Ln t.Lc, .slice t.PA t.Pn t.Pc] 30)).alloc (.cells #[.int .i64 x.id, .slice x.A x.n x.c] 40)) y 40).below hb1)
  clear hb1
  obtain ⟨t_g, t_0, t_1, t_2, t_3, t_4⟩ := Xt.out
  obtain ⟨x_g, x_0, x_1⟩ := Xx.out
  obtain ⟨y_g, y_0, y_1⟩ := Xy.out
  simp only [World.size_alloc] at x_g x_0 x_1 y_g y_0 y_1
  cases qw
  · obtain rfl := HNo.out (.inl rfl)
    obtain rfl := HV.out rfl
    go_wp2
    go_ret
    exact ⟨rfl, HBB.out.1⟩
  cases qx
  · obtain rfl := HNo.out (.inr (.inl rfl))
    obtain rfl := HV.out rfl
    go_wp2_with fail
    refine (sIsItem _ B x (HX.out.below HBB.out.2) (Nat.le_trans hB HBB.out.1.size) nx false HQX.out).mono ?_
    rintro e w2 ⟨rfl, hb2⟩
    have HBC := Lib.hid (below_on HBB.out.1 hb2)
    clear t_g t_0 t_1 t_2 t_3 t_4 x_g x_0 x_1 y_g y_0 y_1
    clear hb2
    go_wp2
    go_ret
    exact ⟨rfl, HBC.out⟩
  have HPx := Lib.hid (HQX.out.1 rfl)
  clear HQX
  cases qy
  · obtain rfl := HNo.out (.inr (.inr rfl))
    obtain rfl := HV.out rfl
    go_wp2_with fail
    refine (sIsItem _ B x (HX.out.below HBB.out.2) (Nat.le_trans hB HBB.out.1.size) nx true ⟨fun _ => HPx.out, fun _ => rfl⟩).mono ?_
    rintro e w2 ⟨rfl, hb2⟩
    have HD2 := Lib.hid hb2
    have HBB2 := Lib.hid (And.intro (below_on HBB.out.1 hb2) (HBB.out.2.trans (hb2.mono (Nat.le_trans hB HBB.out.1.size))))
    have Xt2 := Lib.hid (Xt.out.below hb2)
    have Xx2 := Lib.hid (Xx.out.below hb2)
    have Xy2 := Lib.hid (Xy.out.below hb2)
    clear t_g t_0 t_1 t_2 t_3 t_4 x_g x_0 x_1 y_g y_0 y_1
    clear hb2
    obtain ⟨t_g, t_0, t_1, t_2, t_3, t_4⟩ := Xt2.out
    obtain ⟨x_g, x_0, x_1⟩ := Xx2.out
    obtain ⟨y_g, y_0, y_1⟩ := Xy2.out
    simp only [World.size_alloc] at x_g x_0 x_1 y_g y_0 y_1
    go_wp2_with fail
    refine (sIsItem _ B y (HY.out.below HBB2.out.2) (Nat.le_trans hB HBB2.out.1.size) ny false HQY.out).mono ?_
    rintro e w3 ⟨rfl, hb3⟩
    have HBC := Lib.hid (below_on HBB2.out.1 hb3)
    clear t_g t_0 t_1 t_2 t_3 t_4 x_g x_0 x_1 y_g y_0 y_1
    clear hb3
    go_wp2
    go_ret
    exact ⟨rfl, HBC.out⟩
  have HPy := Lib.hid (HQY.out.1 rfl)
  clear HQY
  obtain rfl := HYes.out rfl rfl rfl
  go_wp2_with fail
  refine (sIsItem _ B x (HX.out.below HBB.out.2) (Nat.le_trans hB HBB.out.1.size) nx true ⟨fun _ => HPx.out, fun _ => rfl⟩).mono ?_
  rintro e w2 ⟨rfl, hb2⟩
  have HD2 := Lib.hid hb2
  have HBB2 := Lib.hid (And.intro (below_on HBB.out.1 hb2) (HBB.out.2.trans (hb2.mono (Nat.le_trans hB HBB.out.1.size))))
  have Xt2 := Lib.hid (Xt.out.below hb2)
  have Xx2 := Lib.hid (Xx.out.below hb2)
  have Xy2 := Lib.hid (Xy.out.below hb2)
  clear t_g t_0 t_1 t_2 t_3 t_4 x_g x_0 x_1 y_g y_0 y_1
  clear hb2
  obtain ⟨t_g, t_0, t_1, t_2, t_3, t_4⟩ := Xt2.out
  obtain ⟨x_g, x_0, x_1⟩ := Xx2.out
  obtain ⟨y_g, y_0, y_1⟩ := Xy2.out
  simp only [World.size_alloc] at x_g x_0 x_1 y_g y_0 y_1
  go_wp2_with fail
  refine (sIsItem _ B y (HY.out.below HBB2.out.2) (Nat.le_trans hB HBB2.out.1.size) ny true ⟨fun _ => HPy.out, fun _ => rfl⟩).mono ?_
  rintro e w3 ⟨rfl, hb3⟩
  have HD3 := Lib.hid hb3
  have HBB3 := Lib.hid (And.intro (below_on HBB2.out.1 hb3) (HBB2.out.2.trans (hb3.mono (Nat.le_trans hB HBB2.out.1.size))))
  have Xt3 := Lib.hid (Xt2.out.below hb3)
  have Xx3 := Lib.hid (Xx2.out.below hb3)
  have Xy3 := Lib.hid (Xy2.out.below hb3)
  clear t_g t_0 t_1 t_2 t_3 t_4 x_g x_0 x_1 y_g y_0 y_1
  clear hb3
  obtain ⟨bx, ox, hxA, hbx, hfn, hfx, cx0⟩ := HCx.out (by first | rfl | trivial)
  obtain ⟨by', oy, hyA, hby, -, hfy, cy0⟩ := HCy.out (by first | rfl | trivial)
  have cx : w3.cell? ⟨bx, ox + t.field.toNat, none⟩ = some (.int .i64 (fval x t.field)) := (HBB3.out.2.cell (p := ⟨bx, ox + t.field.toNat, none⟩) hbx).trans cx0
  have cy : w3.cell? ⟨by', oy + t.field.toNat, none⟩ = some (.int .i64 (fval y t.field)) := (HBB3.out.2.cell (p := ⟨by', oy + t.field.toNat, none⟩) hby).trans cy0
  obtain ⟨hvx', hvy', hf0, hf2⟩ := HFx.out (by first | rfl | trivial)
  have hbx3 : bx < w3.heap.size := by have := HBB3.out.1.size; omega
  have hby3 : by' < w3.heap.size := by have := HBB3.out.1.size; omega
  have hfw : IntKind.i64.wrap t.field = t.field := IntWalk.i64_in _ ⟨by omega, by omega⟩
  have HVR := Lib.hid (And.intro hvx' hvy')
  clear cx0 cy0 hvx' hvy'
  obtain ⟨t_g, t_0, t_1, t_2, t_3, t_4⟩ := Xt3.out
  obtain ⟨x_g, x_0, x_1⟩ := Xx3.out
  obtain ⟨y_g, y_0, y_1⟩ := Xy3.out
  simp only [World.size_alloc] at x_g x_0 x_1 y_g y_0 y_1
  rw [hxA] at x_1
  rw [hyA] at y_1
  go_wp2
  have hs0 : (fun w' => Below w3.heap.size w3 w' ∧ w'.cell? ⟨w.heap.size, 0, none⟩ = some (.int .i64 t.kind) ∧ w'.cell? ⟨w.heap.size, 1, none⟩ = some (.int .i64 t.field) ∧ w'.cell? ⟨w.heap.size, 2, none⟩ = some (.int .i64 t.value) ∧ w'.cell? ⟨w.heap.size, 3, none⟩ = some (.slice t.LA t.Ln t.Lc) ∧ w'.cell? ⟨w.heap.size, 4, none⟩ = some (.slice t.PA t.Pn t.Pc) ∧ w'.cell? ⟨w.heap.size + 1, 0, none⟩ = some (.int .i64 x.id) ∧ w'.cell? ⟨w.heap.size + 1, 1, none⟩ = some (.slice (some ⟨bx, ox, none⟩) x.n x.c) ∧ w'.cell? ⟨w.heap.size + 1 + 1, 0, none⟩ = some (.int .i64 y.id) ∧ w'.cell? ⟨w.heap.size + 1 + 1, 1, none⟩ = some (.slice (some ⟨by', oy, none⟩) y.n y.c) ∧ w'.cell? ⟨bx, ox + t.field.toNat, none⟩ = some (.int .i64 (fval x t.field)) ∧ w'.cell? ⟨by', oy + t.field.toNat, none⟩ = some (.int .i64 (fval y t.field))) w3.drew := ⟨(Below.refl _ _).drew, t_0, t_1, t_2, t_3, t_4, x_0, x_1, y_0, y_1, cx, cy⟩
  refine wp_region_held (S := fun w' => Below w3.heap.size w3 w' ∧ w'.cell? ⟨w.heap.size, 0, none⟩ = some (.int .i64 t.kind) ∧ w'.cell? ⟨w.heap.size, 1, none⟩ = some (.int .i64 t.field) ∧ w'.cell? ⟨w.heap.size, 2, none⟩ = some (.int .i64 t.value) ∧ w'.cell? ⟨w.heap.size, 3, none⟩ = some (.slice t.LA t.Ln t.Lc) ∧ w'.cell? ⟨w.heap.size, 4, none⟩ = some (.slice t.PA t.Pn t.Pc) ∧ w'.cell? ⟨w.heap.size + 1, 0, none⟩ = some (.int .i64 x.id) ∧ w'.cell? ⟨w.heap.size + 1, 1, none⟩ = some (.slice (some ⟨bx, ox, none⟩) x.n x.c) ∧ w'.cell? ⟨w.heap.size + 1 + 1, 0, none⟩ = some (.int .i64 y.id) ∧ w'.cell? ⟨w.heap.size + 1 + 1, 1, none⟩ = some (.slice (some ⟨by', oy, none⟩) y.n y.c) ∧ w'.cell? ⟨bx, ox + t.field.toNat, none⟩ = some (.int .i64 (fval x t.field)) ∧ w'.cell? ⟨by', oy + t.field.toNat, none⟩ = some (.int .i64 (fval y t.field))) (by kernel_rfl) ?_
  change wpAnyH _ _ _ _ _ _ _ _ (World.drew _)
  refine takeY 20 (i := 0) (v := ?v0a) rfl rfl (by kernel_rfl) (by kernel_rfl) (by kernel_rfl) (fun _ _ _ h => h) (by kernel_rfl) ?y0a hs0 ?_
  case y0a =>
    intro w' hw'; (try dsimp only at hw'); obtain ⟨e0, e1, e2, e3, e4, e5, e6, e7, e8, e9, e10, e11⟩ := hw'; go_simp; try with_reducible rfl
  simp only [Act.put, List.setIfInBounds_toArray, List.set_cons_zero, List.set_cons_succ]
  refine takeY 21 (i := 1) (v := ?v1a) rfl rfl (by kernel_rfl) (by kernel_rfl) (by kernel_rfl) (fun _ _ _ h => h) (by kernel_rfl) ?y1a hs0 ?_
  case y1a =>
    intro w' hw'; (try dsimp only at hw'); obtain ⟨e0, e1, e2, e3, e4, e5, e6, e7, e8, e9, e10, e11⟩ := hw'; go_simp; try with_reducible rfl
  simp only [Act.put, List.setIfInBounds_toArray, List.set_cons_zero, List.set_cons_succ]
  refine takeY 22 (i := 2) (v := ?v2a) rfl rfl (by kernel_rfl) (by kernel_rfl) (by kernel_rfl) (fun _ _ _ h => h) (by kernel_rfl) ?y2a hs0 ?_
  case y2a =>
    intro w' hw'; (try dsimp only at hw'); obtain ⟨e0, e1, e2, e3, e4, e5, e6, e7, e8, e9, e10, e11⟩ := hw'; go_simp; try with_reducible rfl
  simp only [Act.put, List.setIfInBounds_toArray, List.set_cons_zero, List.set_cons_succ]
  refine takeY 23 (i := 3) (v := ?v3a) rfl rfl (by kernel_rfl) (by kernel_rfl) (by kernel_rfl) (fun _ _ _ h => h) (by kernel_rfl) ?y3a hs0 ?_
  case y3a =>
    intro w' hw'; (try dsimp only at hw'); obtain ⟨e0, e1, e2, e3, e4, e5, e6, e7, e8, e9, e10, e11⟩ := hw'; go_simp; try with_reducible rfl
  simp only [Act.put, List.setIfInBounds_toArray, List.set_cons_zero, List.set_cons_succ]
  refine takeY 24 (i := 4) (v := ?v4a) rfl rfl (by kernel_rfl) (by kernel_rfl) (by kernel_rfl) (fun _ _ _ h => h) (by kernel_rfl) ?y4a hs0 ?_
  case y4a =>
    intro w' hw'; (try dsimp only at hw'); obtain ⟨e0, e1, e2, e3, e4, e5, e6, e7, e8, e9, e10, e11⟩ := hw'; go_simp; try with_reducible rfl
  simp only [Act.put, List.setIfInBounds_toArray, List.set_cons_zero, List.set_cons_succ]
  refine takeY 25 (i := 5) (v := ?v5a) rfl rfl (by kernel_rfl) (by kernel_rfl) (by kernel_rfl) (fun _ _ _ h => h) (by kernel_rfl) ?y5a hs0 ?_
  case y5a =>
    intro w' hw'; (try dsimp only at hw'); obtain ⟨e0, e1, e2, e3, e4, e5, e6, e7, e8, e9, e10, e11⟩ := hw'; go_simp; try with_reducible rfl
  simp only [Act.put, List.setIfInBounds_toArray, List.set_cons_zero, List.set_cons_succ]
  refine takeY 26 (i := 6) (v := ?v6a) rfl rfl (by kernel_rfl) (by kernel_rfl) (by kernel_rfl) (fun _ _ _ h => h) (by kernel_rfl) ?y6a hs0 ?_
  case y6a =>
    intro w' hw'; (try dsimp only at hw'); obtain ⟨e0, e1, e2, e3, e4, e5, e6, e7, e8, e9, e10, e11⟩ := hw'; go_simp; try with_reducible rfl
  simp only [Act.put, List.setIfInBounds_toArray, List.set_cons_zero, List.set_cons_succ]
  refine takeY 27 (i := 7) (v := ?v7a) rfl rfl (by kernel_rfl) (by kernel_rfl) (by kernel_rfl) (fun _ _ _ h => h) (by kernel_rfl) ?y7a hs0 ?_
  case y7a =>
    intro w' hw'; (try dsimp only at hw'); obtain ⟨e0, e1, e2, e3, e4, e5, e6, e7, e8, e9, e10, e11⟩ := hw'; go_simp; try with_reducible rfl
  simp only [Act.put, List.setIfInBounds_toArray, List.set_cons_zero, List.set_cons_succ]
  refine takeY 28 (i := 8) (v := ?v8a) rfl rfl (by kernel_rfl) (by kernel_rfl) (by kernel_rfl) (fun _ _ _ h => h) (by kernel_rfl) ?y8a hs0 ?_
  case y8a =>
    intro w' hw'; (try dsimp only at hw'); obtain ⟨e0, e1, e2, e3, e4, e5, e6, e7, e8, e9, e10, e11⟩ := hw'; go_simp; try with_reducible rfl
  simp only [Act.put, List.setIfInBounds_toArray, List.set_cons_zero, List.set_cons_succ]
  refine takeY 29 (i := 9) (v := ?v9a) rfl rfl (by kernel_rfl) (by kernel_rfl) (by kernel_rfl) (fun _ _ _ h => h) (by kernel_rfl) ?y9a hs0 ?_
  case y9a =>
    intro w' hw'; (try dsimp only at hw'); obtain ⟨e0, e1, e2, e3, e4, e5, e6, e7, e8, e9, e10, e11⟩ := hw'; go_simp; try with_reducible rfl
  simp only [Act.put, List.setIfInBounds_toArray, List.set_cons_zero, List.set_cons_succ]
  refine takeY 30 (i := 10) (v := ?v10a) rfl rfl (by kernel_rfl) (by kernel_rfl) (by kernel_rfl) (fun _ _ _ h => h) (by kernel_rfl) ?y10a hs0 ?_
  case y10a =>
    intro w' hw'; (try dsimp only at hw'); obtain ⟨e0, e1, e2, e3, e4, e5, e6, e7, e8, e9, e10, e11⟩ := hw'; go_simp; try with_reducible rfl
  simp only [Act.put, List.setIfInBounds_toArray, List.set_cons_zero, List.set_cons_succ]
  refine takeY 31 (i := 11) (v := ?v11a) rfl rfl (by kernel_rfl) (by kernel_rfl) (by kernel_rfl) (fun _ _ _ h => h) (by kernel_rfl) ?y11a hs0 ?_
  case y11a =>
    intro w' hw'; (try dsimp only at hw'); obtain ⟨e0, e1, e2, e3, e4, e5, e6, e7, e8, e9, e10, e11⟩ := hw'; go_simp; try with_reducible rfl
  simp only [Act.put, List.setIfInBounds_toArray, List.set_cons_zero, List.set_cons_succ]
  refine takeY 32 (i := 12) (v := ?v12a) rfl rfl (by kernel_rfl) (by kernel_rfl) (by kernel_rfl) (fun _ _ _ h => h) (by kernel_rfl) ?y12a hs0 ?_
  case y12a =>
    intro w' hw'; (try dsimp only at hw'); obtain ⟨e0, e1, e2, e3, e4, e5, e6, e7, e8, e9, e10, e11⟩ := hw'; go_simp; try with_reducible rfl
  simp only [Act.put, List.setIfInBounds_toArray, List.set_cons_zero, List.set_cons_succ]
  refine wpAnyH_ready (rs := [13]) (by kernel_rfl) (by simp) ?_
  refine AllReadyH.cons rfl (fun K hK => ?_) AllReadyH.nil
  go_simp; go_at_call 69; refine (HR.out _ (HI.out.below (HBB3.out.2.drew)) (Nat.le_trans hB HBB3.out.1.size) (by first | rfl | trivial)).mono ?_; rintro e w4 ⟨rfl, hz⟩; replace hz := (Below.refl w3.heap.size w3).drew.trans (hz.mono (Nat.le_refl _))
  refine hK.out _ _ ⟨hz, (hz.cell (p := ⟨w.heap.size, 0, none⟩) t_g).trans t_0, (hz.cell (p := ⟨w.heap.size, 1, none⟩) t_g).trans t_1, (hz.cell (p := ⟨w.heap.size, 2, none⟩) t_g).trans t_2, (hz.cell (p := ⟨w.heap.size, 3, none⟩) t_g).trans t_3, (hz.cell (p := ⟨w.heap.size, 4, none⟩) t_g).trans t_4, (hz.cell (p := ⟨w.heap.size + 1, 0, none⟩) x_g).trans x_0, (hz.cell (p := ⟨w.heap.size + 1, 1, none⟩) x_g).trans x_1, (hz.cell (p := ⟨w.heap.size + 1 + 1, 0, none⟩) y_g).trans y_0, (hz.cell (p := ⟨w.heap.size + 1 + 1, 1, none⟩) y_g).trans y_1, (hz.cell (p := ⟨bx, ox + t.field.toNat, none⟩) hbx3).trans cx, (hz.cell (p := ⟨by', oy + t.field.toNat, none⟩) hby3).trans cy⟩ (fun hS1 => ?_)
  clear hK K
  try simp only [Act.put, List.setIfInBounds_toArray, List.set_cons_zero, List.set_cons_succ]
  refine takeY 6 (i := 14) (v := ?v14a) rfl rfl (by kernel_rfl) (by kernel_rfl) (by kernel_rfl) (fun _ _ _ h => h) (by kernel_rfl) ?y14a hS1 ?_
  case y14a =>
    intro w' hw'; (try dsimp only at hw'); obtain ⟨e0, e1, e2, e3, e4, e5, e6, e7, e8, e9, e10, e11⟩ := hw'; go_simp; try with_reducible rfl
  simp only [Act.put, List.setIfInBounds_toArray, List.set_cons_zero, List.set_cons_succ]
  refine wpAnyH_done (by kernel_rfl) ?_ _
  have HBC := Lib.hid (below_on HBB3.out.1 hz)
  clear hz
  go_wp2
  go_ret
  exact ⟨rfl, HBC.out⟩

set_option maxRecDepth 20000 in
set_option maxHeartbeats 1600000 in
theorem iCmpItems (w : World) (B : Nat) (t : Wi) (x y : It) (hi : WiIn w B t) (hx : Ints w B x.A x.n x.xs) (hy : Ints w B y.A y.n y.xs) (hB : B ≤ w.heap.size) (hn : t.Short) (nx : x.n ≤ 1048576) (ny : y.n ≤ 1048576) (q : Bool) (hq : q = true ↔ IsW t.dat ∧ IsP x.dat ∧ IsP y.dat) :
    Calls Try.prog 25 #[t.val, x.val, y.val] w fun e w' => e = .returned (.int .i64 (cmpV t.dat q (fval x t.field) (fval y t.field))) ∧ Below w.heap.size w w' := by
  have HI := Lib.hid hi
  have HX := Lib.hid hx
  have HY := Lib.hid hy
  have HB3 : Hid (∀ o1 o2 o3 : Obj, Below B w (((w.alloc o1).alloc o2).alloc o3)) := Lib.hid fun o1 o2 o3 => below3 hB o1 o2 o3
  have HW3 : Hid (∀ o1 o2 o3 : Obj, Below w.heap.size w (((w.alloc o1).alloc o2).alloc o3)) := Lib.hid fun o1 o2 o3 => below3 (Nat.le_refl _) o1 o2 o3
  obtain ⟨qw, hqw⟩ := bool_of (IsW t.dat)
  obtain ⟨qx, hqx⟩ := bool_of (IsP x.dat)
  obtain ⟨qy, hqy⟩ := bool_of (IsP y.dat)
  have HQX := Lib.hid hqx
  have HQY := Lib.hid hqy
  have HNo : Hid ((qw = false ∨ qx = false ∨ qy = false) → q = false) := Lib.hid fun h => by
    cases q
    · rfl
    · obtain ⟨h1, h2, h3⟩ := hq.1 rfl
      rcases h with h | h | h
      · rw [hqw.2 h1] at h; cases h
      · rw [hqx.2 h2] at h; cases h
      · rw [hqy.2 h3] at h; cases h
  have HYes : Hid (qw = true → qx = true → qy = true → q = true) := Lib.hid fun h1 h2 h3 => hq.2 ⟨hqw.1 h1, hqx.1 h2, hqy.1 h3⟩
  have HV : Hid (q = false → cmpV t.dat q (fval x t.field) (fval y t.field) = 2) := Lib.hid fun h => by subst h; rfl
  have HU : Hid (q = true → cmpV t.dat q (fval x t.field) (fval y t.field) = cmpW t.dat (fval x t.field) (fval y t.field)) := Lib.hid fun h => by subst h; rfl
  have HFx : Hid (q = true → InR (fval x t.field) ∧ InR (fval y t.field) ∧ 0 ≤ t.field ∧ t.field ≤ 2) := Lib.hid fun h => by
    obtain ⟨h1, h2, h3⟩ := hq.1 h
    exact ⟨fval_in h2 h1.f, fval_in h3 h1.f, h1.f⟩
  have HCx : Hid (q = true → ∃ b off : Nat, x.A = some ⟨b, off, none⟩ ∧ b < B ∧ (t.field.toNat : Int) = t.field ∧ t.field < (x.n : Int) ∧ w.cell? ⟨b, off + t.field.toNat, none⟩ = some (.int .i64 (fval x t.field))) := Lib.hid fun h => fval_cell hx (hq.1 h).2.1 (hq.1 h).1.f
  have HCy : Hid (q = true → ∃ b off : Nat, y.A = some ⟨b, off, none⟩ ∧ b < B ∧ (t.field.toNat : Int) = t.field ∧ t.field < (y.n : Int) ∧ w.cell? ⟨b, off + t.field.toNat, none⟩ = some (.int .i64 (fval y t.field))) := Lib.hid fun h => fval_cell hy (hq.1 h).2.2 (hq.1 h).1.f
  have HS : Hid (∀ w1 : World, WiIn w1 B t → B ≤ w1.heap.size → Calls Try.prog 67 #[t.val] w1 fun e w' => (∃ v, e = .returned (.tuple #[v, .bool qw]) ∧ (qw = true → TasteAt w' t v)) ∧ Below w1.heap.size w1 w') := Lib.hid fun w1 h1 h2 => taste_of w1 B t h1 h2 hn qw hqw
  have HLs : Hid (∀ w1, Below B w w1 → Ints w1 B t.LA t.Ln t.ls) := Lib.hid fun w1 h => hi.l.below h
  have HLn : Hid (t.Ln ≤ 1048576) := Lib.hid hn.1
  clear hi hx hy hq hqw hqx hqy
  generalize cmpV t.dat q (fval x t.field) (fval y t.field) = z at *
  have hval : t.val = .agg #[.int .i64 t.kind, .int .i64 t.field, .int .i64 t.value, .slice t.LA t.Ln t.Lc, .slice t.PA t.Pn t.Pc] := rfl
  have hvx : x.val = .agg #[.int .i64 x.id, .slice x.A x.n x.c] := rfl
  have hvy : y.val = .agg #[.int .i64 y.id, .slice y.A y.n y.c] := rfl
  rw [hval] at HS ⊢
  rw [hvx, hvy]
  clear hval hvx hvy
  go_enter Try.func25, Try.ntmps25
  go_wp2_with fail
  refine (HS.out _ (HI.out.below (HB3.out _ _ _)) (by simp; omega)).mono ?_
  rintro e w1 ⟨⟨tv, rfl, ht⟩, hb1⟩
  have HT0 := Lib.hid ht
  clear ht
  have HBB := Lib.hid (And.intro (below_on (HW3.out _ _ _) hb1) ((HB3.out _ _ _).trans (hb1.mono (by simp; omega))))
  have Xt := Lib.hid ((((Box5.new w t 30).alloc _).alloc _).below hb1)
  have Xx := Lib.hid (((Box2.new (w.alloc (.cells #[.int .i64 t.kind, .int .i64 t.field, .int .i64 t.value, .slice t.LA t.Ln t.Lc, .slice t.PA t.Pn t.Pc] 30)) x 40).alloc _).below hb1)
  have Xy := Lib.hid ((Box2.new ((w.alloc (.cells #[.int .i64 t.kind, .int .i64 t.field, .int .i64 t.value, .slice t.LA t.Ln t.Lc, .slice t.PA t.Pn t.Pc] 30)).alloc (.cells #[.int .i64 x.id, .slice x.A x.n x.c] 40)) y 40).below hb1)
  clear hb1
  obtain ⟨t_g, t_0, t_1, t_2, t_3, t_4⟩ := Xt.out
  obtain ⟨x_g, x_0, x_1⟩ := Xx.out
  obtain ⟨y_g, y_0, y_1⟩ := Xy.out
  simp only [World.size_alloc] at x_g x_0 x_1 y_g y_0 y_1
  cases qw
  · obtain rfl := HNo.out (.inl rfl)
    obtain rfl := HV.out rfl
    go_wp2
    go_ret
    exact ⟨rfl, HBB.out.1⟩
  cases qx
  · obtain rfl := HNo.out (.inr (.inl rfl))
    obtain rfl := HV.out rfl
    go_wp2_with fail
    refine (iIsItem _ B x (HX.out.below HBB.out.2) (Nat.le_trans hB HBB.out.1.size) false HQX.out).mono ?_
    rintro e w2 ⟨rfl, hb2⟩
    have HBC := Lib.hid (below_on HBB.out.1 hb2)
    clear t_g t_0 t_1 t_2 t_3 t_4 x_g x_0 x_1 y_g y_0 y_1
    clear hb2
    go_wp2
    go_ret
    exact ⟨rfl, HBC.out⟩
  have HPx := Lib.hid (HQX.out.1 rfl)
  clear HQX
  cases qy
  · obtain rfl := HNo.out (.inr (.inr rfl))
    obtain rfl := HV.out rfl
    go_wp2_with fail
    refine (iIsItem _ B x (HX.out.below HBB.out.2) (Nat.le_trans hB HBB.out.1.size) true ⟨fun _ => HPx.out, fun _ => rfl⟩).mono ?_
    rintro e w2 ⟨rfl, hb2⟩
    have HD2 := Lib.hid hb2
    have HBB2 := Lib.hid (And.intro (below_on HBB.out.1 hb2) (HBB.out.2.trans (hb2.mono (Nat.le_trans hB HBB.out.1.size))))
    have Xt2 := Lib.hid (Xt.out.below hb2)
    have Xx2 := Lib.hid (Xx.out.below hb2)
    have Xy2 := Lib.hid (Xy.out.below hb2)
    clear t_g t_0 t_1 t_2 t_3 t_4 x_g x_0 x_1 y_g y_0 y_1
    clear hb2
    obtain ⟨t_g, t_0, t_1, t_2, t_3, t_4⟩ := Xt2.out
    obtain ⟨x_g, x_0, x_1⟩ := Xx2.out
    obtain ⟨y_g, y_0, y_1⟩ := Xy2.out
    simp only [World.size_alloc] at x_g x_0 x_1 y_g y_0 y_1
    go_wp2_with fail
    refine (iIsItem _ B y (HY.out.below HBB2.out.2) (Nat.le_trans hB HBB2.out.1.size) false HQY.out).mono ?_
    rintro e w3 ⟨rfl, hb3⟩
    have HBC := Lib.hid (below_on HBB2.out.1 hb3)
    clear t_g t_0 t_1 t_2 t_3 t_4 x_g x_0 x_1 y_g y_0 y_1
    clear hb3
    go_wp2
    go_ret
    exact ⟨rfl, HBC.out⟩
  have HPy := Lib.hid (HQY.out.1 rfl)
  clear HQY
  obtain rfl := HYes.out rfl rfl rfl
  go_wp2_with fail
  refine (iIsItem _ B x (HX.out.below HBB.out.2) (Nat.le_trans hB HBB.out.1.size) true ⟨fun _ => HPx.out, fun _ => rfl⟩).mono ?_
  rintro e w2 ⟨rfl, hb2⟩
  have HD2 := Lib.hid hb2
  have HBB2 := Lib.hid (And.intro (below_on HBB.out.1 hb2) (HBB.out.2.trans (hb2.mono (Nat.le_trans hB HBB.out.1.size))))
  have Xt2 := Lib.hid (Xt.out.below hb2)
  have Xx2 := Lib.hid (Xx.out.below hb2)
  have Xy2 := Lib.hid (Xy.out.below hb2)
  clear t_g t_0 t_1 t_2 t_3 t_4 x_g x_0 x_1 y_g y_0 y_1
  clear hb2
  obtain ⟨t_g, t_0, t_1, t_2, t_3, t_4⟩ := Xt2.out
  obtain ⟨x_g, x_0, x_1⟩ := Xx2.out
  obtain ⟨y_g, y_0, y_1⟩ := Xy2.out
  simp only [World.size_alloc] at x_g x_0 x_1 y_g y_0 y_1
  go_wp2_with fail
  refine (iIsItem _ B y (HY.out.below HBB2.out.2) (Nat.le_trans hB HBB2.out.1.size) true ⟨fun _ => HPy.out, fun _ => rfl⟩).mono ?_
  rintro e w3 ⟨rfl, hb3⟩
  have HD3 := Lib.hid hb3
  have HBB3 := Lib.hid (And.intro (below_on HBB2.out.1 hb3) (HBB2.out.2.trans (hb3.mono (Nat.le_trans hB HBB2.out.1.size))))
  have Xt3 := Lib.hid (Xt2.out.below hb3)
  have Xx3 := Lib.hid (Xx2.out.below hb3)
  have Xy3 := Lib.hid (Xy2.out.below hb3)
  clear t_g t_0 t_1 t_2 t_3 t_4 x_g x_0 x_1 y_g y_0 y_1
  clear hb3
  have HT : Hid (TasteAt w3 t tv) := Lib.hid (((HT0.out (by first | rfl | trivial)).below HD2.out).below HD3.out)
  clear HT0
  obtain ⟨bx, ox, hxA, hbx, hfn, hfx, cx0⟩ := HCx.out (by first | rfl | trivial)
  obtain ⟨by', oy, hyA, hby, -, hfy, cy0⟩ := HCy.out (by first | rfl | trivial)
  have cx : w3.cell? ⟨bx, ox + t.field.toNat, none⟩ = some (.int .i64 (fval x t.field)) := (HBB3.out.2.cell (p := ⟨bx, ox + t.field.toNat, none⟩) hbx).trans cx0
  have cy : w3.cell? ⟨by', oy + t.field.toNat, none⟩ = some (.int .i64 (fval y t.field)) := (HBB3.out.2.cell (p := ⟨by', oy + t.field.toNat, none⟩) hby).trans cy0
  obtain ⟨hvx', hvy', hf0, hf2⟩ := HFx.out (by first | rfl | trivial)
  have hbx3 : bx < w3.heap.size := by have := HBB3.out.1.size; omega
  have hby3 : by' < w3.heap.size := by have := HBB3.out.1.size; omega
  have hfw : IntKind.i64.wrap t.field = t.field := IntWalk.i64_in _ ⟨by omega, by omega⟩
  have HVR := Lib.hid (And.intro hvx' hvy')
  clear cx0 cy0 hvx' hvy'
  obtain ⟨t_g, t_0, t_1, t_2, t_3, t_4⟩ := Xt3.out
  obtain ⟨x_g, x_0, x_1⟩ := Xx3.out
  obtain ⟨y_g, y_0, y_1⟩ := Xy3.out
  simp only [World.size_alloc] at x_g x_0 x_1 y_g y_0 y_1
  rw [hxA] at x_1
  rw [hyA] at y_1
  rcases HT.out with ⟨h4, b, hb, rfl, hr⟩ | ⟨h4, rfl, hr⟩ | ⟨h4, o, B2, rfl, hab⟩
  · have HZ := Lib.hid ((HU.out (by first | rfl | trivial)).trans (show cmpW t.dat (fval x t.field) (fval y t.field) = _ by unfold cmpW; rw [if_neg (show ¬ t.dat.kind = 4 from h4), hr _ HVR.out.1, hr _ HVR.out.2]))
    have HB := Lib.hid hb
    clear hr h4 hb HT
    have hm := near_cmp_m b
    have hm2 := near_cmp_n b
    unfold nearI
    go_wp2
    have hs0 : (fun w' => Below w3.heap.size w3 w' ∧ w'.cell? ⟨w.heap.size, 0, none⟩ = some (.int .i64 t.kind) ∧ w'.cell? ⟨w.heap.size, 1, none⟩ = some (.int .i64 t.field) ∧ w'.cell? ⟨w.heap.size, 2, none⟩ = some (.int .i64 t.value) ∧ w'.cell? ⟨w.heap.size, 3, none⟩ = some (.slice t.LA t.Ln t.Lc) ∧ w'.cell? ⟨w.heap.size, 4, none⟩ = some (.slice t.PA t.Pn t.Pc) ∧ w'.cell? ⟨w.heap.size + 1, 0, none⟩ = some (.int .i64 x.id) ∧ w'.cell? ⟨w.heap.size + 1, 1, none⟩ = some (.slice (some ⟨bx, ox, none⟩) x.n x.c) ∧ w'.cell? ⟨w.heap.size + 1 + 1, 0, none⟩ = some (.int .i64 y.id) ∧ w'.cell? ⟨w.heap.size + 1 + 1, 1, none⟩ = some (.slice (some ⟨by', oy, none⟩) y.n y.c) ∧ w'.cell? ⟨bx, ox + t.field.toNat, none⟩ = some (.int .i64 (fval x t.field)) ∧ w'.cell? ⟨by', oy + t.field.toNat, none⟩ = some (.int .i64 (fval y t.field))) w3.drew := ⟨(Below.refl _ _).drew, t_0, t_1, t_2, t_3, t_4, x_0, x_1, y_0, y_1, cx, cy⟩
    refine wp_region_held (S := fun w' => Below w3.heap.size w3 w' ∧ w'.cell? ⟨w.heap.size, 0, none⟩ = some (.int .i64 t.kind) ∧ w'.cell? ⟨w.heap.size, 1, none⟩ = some (.int .i64 t.field) ∧ w'.cell? ⟨w.heap.size, 2, none⟩ = some (.int .i64 t.value) ∧ w'.cell? ⟨w.heap.size, 3, none⟩ = some (.slice t.LA t.Ln t.Lc) ∧ w'.cell? ⟨w.heap.size, 4, none⟩ = some (.slice t.PA t.Pn t.Pc) ∧ w'.cell? ⟨w.heap.size + 1, 0, none⟩ = some (.int .i64 x.id) ∧ w'.cell? ⟨w.heap.size + 1, 1, none⟩ = some (.slice (some ⟨bx, ox, none⟩) x.n x.c) ∧ w'.cell? ⟨w.heap.size + 1 + 1, 0, none⟩ = some (.int .i64 y.id) ∧ w'.cell? ⟨w.heap.size + 1 + 1, 1, none⟩ = some (.slice (some ⟨by', oy, none⟩) y.n y.c) ∧ w'.cell? ⟨bx, ox + t.field.toNat, none⟩ = some (.int .i64 (fval x t.field)) ∧ w'.cell? ⟨by', oy + t.field.toNat, none⟩ = some (.int .i64 (fval y t.field))) (by kernel_rfl) ?_
    change wpAnyH _ _ _ _ _ _ _ _ (World.drew _)
    refine takeY 26 (i := 0) (v := ?v0b) rfl rfl (by kernel_rfl) (by kernel_rfl) (by kernel_rfl) (fun _ _ _ h => h) (by kernel_rfl) ?y0b hs0 ?_
    case y0b =>
      intro w' hw'; (try dsimp only at hw'); obtain ⟨e0, e1, e2, e3, e4, e5, e6, e7, e8, e9, e10, e11⟩ := hw'; go_simp; try with_reducible rfl
    simp only [Act.put, List.setIfInBounds_toArray, List.set_cons_zero, List.set_cons_succ]
    refine takeY 27 (i := 1) (v := ?v1b) rfl rfl (by kernel_rfl) (by kernel_rfl) (by kernel_rfl) (fun _ _ _ h => h) (by kernel_rfl) ?y1b hs0 ?_
    case y1b =>
      intro w' hw'; (try dsimp only at hw'); obtain ⟨e0, e1, e2, e3, e4, e5, e6, e7, e8, e9, e10, e11⟩ := hw'; go_simp; try with_reducible rfl
    simp only [Act.put, List.setIfInBounds_toArray, List.set_cons_zero, List.set_cons_succ]
    refine takeY 28 (i := 2) (v := ?v2b) rfl rfl (by kernel_rfl) (by kernel_rfl) (by kernel_rfl) (fun _ _ _ h => h) (by kernel_rfl) ?y2b hs0 ?_
    case y2b =>
      intro w' hw'; (try dsimp only at hw'); obtain ⟨e0, e1, e2, e3, e4, e5, e6, e7, e8, e9, e10, e11⟩ := hw'; go_simp; try with_reducible rfl
    simp only [Act.put, List.setIfInBounds_toArray, List.set_cons_zero, List.set_cons_succ]
    refine takeY 29 (i := 3) (v := ?v3b) rfl rfl (by kernel_rfl) (by kernel_rfl) (by kernel_rfl) (fun _ _ _ h => h) (by kernel_rfl) ?y3b hs0 ?_
    case y3b =>
      intro w' hw'; (try dsimp only at hw'); obtain ⟨e0, e1, e2, e3, e4, e5, e6, e7, e8, e9, e10, e11⟩ := hw'; go_simp; try with_reducible rfl
    simp only [Act.put, List.setIfInBounds_toArray, List.set_cons_zero, List.set_cons_succ]
    refine takeY 30 (i := 4) (v := ?v4b) rfl rfl (by kernel_rfl) (by kernel_rfl) (by kernel_rfl) (fun _ _ _ h => h) (by kernel_rfl) ?y4b hs0 ?_
    case y4b =>
      intro w' hw'; (try dsimp only at hw'); obtain ⟨e0, e1, e2, e3, e4, e5, e6, e7, e8, e9, e10, e11⟩ := hw'; go_simp; try with_reducible rfl
    simp only [Act.put, List.setIfInBounds_toArray, List.set_cons_zero, List.set_cons_succ]
    refine takeY 31 (i := 5) (v := ?v5b) rfl rfl (by kernel_rfl) (by kernel_rfl) (by kernel_rfl) (fun _ _ _ h => h) (by kernel_rfl) ?y5b hs0 ?_
    case y5b =>
      intro w' hw'; (try dsimp only at hw'); obtain ⟨e0, e1, e2, e3, e4, e5, e6, e7, e8, e9, e10, e11⟩ := hw'; go_simp; try with_reducible rfl
    simp only [Act.put, List.setIfInBounds_toArray, List.set_cons_zero, List.set_cons_succ]
    refine takeY 32 (i := 6) (v := ?v6b) rfl rfl (by kernel_rfl) (by kernel_rfl) (by kernel_rfl) (fun _ _ _ h => h) (by kernel_rfl) ?y6b hs0 ?_
    case y6b =>
      intro w' hw'; (try dsimp only at hw'); obtain ⟨e0, e1, e2, e3, e4, e5, e6, e7, e8, e9, e10, e11⟩ := hw'; go_simp; try with_reducible rfl
    simp only [Act.put, List.setIfInBounds_toArray, List.set_cons_zero, List.set_cons_succ]
    refine takeY 33 (i := 7) (v := ?v7b) rfl rfl (by kernel_rfl) (by kernel_rfl) (by kernel_rfl) (fun _ _ _ h => h) (by kernel_rfl) ?y7b hs0 ?_
    case y7b =>
      intro w' hw'; (try dsimp only at hw'); obtain ⟨e0, e1, e2, e3, e4, e5, e6, e7, e8, e9, e10, e11⟩ := hw'; go_simp; try with_reducible rfl
    simp only [Act.put, List.setIfInBounds_toArray, List.set_cons_zero, List.set_cons_succ]
    refine takeY 34 (i := 8) (v := ?v8b) rfl rfl (by kernel_rfl) (by kernel_rfl) (by kernel_rfl) (fun _ _ _ h => h) (by kernel_rfl) ?y8b hs0 ?_
    case y8b =>
      intro w' hw'; (try dsimp only at hw'); obtain ⟨e0, e1, e2, e3, e4, e5, e6, e7, e8, e9, e10, e11⟩ := hw'; go_simp; try with_reducible rfl
    simp only [Act.put, List.setIfInBounds_toArray, List.set_cons_zero, List.set_cons_succ]
    refine takeY 35 (i := 9) (v := ?v9b) rfl rfl (by kernel_rfl) (by kernel_rfl) (by kernel_rfl) (fun _ _ _ h => h) (by kernel_rfl) ?y9b hs0 ?_
    case y9b =>
      intro w' hw'; (try dsimp only at hw'); obtain ⟨e0, e1, e2, e3, e4, e5, e6, e7, e8, e9, e10, e11⟩ := hw'; go_simp; try with_reducible rfl
    simp only [Act.put, List.setIfInBounds_toArray, List.set_cons_zero, List.set_cons_succ]
    refine takeY 36 (i := 10) (v := ?v10b) rfl rfl (by kernel_rfl) (by kernel_rfl) (by kernel_rfl) (fun _ _ _ h => h) (by kernel_rfl) ?y10b hs0 ?_
    case y10b =>
      intro w' hw'; (try dsimp only at hw'); obtain ⟨e0, e1, e2, e3, e4, e5, e6, e7, e8, e9, e10, e11⟩ := hw'; go_simp; try with_reducible rfl
    simp only [Act.put, List.setIfInBounds_toArray, List.set_cons_zero, List.set_cons_succ]
    refine takeY 37 (i := 11) (v := ?v11b) rfl rfl (by kernel_rfl) (by kernel_rfl) (by kernel_rfl) (fun _ _ _ h => h) (by kernel_rfl) ?y11b hs0 ?_
    case y11b =>
      intro w' hw'; (try dsimp only at hw'); obtain ⟨e0, e1, e2, e3, e4, e5, e6, e7, e8, e9, e10, e11⟩ := hw'; go_simp; try with_reducible rfl
    simp only [Act.put, List.setIfInBounds_toArray, List.set_cons_zero, List.set_cons_succ]
    refine takeY 38 (i := 12) (v := ?v12b) rfl rfl (by kernel_rfl) (by kernel_rfl) (by kernel_rfl) (fun _ _ _ h => h) (by kernel_rfl) ?y12b hs0 ?_
    case y12b =>
      intro w' hw'; (try dsimp only at hw'); obtain ⟨e0, e1, e2, e3, e4, e5, e6, e7, e8, e9, e10, e11⟩ := hw'; go_simp; try with_reducible rfl
    simp only [Act.put, List.setIfInBounds_toArray, List.set_cons_zero, List.set_cons_succ]
    refine takeY 39 (i := 13) (v := ?v13b) rfl rfl (by kernel_rfl) (by kernel_rfl) (by kernel_rfl) (fun _ _ _ h => h) (by kernel_rfl) ?y13b hs0 ?_
    case y13b =>
      intro w' hw'; (try dsimp only at hw'); obtain ⟨e0, e1, e2, e3, e4, e5, e6, e7, e8, e9, e10, e11⟩ := hw'; go_simp; try with_reducible rfl
    simp only [Act.put, List.setIfInBounds_toArray, List.set_cons_zero, List.set_cons_succ]
    refine takeY 40 (i := 14) (v := ?v14b) rfl rfl (by kernel_rfl) (by kernel_rfl) (by kernel_rfl) (fun _ _ _ h => h) (by kernel_rfl) ?y14b hs0 ?_
    case y14b =>
      intro w' hw'; (try dsimp only at hw'); obtain ⟨e0, e1, e2, e3, e4, e5, e6, e7, e8, e9, e10, e11⟩ := hw'; go_simp; try with_reducible rfl
    simp only [Act.put, List.setIfInBounds_toArray, List.set_cons_zero, List.set_cons_succ]
    refine takeY 41 (i := 15) (v := ?v15b) rfl rfl (by kernel_rfl) (by kernel_rfl) (by kernel_rfl) (fun _ _ _ h => h) (by kernel_rfl) ?y15b hs0 ?_
    case y15b =>
      intro w' hw'; (try dsimp only at hw'); obtain ⟨e0, e1, e2, e3, e4, e5, e6, e7, e8, e9, e10, e11⟩ := hw'; go_simp; try with_reducible rfl
    simp only [Act.put, List.setIfInBounds_toArray, List.set_cons_zero, List.set_cons_succ]
    refine wpAnyH_ready (rs := [16]) (by kernel_rfl) (by simp) ?_
    refine AllReadyH.cons rfl (fun K hK => ?_) AllReadyH.nil
    go_simp; go_at_call 149; refine (nearCmp _ b _ _ HB.out HVR.out.1 HVR.out.2).mono ?_; rintro e w4 ⟨rfl, hz⟩; replace hz := (Below.refl w3.heap.size w3).drew.trans (hz.mono (Nat.le_refl _)); rw [← HZ.out]
    refine hK.out _ _ ⟨hz, (hz.cell (p := ⟨w.heap.size, 0, none⟩) t_g).trans t_0, (hz.cell (p := ⟨w.heap.size, 1, none⟩) t_g).trans t_1, (hz.cell (p := ⟨w.heap.size, 2, none⟩) t_g).trans t_2, (hz.cell (p := ⟨w.heap.size, 3, none⟩) t_g).trans t_3, (hz.cell (p := ⟨w.heap.size, 4, none⟩) t_g).trans t_4, (hz.cell (p := ⟨w.heap.size + 1, 0, none⟩) x_g).trans x_0, (hz.cell (p := ⟨w.heap.size + 1, 1, none⟩) x_g).trans x_1, (hz.cell (p := ⟨w.heap.size + 1 + 1, 0, none⟩) y_g).trans y_0, (hz.cell (p := ⟨w.heap.size + 1 + 1, 1, none⟩) y_g).trans y_1, (hz.cell (p := ⟨bx, ox + t.field.toNat, none⟩) hbx3).trans cx, (hz.cell (p := ⟨by', oy + t.field.toNat, none⟩) hby3).trans cy⟩ (fun hS1 => ?_)
    clear hK K
    try simp only [Act.put, List.setIfInBounds_toArray, List.set_cons_zero, List.set_cons_succ]
    refine takeY 6 (i := 17) (v := ?v17b) rfl rfl (by kernel_rfl) (by kernel_rfl) (by kernel_rfl) (fun _ _ _ h => h) (by kernel_rfl) ?y17b hS1 ?_
    case y17b =>
      intro w' hw'; (try dsimp only at hw'); obtain ⟨e0, e1, e2, e3, e4, e5, e6, e7, e8, e9, e10, e11⟩ := hw'; go_simp; try with_reducible rfl
    simp only [Act.put, List.setIfInBounds_toArray, List.set_cons_zero, List.set_cons_succ]
    refine wpAnyH_done (by kernel_rfl) ?_ _
    have HBC := Lib.hid (below_on HBB3.out.1 hz)
    clear hz
    go_wp2
    go_ret
    exact ⟨rfl, HBC.out⟩
  · have HZ := Lib.hid ((HU.out (by first | rfl | trivial)).trans (show cmpW t.dat (fval x t.field) (fval y t.field) = _ by unfold cmpW; rw [if_neg (show ¬ t.dat.kind = 4 from h4), hr, hr]))
    clear hr h4 HT
    have hm := among_cmp_m t.LA t.Ln t.Lc
    have hm2 := among_cmp_n t.LA t.Ln t.Lc
    unfold amongI
    go_wp2
    have hs0 : (fun w' => Below w3.heap.size w3 w' ∧ w'.cell? ⟨w.heap.size, 0, none⟩ = some (.int .i64 t.kind) ∧ w'.cell? ⟨w.heap.size, 1, none⟩ = some (.int .i64 t.field) ∧ w'.cell? ⟨w.heap.size, 2, none⟩ = some (.int .i64 t.value) ∧ w'.cell? ⟨w.heap.size, 3, none⟩ = some (.slice t.LA t.Ln t.Lc) ∧ w'.cell? ⟨w.heap.size, 4, none⟩ = some (.slice t.PA t.Pn t.Pc) ∧ w'.cell? ⟨w.heap.size + 1, 0, none⟩ = some (.int .i64 x.id) ∧ w'.cell? ⟨w.heap.size + 1, 1, none⟩ = some (.slice (some ⟨bx, ox, none⟩) x.n x.c) ∧ w'.cell? ⟨w.heap.size + 1 + 1, 0, none⟩ = some (.int .i64 y.id) ∧ w'.cell? ⟨w.heap.size + 1 + 1, 1, none⟩ = some (.slice (some ⟨by', oy, none⟩) y.n y.c) ∧ w'.cell? ⟨bx, ox + t.field.toNat, none⟩ = some (.int .i64 (fval x t.field)) ∧ w'.cell? ⟨by', oy + t.field.toNat, none⟩ = some (.int .i64 (fval y t.field))) w3.drew := ⟨(Below.refl _ _).drew, t_0, t_1, t_2, t_3, t_4, x_0, x_1, y_0, y_1, cx, cy⟩
    refine wp_region_held (S := fun w' => Below w3.heap.size w3 w' ∧ w'.cell? ⟨w.heap.size, 0, none⟩ = some (.int .i64 t.kind) ∧ w'.cell? ⟨w.heap.size, 1, none⟩ = some (.int .i64 t.field) ∧ w'.cell? ⟨w.heap.size, 2, none⟩ = some (.int .i64 t.value) ∧ w'.cell? ⟨w.heap.size, 3, none⟩ = some (.slice t.LA t.Ln t.Lc) ∧ w'.cell? ⟨w.heap.size, 4, none⟩ = some (.slice t.PA t.Pn t.Pc) ∧ w'.cell? ⟨w.heap.size + 1, 0, none⟩ = some (.int .i64 x.id) ∧ w'.cell? ⟨w.heap.size + 1, 1, none⟩ = some (.slice (some ⟨bx, ox, none⟩) x.n x.c) ∧ w'.cell? ⟨w.heap.size + 1 + 1, 0, none⟩ = some (.int .i64 y.id) ∧ w'.cell? ⟨w.heap.size + 1 + 1, 1, none⟩ = some (.slice (some ⟨by', oy, none⟩) y.n y.c) ∧ w'.cell? ⟨bx, ox + t.field.toNat, none⟩ = some (.int .i64 (fval x t.field)) ∧ w'.cell? ⟨by', oy + t.field.toNat, none⟩ = some (.int .i64 (fval y t.field))) (by kernel_rfl) ?_
    change wpAnyH _ _ _ _ _ _ _ _ (World.drew _)
    refine takeY 26 (i := 0) (v := ?v0c) rfl rfl (by kernel_rfl) (by kernel_rfl) (by kernel_rfl) (fun _ _ _ h => h) (by kernel_rfl) ?y0c hs0 ?_
    case y0c =>
      intro w' hw'; (try dsimp only at hw'); obtain ⟨e0, e1, e2, e3, e4, e5, e6, e7, e8, e9, e10, e11⟩ := hw'; go_simp; try with_reducible rfl
    simp only [Act.put, List.setIfInBounds_toArray, List.set_cons_zero, List.set_cons_succ]
    refine takeY 27 (i := 1) (v := ?v1c) rfl rfl (by kernel_rfl) (by kernel_rfl) (by kernel_rfl) (fun _ _ _ h => h) (by kernel_rfl) ?y1c hs0 ?_
    case y1c =>
      intro w' hw'; (try dsimp only at hw'); obtain ⟨e0, e1, e2, e3, e4, e5, e6, e7, e8, e9, e10, e11⟩ := hw'; go_simp; try with_reducible rfl
    simp only [Act.put, List.setIfInBounds_toArray, List.set_cons_zero, List.set_cons_succ]
    refine takeY 28 (i := 2) (v := ?v2c) rfl rfl (by kernel_rfl) (by kernel_rfl) (by kernel_rfl) (fun _ _ _ h => h) (by kernel_rfl) ?y2c hs0 ?_
    case y2c =>
      intro w' hw'; (try dsimp only at hw'); obtain ⟨e0, e1, e2, e3, e4, e5, e6, e7, e8, e9, e10, e11⟩ := hw'; go_simp; try with_reducible rfl
    simp only [Act.put, List.setIfInBounds_toArray, List.set_cons_zero, List.set_cons_succ]
    refine takeY 29 (i := 3) (v := ?v3c) rfl rfl (by kernel_rfl) (by kernel_rfl) (by kernel_rfl) (fun _ _ _ h => h) (by kernel_rfl) ?y3c hs0 ?_
    case y3c =>
      intro w' hw'; (try dsimp only at hw'); obtain ⟨e0, e1, e2, e3, e4, e5, e6, e7, e8, e9, e10, e11⟩ := hw'; go_simp; try with_reducible rfl
    simp only [Act.put, List.setIfInBounds_toArray, List.set_cons_zero, List.set_cons_succ]
    refine takeY 30 (i := 4) (v := ?v4c) rfl rfl (by kernel_rfl) (by kernel_rfl) (by kernel_rfl) (fun _ _ _ h => h) (by kernel_rfl) ?y4c hs0 ?_
    case y4c =>
      intro w' hw'; (try dsimp only at hw'); obtain ⟨e0, e1, e2, e3, e4, e5, e6, e7, e8, e9, e10, e11⟩ := hw'; go_simp; try with_reducible rfl
    simp only [Act.put, List.setIfInBounds_toArray, List.set_cons_zero, List.set_cons_succ]
    refine takeY 31 (i := 5) (v := ?v5c) rfl rfl (by kernel_rfl) (by kernel_rfl) (by kernel_rfl) (fun _ _ _ h => h) (by kernel_rfl) ?y5c hs0 ?_
    case y5c =>
      intro w' hw'; (try dsimp only at hw'); obtain ⟨e0, e1, e2, e3, e4, e5, e6, e7, e8, e9, e10, e11⟩ := hw'; go_simp; try with_reducible rfl
    simp only [Act.put, List.setIfInBounds_toArray, List.set_cons_zero, List.set_cons_succ]
    refine takeY 32 (i := 6) (v := ?v6c) rfl rfl (by kernel_rfl) (by kernel_rfl) (by kernel_rfl) (fun _ _ _ h => h) (by kernel_rfl) ?y6c hs0 ?_
    case y6c =>
      intro w' hw'; (try dsimp only at hw'); obtain ⟨e0, e1, e2, e3, e4, e5, e6, e7, e8, e9, e10, e11⟩ := hw'; go_simp; try with_reducible rfl
    simp only [Act.put, List.setIfInBounds_toArray, List.set_cons_zero, List.set_cons_succ]
    refine takeY 33 (i := 7) (v := ?v7c) rfl rfl (by kernel_rfl) (by kernel_rfl) (by kernel_rfl) (fun _ _ _ h => h) (by kernel_rfl) ?y7c hs0 ?_
    case y7c =>
      intro w' hw'; (try dsimp only at hw'); obtain ⟨e0, e1, e2, e3, e4, e5, e6, e7, e8, e9, e10, e11⟩ := hw'; go_simp; try with_reducible rfl
    simp only [Act.put, List.setIfInBounds_toArray, List.set_cons_zero, List.set_cons_succ]
    refine takeY 34 (i := 8) (v := ?v8c) rfl rfl (by kernel_rfl) (by kernel_rfl) (by kernel_rfl) (fun _ _ _ h => h) (by kernel_rfl) ?y8c hs0 ?_
    case y8c =>
      intro w' hw'; (try dsimp only at hw'); obtain ⟨e0, e1, e2, e3, e4, e5, e6, e7, e8, e9, e10, e11⟩ := hw'; go_simp; try with_reducible rfl
    simp only [Act.put, List.setIfInBounds_toArray, List.set_cons_zero, List.set_cons_succ]
    refine takeY 35 (i := 9) (v := ?v9c) rfl rfl (by kernel_rfl) (by kernel_rfl) (by kernel_rfl) (fun _ _ _ h => h) (by kernel_rfl) ?y9c hs0 ?_
    case y9c =>
      intro w' hw'; (try dsimp only at hw'); obtain ⟨e0, e1, e2, e3, e4, e5, e6, e7, e8, e9, e10, e11⟩ := hw'; go_simp; try with_reducible rfl
    simp only [Act.put, List.setIfInBounds_toArray, List.set_cons_zero, List.set_cons_succ]
    refine takeY 36 (i := 10) (v := ?v10c) rfl rfl (by kernel_rfl) (by kernel_rfl) (by kernel_rfl) (fun _ _ _ h => h) (by kernel_rfl) ?y10c hs0 ?_
    case y10c =>
      intro w' hw'; (try dsimp only at hw'); obtain ⟨e0, e1, e2, e3, e4, e5, e6, e7, e8, e9, e10, e11⟩ := hw'; go_simp; try with_reducible rfl
    simp only [Act.put, List.setIfInBounds_toArray, List.set_cons_zero, List.set_cons_succ]
    refine takeY 37 (i := 11) (v := ?v11c) rfl rfl (by kernel_rfl) (by kernel_rfl) (by kernel_rfl) (fun _ _ _ h => h) (by kernel_rfl) ?y11c hs0 ?_
    case y11c =>
      intro w' hw'; (try dsimp only at hw'); obtain ⟨e0, e1, e2, e3, e4, e5, e6, e7, e8, e9, e10, e11⟩ := hw'; go_simp; try with_reducible rfl
    simp only [Act.put, List.setIfInBounds_toArray, List.set_cons_zero, List.set_cons_succ]
    refine takeY 38 (i := 12) (v := ?v12c) rfl rfl (by kernel_rfl) (by kernel_rfl) (by kernel_rfl) (fun _ _ _ h => h) (by kernel_rfl) ?y12c hs0 ?_
    case y12c =>
      intro w' hw'; (try dsimp only at hw'); obtain ⟨e0, e1, e2, e3, e4, e5, e6, e7, e8, e9, e10, e11⟩ := hw'; go_simp; try with_reducible rfl
    simp only [Act.put, List.setIfInBounds_toArray, List.set_cons_zero, List.set_cons_succ]
    refine takeY 39 (i := 13) (v := ?v13c) rfl rfl (by kernel_rfl) (by kernel_rfl) (by kernel_rfl) (fun _ _ _ h => h) (by kernel_rfl) ?y13c hs0 ?_
    case y13c =>
      intro w' hw'; (try dsimp only at hw'); obtain ⟨e0, e1, e2, e3, e4, e5, e6, e7, e8, e9, e10, e11⟩ := hw'; go_simp; try with_reducible rfl
    simp only [Act.put, List.setIfInBounds_toArray, List.set_cons_zero, List.set_cons_succ]
    refine takeY 40 (i := 14) (v := ?v14c) rfl rfl (by kernel_rfl) (by kernel_rfl) (by kernel_rfl) (fun _ _ _ h => h) (by kernel_rfl) ?y14c hs0 ?_
    case y14c =>
      intro w' hw'; (try dsimp only at hw'); obtain ⟨e0, e1, e2, e3, e4, e5, e6, e7, e8, e9, e10, e11⟩ := hw'; go_simp; try with_reducible rfl
    simp only [Act.put, List.setIfInBounds_toArray, List.set_cons_zero, List.set_cons_succ]
    refine takeY 41 (i := 15) (v := ?v15c) rfl rfl (by kernel_rfl) (by kernel_rfl) (by kernel_rfl) (fun _ _ _ h => h) (by kernel_rfl) ?y15c hs0 ?_
    case y15c =>
      intro w' hw'; (try dsimp only at hw'); obtain ⟨e0, e1, e2, e3, e4, e5, e6, e7, e8, e9, e10, e11⟩ := hw'; go_simp; try with_reducible rfl
    simp only [Act.put, List.setIfInBounds_toArray, List.set_cons_zero, List.set_cons_succ]
    refine wpAnyH_ready (rs := [16]) (by kernel_rfl) (by simp) ?_
    refine AllReadyH.cons rfl (fun K hK => ?_) AllReadyH.nil
    go_simp; go_at_call 154; refine (amongCmp _ B t.LA t.Ln t.Lc t.ls _ _ (HLs.out _ (HBB3.out.2.drew)) (Nat.le_trans hB HBB3.out.1.size) HLn.out).mono ?_; rintro e w4 ⟨rfl, hz⟩; replace hz := (Below.refl w3.heap.size w3).drew.trans (hz.mono (Nat.le_refl _)); rw [← HZ.out]
    refine hK.out _ _ ⟨hz, (hz.cell (p := ⟨w.heap.size, 0, none⟩) t_g).trans t_0, (hz.cell (p := ⟨w.heap.size, 1, none⟩) t_g).trans t_1, (hz.cell (p := ⟨w.heap.size, 2, none⟩) t_g).trans t_2, (hz.cell (p := ⟨w.heap.size, 3, none⟩) t_g).trans t_3, (hz.cell (p := ⟨w.heap.size, 4, none⟩) t_g).trans t_4, (hz.cell (p := ⟨w.heap.size + 1, 0, none⟩) x_g).trans x_0, (hz.cell (p := ⟨w.heap.size + 1, 1, none⟩) x_g).trans x_1, (hz.cell (p := ⟨w.heap.size + 1 + 1, 0, none⟩) y_g).trans y_0, (hz.cell (p := ⟨w.heap.size + 1 + 1, 1, none⟩) y_g).trans y_1, (hz.cell (p := ⟨bx, ox + t.field.toNat, none⟩) hbx3).trans cx, (hz.cell (p := ⟨by', oy + t.field.toNat, none⟩) hby3).trans cy⟩ (fun hS1 => ?_)
    clear hK K
    try simp only [Act.put, List.setIfInBounds_toArray, List.set_cons_zero, List.set_cons_succ]
    refine takeY 6 (i := 17) (v := ?v17c) rfl rfl (by kernel_rfl) (by kernel_rfl) (by kernel_rfl) (fun _ _ _ h => h) (by kernel_rfl) ?y17c hS1 ?_
    case y17c =>
      intro w' hw'; (try dsimp only at hw'); obtain ⟨e0, e1, e2, e3, e4, e5, e6, e7, e8, e9, e10, e11⟩ := hw'; go_simp; try with_reducible rfl
    simp only [Act.put, List.setIfInBounds_toArray, List.set_cons_zero, List.set_cons_succ]
    refine wpAnyH_done (by kernel_rfl) ?_ _
    have HBC := Lib.hid (below_on HBB3.out.1 hz)
    clear hz
    go_wp2
    go_ret
    exact ⟨rfl, HBC.out⟩
  · have HZ := Lib.hid ((HU.out (by first | rfl | trivial)).trans (show cmpW t.dat (fval x t.field) (fval y t.field) = _ by unfold cmpW; rw [if_pos (show t.dat.kind = 4 from h4)]))
    have HA := Lib.hid hab
    clear hab h4 HT
    have hm := order_cmp_m o
    have hm2 := order_cmp_n o
    unfold orderI
    go_wp2
    have hs0 : (fun w' => Below w3.heap.size w3 w' ∧ w'.cell? ⟨w.heap.size, 0, none⟩ = some (.int .i64 t.kind) ∧ w'.cell? ⟨w.heap.size, 1, none⟩ = some (.int .i64 t.field) ∧ w'.cell? ⟨w.heap.size, 2, none⟩ = some (.int .i64 t.value) ∧ w'.cell? ⟨w.heap.size, 3, none⟩ = some (.slice t.LA t.Ln t.Lc) ∧ w'.cell? ⟨w.heap.size, 4, none⟩ = some (.slice t.PA t.Pn t.Pc) ∧ w'.cell? ⟨w.heap.size + 1, 0, none⟩ = some (.int .i64 x.id) ∧ w'.cell? ⟨w.heap.size + 1, 1, none⟩ = some (.slice (some ⟨bx, ox, none⟩) x.n x.c) ∧ w'.cell? ⟨w.heap.size + 1 + 1, 0, none⟩ = some (.int .i64 y.id) ∧ w'.cell? ⟨w.heap.size + 1 + 1, 1, none⟩ = some (.slice (some ⟨by', oy, none⟩) y.n y.c) ∧ w'.cell? ⟨bx, ox + t.field.toNat, none⟩ = some (.int .i64 (fval x t.field)) ∧ w'.cell? ⟨by', oy + t.field.toNat, none⟩ = some (.int .i64 (fval y t.field))) w3.drew := ⟨(Below.refl _ _).drew, t_0, t_1, t_2, t_3, t_4, x_0, x_1, y_0, y_1, cx, cy⟩
    refine wp_region_held (S := fun w' => Below w3.heap.size w3 w' ∧ w'.cell? ⟨w.heap.size, 0, none⟩ = some (.int .i64 t.kind) ∧ w'.cell? ⟨w.heap.size, 1, none⟩ = some (.int .i64 t.field) ∧ w'.cell? ⟨w.heap.size, 2, none⟩ = some (.int .i64 t.value) ∧ w'.cell? ⟨w.heap.size, 3, none⟩ = some (.slice t.LA t.Ln t.Lc) ∧ w'.cell? ⟨w.heap.size, 4, none⟩ = some (.slice t.PA t.Pn t.Pc) ∧ w'.cell? ⟨w.heap.size + 1, 0, none⟩ = some (.int .i64 x.id) ∧ w'.cell? ⟨w.heap.size + 1, 1, none⟩ = some (.slice (some ⟨bx, ox, none⟩) x.n x.c) ∧ w'.cell? ⟨w.heap.size + 1 + 1, 0, none⟩ = some (.int .i64 y.id) ∧ w'.cell? ⟨w.heap.size + 1 + 1, 1, none⟩ = some (.slice (some ⟨by', oy, none⟩) y.n y.c) ∧ w'.cell? ⟨bx, ox + t.field.toNat, none⟩ = some (.int .i64 (fval x t.field)) ∧ w'.cell? ⟨by', oy + t.field.toNat, none⟩ = some (.int .i64 (fval y t.field))) (by kernel_rfl) ?_
    change wpAnyH _ _ _ _ _ _ _ _ (World.drew _)
    refine takeY 26 (i := 0) (v := ?v0d) rfl rfl (by kernel_rfl) (by kernel_rfl) (by kernel_rfl) (fun _ _ _ h => h) (by kernel_rfl) ?y0d hs0 ?_
    case y0d =>
      intro w' hw'; (try dsimp only at hw'); obtain ⟨e0, e1, e2, e3, e4, e5, e6, e7, e8, e9, e10, e11⟩ := hw'; go_simp; try with_reducible rfl
    simp only [Act.put, List.setIfInBounds_toArray, List.set_cons_zero, List.set_cons_succ]
    refine takeY 27 (i := 1) (v := ?v1d) rfl rfl (by kernel_rfl) (by kernel_rfl) (by kernel_rfl) (fun _ _ _ h => h) (by kernel_rfl) ?y1d hs0 ?_
    case y1d =>
      intro w' hw'; (try dsimp only at hw'); obtain ⟨e0, e1, e2, e3, e4, e5, e6, e7, e8, e9, e10, e11⟩ := hw'; go_simp; try with_reducible rfl
    simp only [Act.put, List.setIfInBounds_toArray, List.set_cons_zero, List.set_cons_succ]
    refine takeY 28 (i := 2) (v := ?v2d) rfl rfl (by kernel_rfl) (by kernel_rfl) (by kernel_rfl) (fun _ _ _ h => h) (by kernel_rfl) ?y2d hs0 ?_
    case y2d =>
      intro w' hw'; (try dsimp only at hw'); obtain ⟨e0, e1, e2, e3, e4, e5, e6, e7, e8, e9, e10, e11⟩ := hw'; go_simp; try with_reducible rfl
    simp only [Act.put, List.setIfInBounds_toArray, List.set_cons_zero, List.set_cons_succ]
    refine takeY 29 (i := 3) (v := ?v3d) rfl rfl (by kernel_rfl) (by kernel_rfl) (by kernel_rfl) (fun _ _ _ h => h) (by kernel_rfl) ?y3d hs0 ?_
    case y3d =>
      intro w' hw'; (try dsimp only at hw'); obtain ⟨e0, e1, e2, e3, e4, e5, e6, e7, e8, e9, e10, e11⟩ := hw'; go_simp; try with_reducible rfl
    simp only [Act.put, List.setIfInBounds_toArray, List.set_cons_zero, List.set_cons_succ]
    refine takeY 30 (i := 4) (v := ?v4d) rfl rfl (by kernel_rfl) (by kernel_rfl) (by kernel_rfl) (fun _ _ _ h => h) (by kernel_rfl) ?y4d hs0 ?_
    case y4d =>
      intro w' hw'; (try dsimp only at hw'); obtain ⟨e0, e1, e2, e3, e4, e5, e6, e7, e8, e9, e10, e11⟩ := hw'; go_simp; try with_reducible rfl
    simp only [Act.put, List.setIfInBounds_toArray, List.set_cons_zero, List.set_cons_succ]
    refine takeY 31 (i := 5) (v := ?v5d) rfl rfl (by kernel_rfl) (by kernel_rfl) (by kernel_rfl) (fun _ _ _ h => h) (by kernel_rfl) ?y5d hs0 ?_
    case y5d =>
      intro w' hw'; (try dsimp only at hw'); obtain ⟨e0, e1, e2, e3, e4, e5, e6, e7, e8, e9, e10, e11⟩ := hw'; go_simp; try with_reducible rfl
    simp only [Act.put, List.setIfInBounds_toArray, List.set_cons_zero, List.set_cons_succ]
    refine takeY 32 (i := 6) (v := ?v6d) rfl rfl (by kernel_rfl) (by kernel_rfl) (by kernel_rfl) (fun _ _ _ h => h) (by kernel_rfl) ?y6d hs0 ?_
    case y6d =>
      intro w' hw'; (try dsimp only at hw'); obtain ⟨e0, e1, e2, e3, e4, e5, e6, e7, e8, e9, e10, e11⟩ := hw'; go_simp; try with_reducible rfl
    simp only [Act.put, List.setIfInBounds_toArray, List.set_cons_zero, List.set_cons_succ]
    refine takeY 33 (i := 7) (v := ?v7d) rfl rfl (by kernel_rfl) (by kernel_rfl) (by kernel_rfl) (fun _ _ _ h => h) (by kernel_rfl) ?y7d hs0 ?_
    case y7d =>
      intro w' hw'; (try dsimp only at hw'); obtain ⟨e0, e1, e2, e3, e4, e5, e6, e7, e8, e9, e10, e11⟩ := hw'; go_simp; try with_reducible rfl
    simp only [Act.put, List.setIfInBounds_toArray, List.set_cons_zero, List.set_cons_succ]
    refine takeY 34 (i := 8) (v := ?v8d) rfl rfl (by kernel_rfl) (by kernel_rfl) (by kernel_rfl) (fun _ _ _ h => h) (by kernel_rfl) ?y8d hs0 ?_
    case y8d =>
      intro w' hw'; (try dsimp only at hw'); obtain ⟨e0, e1, e2, e3, e4, e5, e6, e7, e8, e9, e10, e11⟩ := hw'; go_simp; try with_reducible rfl
    simp only [Act.put, List.setIfInBounds_toArray, List.set_cons_zero, List.set_cons_succ]
    refine takeY 35 (i := 9) (v := ?v9d) rfl rfl (by kernel_rfl) (by kernel_rfl) (by kernel_rfl) (fun _ _ _ h => h) (by kernel_rfl) ?y9d hs0 ?_
    case y9d =>
      intro w' hw'; (try dsimp only at hw'); obtain ⟨e0, e1, e2, e3, e4, e5, e6, e7, e8, e9, e10, e11⟩ := hw'; go_simp; try with_reducible rfl
    simp only [Act.put, List.setIfInBounds_toArray, List.set_cons_zero, List.set_cons_succ]
    refine takeY 36 (i := 10) (v := ?v10d) rfl rfl (by kernel_rfl) (by kernel_rfl) (by kernel_rfl) (fun _ _ _ h => h) (by kernel_rfl) ?y10d hs0 ?_
    case y10d =>
      intro w' hw'; (try dsimp only at hw'); obtain ⟨e0, e1, e2, e3, e4, e5, e6, e7, e8, e9, e10, e11⟩ := hw'; go_simp; try with_reducible rfl
    simp only [Act.put, List.setIfInBounds_toArray, List.set_cons_zero, List.set_cons_succ]
    refine takeY 37 (i := 11) (v := ?v11d) rfl rfl (by kernel_rfl) (by kernel_rfl) (by kernel_rfl) (fun _ _ _ h => h) (by kernel_rfl) ?y11d hs0 ?_
    case y11d =>
      intro w' hw'; (try dsimp only at hw'); obtain ⟨e0, e1, e2, e3, e4, e5, e6, e7, e8, e9, e10, e11⟩ := hw'; go_simp; try with_reducible rfl
    simp only [Act.put, List.setIfInBounds_toArray, List.set_cons_zero, List.set_cons_succ]
    refine takeY 38 (i := 12) (v := ?v12d) rfl rfl (by kernel_rfl) (by kernel_rfl) (by kernel_rfl) (fun _ _ _ h => h) (by kernel_rfl) ?y12d hs0 ?_
    case y12d =>
      intro w' hw'; (try dsimp only at hw'); obtain ⟨e0, e1, e2, e3, e4, e5, e6, e7, e8, e9, e10, e11⟩ := hw'; go_simp; try with_reducible rfl
    simp only [Act.put, List.setIfInBounds_toArray, List.set_cons_zero, List.set_cons_succ]
    refine takeY 39 (i := 13) (v := ?v13d) rfl rfl (by kernel_rfl) (by kernel_rfl) (by kernel_rfl) (fun _ _ _ h => h) (by kernel_rfl) ?y13d hs0 ?_
    case y13d =>
      intro w' hw'; (try dsimp only at hw'); obtain ⟨e0, e1, e2, e3, e4, e5, e6, e7, e8, e9, e10, e11⟩ := hw'; go_simp; try with_reducible rfl
    simp only [Act.put, List.setIfInBounds_toArray, List.set_cons_zero, List.set_cons_succ]
    refine takeY 40 (i := 14) (v := ?v14d) rfl rfl (by kernel_rfl) (by kernel_rfl) (by kernel_rfl) (fun _ _ _ h => h) (by kernel_rfl) ?y14d hs0 ?_
    case y14d =>
      intro w' hw'; (try dsimp only at hw'); obtain ⟨e0, e1, e2, e3, e4, e5, e6, e7, e8, e9, e10, e11⟩ := hw'; go_simp; try with_reducible rfl
    simp only [Act.put, List.setIfInBounds_toArray, List.set_cons_zero, List.set_cons_succ]
    refine takeY 41 (i := 15) (v := ?v15d) rfl rfl (by kernel_rfl) (by kernel_rfl) (by kernel_rfl) (fun _ _ _ h => h) (by kernel_rfl) ?y15d hs0 ?_
    case y15d =>
      intro w' hw'; (try dsimp only at hw'); obtain ⟨e0, e1, e2, e3, e4, e5, e6, e7, e8, e9, e10, e11⟩ := hw'; go_simp; try with_reducible rfl
    simp only [Act.put, List.setIfInBounds_toArray, List.set_cons_zero, List.set_cons_succ]
    refine wpAnyH_ready (rs := [16]) (by kernel_rfl) (by simp) ?_
    refine AllReadyH.cons rfl (fun K hK => ?_) AllReadyH.nil
    go_simp; go_at_call 156; refine (orderCmp _ B2 o t.ps (HA.out.below (Below.refl _ _).drew) _ _ HVR.out.1 HVR.out.2).mono ?_; rintro e w4 ⟨rfl, hz⟩; replace hz := (Below.refl w3.heap.size w3).drew.trans (hz.mono (Nat.le_refl _)); rw [show (if fval x t.field = fval y t.field then (0 : Int) else if rb t.ps (fval x t.field) (fval y t.field) = true then 1 else if rb t.ps (fval y t.field) (fval x t.field) = true then -1 else 2) = z from HZ.out.symm]
    refine hK.out _ _ ⟨hz, (hz.cell (p := ⟨w.heap.size, 0, none⟩) t_g).trans t_0, (hz.cell (p := ⟨w.heap.size, 1, none⟩) t_g).trans t_1, (hz.cell (p := ⟨w.heap.size, 2, none⟩) t_g).trans t_2, (hz.cell (p := ⟨w.heap.size, 3, none⟩) t_g).trans t_3, (hz.cell (p := ⟨w.heap.size, 4, none⟩) t_g).trans t_4, (hz.cell (p := ⟨w.heap.size + 1, 0, none⟩) x_g).trans x_0, (hz.cell (p := ⟨w.heap.size + 1, 1, none⟩) x_g).trans x_1, (hz.cell (p := ⟨w.heap.size + 1 + 1, 0, none⟩) y_g).trans y_0, (hz.cell (p := ⟨w.heap.size + 1 + 1, 1, none⟩) y_g).trans y_1, (hz.cell (p := ⟨bx, ox + t.field.toNat, none⟩) hbx3).trans cx, (hz.cell (p := ⟨by', oy + t.field.toNat, none⟩) hby3).trans cy⟩ (fun hS1 => ?_)
    clear hK K
    try simp only [Act.put, List.setIfInBounds_toArray, List.set_cons_zero, List.set_cons_succ]
    refine takeY 6 (i := 17) (v := ?v17d) rfl rfl (by kernel_rfl) (by kernel_rfl) (by kernel_rfl) (fun _ _ _ h => h) (by kernel_rfl) ?y17d hS1 ?_
    case y17d =>
      intro w' hw'; (try dsimp only at hw'); obtain ⟨e0, e1, e2, e3, e4, e5, e6, e7, e8, e9, e10, e11⟩ := hw'; go_simp; try with_reducible rfl
    simp only [Act.put, List.setIfInBounds_toArray, List.set_cons_zero, List.set_cons_succ]
    refine wpAnyH_done (by kernel_rfl) ?_ _
    have HBC := Lib.hid (below_on HBB3.out.1 hz)
    clear hz
    go_wp2
    go_ret
    exact ⟨rfl, HBC.out⟩
end Go.Proofs.Ytmbchpdcgjlggaa.num
