/- What the law FnWishes leans on, part 3: contracts of the functions that it calls. -/
import Derived.Deep.Cut
import Derived.Test.YtalgfiefadfmnaaWishesP1
import Derived.Test.YtalgfiefadfmnaaWishesP2
namespace Go.Proofs.Ytalgfiefadfmnaa.num
open Go.RowKit Go.Maps
set_option linter.unusedVariables false

/-- The value of an item's field. -/
def fval (t : It) (f : Int) : Int := t.xs.getD f.toNat 0
theorem fval_in {t : It} (h : IsP t.dat) {f : Int} (hf : 0 ≤ f ∧ f ≤ 2) : InR (fval t f) := by
  obtain ⟨h1, _, h3⟩ := h
  have hl : t.xs.length = 3 := h3
  unfold fval
  rw [List.getD_eq_getElem?_getD, List.getElem?_eq_getElem (by omega)]
  exact h1 _ (List.getElem_mem _)
theorem fval_dat {t t' : It} (h : t'.dat = t.dat) (f : Int) : fval t' f = fval t f := by unfold fval; rw [show t'.xs = t.xs from congrArg Prod.snd h]
theorem cmpV_dat {t t' : Wi} {x x' y y' : It} {q : Bool} (h : t'.dat = t.dat) (hx : x'.dat = x.dat) (hy : y'.dat = y.dat) : cmpV t'.dat q (fval x' t'.field) (fval y' t'.field) = cmpV t.dat q (fval x t.field) (fval y t.field) := by
  rw [h, fval_dat hx, fval_dat hy, show t'.field = t.field from congrArg WD.field h]
/-- The cell of an item's field. -/
theorem fval_cell {w : World} {B : Nat} {t : It} (hi : Ints w B t.A t.n t.xs) (h : IsP t.dat) {f : Int} (hf : 0 ≤ f ∧ f ≤ 2) : ∃ b off : Nat, t.A = some ⟨b, off, none⟩ ∧ b < B ∧ (f.toNat : Int) = f ∧ f < (t.n : Int) ∧ w.cell? ⟨b, off + f.toNat, none⟩ = some (.int .i64 (fval t f)) := by
  have hl : t.xs.length = 3 := h.2.2
  have hn : t.n = 3 := hi.1.symm.trans hl
  obtain ⟨b, off, h1, h2, h3⟩ := hi.2 f.toNat (by omega)
  exact ⟨b, off, h1, h2, by omega, by omega, h3⟩

set_option maxRecDepth 20000 in
set_option maxHeartbeats 1600000 in
theorem sCmpItems (w : World) (B : Nat) (t : Wi) (x y : It) (hi : WiIn w B t) (hx : Ints w B x.A x.n x.xs) (hy : Ints w B y.A y.n y.xs) (hB : B ≤ w.heap.size) (hn : t.Short) (nx : x.n ≤ 1048576) (ny : y.n ≤ 1048576) (q : Bool) (hq : q = true ↔ IsW t.dat ∧ IsP x.dat ∧ IsP y.dat) :
    Calls Try.prog 21 #[t.val, x.val, y.val] w fun e w' => e = .returned (.int .i64 (cmpV t.dat q (fval x t.field) (fval y t.field))) ∧ Below w.heap.size w w' := by
  have HI := Lib.hid hi
  have HX := Lib.hid hx
  have HY := Lib.hid hy
  have HB3 : Hid (∀ o1 o2 o3 : Obj, Below B w (((w.alloc o1).alloc o2).alloc o3)) := Lib.hid fun o1 o2 o3 => below3 hB o1 o2 o3
  have HW3 : Hid (∀ o1 o2 o3 : Obj, Below w.heap.size w (((w.alloc o1).alloc o2).alloc o3)) := Lib.hid fun o1 o2 o3 => below3 (Nat.le_refl _) o1 o2 o3
  obtain ⟨qw, hqw⟩ := bool_of (IsW t.dat)
  obtain ⟨qx, hqx⟩ := bool_of (IsP x.dat)
  obtain ⟨qy, hqy⟩ := bool_of (IsP y.dat)
  have HQX := Lib.hid hqx
  have HQY := Lib.hid hqy
  have HNo : Hid ((qw = false ∨ qx = false ∨ qy = false) → q = false) := Lib.hid fun h => by
    cases q
    · rfl
    · obtain ⟨h1, h2, h3⟩ := hq.1 rfl
      rcases h with h | h | h
      · rw [hqw.2 h1] at h; cases h
      · rw [hqx.2 h2] at h; cases h
      · rw [hqy.2 h3] at h; cases h
  have HYes : Hid (qw = true → qx = true → qy = true → q = true) := Lib.hid fun h1 h2 h3 => hq.2 ⟨hqw.1 h1, hqx.1 h2, hqy.1 h3⟩
  have HV : Hid (q = false → cmpV t.dat q (fval x t.field) (fval y t.field) = 2) := Lib.hid fun h => by subst h; rfl
  have HU : Hid (q = true → cmpV t.dat q (fval x t.field) (fval y t.field) = cmpW t.dat (fval x t.field) (fval y t.field)) := Lib.hid fun h => by subst h; rfl
  have HFx : Hid (q = true → InR (fval x t.field) ∧ InR (fval y t.field) ∧ 0 ≤ t.field ∧ t.field ≤ 2) := Lib.hid fun h => by
    obtain ⟨h1, h2, h3⟩ := hq.1 h
    exact ⟨fval_in h2 h1.f, fval_in h3 h1.f, h1.f⟩
  have HCx : Hid (q = true → ∃ b off : Nat, x.A = some ⟨b, off, none⟩ ∧ b < B ∧ (t.field.toNat : Int) = t.field ∧ t.field < (x.n : Int) ∧ w.cell? ⟨b, off + t.field.toNat, none⟩ = some (.int .i64 (fval x t.field))) := Lib.hid fun h => fval_cell hx (hq.1 h).2.1 (hq.1 h).1.f
  have HCy : Hid (q = true → ∃ b off : Nat, y.A = some ⟨b, off, none⟩ ∧ b < B ∧ (t.field.toNat : Int) = t.field ∧ t.field < (y.n : Int) ∧ w.cell? ⟨b, off + t.field.toNat, none⟩ = some (.int .i64 (fval y t.field))) := Lib.hid fun h => fval_cell hy (hq.1 h).2.2 (hq.1 h).1.f
  have HS : Hid (∀ w1 : World, WiIn w1 B t → B ≤ w1.heap.size → Calls Try.prog 15 #[t.val] w1 fun e w' => e = .returned (.bool qw) ∧ Below w1.heap.size w1 w') := Lib.hid fun w1 h1 h2 => sIsWish w1 B t h1 h2 hn qw hqw
  have HR : Hid (∀ w1 : World, WiIn w1 B t → B ≤ w1.heap.size → q = true → Calls Try.prog 35 #[t.val, .int .i64 (fval x t.field), .int .i64 (fval y t.field)] w1 fun e w' => e = .returned (.int .i64 (cmpV t.dat q (fval x t.field) (fval y t.field))) ∧ Below w1.heap.size w1 w') := Lib.hid fun w1 h1 h2 h => by
    obtain ⟨r1, r2, -, -⟩ := HFx.out h
    rw [HU.out h]
    exact sCmp w1 B t h1 h2 hn (hq.1 h).1 _ _ r1 r2
  clear hi hx hy hq hqw hqx hqy HU
  generalize cmpV t.dat q (fval x t.field) (fval y t.field) = z at *
  have hval : t.val = .agg #[.int .i64 t.kind, .int .i64 t.field, .int .i64 t.value, .slice t.LA t.Ln t.Lc, .slice t.PA t.Pn t.Pc] := rfl
  have hvx : x.val = .agg #[.int .i64 x.id, .slice x.A x.n x.c] := rfl
  have hvy : y.val = .agg #[.int .i64 y.id, .slice y.A y.n y.c] := rfl
  rw [hval] at HS HR ⊢
  rw [hvx, hvy]
  clear hval hvx hvy
  go_enter Try.func21, Try.ntmps21
  go_wp2_with fail
  refine (HS.out _ (HI.out.below (HB3.out _ _ _)) (by simp; omega)).mono ?_
  rintro e w1 ⟨rfl, hb1⟩
  have HBB := Lib.hid (And.intro (below_on (HW3.out _ _ _) hb1) ((HB3.out _ _ _).trans (hb1.mono (by simp; omega))))
  have Xt := Lib.hid ((((Box5.new w t 27).alloc _).alloc _).below hb1)
  have Xx := Lib.hid (((Box2.new (w.alloc (.cells #[.int .i64 t.kind, .int .i64 t.field, .int .i64 t.value, .slice t.LA t.Ln t.Lc, .slice t.PA t.Pn t.Pc] 27)) x 36).alloc _).below hb1)
  have Xy := Lib.hid ((Box2.new ((w.alloc (.cells #[.int .i64 t.kind, .int .i64 t.field, .int .i64 t.value, .slice t.LA t.Ln t.Lc, .slice t.PA t.Pn t.Pc] 27)).alloc (.cells #[.int .i64 x.id, .slice x.A x.n x.c] 36)) y 36).below hb1)
  clear hb1
  obtain ⟨t_g, t_0, t_1, t_2, t_3, t_4⟩ := Xt.out
  obtain ⟨x_g, x_0, x_1⟩ := Xx.out
  obtain ⟨y_g, y_0, y_1⟩ := Xy.out
  simp only [World.size_alloc] at x_g x_0 x_1 y_g y_0 y_1
  cases qw
  · obtain rfl := HNo.out (.inl rfl)
    obtain rfl := HV.out rfl
    go_wp2
    go_ret
    exact ⟨rfl, HBB.out.1⟩
  cases qx
  · obtain rfl := HNo.out (.inr (.inl rfl))
    obtain rfl := HV.out rfl
    go_wp2_with fail
    refine (sIsItem _ B x (HX.out.below HBB.out.2) (Nat.le_trans hB HBB.out.1.size) nx false HQX.out).mono ?_
    rintro e w2 ⟨rfl, hb2⟩
    have HBC := Lib.hid (below_on HBB.out.1 hb2)
    clear t_g t_0 t_1 t_2 t_3 t_4 x_g x_0 x_1 y_g y_0 y_1
    clear hb2
    go_wp2
    go_ret
    exact ⟨rfl, HBC.out⟩
  have HPx := Lib.hid (HQX.out.1 rfl)
  clear HQX
  cases qy
  · obtain rfl := HNo.out (.inr (.inr rfl))
    obtain rfl := HV.out rfl
    go_wp2_with fail
    refine (sIsItem _ B x (HX.out.below HBB.out.2) (Nat.le_trans hB HBB.out.1.size) nx true ⟨fun _ => HPx.out, fun _ => rfl⟩).mono ?_
    rintro e w2 ⟨rfl, hb2⟩
    have HD2 := Lib.hid hb2
    have HBB2 := Lib.hid (And.intro (below_on HBB.out.1 hb2) (HBB.out.2.trans (hb2.mono (Nat.le_trans hB HBB.out.1.size))))
    have Xt2 := Lib.hid (Xt.out.below hb2)
    have Xx2 := Lib.hid (Xx.out.below hb2)
    have Xy2 := Lib.hid (Xy.out.below hb2)
    clear t_g t_0 t_1 t_2 t_3 t_4 x_g x_0 x_1 y_g y_0 y_1
    clear hb2
    obtain ⟨t_g, t_0, t_1, t_2, t_3, t_4⟩ := Xt2.out
    obtain ⟨x_g, x_0, x_1⟩ := Xx2.out
    obtain ⟨y_g, y_0, y_1⟩ := Xy2.out
    simp only [World.size_alloc] at x_g x_0 x_1 y_g y_0 y_1
    go_wp2_with fail
    refine (sIsItem _ B y (HY.out.below HBB2.out.2) (Nat.le_trans hB HBB2.out.1.size) ny false HQY.out).mono ?_
    rintro e w3 ⟨rfl, hb3⟩
    have HBC := Lib.hid (below_on HBB2.out.1 hb3)
    clear t_g t_0 t_1 t_2 t_3 t_4 x_g x_0 x_1 y_g y_0 y_1
    clear hb3
    go_wp2
    go_ret
    exact ⟨rfl, HBC.out⟩
  have HPy := Lib.hid (HQY.out.1 rfl)
  clear HQY
  obtain rfl := HYes.out rfl rfl rfl
  go_wp2_with fail
  refine (sIsItem _ B x (HX.out.below HBB.out.2) (Nat.le_trans hB HBB.out.1.size) nx true ⟨fun _ => HPx.out, fun _ => rfl⟩).mono ?_
  rintro e w2 ⟨rfl, hb2⟩
  have HD2 := Lib.hid hb2
  have HBB2 := Lib.hid (And.intro (below_on HBB.out.1 hb2) (HBB.out.2.trans (hb2.mono (Nat.le_trans hB HBB.out.1.size))))
  have Xt2 := Lib.hid (Xt.out.below hb2)
  have Xx2 := Lib.hid (Xx.out.below hb2)
  have Xy2 := Lib.hid (Xy.out.below hb2)
  clear t_g t_0 t_1 t_2 t_3 t_4 x_g x_0 x_1 y_g y_0 y_1
  clear hb2
  obtain ⟨t_g, t_0, t_1, t_2, t_3, t_4⟩ := Xt2.out
  obtain ⟨x_g, x_0, x_1⟩ := Xx2.out
  obtain ⟨y_g, y_0, y_1⟩ := Xy2.out
  simp only [World.size_alloc] at x_g x_0 x_1 y_g y_0 y_1
  go_wp2_with fail
  refine (sIsItem _ B y (HY.out.below HBB2.out.2) (Nat.le_trans hB HBB2.out.1.size) ny true ⟨fun _ => HPy.out, fun _ => rfl⟩).mono ?_
  rintro e w3 ⟨rfl, hb3⟩
  have HD3 := Lib.hid hb3
  have HBB3 := Lib.hid (And.intro (below_on HBB2.out.1 hb3) (HBB2.out.2.trans (hb3.mono (Nat.le_trans hB HBB2.out.1.size))))
  have Xt3 := Lib.hid (Xt2.out.below hb3)
  have Xx3 := Lib.hid (Xx2.out.below hb3)
  have Xy3 := Lib.hid (Xy2.out.below hb3)
  clear t_g t_0 t_1 t_2 t_3 t_4 x_g x_0 x_1 y_g y_0 y_1
  clear hb3
  obtain ⟨bx, ox, hxA, hbx, hfn, hfx, cx0⟩ := HCx.out (by first | rfl | trivial)
  obtain ⟨by', oy, hyA, hby, -, hfy, cy0⟩ := HCy.out (by first | rfl | trivial)
  have cx : w3.cell? ⟨bx, ox + t.field.toNat, none⟩ = some (.int .i64 (fval x t.field)) := (HBB3.out.2.cell (p := ⟨bx, ox + t.field.toNat, none⟩) hbx).trans cx0
  have cy : w3.cell? ⟨by', oy + t.field.toNat, none⟩ = some (.int .i64 (fval y t.field)) := (HBB3.out.2.cell (p := ⟨by', oy + t.field.toNat, none⟩) hby).trans cy0
  obtain ⟨hvx', hvy', hf0, hf2⟩ := HFx.out (by first | rfl | trivial)
  have hbx3 : bx < w3.heap.size := by have := HBB3.out.1.size; omega
  have hby3 : by' < w3.heap.size := by have := HBB3.out.1.size; omega
  have hfw : IntKind.i64.wrap t.field = t.field := IntWalk.i64_in _ ⟨by omega, by omega⟩
  have HVR := Lib.hid (And.intro hvx' hvy')
  clear cx0 cy0 hvx' hvy'
  obtain ⟨t_g, t_0, t_1, t_2, t_3, t_4⟩ := Xt3.out
  obtain ⟨x_g, x_0, x_1⟩ := Xx3.out
  obtain ⟨y_g, y_0, y_1⟩ := Xy3.out
  simp only [World.size_alloc] at x_g x_0 x_1 y_g y_0 y_1
  rw [hxA] at x_1
  rw [hyA] at y_1
  go_wp2
  have hs0 : (fun w' => Below w3.heap.size w3 w' ∧ w'.cell? ⟨w.heap.size, 0, none⟩ = some (.int .i64 t.kind) ∧ w'.cell? ⟨w.heap.size, 1, none⟩ = some (.int .i64 t.field) ∧ w'.cell? ⟨w.heap.size, 2, none⟩ = some (.int .i64 t.value) ∧ w'.cell? ⟨w.heap.size, 3, none⟩ = some (.slice t.LA t.Ln t.Lc) ∧ w'.cell? ⟨w.heap.size, 4, none⟩ = some (.slice t.PA t.Pn t.Pc) ∧ w'.cell? ⟨w.heap.size + 1, 0, none⟩ = some (.int .i64 x.id) ∧ w'.cell? ⟨w.heap.size + 1, 1, none⟩ = some (.slice (some ⟨bx, ox, none⟩) x.n x.c) ∧ w'.cell? ⟨w.heap.size + 1 + 1, 0, none⟩ = some (.int .i64 y.id) ∧ w'.cell? ⟨w.heap.size + 1 + 1, 1, none⟩ = some (.slice (some ⟨by', oy, none⟩) y.n y.c) ∧ w'.cell? ⟨bx, ox + t.field.toNat, none⟩ = some (.int .i64 (fval x t.field)) ∧ w'.cell? ⟨by', oy + t.field.toNat, none⟩ = some (.int .i64 (fval y t.field))) w3.drew := ⟨(Below.refl _ _).drew, t_0, t_1, t_2, t_3, t_4, x_0, x_1, y_0, y_1, cx, cy⟩
  refine wp_region_held (S := fun w' => Below w3.heap.size w3 w' ∧ w'.cell? ⟨w.heap.size, 0, none⟩ = some (.int .i64 t.kind) ∧ w'.cell? ⟨w.heap.size, 1, none⟩ = some (.int .i64 t.field) ∧ w'.cell? ⟨w.heap.size, 2, none⟩ = some (.int .i64 t.value) ∧ w'.cell? ⟨w.heap.size, 3, none⟩ = some (.slice t.LA t.Ln t.Lc) ∧ w'.cell? ⟨w.heap.size, 4, none⟩ = some (.slice t.PA t.Pn t.Pc) ∧ w'.cell? ⟨w.heap.size + 1, 0, none⟩ = some (.int .i64 x.id) ∧ w'.cell? ⟨w.heap.size + 1, 1, none⟩ = some (.slice (some ⟨bx, ox, none⟩) x.n x.c) ∧ w'.cell? ⟨w.heap.size + 1 + 1, 0, none⟩ = some (.int .i64 y.id) ∧ w'.cell? ⟨w.heap.size + 1 + 1, 1, none⟩ = some (.slice (some ⟨by', oy, none⟩) y.n y.c) ∧ w'.cell? ⟨bx, ox + t.field.toNat, none⟩ = some (.int .i64 (fval x t.field)) ∧ w'.cell? ⟨by', oy + t.field.toNat, none⟩ = some (.int .i64 (fval y t.field))) (by kernel_rfl) ?_
  change wpAnyH _ _ _ _ _ _ _ _ (World.drew _)
  refine takeY 20 (i := 0) (v := ?v0a) rfl rfl (by kernel_rfl) (by kernel_rfl) (by kernel_rfl) (fun _ _ _ h => h) (by kernel_rfl) ?y0a hs0 ?_
  case y0a =>
    intro w' hw'; (try dsimp only at hw'); obtain ⟨e0, e1, e2, e3, e4, e5, e6, e7, e8, e9, e10, e11⟩ := hw'; go_simp; try with_reducible rfl
  simp only [Act.put, List.setIfInBounds_toArray, List.set_cons_zero, List.set_cons_succ]
  refine takeY 21 (i := 1) (v := ?v1a) rfl rfl (by kernel_rfl) (by kernel_rfl) (by kernel_rfl) (fun _ _ _ h => h) (by kernel_rfl) ?y1a hs0 ?_
  case y1a =>
    intro w' hw'; (try dsimp only at hw'); obtain ⟨e0, e1, e2, e3, e4, e5, e6, e7, e8, e9, e10, e11⟩ := hw'; go_simp; try with_reducible rfl
  simp only [Act.put, List.setIfInBounds_toArray, List.set_cons_zero, List.set_cons_succ]
  refine takeY 22 (i := 2) (v := ?v2a) rfl rfl (by kernel_rfl) (by kernel_rfl) (by kernel_rfl) (fun _ _ _ h => h) (by kernel_rfl) ?y2a hs0 ?_
  case y2a =>
    intro w' hw'; (try dsimp only at hw'); obtain ⟨e0, e1, e2, e3, e4, e5, e6, e7, e8, e9, e10, e11⟩ := hw'; go_simp; try with_reducible rfl
  simp only [Act.put, List.setIfInBounds_toArray, List.set_cons_zero, List.set_cons_succ]
  refine takeY 23 (i := 3) (v := ?v3a) rfl rfl (by kernel_rfl) (by kernel_rfl) (by kernel_rfl) (fun _ _ _ h => h) (by kernel_rfl) ?y3a hs0 ?_
  case y3a =>
    intro w' hw'; (try dsimp only at hw'); obtain ⟨e0, e1, e2, e3, e4, e5, e6, e7, e8, e9, e10, e11⟩ := hw'; go_simp; try with_reducible rfl
  simp only [Act.put, List.setIfInBounds_toArray, List.set_cons_zero, List.set_cons_succ]
  refine takeY 24 (i := 4) (v := ?v4a) rfl rfl (by kernel_rfl) (by kernel_rfl) (by kernel_rfl) (fun _ _ _ h => h) (by kernel_rfl) ?y4a hs0 ?_
  case y4a =>
    intro w' hw'; (try dsimp only at hw'); obtain ⟨e0, e1, e2, e3, e4, e5, e6, e7, e8, e9, e10, e11⟩ := hw'; go_simp; try with_reducible rfl
  simp only [Act.put, List.setIfInBounds_toArray, List.set_cons_zero, List.set_cons_succ]
  refine takeY 25 (i := 5) (v := ?v5a) rfl rfl (by kernel_rfl) (by kernel_rfl) (by kernel_rfl) (fun _ _ _ h => h) (by kernel_rfl) ?y5a hs0 ?_
  case y5a =>
    intro w' hw'; (try dsimp only at hw'); obtain ⟨e0, e1, e2, e3, e4, e5, e6, e7, e8, e9, e10, e11⟩ := hw'; go_simp; try with_reducible rfl
  simp only [Act.put, List.setIfInBounds_toArray, List.set_cons_zero, List.set_cons_succ]
  refine takeY 26 (i := 6) (v := ?v6a) rfl rfl (by kernel_rfl) (by kernel_rfl) (by kernel_rfl) (fun _ _ _ h => h) (by kernel_rfl) ?y6a hs0 ?_
  case y6a =>
    intro w' hw'; (try dsimp only at hw'); obtain ⟨e0, e1, e2, e3, e4, e5, e6, e7, e8, e9, e10, e11⟩ := hw'; go_simp; try with_reducible rfl
  simp only [Act.put, List.setIfInBounds_toArray, List.set_cons_zero, List.set_cons_succ]
  refine takeY 27 (i := 7) (v := ?v7a) rfl rfl (by kernel_rfl) (by kernel_rfl) (by kernel_rfl) (fun _ _ _ h => h) (by kernel_rfl) ?y7a hs0 ?_
  case y7a =>
    intro w' hw'; (try dsimp only at hw'); obtain ⟨e0, e1, e2, e3, e4, e5, e6, e7, e8, e9, e10, e11⟩ := hw'; go_simp; try with_reducible rfl
  simp only [Act.put, List.setIfInBounds_toArray, List.set_cons_zero, List.set_cons_succ]
  refine takeY 28 (i := 8) (v := ?v8a) rfl rfl (by kernel_rfl) (by kernel_rfl) (by kernel_rfl) (fun _ _ _ h => h) (by kernel_rfl) ?y8a hs0 ?_
  case y8a =>
    intro w' hw'; (try dsimp only at hw'); obtain ⟨e0, e1, e2, e3, e4, e5, e6, e7, e8, e9, e10, e11⟩ := hw'; go_simp; try with_reducible rfl
  simp only [Act.put, List.setIfInBounds_toArray, List.set_cons_zero, List.set_cons_succ]
  refine takeY 29 (i := 9) (v := ?v9a) rfl rfl (by kernel_rfl) (by kernel_rfl) (by kernel_rfl) (fun _ _ _ h => h) (by kernel_rfl) ?y9a hs0 ?_
  case y9a =>
    intro w' hw'; (try dsimp only at hw'); obtain ⟨e0, e1, e2, e3, e4, e5, e6, e7, e8, e9, e10, e11⟩ := hw'; go_simp; try with_reducible rfl
  simp only [Act.put, List.setIfInBounds_toArray, List.set_cons_zero, List.set_cons_succ]
  refine takeY 30 (i := 10) (v := ?v10a) rfl rfl (by kernel_rfl) (by kernel_rfl) (by kernel_rfl) (fun _ _ _ h => h) (by kernel_rfl) ?y10a hs0 ?_
  case y10a =>
    intro w' hw'; (try dsimp only at hw'); obtain ⟨e0, e1, e2, e3, e4, e5, e6, e7, e8, e9, e10, e11⟩ := hw'; go_simp; try with_reducible rfl
  simp only [Act.put, List.setIfInBounds_toArray, List.set_cons_zero, List.set_cons_succ]
  refine takeY 31 (i := 11) (v := ?v11a) rfl rfl (by kernel_rfl) (by kernel_rfl) (by kernel_rfl) (fun _ _ _ h => h) (by kernel_rfl) ?y11a hs0 ?_
  case y11a =>
    intro w' hw'; (try dsimp only at hw'); obtain ⟨e0, e1, e2, e3, e4, e5, e6, e7, e8, e9, e10, e11⟩ := hw'; go_simp; try with_reducible rfl
  simp only [Act.put, List.setIfInBounds_toArray, List.set_cons_zero, List.set_cons_succ]
  refine takeY 32 (i := 12) (v := ?v12a) rfl rfl (by kernel_rfl) (by kernel_rfl) (by kernel_rfl) (fun _ _ _ h => h) (by kernel_rfl) ?y12a hs0 ?_
  case y12a =>
    intro w' hw'; (try dsimp only at hw'); obtain ⟨e0, e1, e2, e3, e4, e5, e6, e7, e8, e9, e10, e11⟩ := hw'; go_simp; try with_reducible rfl
  simp only [Act.put, List.setIfInBounds_toArray, List.set_cons_zero, List.set_cons_succ]
  refine wpAnyH_ready (rs := [13]) (by kernel_rfl) (by simp) ?_
  refine AllReadyH.cons rfl (fun K hK => ?_) AllReadyH.nil
  go_simp; go_at_call 35; refine (HR.out _ (HI.out.below (HBB3.out.2.drew)) (Nat.le_trans hB HBB3.out.1.size) (by first | rfl | trivial)).mono ?_; rintro e w4 ⟨rfl, hz⟩; replace hz := (Below.refl w3.heap.size w3).drew.trans (hz.mono (Nat.le_refl _))
  refine hK.out _ _ ⟨hz, (hz.cell (p := ⟨w.heap.size, 0, none⟩) t_g).trans t_0, (hz.cell (p := ⟨w.heap.size, 1, none⟩) t_g).trans t_1, (hz.cell (p := ⟨w.heap.size, 2, none⟩) t_g).trans t_2, (hz.cell (p := ⟨w.heap.size, 3, none⟩) t_g).trans t_3, (hz.cell (p := ⟨w.heap.size, 4, none⟩) t_g).trans t_4, (hz.cell (p := ⟨w.heap.size + 1, 0, none⟩) x_g).trans x_0, (hz.cell (p := ⟨w.heap.size + 1, 1, none⟩) x_g).trans x_1, (hz.cell (p := ⟨w.heap.size + 1 + 1, 0, none⟩) y_g).trans y_0, (hz.cell (p := ⟨w.heap.size + 1 + 1, 1, none⟩) y_g).trans y_1, (hz.cell (p := ⟨bx, ox + t.field.toNat, none⟩) hbx3).trans cx, (hz.cell (p := ⟨by', oy + t.field.toNat, none⟩) hby3).trans cy⟩ (fun hS1 => ?_)
  clear hK K
  try simp only [Act.put, List.setIfInBounds_toArray, List.set_cons_zero, List.set_cons_succ]
  refine takeY 6 (i := 14) (v := ?v14a) rfl rfl (by kernel_rfl) (by kernel_rfl) (by kernel_rfl) (fun _ _ _ h => h) (by kernel_rfl) ?y14a hS1 ?_
  case y14a =>
    intro w' hw'; (try dsimp only at hw'); obtain ⟨e0, e1, e2, e3, e4, e5, e6, e7, e8, e9, e10, e11⟩ := hw'; go_simp; try with_reducible rfl
  simp only [Act.put, List.setIfInBounds_toArray, List.set_cons_zero, List.set_cons_succ]
  refine wpAnyH_done (by kernel_rfl) ?_ _
  have HBC := Lib.hid (below_on HBB3.out.1 hz)
  clear hz
  go_wp2
  go_ret
  exact ⟨rfl, HBC.out⟩

set_option maxRecDepth 20000 in
set_option maxHeartbeats 1600000 in
theorem iCmpItems (w : World) (B : Nat) (t : Wi) (x y : It) (hi : WiIn w B t) (hx : Ints w B x.A x.n x.xs) (hy : Ints w B y.A y.n y.xs) (hB : B ≤ w.heap.size) (hn : t.Short) (nx : x.n ≤ 1048576) (ny : y.n ≤ 1048576) (q : Bool) (hq : q = true ↔ IsW t.dat ∧ IsP x.dat ∧ IsP y.dat) :
    Calls Try.prog 20 #[t.val, x.val, y.val] w fun e w' => e = .returned (.int .i64 (cmpV t.dat q (fval x t.field) (fval y t.field))) ∧ Below w.heap.size w w' := by
  have HI := Lib.hid hi
  have HX := Lib.hid hx
  have HY := Lib.hid hy
  have HB3 : Hid (∀ o1 o2 o3 : Obj, Below B w (((w.alloc o1).alloc o2).alloc o3)) := Lib.hid fun o1 o2 o3 => below3 hB o1 o2 o3
  have HW3 : Hid (∀ o1 o2 o3 : Obj, Below w.heap.size w (((w.alloc o1).alloc o2).alloc o3)) := Lib.hid fun o1 o2 o3 => below3 (Nat.le_refl _) o1 o2 o3
  obtain ⟨qw, hqw⟩ := bool_of (IsW t.dat)
  obtain ⟨qx, hqx⟩ := bool_of (IsP x.dat)
  obtain ⟨qy, hqy⟩ := bool_of (IsP y.dat)
  have HQX := Lib.hid hqx
  have HQY := Lib.hid hqy
  have HNo : Hid ((qw = false ∨ qx = false ∨ qy = false) → q = false) := Lib.hid fun h => by
    cases q
    · rfl
    · obtain ⟨h1, h2, h3⟩ := hq.1 rfl
      rcases h with h | h | h
      · rw [hqw.2 h1] at h; cases h
      · rw [hqx.2 h2] at h; cases h
      · rw [hqy.2 h3] at h; cases h
  have HYes : Hid (qw = true → qx = true → qy = true → q = true) := Lib.hid fun h1 h2 h3 => hq.2 ⟨hqw.1 h1, hqx.1 h2, hqy.1 h3⟩
  have HV : Hid (q = false → cmpV t.dat q (fval x t.field) (fval y t.field) = 2) := Lib.hid fun h => by subst h; rfl
  have HU : Hid (q = true → cmpV t.dat q (fval x t.field) (fval y t.field) = cmpW t.dat (fval x t.field) (fval y t.field)) := Lib.hid fun h => by subst h; rfl
  have HFx : Hid (q = true → InR (fval x t.field) ∧ InR (fval y t.field) ∧ 0 ≤ t.field ∧ t.field ≤ 2) := Lib.hid fun h => by
    obtain ⟨h1, h2, h3⟩ := hq.1 h
    exact ⟨fval_in h2 h1.f, fval_in h3 h1.f, h1.f⟩
  have HCx : Hid (q = true → ∃ b off : Nat, x.A = some ⟨b, off, none⟩ ∧ b < B ∧ (t.field.toNat : Int) = t.field ∧ t.field < (x.n : Int) ∧ w.cell? ⟨b, off + t.field.toNat, none⟩ = some (.int .i64 (fval x t.field))) := Lib.hid fun h => fval_cell hx (hq.1 h).2.1 (hq.1 h).1.f
  have HCy : Hid (q = true → ∃ b off : Nat, y.A = some ⟨b, off, none⟩ ∧ b < B ∧ (t.field.toNat : Int) = t.field ∧ t.field < (y.n : Int) ∧ w.cell? ⟨b, off + t.field.toNat, none⟩ = some (.int .i64 (fval y t.field))) := Lib.hid fun h => fval_cell hy (hq.1 h).2.2 (hq.1 h).1.f
  have HS : Hid (∀ w1 : World, WiIn w1 B t → B ≤ w1.heap.size → Calls Try.prog 32 #[t.val] w1 fun e w' => (∃ v, e = .returned (.tuple #[v, .bool qw]) ∧ (qw = true → TasteAt w' t v)) ∧ Below w1.heap.size w1 w') := Lib.hid fun w1 h1 h2 => taste_of w1 B t h1 h2 hn qw hqw
  have HLs : Hid (∀ w1, Below B w w1 → Ints w1 B t.LA t.Ln t.ls) := Lib.hid fun w1 h => hi.l.below h
  have HLn : Hid (t.Ln ≤ 1048576) := Lib.hid hn.1
  clear hi hx hy hq hqw hqx hqy
  generalize cmpV t.dat q (fval x t.field) (fval y t.field) = z at *
  have hval : t.val = .agg #[.int .i64 t.kind, .int .i64 t.field, .int .i64 t.value, .slice t.LA t.Ln t.Lc, .slice t.PA t.Pn t.Pc] := rfl
  have hvx : x.val = .agg #[.int .i64 x.id, .slice x.A x.n x.c] := rfl
  have hvy : y.val = .agg #[.int .i64 y.id, .slice y.A y.n y.c] := rfl
  rw [hval] at HS ⊢
  rw [hvx, hvy]
  clear hval hvx hvy
  go_enter Try.func20, Try.ntmps20
  go_wp2_with fail
  refine (HS.out _ (HI.out.below (HB3.out _ _ _)) (by simp; omega)).mono ?_
  rintro e w1 ⟨⟨tv, rfl, ht⟩, hb1⟩
  have HT0 := Lib.hid ht
  clear ht
  have HBB := Lib.hid (And.intro (below_on (HW3.out _ _ _) hb1) ((HB3.out _ _ _).trans (hb1.mono (by simp; omega))))
  have Xt := Lib.hid ((((Box5.new w t 27).alloc _).alloc _).below hb1)
  have Xx := Lib.hid (((Box2.new (w.alloc (.cells #[.int .i64 t.kind, .int .i64 t.field, .int .i64 t.value, .slice t.LA t.Ln t.Lc, .slice t.PA t.Pn t.Pc] 27)) x 36).alloc _).below hb1)
  have Xy := Lib.hid ((Box2.new ((w.alloc (.cells #[.int .i64 t.kind, .int .i64 t.field, .int .i64 t.value, .slice t.LA t.Ln t.Lc, .slice t.PA t.Pn t.Pc] 27)).alloc (.cells #[.int .i64 x.id, .slice x.A x.n x.c] 36)) y 36).below hb1)
  clear hb1
  obtain ⟨t_g, t_0, t_1, t_2, t_3, t_4⟩ := Xt.out
  obtain ⟨x_g, x_0, x_1⟩ := Xx.out
  obtain ⟨y_g, y_0, y_1⟩ := Xy.out
  simp only [World.size_alloc] at x_g x_0 x_1 y_g y_0 y_1
  cases qw
  · obtain rfl := HNo.out (.inl rfl)
    obtain rfl := HV.out rfl
    go_wp2
    go_ret
    exact ⟨rfl, HBB.out.1⟩
  cases qx
  · obtain rfl := HNo.out (.inr (.inl rfl))
    obtain rfl := HV.out rfl
    go_wp2_with fail
    refine (iIsItem _ B x (HX.out.below HBB.out.2) (Nat.le_trans hB HBB.out.1.size) false HQX.out).mono ?_
    rintro e w2 ⟨rfl, hb2⟩
    have HBC := Lib.hid (below_on HBB.out.1 hb2)
    clear t_g t_0 t_1 t_2 t_3 t_4 x_g x_0 x_1 y_g y_0 y_1
    clear hb2
    go_wp2
    go_ret
    exact ⟨rfl, HBC.out⟩
  have HPx := Lib.hid (HQX.out.1 rfl)
  clear HQX
  cases qy
  · obtain rfl := HNo.out (.inr (.inr rfl))
    obtain rfl := HV.out rfl
    go_wp2_with fail
    refine (iIsItem _ B x (HX.out.below HBB.out.2) (Nat.le_trans hB HBB.out.1.size) true ⟨fun _ => HPx.out, fun _ => rfl⟩).mono ?_
    rintro e w2 ⟨rfl, hb2⟩
    have HD2 := Lib.hid hb2
    have HBB2 := Lib.hid (And.intro (below_on HBB.out.1 hb2) (HBB.out.2.trans (hb2.mono (Nat.le_trans hB HBB.out.1.size))))
    have Xt2 := Lib.hid (Xt.out.below hb2)
    have Xx2 := Lib.hid (Xx.out.below hb2)
    have Xy2 := Lib.hid (Xy.out.below hb2)
    clear t_g t_0 t_1 t_2 t_3 t_4 x_g x_0 x_1 y_g y_0 y_1
    clear hb2
    obtain ⟨t_g, t_0, t_1, t_2, t_3, t_4⟩ := Xt2.out
    obtain ⟨x_g, x_0, x_1⟩ := Xx2.out
    obtain ⟨y_g, y_0, y_1⟩ := Xy2.out
    simp only [World.size_alloc] at x_g x_0 x_1 y_g y_0 y_1
    go_wp2_with fail
    refine (iIsItem _ B y (HY.out.below HBB2.out.2) (Nat.le_trans hB HBB2.out.1.size) false HQY.out).mono ?_
    rintro e w3 ⟨rfl, hb3⟩
    have HBC := Lib.hid (below_on HBB2.out.1 hb3)
    clear t_g t_0 t_1 t_2 t_3 t_4 x_g x_0 x_1 y_g y_0 y_1
    clear hb3
    go_wp2
    go_ret
    exact ⟨rfl, HBC.out⟩
  have HPy := Lib.hid (HQY.out.1 rfl)
  clear HQY
  obtain rfl := HYes.out rfl rfl rfl
  go_wp2_with fail
  refine (iIsItem _ B x (HX.out.below HBB.out.2) (Nat.le_trans hB HBB.out.1.size) true ⟨fun _ => HPx.out, fun _ => rfl⟩).mono ?_
  rintro e w2 ⟨rfl, hb2⟩
  have HD2 := Lib.hid hb2
  have HBB2 := Lib.hid (And.intro (below_on HBB.out.1 hb2) (HBB.out.2.trans (hb2.mono (Nat.le_trans hB HBB.out.1.size))))
  have Xt2 := Lib.hid (Xt.out.below hb2)
  have Xx2 := Lib.hid (Xx.out.below hb2)
  have Xy2 := Lib.hid (Xy.out.below hb2)
  clear t_g t_0 t_1 t_2 t_3 t_4 x_g x_0 x_1 y_g y_0 y_1
  clear hb2
  obtain ⟨t_g, t_0, t_1, t_2, t_3, t_4⟩ := Xt2.out
  obtain ⟨x_g, x_0, x_1⟩ := Xx2.out
  obtain ⟨y_g, y_0, y_1⟩ := Xy2.out
  simp only [World.size_alloc] at x_g x_0 x_1 y_g y_0 y_1
  go_wp2_with fail
  refine (iIsItem _ B y (HY.out.below HBB2.out.2) (Nat.le_trans hB HBB2.out.1.size) true ⟨fun _ => HPy.out, fun _ => rfl⟩).mono ?_
  rintro e w3 ⟨rfl, hb3⟩
  have HD3 := Lib.hid hb3
  have HBB3 := Lib.hid (And.intro (below_on HBB2.out.1 hb3) (HBB2.out.2.trans (hb3.mono (Nat.le_trans hB HBB2.out.1.size))))
  have Xt3 := Lib.hid (Xt2.out.below hb3)
  have Xx3 := Lib.hid (Xx2.out.below hb3)
  have Xy3 := Lib.hid (Xy2.out.below hb3)
  clear t_g t_0 t_1 t_2 t_3 t_4 x_g x_0 x_1 y_g y_0 y_1
  clear hb3
  have HT : Hid (TasteAt w3 t tv) := Lib.hid (((HT0.out (by first | rfl | trivial)).below HD2.out).below HD3.out)
  clear HT0
  obtain ⟨bx, ox, hxA, hbx, hfn, hfx, cx0⟩ := HCx.out (by first | rfl | trivial)
  obtain ⟨by', oy, hyA, hby, -, hfy, cy0⟩ := HCy.out (by first | rfl | trivial)
  have cx : w3.cell? ⟨bx, ox + t.field.toNat, none⟩ = some (.int .i64 (fval x t.field)) := (HBB3.out.2.cell (p := ⟨bx, ox + t.field.toNat, none⟩) hbx).trans cx0
  have cy : w3.cell? ⟨by', oy + t.field.toNat, none⟩ = some (.int .i64 (fval y t.field)) := (HBB3.out.2.cell (p := ⟨by', oy + t.field.toNat, none⟩) hby).trans cy0
  obtain ⟨hvx', hvy', hf0, hf2⟩ := HFx.out (by first | rfl | trivial)
  have hbx3 : bx < w3.heap.size := by have := HBB3.out.1.size; omega
  have hby3 : by' < w3.heap.size := by have := HBB3.out.1.size; omega
  have hfw : IntKind.i64.wrap t.field = t.field := IntWalk.i64_in _ ⟨by omega, by omega⟩
  have HVR := Lib.hid (And.intro hvx' hvy')
  clear cx0 cy0 hvx' hvy'
  obtain ⟨t_g, t_0, t_1, t_2, t_3, t_4⟩ := Xt3.out
  obtain ⟨x_g, x_0, x_1⟩ := Xx3.out
  obtain ⟨y_g, y_0, y_1⟩ := Xy3.out
  simp only [World.size_alloc] at x_g x_0 x_1 y_g y_0 y_1
  rw [hxA] at x_1
  rw [hyA] at y_1
  rcases HT.out with ⟨h4, b, hb, rfl, hr⟩ | ⟨h4, rfl, hr⟩ | ⟨h4, o, B2, rfl, hab⟩
  · have HZ := Lib.hid ((HU.out (by first | rfl | trivial)).trans (show cmpW t.dat (fval x t.field) (fval y t.field) = _ by unfold cmpW; rw [if_neg (show ¬ t.dat.kind = 4 from h4), hr _ HVR.out.1, hr _ HVR.out.2]))
    have HB := Lib.hid hb
    clear hr h4 hb HT
    have hm := near_cmp_m b
    have hm2 := near_cmp_n b
    unfold nearI
    go_wp2
    have hs0 : (fun w' => Below w3.heap.size w3 w' ∧ w'.cell? ⟨w.heap.size, 0, none⟩ = some (.int .i64 t.kind) ∧ w'.cell? ⟨w.heap.size, 1, none⟩ = some (.int .i64 t.field) ∧ w'.cell? ⟨w.heap.size, 2, none⟩ = some (.int .i64 t.value) ∧ w'.cell? ⟨w.heap.size, 3, none⟩ = some (.slice t.LA t.Ln t.Lc) ∧ w'.cell? ⟨w.heap.size, 4, none⟩ = some (.slice t.PA t.Pn t.Pc) ∧ w'.cell? ⟨w.heap.size + 1, 0, none⟩ = some (.int .i64 x.id) ∧ w'.cell? ⟨w.heap.size + 1, 1, none⟩ = some (.slice (some ⟨bx, ox, none⟩) x.n x.c) ∧ w'.cell? ⟨w.heap.size + 1 + 1, 0, none⟩ = some (.int .i64 y.id) ∧ w'.cell? ⟨w.heap.size + 1 + 1, 1, none⟩ = some (.slice (some ⟨by', oy, none⟩) y.n y.c) ∧ w'.cell? ⟨bx, ox + t.field.toNat, none⟩ = some (.int .i64 (fval x t.field)) ∧ w'.cell? ⟨by', oy + t.field.toNat, none⟩ = some (.int .i64 (fval y t.field))) w3.drew := ⟨(Below.refl _ _).drew, t_0, t_1, t_2, t_3, t_4, x_0, x_1, y_0, y_1, cx, cy⟩
    refine wp_region_held (S := fun w' => Below w3.heap.size w3 w' ∧ w'.cell? ⟨w.heap.size, 0, none⟩ = some (.int .i64 t.kind) ∧ w'.cell? ⟨w.heap.size, 1, none⟩ = some (.int .i64 t.field) ∧ w'.cell? ⟨w.heap.size, 2, none⟩ = some (.int .i64 t.value) ∧ w'.cell? ⟨w.heap.size, 3, none⟩ = some (.slice t.LA t.Ln t.Lc) ∧ w'.cell? ⟨w.heap.size, 4, none⟩ = some (.slice t.PA t.Pn t.Pc) ∧ w'.cell? ⟨w.heap.size + 1, 0, none⟩ = some (.int .i64 x.id) ∧ w'.cell? ⟨w.heap.size + 1, 1, none⟩ = some (.slice (some ⟨bx, ox, none⟩) x.n x.c) ∧ w'.cell? ⟨w.heap.size + 1 + 1, 0, none⟩ = some (.int .i64 y.id) ∧ w'.cell? ⟨w.heap.size + 1 + 1, 1, none⟩ = some (.slice (some ⟨by', oy, none⟩) y.n y.c) ∧ w'.cell? ⟨bx, ox + t.field.toNat, none⟩ = some (.int .i64 (fval x t.field)) ∧ w'.cell? ⟨by', oy + t.field.toNat, none⟩ = some (.int .i64 (fval y t.field))) (by kernel_rfl) ?_
    change wpAnyH _ _ _ _ _ _ _ _ (World.drew _)
    refine takeY 26 (i := 0) (v := ?v0b) rfl rfl (by kernel_rfl) (by kernel_rfl) (by kernel_rfl) (fun _ _ _ h => h) (by kernel_rfl) ?y0b hs0 ?_
    case y0b =>
      intro w' hw'; (try dsimp only at hw'); obtain ⟨e0, e1, e2, e3, e4, e5, e6, e7, e8, e9, e10, e11⟩ := hw'; go_simp; try with_reducible rfl
    simp only [Act.put, List.setIfInBounds_toArray, List.set_cons_zero, List.set_cons_succ]
    refine takeY 27 (i := 1) (v := ?v1b) rfl rfl (by kernel_rfl) (by kernel_rfl) (by kernel_rfl) (fun _ _ _ h => h) (by kernel_rfl) ?y1b hs0 ?_
    case y1b =>
      intro w' hw'; (try dsimp only at hw'); obtain ⟨e0, e1, e2, e3, e4, e5, e6, e7, e8, e9, e10, e11⟩ := hw'; go_simp; try with_reducible rfl
    simp only [Act.put, List.setIfInBounds_toArray, List.set_cons_zero, List.set_cons_succ]
    refine takeY 28 (i := 2) (v := ?v2b) rfl rfl (by kernel_rfl) (by kernel_rfl) (by kernel_rfl) (fun _ _ _ h => h) (by kernel_rfl) ?y2b hs0 ?_
    case y2b =>
      intro w' hw'; (try dsimp only at hw'); obtain ⟨e0, e1, e2, e3, e4, e5, e6, e7, e8, e9, e10, e11⟩ := hw'; go_simp; try with_reducible rfl
    simp only [Act.put, List.setIfInBounds_toArray, List.set_cons_zero, List.set_cons_succ]
    refine takeY 29 (i := 3) (v := ?v3b) rfl rfl (by kernel_rfl) (by kernel_rfl) (by kernel_rfl) (fun _ _ _ h => h) (by kernel_rfl) ?y3b hs0 ?_
    case y3b =>
      intro w' hw'; (try dsimp only at hw'); obtain ⟨e0, e1, e2, e3, e4, e5, e6, e7, e8, e9, e10, e11⟩ := hw'; go_simp; try with_reducible rfl
    simp only [Act.put, List.setIfInBounds_toArray, List.set_cons_zero, List.set_cons_succ]
    refine takeY 30 (i := 4) (v := ?v4b) rfl rfl (by kernel_rfl) (by kernel_rfl) (by kernel_rfl) (fun _ _ _ h => h) (by kernel_rfl) ?y4b hs0 ?_
    case y4b =>
      intro w' hw'; (try dsimp only at hw'); obtain ⟨e0, e1, e2, e3, e4, e5, e6, e7, e8, e9, e10, e11⟩ := hw'; go_simp; try with_reducible rfl
    simp only [Act.put, List.setIfInBounds_toArray, List.set_cons_zero, List.set_cons_succ]
    refine takeY 31 (i := 5) (v := ?v5b) rfl rfl (by kernel_rfl) (by kernel_rfl) (by kernel_rfl) (fun _ _ _ h => h) (by kernel_rfl) ?y5b hs0 ?_
    case y5b =>
      intro w' hw'; (try dsimp only at hw'); obtain ⟨e0, e1, e2, e3, e4, e5, e6, e7, e8, e9, e10, e11⟩ := hw'; go_simp; try with_reducible rfl
    simp only [Act.put, List.setIfInBounds_toArray, List.set_cons_zero, List.set_cons_succ]
    refine takeY 32 (i := 6) (v := ?v6b) rfl rfl (by kernel_rfl) (by kernel_rfl) (by kernel_rfl) (fun _ _ _ h => h) (by kernel_rfl) ?y6b hs0 ?_
    case y6b =>
      intro w' hw'; (try dsimp only at hw'); obtain ⟨e0, e1, e2, e3, e4, e5, e6, e7, e8, e9, e10, e11⟩ := hw'; go_simp; try with_reducible rfl
    simp only [Act.put, List.setIfInBounds_toArray, List.set_cons_zero, List.set_cons_succ]
    refine takeY 33 (i := 7) (v := ?v7b) rfl rfl (by kernel_rfl) (by kernel_rfl) (by kernel_rfl) (fun _ _ _ h => h) (by kernel_rfl) ?y7b hs0 ?_
    case y7b =>
      intro w' hw'; (try dsimp only at hw'); obtain ⟨e0, e1, e2, e3, e4, e5, e6, e7, e8, e9, e10, e11⟩ := hw'; go_simp; try with_reducible rfl
    simp only [Act.put, List.setIfInBounds_toArray, List.set_cons_zero, List.set_cons_succ]
    refine takeY 34 (i := 8) (v := ?v8b) rfl rfl (by kernel_rfl) (by kernel_rfl) (by kernel_rfl) (fun _ _ _ h => h) (by kernel_rfl) ?y8b hs0 ?_
    case y8b =>
      intro w' hw'; (try dsimp only at hw'); obtain ⟨e0, e1, e2, e3, e4, e5, e6, e7, e8, e9, e10, e11⟩ := hw'; go_simp; try with_reducible rfl
    simp only [Act.put, List.setIfInBounds_toArray, List.set_cons_zero, List.set_cons_succ]
    refine takeY 35 (i := 9) (v := ?v9b) rfl rfl (by kernel_rfl) (by kernel_rfl) (by kernel_rfl) (fun _ _ _ h => h) (by kernel_rfl) ?y9b hs0 ?_
    case y9b =>
      intro w' hw'; (try dsimp only at hw'); obtain ⟨e0, e1, e2, e3, e4, e5, e6, e7, e8, e9, e10, e11⟩ := hw'; go_simp; try with_reducible rfl
    simp only [Act.put, List.setIfInBounds_toArray, List.set_cons_zero, List.set_cons_succ]
    refine takeY 36 (i := 10) (v := ?v10b) rfl rfl (by kernel_rfl) (by kernel_rfl) (by kernel_rfl) (fun _ _ _ h => h) (by kernel_rfl) ?y10b hs0 ?_
    case y10b =>
      intro w' hw'; (try dsimp only at hw'); obtain ⟨e0, e1, e2, e3, e4, e5, e6, e7, e8, e9, e10, e11⟩ := hw'; go_simp; try with_reducible rfl
    simp only [Act.put, List.setIfInBounds_toArray, List.set_cons_zero, List.set_cons_succ]
    refine takeY 37 (i := 11) (v := ?v11b) rfl rfl (by kernel_rfl) (by kernel_rfl) (by kernel_rfl) (fun _ _ _ h => h) (by kernel_rfl) ?y11b hs0 ?_
    case y11b =>
      intro w' hw'; (try dsimp only at hw'); obtain ⟨e0, e1, e2, e3, e4, e5, e6, e7, e8, e9, e10, e11⟩ := hw'; go_simp; try with_reducible rfl
    simp only [Act.put, List.setIfInBounds_toArray, List.set_cons_zero, List.set_cons_succ]
    refine takeY 38 (i := 12) (v := ?v12b) rfl rfl (by kernel_rfl) (by kernel_rfl) (by kernel_rfl) (fun _ _ _ h => h) (by kernel_rfl) ?y12b hs0 ?_
    case y12b =>
      intro w' hw'; (try dsimp only at hw'); obtain ⟨e0, e1, e2, e3, e4, e5, e6, e7, e8, e9, e10, e11⟩ := hw'; go_simp; try with_reducible rfl
    simp only [Act.put, List.setIfInBounds_toArray, List.set_cons_zero, List.set_cons_succ]
    refine takeY 39 (i := 13) (v := ?v13b) rfl rfl (by kernel_rfl) (by kernel_rfl) (by kernel_rfl) (fun _ _ _ h => h) (by kernel_rfl) ?y13b hs0 ?_
    case y13b =>
      intro w' hw'; (try dsimp only at hw'); obtain ⟨e0, e1, e2, e3, e4, e5, e6, e7, e8, e9, e10, e11⟩ := hw'; go_simp; try with_reducible rfl
    simp only [Act.put, List.setIfInBounds_toArray, List.set_cons_zero, List.set_cons_succ]
    refine takeY 40 (i := 14) (v := ?v14b) rfl rfl (by kernel_rfl) (by kernel_rfl) (by kernel_rfl) (fun _ _ _ h => h) (by kernel_rfl) ?y14b hs0 ?_
    case y14b =>
      intro w' hw'; (try dsimp only at hw'); obtain ⟨e0, e1, e2, e3, e4, e5, e6, e7, e8, e9, e10, e11⟩ := hw'; go_simp; try with_reducible rfl
    simp only [Act.put, List.setIfInBounds_toArray, List.set_cons_zero, List.set_cons_succ]
    refine takeY 41 (i := 15) (v := ?v15b) rfl rfl (by kernel_rfl) (by kernel_rfl) (by kernel_rfl) (fun _ _ _ h => h) (by kernel_rfl) ?y15b hs0 ?_
    case y15b =>
      intro w' hw'; (try dsimp only at hw'); obtain ⟨e0, e1, e2, e3, e4, e5, e6, e7, e8, e9, e10, e11⟩ := hw'; go_simp; try with_reducible rfl
    simp only [Act.put, List.setIfInBounds_toArray, List.set_cons_zero, List.set_cons_succ]
    refine wpAnyH_ready (rs := [16]) (by kernel_rfl) (by simp) ?_
    refine AllReadyH.cons rfl (fun K hK => ?_) AllReadyH.nil
    go_simp; go_at_call 83; refine (nearCmp _ b _ _ HB.out HVR.out.1 HVR.out.2).mono ?_; rintro e w4 ⟨rfl, hz⟩; replace hz := (Below.refl w3.heap.size w3).drew.trans (hz.mono (Nat.le_refl _)); rw [← HZ.out]
    refine hK.out _ _ ⟨hz, (hz.cell (p := ⟨w.heap.size, 0, none⟩) t_g).trans t_0, (hz.cell (p := ⟨w.heap.size, 1, none⟩) t_g).trans t_1, (hz.cell (p := ⟨w.heap.size, 2, none⟩) t_g).trans t_2, (hz.cell (p := ⟨w.heap.size, 3, none⟩) t_g).trans t_3, (hz.cell (p := ⟨w.heap.size, 4, none⟩) t_g).trans t_4, (hz.cell (p := ⟨w.heap.size + 1, 0, none⟩) x_g).trans x_0, (hz.cell (p := ⟨w.heap.size + 1, 1, none⟩) x_g).trans x_1, (hz.cell (p := ⟨w.heap.size + 1 + 1, 0, none⟩) y_g).trans y_0, (hz.cell (p := ⟨w.heap.size + 1 + 1, 1, none⟩) y_g).trans y_1, (hz.cell (p := ⟨bx, ox + t.field.toNat, none⟩) hbx3).trans cx, (hz.cell (p := ⟨by', oy + t.field.toNat, none⟩) hby3).trans cy⟩ (fun hS1 => ?_)
    clear hK K
    try simp only [Act.put, List.setIfInBounds_toArray, List.set_cons_zero, List.set_cons_succ]
    refine takeY 6 (i := 17) (v := ?v17b) rfl rfl (by kernel_rfl) (by kernel_rfl) (by kernel_rfl) (fun _ _ _ h => h) (by kernel_rfl) ?y17b hS1 ?_
    case y17b =>
      intro w' hw'; (try dsimp only at hw'); obtain ⟨e0, e1, e2, e3, e4, e5, e6, e7, e8, e9, e10, e11⟩ := hw'; go_simp; try with_reducible rfl
    simp only [Act.put, List.setIfInBounds_toArray, List.set_cons_zero, List.set_cons_succ]
    refine wpAnyH_done (by kernel_rfl) ?_ _
    have HBC := Lib.hid (below_on HBB3.out.1 hz)
    clear hz
    go_wp2
    go_ret
    exact ⟨rfl, HBC.out⟩
  · have HZ := Lib.hid ((HU.out (by first | rfl | trivial)).trans (show cmpW t.dat (fval x t.field) (fval y t.field) = _ by unfold cmpW; rw [if_neg (show ¬ t.dat.kind = 4 from h4), hr, hr]))
    clear hr h4 HT
    have hm := among_cmp_m t.LA t.Ln t.Lc
    have hm2 := among_cmp_n t.LA t.Ln t.Lc
    unfold amongI
    go_wp2
    have hs0 : (fun w' => Below w3.heap.size w3 w' ∧ w'.cell? ⟨w.heap.size, 0, none⟩ = some (.int .i64 t.kind) ∧ w'.cell? ⟨w.heap.size, 1, none⟩ = some (.int .i64 t.field) ∧ w'.cell? ⟨w.heap.size, 2, none⟩ = some (.int .i64 t.value) ∧ w'.cell? ⟨w.heap.size, 3, none⟩ = some (.slice t.LA t.Ln t.Lc) ∧ w'.cell? ⟨w.heap.size, 4, none⟩ = some (.slice t.PA t.Pn t.Pc) ∧ w'.cell? ⟨w.heap.size + 1, 0, none⟩ = some (.int .i64 x.id) ∧ w'.cell? ⟨w.heap.size + 1, 1, none⟩ = some (.slice (some ⟨bx, ox, none⟩) x.n x.c) ∧ w'.cell? ⟨w.heap.size + 1 + 1, 0, none⟩ = some (.int .i64 y.id) ∧ w'.cell? ⟨w.heap.size + 1 + 1, 1, none⟩ = some (.slice (some ⟨by', oy, none⟩) y.n y.c) ∧ w'.cell? ⟨bx, ox + t.field.toNat, none⟩ = some (.int .i64 (fval x t.field)) ∧ w'.cell? ⟨by', oy + t.field.toNat, none⟩ = some (.int .i64 (fval y t.field))) w3.drew := ⟨(Below.refl _ _).drew, t_0, t_1, t_2, t_3, t_4, x_0, x_1, y_0, y_1, cx, cy⟩
    refine wp_region_held (S := fun w' => Below w3.heap.size w3 w' ∧ w'.cell? ⟨w.heap.size, 0, none⟩ = some (.int .i64 t.kind) ∧ w'.cell? ⟨w.heap.size, 1, none⟩ = some (.int .i64 t.field) ∧ w'.cell? ⟨w.heap.size, 2, none⟩ = some (.int .i64 t.value) ∧ w'.cell? ⟨w.heap.size, 3, none⟩ = some (.slice t.LA t.Ln t.Lc) ∧ w'.cell? ⟨w.heap.size, 4, none⟩ = some (.slice t.PA t.Pn t.Pc) ∧ w'.cell? ⟨w.heap.size + 1, 0, none⟩ = some (.int .i64 x.id) ∧ w'.cell? ⟨w.heap.size + 1, 1, none⟩ = some (.slice (some ⟨bx, ox, none⟩) x.n x.c) ∧ w'.cell? ⟨w.heap.size + 1 + 1, 0, none⟩ = some (.int .i64 y.id) ∧ w'.cell? ⟨w.heap.size + 1 + 1, 1, none⟩ = some (.slice (some ⟨by', oy, none⟩) y.n y.c) ∧ w'.cell? ⟨bx, ox + t.field.toNat, none⟩ = some (.int .i64 (fval x t.field)) ∧ w'.cell? ⟨by', oy + t.field.toNat, none⟩ = some (.int .i64 (fval y t.field))) (by kernel_rfl) ?_
    change wpAnyH _ _ _ _ _ _ _ _ (World.drew _)
    refine takeY 26 (i := 0) (v := ?v0c) rfl rfl (by kernel_rfl) (by kernel_rfl) (by kernel_rfl) (fun _ _ _ h => h) (by kernel_rfl) ?y0c hs0 ?_
    case y0c =>
      intro w' hw'; (try dsimp only at hw'); obtain ⟨e0, e1, e2, e3, e4, e5, e6, e7, e8, e9, e10, e11⟩ := hw'; go_simp; try with_reducible rfl
    simp only [Act.put, List.setIfInBounds_toArray, List.set_cons_zero, List.set_cons_succ]
    refine takeY 27 (i := 1) (v := ?v1c) rfl rfl (by kernel_rfl) (by kernel_rfl) (by kernel_rfl) (fun _ _ _ h => h) (by kernel_rfl) ?y1c hs0 ?_
    case y1c =>
      intro w' hw'; (try dsimp only at hw'); obtain ⟨e0, e1, e2, e3, e4, e5, e6, e7, e8, e9, e10, e11⟩ := hw'; go_simp; try with_reducible rfl
    simp only [Act.put, List.setIfInBounds_toArray, List.set_cons_zero, List.set_cons_succ]
    refine takeY 28 (i := 2) (v := ?v2c) rfl rfl (by kernel_rfl) (by kernel_rfl) (by kernel_rfl) (fun _ _ _ h => h) (by kernel_rfl) ?y2c hs0 ?_
    case y2c =>
      intro w' hw'; (try dsimp only at hw'); obtain ⟨e0, e1, e2, e3, e4, e5, e6, e7, e8, e9, e10, e11⟩ := hw'; go_simp; try with_reducible rfl
    simp only [Act.put, List.setIfInBounds_toArray, List.set_cons_zero, List.set_cons_succ]
    refine takeY 29 (i := 3) (v := ?v3c) rfl rfl (by kernel_rfl) (by kernel_rfl) (by kernel_rfl) (fun _ _ _ h => h) (by kernel_rfl) ?y3c hs0 ?_
    case y3c =>
      intro w' hw'; (try dsimp only at hw'); obtain ⟨e0, e1, e2, e3, e4, e5, e6, e7, e8, e9, e10, e11⟩ := hw'; go_simp; try with_reducible rfl
    simp only [Act.put, List.setIfInBounds_toArray, List.set_cons_zero, List.set_cons_succ]
    refine takeY 30 (i := 4) (v := ?v4c) rfl rfl (by kernel_rfl) (by kernel_rfl) (by kernel_rfl) (fun _ _ _ h => h) (by kernel_rfl) ?y4c hs0 ?_
    case y4c =>
      intro w' hw'; (try dsimp only at hw'); obtain ⟨e0, e1, e2, e3, e4, e5, e6, e7, e8, e9, e10, e11⟩ := hw'; go_simp; try with_reducible rfl
    simp only [Act.put, List.setIfInBounds_toArray, List.set_cons_zero, List.set_cons_succ]
    refine takeY 31 (i := 5) (v := ?v5c) rfl rfl (by kernel_rfl) (by kernel_rfl) (by kernel_rfl) (fun _ _ _ h => h) (by kernel_rfl) ?y5c hs0 ?_
    case y5c =>
      intro w' hw'; (try dsimp only at hw'); obtain ⟨e0, e1, e2, e3, e4, e5, e6, e7, e8, e9, e10, e11⟩ := hw'; go_simp; try with_reducible rfl
    simp only [Act.put, List.setIfInBounds_toArray, List.set_cons_zero, List.set_cons_succ]
    refine takeY 32 (i := 6) (v := ?v6c) rfl rfl (by kernel_rfl) (by kernel_rfl) (by kernel_rfl) (fun _ _ _ h => h) (by kernel_rfl) ?y6c hs0 ?_
    case y6c =>
      intro w' hw'; (try dsimp only at hw'); obtain ⟨e0, e1, e2, e3, e4, e5, e6, e7, e8, e9, e10, e11⟩ := hw'; go_simp; try with_reducible rfl
    simp only [Act.put, List.setIfInBounds_toArray, List.set_cons_zero, List.set_cons_succ]
    refine takeY 33 (i := 7) (v := ?v7c) rfl rfl (by kernel_rfl) (by kernel_rfl) (by kernel_rfl) (fun _ _ _ h => h) (by kernel_rfl) ?y7c hs0 ?_
    case y7c =>
      intro w' hw'; (try dsimp only at hw'); obtain ⟨e0, e1, e2, e3, e4, e5, e6, e7, e8, e9, e10, e11⟩ := hw'; go_simp; try with_reducible rfl
    simp only [Act.put, List.setIfInBounds_toArray, List.set_cons_zero, List.set_cons_succ]
    refine takeY 34 (i := 8) (v := ?v8c) rfl rfl (by kernel_rfl) (by kernel_rfl) (by kernel_rfl) (fun _ _ _ h => h) (by kernel_rfl) ?y8c hs0 ?_
    case y8c =>
      intro w' hw'; (try dsimp only at hw'); obtain ⟨e0, e1, e2, e3, e4, e5, e6, e7, e8, e9, e10, e11⟩ := hw'; go_simp; try with_reducible rfl
    simp only [Act.put, List.setIfInBounds_toArray, List.set_cons_zero, List.set_cons_succ]
    refine takeY 35 (i := 9) (v := ?v9c) rfl rfl (by kernel_rfl) (by kernel_rfl) (by kernel_rfl) (fun _ _ _ h => h) (by kernel_rfl) ?y9c hs0 ?_
    case y9c =>
      intro w' hw'; (try dsimp only at hw'); obtain ⟨e0, e1, e2, e3, e4, e5, e6, e7, e8, e9, e10, e11⟩ := hw'; go_simp; try with_reducible rfl
    simp only [Act.put, List.setIfInBounds_toArray, List.set_cons_zero, List.set_cons_succ]
    refine takeY 36 (i := 10) (v := ?v10c) rfl rfl (by kernel_rfl) (by kernel_rfl) (by kernel_rfl) (fun _ _ _ h => h) (by kernel_rfl) ?y10c hs0 ?_
    case y10c =>
      intro w' hw'; (try dsimp only at hw'); obtain ⟨e0, e1, e2, e3, e4, e5, e6, e7, e8, e9, e10, e11⟩ := hw'; go_simp; try with_reducible rfl
    simp only [Act.put, List.setIfInBounds_toArray, List.set_cons_zero, List.set_cons_succ]
    refine takeY 37 (i := 11) (v := ?v11c) rfl rfl (by kernel_rfl) (by kernel_rfl) (by kernel_rfl) (fun _ _ _ h => h) (by kernel_rfl) ?y11c hs0 ?_
    case y11c =>
      intro w' hw'; (try dsimp only at hw'); obtain ⟨e0, e1, e2, e3, e4, e5, e6, e7, e8, e9, e10, e11⟩ := hw'; go_simp; try with_reducible rfl
    simp only [Act.put, List.setIfInBounds_toArray, List.set_cons_zero, List.set_cons_succ]
    refine takeY 38 (i := 12) (v := ?v12c) rfl rfl (by kernel_rfl) (by kernel_rfl) (by kernel_rfl) (fun _ _ _ h => h) (by kernel_rfl) ?y12c hs0 ?_
    case y12c =>
      intro w' hw'; (try dsimp only at hw'); obtain ⟨e0, e1, e2, e3, e4, e5, e6, e7, e8, e9, e10, e11⟩ := hw'; go_simp; try with_reducible rfl
    simp only [Act.put, List.setIfInBounds_toArray, List.set_cons_zero, List.set_cons_succ]
    refine takeY 39 (i := 13) (v := ?v13c) rfl rfl (by kernel_rfl) (by kernel_rfl) (by kernel_rfl) (fun _ _ _ h => h) (by kernel_rfl) ?y13c hs0 ?_
    case y13c =>
      intro w' hw'; (try dsimp only at hw'); obtain ⟨e0, e1, e2, e3, e4, e5, e6, e7, e8, e9, e10, e11⟩ := hw'; go_simp; try with_reducible rfl
    simp only [Act.put, List.setIfInBounds_toArray, List.set_cons_zero, List.set_cons_succ]
    refine takeY 40 (i := 14) (v := ?v14c) rfl rfl (by kernel_rfl) (by kernel_rfl) (by kernel_rfl) (fun _ _ _ h => h) (by kernel_rfl) ?y14c hs0 ?_
    case y14c =>
      intro w' hw'; (try dsimp only at hw'); obtain ⟨e0, e1, e2, e3, e4, e5, e6, e7, e8, e9, e10, e11⟩ := hw'; go_simp; try with_reducible rfl
    simp only [Act.put, List.setIfInBounds_toArray, List.set_cons_zero, List.set_cons_succ]
    refine takeY 41 (i := 15) (v := ?v15c) rfl rfl (by kernel_rfl) (by kernel_rfl) (by kernel_rfl) (fun _ _ _ h => h) (by kernel_rfl) ?y15c hs0 ?_
    case y15c =>
      intro w' hw'; (try dsimp only at hw'); obtain ⟨e0, e1, e2, e3, e4, e5, e6, e7, e8, e9, e10, e11⟩ := hw'; go_simp; try with_reducible rfl
    simp only [Act.put, List.setIfInBounds_toArray, List.set_cons_zero, List.set_cons_succ]
    refine wpAnyH_ready (rs := [16]) (by kernel_rfl) (by simp) ?_
    refine AllReadyH.cons rfl (fun K hK => ?_) AllReadyH.nil
    go_simp; go_at_call 88; refine (amongCmp _ B t.LA t.Ln t.Lc t.ls _ _ (HLs.out _ (HBB3.out.2.drew)) (Nat.le_trans hB HBB3.out.1.size) HLn.out).mono ?_; rintro e w4 ⟨rfl, hz⟩; replace hz := (Below.refl w3.heap.size w3).drew.trans (hz.mono (Nat.le_refl _)); rw [← HZ.out]
    refine hK.out _ _ ⟨hz, (hz.cell (p := ⟨w.heap.size, 0, none⟩) t_g).trans t_0, (hz.cell (p := ⟨w.heap.size, 1, none⟩) t_g).trans t_1, (hz.cell (p := ⟨w.heap.size, 2, none⟩) t_g).trans t_2, (hz.cell (p := ⟨w.heap.size, 3, none⟩) t_g).trans t_3, (hz.cell (p := ⟨w.heap.size, 4, none⟩) t_g).trans t_4, (hz.cell (p := ⟨w.heap.size + 1, 0, none⟩) x_g).trans x_0, (hz.cell (p := ⟨w.heap.size + 1, 1, none⟩) x_g).trans x_1, (hz.cell (p := ⟨w.heap.size + 1 + 1, 0, none⟩) y_g).trans y_0, (hz.cell (p := ⟨w.heap.size + 1 + 1, 1, none⟩) y_g).trans y_1, (hz.cell (p := ⟨bx, ox + t.field.toNat, none⟩) hbx3).trans cx, (hz.cell (p := ⟨by', oy + t.field.toNat, none⟩) hby3).trans cy⟩ (fun hS1 => ?_)
    clear hK K
    try simp only [Act.put, List.setIfInBounds_toArray, List.set_cons_zero, List.set_cons_succ]
    refine takeY 6 (i := 17) (v := ?v17c) rfl rfl (by kernel_rfl) (by kernel_rfl) (by kernel_rfl) (fun _ _ _ h => h) (by kernel_rfl) ?y17c hS1 ?_
    case y17c =>
      intro w' hw'; (try dsimp only at hw'); obtain ⟨e0, e1, e2, e3, e4, e5, e6, e7, e8, e9, e10, e11⟩ := hw'; go_simp; try with_reducible rfl
    simp only [Act.put, List.setIfInBounds_toArray, List.set_cons_zero, List.set_cons_succ]
    refine wpAnyH_done (by kernel_rfl) ?_ _
    have HBC := Lib.hid (below_on HBB3.out.1 hz)
    clear hz
    go_wp2
    go_ret
    exact ⟨rfl, HBC.out⟩
  · have HZ := Lib.hid ((HU.out (by first | rfl | trivial)).trans (show cmpW t.dat (fval x t.field) (fval y t.field) = _ by unfold cmpW; rw [if_pos (show t.dat.kind = 4 from h4)]))
    have HA := Lib.hid hab
    clear hab h4 HT
    have hm := order_cmp_m o
    have hm2 := order_cmp_n o
    unfold orderI
    go_wp2
    have hs0 : (fun w' => Below w3.heap.size w3 w' ∧ w'.cell? ⟨w.heap.size, 0, none⟩ = some (.int .i64 t.kind) ∧ w'.cell? ⟨w.heap.size, 1, none⟩ = some (.int .i64 t.field) ∧ w'.cell? ⟨w.heap.size, 2, none⟩ = some (.int .i64 t.value) ∧ w'.cell? ⟨w.heap.size, 3, none⟩ = some (.slice t.LA t.Ln t.Lc) ∧ w'.cell? ⟨w.heap.size, 4, none⟩ = some (.slice t.PA t.Pn t.Pc) ∧ w'.cell? ⟨w.heap.size + 1, 0, none⟩ = some (.int .i64 x.id) ∧ w'.cell? ⟨w.heap.size + 1, 1, none⟩ = some (.slice (some ⟨bx, ox, none⟩) x.n x.c) ∧ w'.cell? ⟨w.heap.size + 1 + 1, 0, none⟩ = some (.int .i64 y.id) ∧ w'.cell? ⟨w.heap.size + 1 + 1, 1, none⟩ = some (.slice (some ⟨by', oy, none⟩) y.n y.c) ∧ w'.cell? ⟨bx, ox + t.field.toNat, none⟩ = some (.int .i64 (fval x t.field)) ∧ w'.cell? ⟨by', oy + t.field.toNat, none⟩ = some (.int .i64 (fval y t.field))) w3.drew := ⟨(Below.refl _ _).drew, t_0, t_1, t_2, t_3, t_4, x_0, x_1, y_0, y_1, cx, cy⟩
    refine wp_region_held (S := fun w' => Below w3.heap.size w3 w' ∧ w'.cell? ⟨w.heap.size, 0, none⟩ = some (.int .i64 t.kind) ∧ w'.cell? ⟨w.heap.size, 1, none⟩ = some (.int .i64 t.field) ∧ w'.cell? ⟨w.heap.size, 2, none⟩ = some (.int .i64 t.value) ∧ w'.cell? ⟨w.heap.size, 3, none⟩ = some (.slice t.LA t.Ln t.Lc) ∧ w'.cell? ⟨w.heap.size, 4, none⟩ = some (.slice t.PA t.Pn t.Pc) ∧ w'.cell? ⟨w.heap.size + 1, 0, none⟩ = some (.int .i64 x.id) ∧ w'.cell? ⟨w.heap.size + 1, 1, none⟩ = some (.slice (some ⟨bx, ox, none⟩) x.n x.c) ∧ w'.cell? ⟨w.heap.size + 1 + 1, 0, none⟩ = some (.int .i64 y.id) ∧ w'.cell? ⟨w.heap.size + 1 + 1, 1, none⟩ = some (.slice (some ⟨by', oy, none⟩) y.n y.c) ∧ w'.cell? ⟨bx, ox + t.field.toNat, none⟩ = some (.int .i64 (fval x t.field)) ∧ w'.cell? ⟨by', oy + t.field.toNat, none⟩ = some (.int .i64 (fval y t.field))) (by kernel_rfl) ?_
    change wpAnyH _ _ _ _ _ _ _ _ (World.drew _)
    refine takeY 26 (i := 0) (v := ?v0d) rfl rfl (by kernel_rfl) (by kernel_rfl) (by kernel_rfl) (fun _ _ _ h => h) (by kernel_rfl) ?y0d hs0 ?_
    case y0d =>
      intro w' hw'; (try dsimp only at hw'); obtain ⟨e0, e1, e2, e3, e4, e5, e6, e7, e8, e9, e10, e11⟩ := hw'; go_simp; try with_reducible rfl
    simp only [Act.put, List.setIfInBounds_toArray, List.set_cons_zero, List.set_cons_succ]
    refine takeY 27 (i := 1) (v := ?v1d) rfl rfl (by kernel_rfl) (by kernel_rfl) (by kernel_rfl) (fun _ _ _ h => h) (by kernel_rfl) ?y1d hs0 ?_
    case y1d =>
      intro w' hw'; (try dsimp only at hw'); obtain ⟨e0, e1, e2, e3, e4, e5, e6, e7, e8, e9, e10, e11⟩ := hw'; go_simp; try with_reducible rfl
    simp only [Act.put, List.setIfInBounds_toArray, List.set_cons_zero, List.set_cons_succ]
    refine takeY 28 (i := 2) (v := ?v2d) rfl rfl (by kernel_rfl) (by kernel_rfl) (by kernel_rfl) (fun _ _ _ h => h) (by kernel_rfl) ?y2d hs0 ?_
    case y2d =>
      intro w' hw'; (try dsimp only at hw'); obtain ⟨e0, e1, e2, e3, e4, e5, e6, e7, e8, e9, e10, e11⟩ := hw'; go_simp; try with_reducible rfl
    simp only [Act.put, List.setIfInBounds_toArray, List.set_cons_zero, List.set_cons_succ]
    refine takeY 29 (i := 3) (v := ?v3d) rfl rfl (by kernel_rfl) (by kernel_rfl) (by kernel_rfl) (fun _ _ _ h => h) (by kernel_rfl) ?y3d hs0 ?_
    case y3d =>
      intro w' hw'; (try dsimp only at hw'); obtain ⟨e0, e1, e2, e3, e4, e5, e6, e7, e8, e9, e10, e11⟩ := hw'; go_simp; try with_reducible rfl
    simp only [Act.put, List.setIfInBounds_toArray, List.set_cons_zero, List.set_cons_succ]
    refine takeY 30 (i := 4) (v := ?v4d) rfl rfl (by kernel_rfl) (by kernel_rfl) (by kernel_rfl) (fun _ _ _ h => h) (by kernel_rfl) ?y4d hs0 ?_
    case y4d =>
      intro w' hw'; (try dsimp only at hw'); obtain ⟨e0, e1, e2, e3, e4, e5, e6, e7, e8, e9, e10, e11⟩ := hw'; go_simp; try with_reducible rfl
    simp only [Act.put, List.setIfInBounds_toArray, List.set_cons_zero, List.set_cons_succ]
    refine takeY 31 (i := 5) (v := ?v5d) rfl rfl (by kernel_rfl) (by kernel_rfl) (by kernel_rfl) (fun _ _ _ h => h) (by kernel_rfl) ?y5d hs0 ?_
    case y5d =>
      intro w' hw'; (try dsimp only at hw'); obtain ⟨e0, e1, e2, e3, e4, e5, e6, e7, e8, e9, e10, e11⟩ := hw'; go_simp; try with_reducible rfl
    simp only [Act.put, List.setIfInBounds_toArray, List.set_cons_zero, List.set_cons_succ]
    refine takeY 32 (i := 6) (v := ?v6d) rfl rfl (by kernel_rfl) (by kernel_rfl) (by kernel_rfl) (fun _ _ _ h => h) (by kernel_rfl) ?y6d hs0 ?_
    case y6d =>
      intro w' hw'; (try dsimp only at hw'); obtain ⟨e0, e1, e2, e3, e4, e5, e6, e7, e8, e9, e10, e11⟩ := hw'; go_simp; try with_reducible rfl
    simp only [Act.put, List.setIfInBounds_toArray, List.set_cons_zero, List.set_cons_succ]
    refine takeY 33 (i := 7) (v := ?v7d) rfl rfl (by kernel_rfl) (by kernel_rfl) (by kernel_rfl) (fun _ _ _ h => h) (by kernel_rfl) ?y7d hs0 ?_
    case y7d =>
      intro w' hw'; (try dsimp only at hw'); obtain ⟨e0, e1, e2, e3, e4, e5, e6, e7, e8, e9, e10, e11⟩ := hw'; go_simp; try with_reducible rfl
    simp only [Act.put, List.setIfInBounds_toArray, List.set_cons_zero, List.set_cons_succ]
    refine takeY 34 (i := 8) (v := ?v8d) rfl rfl (by kernel_rfl) (by kernel_rfl) (by kernel_rfl) (fun _ _ _ h => h) (by kernel_rfl) ?y8d hs0 ?_
    case y8d =>
      intro w' hw'; (try dsimp only at hw'); obtain ⟨e0, e1, e2, e3, e4, e5, e6, e7, e8, e9, e10, e11⟩ := hw'; go_simp; try with_reducible rfl
    simp only [Act.put, List.setIfInBounds_toArray, List.set_cons_zero, List.set_cons_succ]
    refine takeY 35 (i := 9) (v := ?v9d) rfl rfl (by kernel_rfl) (by kernel_rfl) (by kernel_rfl) (fun _ _ _ h => h) (by kernel_rfl) ?y9d hs0 ?_
    case y9d =>
      intro w' hw'; (try dsimp only at hw'); obtain ⟨e0, e1, e2, e3, e4, e5, e6, e7, e8, e9, e10, e11⟩ := hw'; go_simp; try with_reducible rfl
    simp only [Act.put, List.setIfInBounds_toArray, List.set_cons_zero, List.set_cons_succ]
    refine takeY 36 (i := 10) (v := ?v10d) rfl rfl (by kernel_rfl) (by kernel_rfl) (by kernel_rfl) (fun _ _ _ h => h) (by kernel_rfl) ?y10d hs0 ?_
    case y10d =>
      intro w' hw'; (try dsimp only at hw'); obtain ⟨e0, e1, e2, e3, e4, e5, e6, e7, e8, e9, e10, e11⟩ := hw'; go_simp; try with_reducible rfl
    simp only [Act.put, List.setIfInBounds_toArray, List.set_cons_zero, List.set_cons_succ]
    refine takeY 37 (i := 11) (v := ?v11d) rfl rfl (by kernel_rfl) (by kernel_rfl) (by kernel_rfl) (fun _ _ _ h => h) (by kernel_rfl) ?y11d hs0 ?_
    case y11d =>
      intro w' hw'; (try dsimp only at hw'); obtain ⟨e0, e1, e2, e3, e4, e5, e6, e7, e8, e9, e10, e11⟩ := hw'; go_simp; try with_reducible rfl
    simp only [Act.put, List.setIfInBounds_toArray, List.set_cons_zero, List.set_cons_succ]
    refine takeY 38 (i := 12) (v := ?v12d) rfl rfl (by kernel_rfl) (by kernel_rfl) (by kernel_rfl) (fun _ _ _ h => h) (by kernel_rfl) ?y12d hs0 ?_
    case y12d =>
      intro w' hw'; (try dsimp only at hw'); obtain ⟨e0, e1, e2, e3, e4, e5, e6, e7, e8, e9, e10, e11⟩ := hw'; go_simp; try with_reducible rfl
    simp only [Act.put, List.setIfInBounds_toArray, List.set_cons_zero, List.set_cons_succ]
    refine takeY 39 (i := 13) (v := ?v13d) rfl rfl (by kernel_rfl) (by kernel_rfl) (by kernel_rfl) (fun _ _ _ h => h) (by kernel_rfl) ?y13d hs0 ?_
    case y13d =>
      intro w' hw'; (try dsimp only at hw'); obtain ⟨e0, e1, e2, e3, e4, e5, e6, e7, e8, e9, e10, e11⟩ := hw'; go_simp; try with_reducible rfl
    simp only [Act.put, List.setIfInBounds_toArray, List.set_cons_zero, List.set_cons_succ]
    refine takeY 40 (i := 14) (v := ?v14d) rfl rfl (by kernel_rfl) (by kernel_rfl) (by kernel_rfl) (fun _ _ _ h => h) (by kernel_rfl) ?y14d hs0 ?_
    case y14d =>
      intro w' hw'; (try dsimp only at hw'); obtain ⟨e0, e1, e2, e3, e4, e5, e6, e7, e8, e9, e10, e11⟩ := hw'; go_simp; try with_reducible rfl
    simp only [Act.put, List.setIfInBounds_toArray, List.set_cons_zero, List.set_cons_succ]
    refine takeY 41 (i := 15) (v := ?v15d) rfl rfl (by kernel_rfl) (by kernel_rfl) (by kernel_rfl) (fun _ _ _ h => h) (by kernel_rfl) ?y15d hs0 ?_
    case y15d =>
      intro w' hw'; (try dsimp only at hw'); obtain ⟨e0, e1, e2, e3, e4, e5, e6, e7, e8, e9, e10, e11⟩ := hw'; go_simp; try with_reducible rfl
    simp only [Act.put, List.setIfInBounds_toArray, List.set_cons_zero, List.set_cons_succ]
    refine wpAnyH_ready (rs := [16]) (by kernel_rfl) (by simp) ?_
    refine AllReadyH.cons rfl (fun K hK => ?_) AllReadyH.nil
    go_simp; go_at_call 92; refine (orderCmp _ B2 o t.ps (HA.out.below (Below.refl _ _).drew) _ _ HVR.out.1 HVR.out.2).mono ?_; rintro e w4 ⟨rfl, hz⟩; replace hz := (Below.refl w3.heap.size w3).drew.trans (hz.mono (Nat.le_refl _)); rw [show (if fval x t.field = fval y t.field then (0 : Int) else if rb t.ps (fval x t.field) (fval y t.field) = true then 1 else if rb t.ps (fval y t.field) (fval x t.field) = true then -1 else 2) = z from HZ.out.symm]
    refine hK.out _ _ ⟨hz, (hz.cell (p := ⟨w.heap.size, 0, none⟩) t_g).trans t_0, (hz.cell (p := ⟨w.heap.size, 1, none⟩) t_g).trans t_1, (hz.cell (p := ⟨w.heap.size, 2, none⟩) t_g).trans t_2, (hz.cell (p := ⟨w.heap.size, 3, none⟩) t_g).trans t_3, (hz.cell (p := ⟨w.heap.size, 4, none⟩) t_g).trans t_4, (hz.cell (p := ⟨w.heap.size + 1, 0, none⟩) x_g).trans x_0, (hz.cell (p := ⟨w.heap.size + 1, 1, none⟩) x_g).trans x_1, (hz.cell (p := ⟨w.heap.size + 1 + 1, 0, none⟩) y_g).trans y_0, (hz.cell (p := ⟨w.heap.size + 1 + 1, 1, none⟩) y_g).trans y_1, (hz.cell (p := ⟨bx, ox + t.field.toNat, none⟩) hbx3).trans cx, (hz.cell (p := ⟨by', oy + t.field.toNat, none⟩) hby3).trans cy⟩ (fun hS1 => ?_)
    clear hK K
    try simp only [Act.put, List.setIfInBounds_toArray, List.set_cons_zero, List.set_cons_succ]
    refine takeY 6 (i := 17) (v := ?v17d) rfl rfl (by kernel_rfl) (by kernel_rfl) (by kernel_rfl) (fun _ _ _ h => h) (by kernel_rfl) ?y17d hS1 ?_
    case y17d =>
      intro w' hw'; (try dsimp only at hw'); obtain ⟨e0, e1, e2, e3, e4, e5, e6, e7, e8, e9, e10, e11⟩ := hw'; go_simp; try with_reducible rfl
    simp only [Act.put, List.setIfInBounds_toArray, List.set_cons_zero, List.set_cons_succ]
    refine wpAnyH_done (by kernel_rfl) ?_ _
    have HBC := Lib.hid (below_on HBB3.out.1 hz)
    clear hz
    go_wp2
    go_ret
    exact ⟨rfl, HBC.out⟩
end Go.Proofs.Ytalgfiefadfmnaa.num
namespace Go.Proofs.Ytalgfiefadfmnaa.num
open Go.RowKit Go.Maps
set_option linter.unusedVariables false
set_option linter.unusedSimpArgs false

/-- The comparison of two values and that of the same exchanged. -/
def Both (c e : Int) : Prop := (c = 2 ∧ e = 2) ∨ (c = 0 ∧ e = 0) ∨ (c = 1 ∧ e = -1) ∨ (c = -1 ∧ e = 1)
theorem cmp_both {d : WD} {q : Bool} (hq : q = true → IsW d) (x y : Int) : Both (cmpV d q x y) (cmpV d q y x) := by
  unfold cmpV Both
  cases q
  · simp
  · have hw := hq rfl
    simp only [if_true]
    unfold cmpW
    by_cases h4 : d.kind = 4
    · have hp := hw.p
      rw [if_pos h4] at hp
      rw [if_pos h4, if_pos h4]
      by_cases hxy : x = y
      · subst hxy; simp
      · have hyx : ¬ y = x := fun h => hxy h.symm
        by_cases h1 : rb d.ps x y = true
        · by_cases h2 : rb d.ps y x = true
          · exact (hp.1.acy x (((rb_iff _ _ _).1 h1).trans ((rb_iff _ _ _).1 h2))).elim
          · simp [hxy, hyx, h1, h2]
        · by_cases h2 : rb d.ps y x = true
          · simp [hxy, hyx, h1, h2]
          · simp [hxy, hyx, h1, h2]
    · rw [if_neg h4, if_neg h4]
      by_cases h1 : rankW d x < rankW d y
      · have h2 : ¬ rankW d y < rankW d x := by omega
        simp [h1, h2]
      · by_cases h2 : rankW d y < rankW d x
        · simp [h1, h2]
        · simp [h1, h2]
/-- The comparison of two values that have ranks. -/
def Ranked (c r s : Int) : Prop := (r < s ∧ c = 1) ∨ (r = s ∧ c = 0) ∨ (s < r ∧ c = -1)
theorem cmp_rank {d : WD} {q a b : Bool} {x y : Int} (hq : q = true ↔ IsW d ∧ InR x ∧ InR y) (ha : a = true ↔ IsW d ∧ d.kind ≠ 4 ∧ InR x) (hb : b = true ↔ IsW d ∧ d.kind ≠ 4 ∧ InR y) (h1 : a = true) (h2 : b = true) : Ranked (cmpV d q x y) (rankV d a x) (rankV d b y) := by
  obtain ⟨w1, w2, w3⟩ := ha.1 h1
  obtain ⟨_, _, w4⟩ := hb.1 h2
  have hq1 := hq.2 ⟨w1, w3, w4⟩
  subst hq1 h1 h2
  unfold cmpV rankV cmpW Ranked
  simp only [if_true]
  rw [if_neg w2]
  by_cases h1 : rankW d x < rankW d y
  · exact .inl ⟨h1, if_pos h1⟩
  · by_cases h2 : rankW d y < rankW d x
    · exact .inr (.inr ⟨h2, by rw [if_neg h1, if_pos h2]⟩)
    · exact .inr (.inl ⟨by omega, by rw [if_neg h1, if_neg h2]⟩)
theorem name_some {c e : Int} (h : Both c e) : ∃ s, nameC c = s ∧ (s == ⟨#[]⟩) = false ∧ s.toList.isEmpty = false := by
  refine ⟨_, rfl, ?_⟩
  rcases h with ⟨rfl, _⟩ | ⟨rfl, _⟩ | ⟨rfl, _⟩ | ⟨rfl, _⟩ <;> exact ⟨by decide, by rw [ByteArray.toList_eq]; decide⟩

set_option maxRecDepth 100000 in
set_option maxHeartbeats 16000000 in
theorem wishes_walk (a : Option Addr) (len cap : Nat) (hlm : len ≤ 9223372036854775807) (w : World) (hrow : Row w w.heap.size a len) :
    Calls Try.prog 3 #[.slice a len cap] w fun e w' => e = .returned (.bool true) ∧ Below w.heap.size w w' := by
  have HR := Lib.hid hrow
  clear hrow
  obtain ⟨q0, hq0⟩ := bool_of (1048576 < len)
  go_enter Try.func3, Try.ntmps3
  go_wp2_with fail
  refine (big_any a len cap q0 hq0 hlm _).mono ?_
  rintro e w1 ⟨rfl, hw1⟩
  have HB1 : Hid (Below w.heap.size w w1) := Lib.hid (by rw [← hw1]; exact Below.refl _ _)
  have HR1 : Hid (Row w1 w1.heap.size a len) := Lib.hid (by rw [← hw1]; exact HR.out)
  clear hw1 HR
  cases q0
  case true =>
    go_wp2
    go_ret
    exact ⟨rfl, HB1.out⟩
  have hlen : len ≤ 1048576 := by
    rcases Nat.lt_or_ge 1048576 len with h | h
    · have := hq0.2 h; cases this
    · exact h
  clear hq0
  go_wp2_with fail
  refine (draw_vals w1 a len cap hlen HR1.out).mono ?_
  rintro e w2 ⟨t, x, y, rfl, hdr, hx0, hx1, hy0, hy1⟩
  have HI : Hid (WiIn w2 w2.heap.size t) := Lib.hid hdr.1.wi
  have HS : Hid t.Short := Lib.hid hdr.1.short
  have HD : Hid (Below w1.heap.size w1 w2) := Lib.hid hdr.2
  have HB2 : Hid (Below w2.heap.size w2 (w2.alloc (.cells #[.int .i64 t.kind, .int .i64 t.field, .int .i64 t.value, .slice t.LA t.Ln t.Lc, .slice t.PA t.Pn t.Pc] 27))) := Lib.hid ((Below.refl _ w2).alloc (Nat.le_refl _) _)
  have HX2 : Hid (Box5 (w2.alloc (.cells #[.int .i64 t.kind, .int .i64 t.field, .int .i64 t.value, .slice t.LA t.Ln t.Lc, .slice t.PA t.Pn t.Pc] 27)) w2.heap.size t) := Lib.hid (Box5.new w2 t _)
  obtain ⟨q, hq⟩ := bool_of (IsW t.dat ∧ InR x ∧ InR y)
  obtain ⟨qw, hqw⟩ := bool_of (IsW t.dat)
  obtain ⟨qa, hqa⟩ := bool_of (IsW t.dat ∧ t.kind ≠ 4 ∧ InR x)
  obtain ⟨qb, hqb⟩ := bool_of (IsW t.dat ∧ t.kind ≠ 4 ∧ InR y)
  have HQ := Lib.hid hq
  have HQw := Lib.hid hqw
  have HQa := Lib.hid hqa
  have HQb := Lib.hid hqb
  have HQ' : Hid (q = true ↔ IsW t.dat ∧ InR y ∧ InR x) := Lib.hid (hq.trans ⟨fun h => ⟨h.1, h.2.2, h.2.1⟩, fun h => ⟨h.1, h.2.2, h.2.1⟩⟩)
  obtain ⟨c, hc⟩ : ∃ c, cmpV t.dat q x y = c := ⟨_, rfl⟩
  obtain ⟨d, hd⟩ : ∃ d, cmpV t.dat q y x = d := ⟨_, rfl⟩
  obtain ⟨r, hr⟩ : ∃ r, rankV t.dat qa x = r := ⟨_, rfl⟩
  obtain ⟨s, hs⟩ : ∃ s, rankV t.dat qb y = s := ⟨_, rfl⟩
  have HC := Lib.hid hc
  have HDd := Lib.hid hd
  have HRr := Lib.hid hr
  have HSs := Lib.hid hs
  have HBo : Hid (Both c d) := Lib.hid (by rw [← hc, ← hd]; exact cmp_both (fun h => (hq.1 h).1) x y)
  have HRk : Hid (qa = true → qb = true → Ranked c r s) := Lib.hid fun h1 h2 => (by rw [← hc, ← hr, ← hs]; exact cmp_rank hq hqa hqb h1 h2)
  clear hdr hq hqw hqa hqb hc hd hr hs hx0 hx1 hy0 hy1
  have hval : t.val = .agg #[.int .i64 t.kind, .int .i64 t.field, .int .i64 t.value, .slice t.LA t.Ln t.Lc, .slice t.PA t.Pn t.Pc] := rfl
  rw [hval]
  clear hval
  obtain ⟨a_g, a_0, a_1, a_2, a_3, a_4⟩ := HX2.out
  go_wp2_with fail
  refine (iCmpVals _ w2.heap.size t (HI.out.below HB2.out) HB2.out.size HS.out x y q HQ.out).mono ?_
  rintro e w3 ⟨rfl, hb⟩
  rw [HC.out]
  have HB3 := Lib.hid (below_on HB2.out hb)
  have HX3 := Lib.hid (HX2.out.below hb)
  clear hb a_g a_0 a_1 a_2 a_3 a_4 HB2 HX2
  obtain ⟨a_g, a_0, a_1, a_2, a_3, a_4⟩ := HX3.out
  go_wp2_with fail
  refine (iCmpVals _ w2.heap.size t (HI.out.below HB3.out) HB3.out.size HS.out y x q HQ'.out).mono ?_
  rintro e w4 ⟨rfl, hb⟩
  rw [HDd.out]
  have HB4 := Lib.hid (below_on HB3.out hb)
  have HX4 := Lib.hid (HX3.out.below hb)
  clear hb a_g a_0 a_1 a_2 a_3 a_4 HB3 HX3
  obtain ⟨a_g, a_0, a_1, a_2, a_3, a_4⟩ := HX4.out
  go_wp2_with fail
  refine (iRankOf _ w2.heap.size t (HI.out.below HB4.out) HB4.out.size HS.out x qa HQa.out).mono ?_
  rintro e w5 ⟨rfl, hb⟩
  rw [HRr.out]
  have HB5 := Lib.hid (below_on HB4.out hb)
  have HX5 := Lib.hid (HX4.out.below hb)
  clear hb a_g a_0 a_1 a_2 a_3 a_4 HB4 HX4
  obtain ⟨a_g, a_0, a_1, a_2, a_3, a_4⟩ := HX5.out
  go_wp2_with fail
  refine (iRankOf _ w2.heap.size t (HI.out.below HB5.out) HB5.out.size HS.out y qb HQb.out).mono ?_
  rintro e w6 ⟨rfl, hb⟩
  rw [HSs.out]
  have HB6 := Lib.hid (below_on HB5.out hb)
  have HX6 := Lib.hid (HX5.out.below hb)
  clear hb a_g a_0 a_1 a_2 a_3 a_4 HB5 HX5
  obtain ⟨nm, hnm, hn1, hn2⟩ := name_some HBo.out
  have HNm := Lib.hid hnm
  clear hnm
  have hcc : (c != c) = false := by simp
  have hww : (qw != qw) = false := by simp
  obtain ⟨a_g, a_0, a_1, a_2, a_3, a_4⟩ := HX6.out
  go_wp2
  have hs0 : (fun w' => Below w6.heap.size w6 w' ∧ w'.cell? ⟨w2.heap.size, 0, none⟩ = some (.int .i64 t.kind) ∧ w'.cell? ⟨w2.heap.size, 1, none⟩ = some (.int .i64 t.field) ∧ w'.cell? ⟨w2.heap.size, 2, none⟩ = some (.int .i64 t.value) ∧ w'.cell? ⟨w2.heap.size, 3, none⟩ = some (.slice t.LA t.Ln t.Lc) ∧ w'.cell? ⟨w2.heap.size, 4, none⟩ = some (.slice t.PA t.Pn t.Pc)) w6.drew := ⟨(Below.refl _ _).drew, a_0, a_1, a_2, a_3, a_4⟩
  refine wp_region_held (S := fun w' => Below w6.heap.size w6 w' ∧ w'.cell? ⟨w2.heap.size, 0, none⟩ = some (.int .i64 t.kind) ∧ w'.cell? ⟨w2.heap.size, 1, none⟩ = some (.int .i64 t.field) ∧ w'.cell? ⟨w2.heap.size, 2, none⟩ = some (.int .i64 t.value) ∧ w'.cell? ⟨w2.heap.size, 3, none⟩ = some (.slice t.LA t.Ln t.Lc) ∧ w'.cell? ⟨w2.heap.size, 4, none⟩ = some (.slice t.PA t.Pn t.Pc)) (by kernel_rfl) ?_
  change wpAnyH _ _ _ _ _ _ _ _ (World.drew _)
  refine takeY 49 (i := 0) (v := ?v0a) rfl rfl (by kernel_rfl) (by kernel_rfl) (by kernel_rfl) (fun _ _ _ h => h) (by kernel_rfl) ?y0a hs0 ?_
  case y0a =>
    intro w' hw'; (try dsimp only at hw'); obtain ⟨e0, e1, e2, e3, e4, e5⟩ := hw'; go_simp; try with_reducible rfl
  simp only [Act.put, List.setIfInBounds_toArray, List.set_cons_zero, List.set_cons_succ]
  refine takeY 50 (i := 1) (v := ?v1a) rfl rfl (by kernel_rfl) (by kernel_rfl) (by kernel_rfl) (fun _ _ _ h => h) (by kernel_rfl) ?y1a hs0 ?_
  case y1a =>
    intro w' hw'; (try dsimp only at hw'); obtain ⟨e0, e1, e2, e3, e4, e5⟩ := hw'; go_simp; try with_reducible rfl
  simp only [Act.put, List.setIfInBounds_toArray, List.set_cons_zero, List.set_cons_succ]
  refine takeY 51 (i := 2) (v := ?v2a) rfl rfl (by kernel_rfl) (by kernel_rfl) (by kernel_rfl) (fun _ _ _ h => h) (by kernel_rfl) ?y2a hs0 ?_
  case y2a =>
    intro w' hw'; (try dsimp only at hw'); obtain ⟨e0, e1, e2, e3, e4, e5⟩ := hw'; go_simp; try with_reducible rfl
  simp only [Act.put, List.setIfInBounds_toArray, List.set_cons_zero, List.set_cons_succ]
  refine takeY 52 (i := 3) (v := ?v3a) rfl rfl (by kernel_rfl) (by kernel_rfl) (by kernel_rfl) (fun _ _ _ h => h) (by kernel_rfl) ?y3a hs0 ?_
  case y3a =>
    intro w' hw'; (try dsimp only at hw'); obtain ⟨e0, e1, e2, e3, e4, e5⟩ := hw'; go_simp; try with_reducible rfl
  simp only [Act.put, List.setIfInBounds_toArray, List.set_cons_zero, List.set_cons_succ]
  refine wpAnyH_ready (rs := [4]) (by kernel_rfl) (by simp) ?_
  refine AllReadyH.cons rfl (fun K hK => ?_) AllReadyH.nil
  go_simp; go_at_call 13; refine (sCmpVals _ w2.heap.size t (HI.out.below (below_on HB6.out (Below.refl w6.heap.size w6).drew)) (below_on HB6.out (Below.refl w6.heap.size w6).drew).size HS.out x y q HQ.out).mono ?_; rintro e wa ⟨rfl, hbwa⟩; replace hbwa := (Below.refl w6.heap.size w6).drew.trans (hbwa.mono (Below.refl w6.heap.size w6).drew.size); rw [HC.out]
  refine hK.out _ _ ⟨hbwa, (hbwa.cell (p := ⟨w2.heap.size, 0, none⟩) a_g).trans a_0, (hbwa.cell (p := ⟨w2.heap.size, 1, none⟩) a_g).trans a_1, (hbwa.cell (p := ⟨w2.heap.size, 2, none⟩) a_g).trans a_2, (hbwa.cell (p := ⟨w2.heap.size, 3, none⟩) a_g).trans a_3, (hbwa.cell (p := ⟨w2.heap.size, 4, none⟩) a_g).trans a_4⟩ (fun hS1 => ?_)
  clear hK K
  try simp only [Act.put, List.setIfInBounds_toArray, List.set_cons_zero, List.set_cons_succ]
  refine takeY 54 (i := 5) (v := ?v5a) rfl rfl (by kernel_rfl) (by kernel_rfl) (by kernel_rfl) (fun _ _ _ h => h) (by kernel_rfl) ?y5a hS1 ?_
  case y5a =>
    intro w' hw'; (try dsimp only at hw'); obtain ⟨e0, e1, e2, e3, e4, e5⟩ := hw'; go_simp; try with_reducible rfl
  simp only [Act.put, List.setIfInBounds_toArray, List.set_cons_zero, List.set_cons_succ]
  refine takeY 55 (i := 6) (v := ?v6a) rfl rfl (by kernel_rfl) (by kernel_rfl) (by kernel_rfl) (fun _ _ _ h => h) (by kernel_rfl) ?y6a hS1 ?_
  case y6a =>
    intro w' hw'; (try dsimp only at hw'); obtain ⟨e0, e1, e2, e3, e4, e5⟩ := hw'; go_simp; try with_reducible rfl
  simp only [Act.put, List.setIfInBounds_toArray, List.set_cons_zero, List.set_cons_succ]
  refine takeY 56 (i := 7) (v := ?v7a) rfl rfl (by kernel_rfl) (by kernel_rfl) (by kernel_rfl) (fun _ _ _ h => h) (by kernel_rfl) ?y7a hS1 ?_
  case y7a =>
    intro w' hw'; (try dsimp only at hw'); obtain ⟨e0, e1, e2, e3, e4, e5⟩ := hw'; go_simp; try with_reducible rfl
  simp only [Act.put, List.setIfInBounds_toArray, List.set_cons_zero, List.set_cons_succ]
  refine takeY 58 (i := 9) (v := ?v9a) rfl rfl (by kernel_rfl) (by kernel_rfl) (by kernel_rfl) (fun _ _ _ h => h) (by kernel_rfl) ?y9a hS1 ?_
  case y9a =>
    intro w' hw'; (try dsimp only at hw'); obtain ⟨e0, e1, e2, e3, e4, e5⟩ := hw'; go_simp; try with_reducible rfl
  simp only [Act.put, List.setIfInBounds_toArray, List.set_cons_zero, List.set_cons_succ]
  refine wpAnyH_ready (rs := [8]) (by kernel_rfl) (by simp) ?_
  refine AllReadyH.cons rfl (fun K hK => ?_) AllReadyH.nil
  go_simp; go_at_call 14; refine (iIsWish _ w2.heap.size t (HI.out.below (below_on HB6.out hbwa)) (below_on HB6.out hbwa).size HS.out qw HQw.out).mono ?_; rintro e wb ⟨rfl, hbwb⟩; replace hbwb := hbwa.trans (hbwb.mono hbwa.size)
  refine hK.out _ _ ⟨hbwb, (hbwb.cell (p := ⟨w2.heap.size, 0, none⟩) a_g).trans a_0, (hbwb.cell (p := ⟨w2.heap.size, 1, none⟩) a_g).trans a_1, (hbwb.cell (p := ⟨w2.heap.size, 2, none⟩) a_g).trans a_2, (hbwb.cell (p := ⟨w2.heap.size, 3, none⟩) a_g).trans a_3, (hbwb.cell (p := ⟨w2.heap.size, 4, none⟩) a_g).trans a_4⟩ (fun hS2 => ?_)
  clear hK K
  try simp only [Act.put, List.setIfInBounds_toArray, List.set_cons_zero, List.set_cons_succ]
  refine wpAnyH_ready (rs := [10]) (by kernel_rfl) (by simp) ?_
  refine AllReadyH.cons rfl (fun K hK => ?_) AllReadyH.nil
  go_simp; go_at_call 15; refine (sIsWish _ w2.heap.size t (HI.out.below (below_on HB6.out hbwb)) (below_on HB6.out hbwb).size HS.out qw HQw.out).mono ?_; rintro e wc ⟨rfl, hbwc⟩; replace hbwc := hbwb.trans (hbwc.mono hbwb.size)
  refine hK.out _ _ ⟨hbwc, (hbwc.cell (p := ⟨w2.heap.size, 0, none⟩) a_g).trans a_0, (hbwc.cell (p := ⟨w2.heap.size, 1, none⟩) a_g).trans a_1, (hbwc.cell (p := ⟨w2.heap.size, 2, none⟩) a_g).trans a_2, (hbwc.cell (p := ⟨w2.heap.size, 3, none⟩) a_g).trans a_3, (hbwc.cell (p := ⟨w2.heap.size, 4, none⟩) a_g).trans a_4⟩ (fun hS3 => ?_)
  clear hK K
  try simp only [Act.put, List.setIfInBounds_toArray, List.set_cons_zero, List.set_cons_succ]
  refine takeY 60 (i := 11) (v := ?v11a) rfl rfl (by kernel_rfl) (by kernel_rfl) (by kernel_rfl) (fun _ _ _ h => h) (by kernel_rfl) ?y11a hS3 ?_
  case y11a =>
    intro w' hw'; (try dsimp only at hw'); obtain ⟨e0, e1, e2, e3, e4, e5⟩ := hw'; go_simp; try with_reducible rfl
  simp only [Act.put, List.setIfInBounds_toArray, List.set_cons_zero, List.set_cons_succ]
  refine takeY 61 (i := 12) (v := ?v12a) rfl rfl (by kernel_rfl) (by kernel_rfl) (by kernel_rfl) (fun _ _ _ h => h) (by kernel_rfl) ?y12a hS3 ?_
  case y12a =>
    intro w' hw'; (try dsimp only at hw'); obtain ⟨e0, e1, e2, e3, e4, e5⟩ := hw'; go_simp; try with_reducible rfl
  simp only [Act.put, List.setIfInBounds_toArray, List.set_cons_zero, List.set_cons_succ]
  refine takeY 62 (i := 13) (v := ?v13a) rfl rfl (by kernel_rfl) (by kernel_rfl) (by kernel_rfl) (fun _ _ _ h => h) (by kernel_rfl) ?y13a hS3 ?_
  case y13a =>
    intro w' hw'; (try dsimp only at hw'); obtain ⟨e0, e1, e2, e3, e4, e5⟩ := hw'; go_simp; try with_reducible rfl
  simp only [Act.put, List.setIfInBounds_toArray, List.set_cons_zero, List.set_cons_succ]
  refine takeY 63 (i := 14) (v := ?v14a) rfl rfl (by kernel_rfl) (by kernel_rfl) (by kernel_rfl) (fun _ _ _ h => h) (by kernel_rfl) ?y14a hS3 ?_
  case y14a =>
    intro w' hw'; (try dsimp only at hw'); obtain ⟨e0, e1, e2, e3, e4, e5⟩ := hw'; go_simp; try with_reducible rfl
  simp only [Act.put, List.setIfInBounds_toArray, List.set_cons_zero, List.set_cons_succ]
  refine wpAnyH_ready (rs := [15]) (by kernel_rfl) (by simp) ?_
  refine AllReadyH.cons rfl (fun K hK => ?_) AllReadyH.nil
  go_simp; go_at_call 16; refine (iCode c _).mono ?_; rintro e wd ⟨rfl, hw⟩; have hbwd : Below w6.heap.size w6 wd := hw ▸ hbwc; rw [HNm.out]
  refine hK.out _ _ ⟨hbwd, (hbwd.cell (p := ⟨w2.heap.size, 0, none⟩) a_g).trans a_0, (hbwd.cell (p := ⟨w2.heap.size, 1, none⟩) a_g).trans a_1, (hbwd.cell (p := ⟨w2.heap.size, 2, none⟩) a_g).trans a_2, (hbwd.cell (p := ⟨w2.heap.size, 3, none⟩) a_g).trans a_3, (hbwd.cell (p := ⟨w2.heap.size, 4, none⟩) a_g).trans a_4⟩ (fun hS4 => ?_)
  clear hK K
  try simp only [Act.put, List.setIfInBounds_toArray, List.set_cons_zero, List.set_cons_succ]
  refine takeY 65 (i := 16) (v := ?v16a) rfl rfl (by kernel_rfl) (by kernel_rfl) (by kernel_rfl) (fun _ _ _ h => h) (by kernel_rfl) ?y16a hS4 ?_
  case y16a =>
    intro w' hw'; (try dsimp only at hw'); obtain ⟨e0, e1, e2, e3, e4, e5⟩ := hw'; go_simp; try with_reducible rfl
  simp only [Act.put, List.setIfInBounds_toArray, List.set_cons_zero, List.set_cons_succ]
  refine takeY 66 (i := 17) (v := ?v17a) rfl rfl (by kernel_rfl) (by kernel_rfl) (by kernel_rfl) (fun _ _ _ h => h) (by kernel_rfl) ?y17a hS4 ?_
  case y17a =>
    intro w' hw'; (try dsimp only at hw'); obtain ⟨e0, e1, e2, e3, e4, e5⟩ := hw'; go_simp; try with_reducible rfl
  simp only [Act.put, List.setIfInBounds_toArray, List.set_cons_zero, List.set_cons_succ]
  refine wpAnyH_done (by kernel_rfl) ?_ _
  have HB7 := Lib.hid (below_on HB6.out hbwd)
  clear hbwa hbwb hbwc hw hbwd a_g a_0 a_1 a_2 a_3 a_4 hs0 hS1 hS2 hS3 hS4 HB6 HX6 HNm hcc hww HC HDd HRr HSs HQ HQ' HQw HQa HQb HI HS
  go_upto_region 10 with (fail)
  clear hn1 hn2
  go_cut [82] from 21 (fun s82 wx => s82 = .bool false ∧ wx = wd)
  case first =>
    clear HRk
    rcases HBo.out with ⟨h1, h2⟩ | ⟨h1, h2⟩ | ⟨h1, h2⟩ | ⟨h1, h2⟩
    all_goals
      subst h1 h2
      clear HBo
      go_wp2_with fail
      go_meet
      exact ⟨rfl, rfl⟩
  case rest =>
  obtain ⟨rfl, rfl⟩ := hcut
  clear HBo
  go_upto_region 12 with (fail)
  go_cut [108] from 21 (fun s108 wx => s108 = .bool false ∧ wx = wc)
  case first =>
    have HRk' := HRk.out
    clear HRk
    cases qa
    case false =>
      clear HRk'
      go_wp2_with fail
      go_meet
      exact ⟨rfl, rfl⟩
    cases qb
    case false =>
      clear HRk'
      go_wp2_with fail
      go_meet
      exact ⟨rfl, rfl⟩
    rcases HRk' rfl rfl with ⟨h1, h2⟩ | ⟨h1, h2⟩ | ⟨h1, h2⟩
    · subst h2
      clear HRk'
      have e1 : (r == s) = false := by simp; omega
      have e2 : decide (r < s) = true := by simpa using h1
      go_wp2_with fail
      go_meet
      exact ⟨rfl, rfl⟩
    · subst h2 h1
      clear HRk'
      have e2 : decide (r < r) = false := by simp
      have e1 : (r == r) = true := by simp
      go_wp2_with fail
      go_meet
      exact ⟨rfl, rfl⟩
    · subst h2
      clear HRk'
      have e1 : (r == s) = false := by simp; omega
      have e2 : decide (r < s) = false := by simp; omega
      clear h1
      go_wp2_with fail
      go_meet
      exact ⟨rfl, rfl⟩
  case rest =>
  clear HRk
  obtain ⟨rfl, rfl⟩ := hcut
  have HBd : Hid (Below w1.heap.size w1 wc) := Lib.hid (HD.out.trans (HB7.out.mono HD.out.size))
  have HRd := Lib.hid (HR1.out.below HBd.out).wide
  clear HB7 HR1 HD
  go_wp2_with fail
  refine (draw_items wc a len cap hlen HRd.out).mono ?_
  rintro e wi ⟨t1, i1, i2, rfl, hdr, ho1, hl1, ho2, hl2⟩
  have hval : t1.val = .agg #[.int .i64 t1.kind, .int .i64 t1.field, .int .i64 t1.value, .slice t1.LA t1.Ln t1.Lc, .slice t1.PA t1.Pn t1.Pc] := rfl
  rw [hval]
  clear hval
  have hval : i1.val = .agg #[.int .i64 i1.id, .slice i1.A i1.n i1.c] := rfl
  rw [hval]
  clear hval
  have hval : i2.val = .agg #[.int .i64 i2.id, .slice i2.A i2.n i2.c] := rfl
  rw [hval]
  clear hval
  have HI1 : Hid (WiIn wi wi.heap.size t1) := Lib.hid hdr.1.wi
  have HS1 : Hid t1.Short := Lib.hid hdr.1.short
  have HU1 : Hid (Ints wi wi.heap.size i1.A i1.n i1.xs) := Lib.hid (ownI_at ho1)
  have HU2 : Hid (Ints wi wi.heap.size i2.A i2.n i2.xs) := Lib.hid (ownI_at ho2)
  have HN1 : Hid (i1.n ≤ 1048576) := Lib.hid (by have := (ownI_at ho1).1; omega)
  have HN2 : Hid (i2.n ≤ 1048576) := Lib.hid (by have := (ownI_at ho2).1; omega)
  have HBi : Hid (Below w1.heap.size w1 wi) := Lib.hid (below_on HBd.out hdr.2)
  have HB3 : Hid (Below wi.heap.size wi (((wi.alloc (.cells #[.int .i64 t1.kind, .int .i64 t1.field, .int .i64 t1.value, .slice t1.LA t1.Ln t1.Lc, .slice t1.PA t1.Pn t1.Pc] 27)).alloc (.cells #[.int .i64 i1.id, .slice i1.A i1.n i1.c] 36)).alloc (.cells #[.int .i64 i2.id, .slice i2.A i2.n i2.c] 36))) := Lib.hid (below3 (Nat.le_refl _) _ _ _)
  have HXa3 : Hid (Box5 (((wi.alloc (.cells #[.int .i64 t1.kind, .int .i64 t1.field, .int .i64 t1.value, .slice t1.LA t1.Ln t1.Lc, .slice t1.PA t1.Pn t1.Pc] 27)).alloc (.cells #[.int .i64 i1.id, .slice i1.A i1.n i1.c] 36)).alloc (.cells #[.int .i64 i2.id, .slice i2.A i2.n i2.c] 36)) wi.heap.size t1) := Lib.hid (((Box5.new wi t1 _).alloc _).alloc _)
  have HXb3 : Hid (Box2 (((wi.alloc (.cells #[.int .i64 t1.kind, .int .i64 t1.field, .int .i64 t1.value, .slice t1.LA t1.Ln t1.Lc, .slice t1.PA t1.Pn t1.Pc] 27)).alloc (.cells #[.int .i64 i1.id, .slice i1.A i1.n i1.c] 36)).alloc (.cells #[.int .i64 i2.id, .slice i2.A i2.n i2.c] 36)) (wi.heap.size + 1) i1) := Lib.hid (by have h := (Box2.new (wi.alloc (.cells #[.int .i64 t1.kind, .int .i64 t1.field, .int .i64 t1.value, .slice t1.LA t1.Ln t1.Lc, .slice t1.PA t1.Pn t1.Pc] 27)) i1 36).alloc (.cells #[.int .i64 i2.id, .slice i2.A i2.n i2.c] 36); simp only [World.size_alloc] at h; exact h)
  have HXc3 : Hid (Box2 (((wi.alloc (.cells #[.int .i64 t1.kind, .int .i64 t1.field, .int .i64 t1.value, .slice t1.LA t1.Ln t1.Lc, .slice t1.PA t1.Pn t1.Pc] 27)).alloc (.cells #[.int .i64 i1.id, .slice i1.A i1.n i1.c] 36)).alloc (.cells #[.int .i64 i2.id, .slice i2.A i2.n i2.c] 36)) (wi.heap.size + 1 + 1) i2) := Lib.hid (by have h := Box2.new ((wi.alloc (.cells #[.int .i64 t1.kind, .int .i64 t1.field, .int .i64 t1.value, .slice t1.LA t1.Ln t1.Lc, .slice t1.PA t1.Pn t1.Pc] 27)).alloc (.cells #[.int .i64 i1.id, .slice i1.A i1.n i1.c] 36)) i2 36; simp only [World.size_alloc] at h; exact h)
  have HRi : Hid (Row (((wi.alloc (.cells #[.int .i64 t1.kind, .int .i64 t1.field, .int .i64 t1.value, .slice t1.LA t1.Ln t1.Lc, .slice t1.PA t1.Pn t1.Pc] 27)).alloc (.cells #[.int .i64 i1.id, .slice i1.A i1.n i1.c] 36)).alloc (.cells #[.int .i64 i2.id, .slice i2.A i2.n i2.c] 36)) (((wi.alloc (.cells #[.int .i64 t1.kind, .int .i64 t1.field, .int .i64 t1.value, .slice t1.LA t1.Ln t1.Lc, .slice t1.PA t1.Pn t1.Pc] 27)).alloc (.cells #[.int .i64 i1.id, .slice i1.A i1.n i1.c] 36)).alloc (.cells #[.int .i64 i2.id, .slice i2.A i2.n i2.c] 36)).heap.size a len) := Lib.hid (((HRd.out.below hdr.2).wide.below HB3.out).wide)
  clear hdr ho1 ho2 hl1 hl2 HBd HRd
  go_wp2_with fail
  refine (draw_rank _ a len cap hlen HRi.out).mono ?_
  rintro e w10 ⟨t2, z, rfl, hdr, hz0, hz1⟩
  have HI2 : Hid (WiIn w10 w10.heap.size t2) := Lib.hid hdr.1.wi
  have HS2 : Hid t2.Short := Lib.hid hdr.1.short
  have HB10 := Lib.hid ((below_on HB3.out hdr.2).alloc (below_on HB3.out hdr.2).size (.cells #[.int .i64 t2.kind, .int .i64 t2.field, .int .i64 t2.value, .slice t2.LA t2.Ln t2.Lc, .slice t2.PA t2.Pn t2.Pc] 27))
  have HXa10 := Lib.hid ((HXa3.out.below hdr.2).alloc (.cells #[.int .i64 t2.kind, .int .i64 t2.field, .int .i64 t2.value, .slice t2.LA t2.Ln t2.Lc, .slice t2.PA t2.Pn t2.Pc] 27))
  have HXb10 := Lib.hid ((HXb3.out.below hdr.2).alloc (.cells #[.int .i64 t2.kind, .int .i64 t2.field, .int .i64 t2.value, .slice t2.LA t2.Ln t2.Lc, .slice t2.PA t2.Pn t2.Pc] 27))
  have HXc10 := Lib.hid ((HXc3.out.below hdr.2).alloc (.cells #[.int .i64 t2.kind, .int .i64 t2.field, .int .i64 t2.value, .slice t2.LA t2.Ln t2.Lc, .slice t2.PA t2.Pn t2.Pc] 27))
  have HA10 : Hid (Below w10.heap.size w10 (w10.alloc (.cells #[.int .i64 t2.kind, .int .i64 t2.field, .int .i64 t2.value, .slice t2.LA t2.Ln t2.Lc, .slice t2.PA t2.Pn t2.Pc] 27))) := Lib.hid ((Below.refl _ w10).alloc (Nat.le_refl _) _)
  have HX10 : Hid (Box5 (w10.alloc (.cells #[.int .i64 t2.kind, .int .i64 t2.field, .int .i64 t2.value, .slice t2.LA t2.Ln t2.Lc, .slice t2.PA t2.Pn t2.Pc] 27)) w10.heap.size t2) := Lib.hid (Box5.new w10 t2 _)
  clear hdr hz0 hz1 HB3 HXa3 HXb3 HXc3 HRi
  obtain ⟨q2, hq2⟩ := bool_of (IsW t2.dat ∧ t2.kind ≠ 4 ∧ InR z)
  have HQ2 := Lib.hid hq2
  obtain ⟨r2, hr2⟩ : ∃ r, rankV t2.dat q2 z = r := ⟨_, rfl⟩
  have HR2 := Lib.hid hr2
  obtain ⟨q3, hq3⟩ := bool_of (IsW t1.dat ∧ IsP i1.dat ∧ IsP i2.dat)
  have HQ3 := Lib.hid hq3
  obtain ⟨v, hv⟩ : ∃ v, cmpV t1.dat q3 (fval i1 t1.field) (fval i2 t1.field) = v := ⟨_, rfl⟩
  have HV := Lib.hid hv
  clear hq2 hr2 hq3 hv
  have hval : t2.val = .agg #[.int .i64 t2.kind, .int .i64 t2.field, .int .i64 t2.value, .slice t2.LA t2.Ln t2.Lc, .slice t2.PA t2.Pn t2.Pc] := rfl
  rw [hval]
  clear hval
  obtain ⟨a_g, a_0, a_1, a_2, a_3, a_4⟩ := HX10.out
  go_wp2_with fail
  refine (iRankOf _ w10.heap.size t2 (HI2.out.below HA10.out) HA10.out.size HS2.out z q2 HQ2.out).mono ?_
  rintro e w11 ⟨rfl, hb⟩
  rw [HR2.out]
  have HB11 := Lib.hid (below_on HB10.out hb)
  have HA11 := Lib.hid (below_on HA10.out hb)
  have HX11 := Lib.hid (HX10.out.below hb)
  have HXa11 := Lib.hid (HXa10.out.below hb)
  have HXb11 := Lib.hid (HXb10.out.below hb)
  have HXc11 := Lib.hid (HXc10.out.below hb)
  clear hb a_g a_0 a_1 a_2 a_3 a_4 HB10 HA10 HX10 HXa10 HXb10 HXc10
  obtain ⟨a_g, a_0, a_1, a_2, a_3, a_4⟩ := HX11.out
  go_wp2_with fail
  refine (sRankOf _ w10.heap.size t2 (HI2.out.below HA11.out) HA11.out.size HS2.out z q2 HQ2.out).mono ?_
  rintro e w12 ⟨rfl, hb⟩
  rw [HR2.out]
  have HB12 := Lib.hid (below_on HB11.out hb)
  have HA12 := Lib.hid (below_on HA11.out hb)
  have HX12 := Lib.hid (HX11.out.below hb)
  have HXa12 := Lib.hid (HXa11.out.below hb)
  have HXb12 := Lib.hid (HXb11.out.below hb)
  have HXc12 := Lib.hid (HXc11.out.below hb)
  clear hb a_g a_0 a_1 a_2 a_3 a_4 HB11 HA11 HX11 HXa11 HXb11 HXc11
  have e1 : (v == v) = true := by simp
  have e2 : (r2 == r2) = true := by simp
  have e3 : (q2 == q2) = true := by simp
  obtain ⟨a_g, a_0, a_1, a_2, a_3, a_4⟩ := HXa12.out
  obtain ⟨b_g, b_0, b_1⟩ := HXb12.out
  obtain ⟨c_g, c_0, c_1⟩ := HXc12.out
  go_wp2
  have hs0 : (fun w' => Below w12.heap.size w12 w' ∧ w'.cell? ⟨wi.heap.size, 0, none⟩ = some (.int .i64 t1.kind) ∧ w'.cell? ⟨wi.heap.size, 1, none⟩ = some (.int .i64 t1.field) ∧ w'.cell? ⟨wi.heap.size, 2, none⟩ = some (.int .i64 t1.value) ∧ w'.cell? ⟨wi.heap.size, 3, none⟩ = some (.slice t1.LA t1.Ln t1.Lc) ∧ w'.cell? ⟨wi.heap.size, 4, none⟩ = some (.slice t1.PA t1.Pn t1.Pc) ∧ w'.cell? ⟨wi.heap.size + 1, 0, none⟩ = some (.int .i64 i1.id) ∧ w'.cell? ⟨wi.heap.size + 1, 1, none⟩ = some (.slice i1.A i1.n i1.c) ∧ w'.cell? ⟨wi.heap.size + 1 + 1, 0, none⟩ = some (.int .i64 i2.id) ∧ w'.cell? ⟨wi.heap.size + 1 + 1, 1, none⟩ = some (.slice i2.A i2.n i2.c)) w12.drew := ⟨(Below.refl _ _).drew, a_0, a_1, a_2, a_3, a_4, b_0, b_1, c_0, c_1⟩
  refine wp_region_held (S := fun w' => Below w12.heap.size w12 w' ∧ w'.cell? ⟨wi.heap.size, 0, none⟩ = some (.int .i64 t1.kind) ∧ w'.cell? ⟨wi.heap.size, 1, none⟩ = some (.int .i64 t1.field) ∧ w'.cell? ⟨wi.heap.size, 2, none⟩ = some (.int .i64 t1.value) ∧ w'.cell? ⟨wi.heap.size, 3, none⟩ = some (.slice t1.LA t1.Ln t1.Lc) ∧ w'.cell? ⟨wi.heap.size, 4, none⟩ = some (.slice t1.PA t1.Pn t1.Pc) ∧ w'.cell? ⟨wi.heap.size + 1, 0, none⟩ = some (.int .i64 i1.id) ∧ w'.cell? ⟨wi.heap.size + 1, 1, none⟩ = some (.slice i1.A i1.n i1.c) ∧ w'.cell? ⟨wi.heap.size + 1 + 1, 0, none⟩ = some (.int .i64 i2.id) ∧ w'.cell? ⟨wi.heap.size + 1 + 1, 1, none⟩ = some (.slice i2.A i2.n i2.c)) (by kernel_rfl) ?_
  change wpAnyH _ _ _ _ _ _ _ _ (World.drew _)
  refine takeY 132 (i := 0) (v := ?v0b) rfl rfl (by kernel_rfl) (by kernel_rfl) (by kernel_rfl) (fun _ _ _ h => h) (by kernel_rfl) ?y0b hs0 ?_
  case y0b =>
    intro w' hw'; (try dsimp only at hw'); obtain ⟨e0, e1, e2, e3, e4, e5, e6, e7, e8, e9⟩ := hw'; go_simp; try with_reducible rfl
  simp only [Act.put, List.setIfInBounds_toArray, List.set_cons_zero, List.set_cons_succ]
  refine takeY 133 (i := 1) (v := ?v1b) rfl rfl (by kernel_rfl) (by kernel_rfl) (by kernel_rfl) (fun _ _ _ h => h) (by kernel_rfl) ?y1b hs0 ?_
  case y1b =>
    intro w' hw'; (try dsimp only at hw'); obtain ⟨e0, e1, e2, e3, e4, e5, e6, e7, e8, e9⟩ := hw'; go_simp; try with_reducible rfl
  simp only [Act.put, List.setIfInBounds_toArray, List.set_cons_zero, List.set_cons_succ]
  refine takeY 134 (i := 2) (v := ?v2b) rfl rfl (by kernel_rfl) (by kernel_rfl) (by kernel_rfl) (fun _ _ _ h => h) (by kernel_rfl) ?y2b hs0 ?_
  case y2b =>
    intro w' hw'; (try dsimp only at hw'); obtain ⟨e0, e1, e2, e3, e4, e5, e6, e7, e8, e9⟩ := hw'; go_simp; try with_reducible rfl
  simp only [Act.put, List.setIfInBounds_toArray, List.set_cons_zero, List.set_cons_succ]
  refine takeY 136 (i := 4) (v := ?v4b) rfl rfl (by kernel_rfl) (by kernel_rfl) (by kernel_rfl) (fun _ _ _ h => h) (by kernel_rfl) ?y4b hs0 ?_
  case y4b =>
    intro w' hw'; (try dsimp only at hw'); obtain ⟨e0, e1, e2, e3, e4, e5, e6, e7, e8, e9⟩ := hw'; go_simp; try with_reducible rfl
  simp only [Act.put, List.setIfInBounds_toArray, List.set_cons_zero, List.set_cons_succ]
  refine takeY 137 (i := 5) (v := ?v5b) rfl rfl (by kernel_rfl) (by kernel_rfl) (by kernel_rfl) (fun _ _ _ h => h) (by kernel_rfl) ?y5b hs0 ?_
  case y5b =>
    intro w' hw'; (try dsimp only at hw'); obtain ⟨e0, e1, e2, e3, e4, e5, e6, e7, e8, e9⟩ := hw'; go_simp; try with_reducible rfl
  simp only [Act.put, List.setIfInBounds_toArray, List.set_cons_zero, List.set_cons_succ]
  refine takeY 138 (i := 6) (v := ?v6b) rfl rfl (by kernel_rfl) (by kernel_rfl) (by kernel_rfl) (fun _ _ _ h => h) (by kernel_rfl) ?y6b hs0 ?_
  case y6b =>
    intro w' hw'; (try dsimp only at hw'); obtain ⟨e0, e1, e2, e3, e4, e5, e6, e7, e8, e9⟩ := hw'; go_simp; try with_reducible rfl
  simp only [Act.put, List.setIfInBounds_toArray, List.set_cons_zero, List.set_cons_succ]
  refine wpAnyH_ready (rs := [3]) (by kernel_rfl) (by simp) ?_
  refine AllReadyH.cons rfl (fun K hK => ?_) AllReadyH.nil
  go_simp; go_at_call 20; refine (iCmpItems _ wi.heap.size t1 i1 i2 (HI1.out.below (below_on HB12.out (Below.refl w12.heap.size w12).drew)) (HU1.out.below (below_on HB12.out (Below.refl w12.heap.size w12).drew)) (HU2.out.below (below_on HB12.out (Below.refl w12.heap.size w12).drew)) (below_on HB12.out (Below.refl w12.heap.size w12).drew).size HS1.out HN1.out HN2.out q3 HQ3.out).mono ?_; rintro e wa ⟨rfl, hbwa⟩; replace hbwa := (Below.refl w12.heap.size w12).drew.trans (hbwa.mono (Below.refl w12.heap.size w12).drew.size); rw [HV.out]
  refine hK.out _ _ ⟨hbwa, (hbwa.cell (p := ⟨wi.heap.size, 0, none⟩) a_g).trans a_0, (hbwa.cell (p := ⟨wi.heap.size, 1, none⟩) a_g).trans a_1, (hbwa.cell (p := ⟨wi.heap.size, 2, none⟩) a_g).trans a_2, (hbwa.cell (p := ⟨wi.heap.size, 3, none⟩) a_g).trans a_3, (hbwa.cell (p := ⟨wi.heap.size, 4, none⟩) a_g).trans a_4, (hbwa.cell (p := ⟨wi.heap.size + 1, 0, none⟩) b_g).trans b_0, (hbwa.cell (p := ⟨wi.heap.size + 1, 1, none⟩) b_g).trans b_1, (hbwa.cell (p := ⟨wi.heap.size + 1 + 1, 0, none⟩) c_g).trans c_0, (hbwa.cell (p := ⟨wi.heap.size + 1 + 1, 1, none⟩) c_g).trans c_1⟩ (fun hS1 => ?_)
  clear hK K
  try simp only [Act.put, List.setIfInBounds_toArray, List.set_cons_zero, List.set_cons_succ]
  refine wpAnyH_ready (rs := [7]) (by kernel_rfl) (by simp) ?_
  refine AllReadyH.cons rfl (fun K hK => ?_) AllReadyH.nil
  go_simp; go_at_call 21; refine (sCmpItems _ wi.heap.size t1 i1 i2 (HI1.out.below (below_on HB12.out hbwa)) (HU1.out.below (below_on HB12.out hbwa)) (HU2.out.below (below_on HB12.out hbwa)) (below_on HB12.out hbwa).size HS1.out HN1.out HN2.out q3 HQ3.out).mono ?_; rintro e wb ⟨rfl, hbwb⟩; replace hbwb := hbwa.trans (hbwb.mono hbwa.size); rw [HV.out]
  refine hK.out _ _ ⟨hbwb, (hbwb.cell (p := ⟨wi.heap.size, 0, none⟩) a_g).trans a_0, (hbwb.cell (p := ⟨wi.heap.size, 1, none⟩) a_g).trans a_1, (hbwb.cell (p := ⟨wi.heap.size, 2, none⟩) a_g).trans a_2, (hbwb.cell (p := ⟨wi.heap.size, 3, none⟩) a_g).trans a_3, (hbwb.cell (p := ⟨wi.heap.size, 4, none⟩) a_g).trans a_4, (hbwb.cell (p := ⟨wi.heap.size + 1, 0, none⟩) b_g).trans b_0, (hbwb.cell (p := ⟨wi.heap.size + 1, 1, none⟩) b_g).trans b_1, (hbwb.cell (p := ⟨wi.heap.size + 1 + 1, 0, none⟩) c_g).trans c_0, (hbwb.cell (p := ⟨wi.heap.size + 1 + 1, 1, none⟩) c_g).trans c_1⟩ (fun hS2 => ?_)
  clear hK K
  try simp only [Act.put, List.setIfInBounds_toArray, List.set_cons_zero, List.set_cons_succ]
  refine takeY 140 (i := 8) (v := ?v8b) rfl rfl (by kernel_rfl) (by kernel_rfl) (by kernel_rfl) (fun _ _ _ h => h) (by kernel_rfl) ?y8b hS2 ?_
  case y8b =>
    intro w' hw'; (try dsimp only at hw'); obtain ⟨e0, e1, e2, e3, e4, e5, e6, e7, e8, e9⟩ := hw'; go_simp; try with_reducible rfl
  simp only [Act.put, List.setIfInBounds_toArray, List.set_cons_zero, List.set_cons_succ]
  refine takeY 141 (i := 9) (v := ?v9b) rfl rfl (by kernel_rfl) (by kernel_rfl) (by kernel_rfl) (fun _ _ _ h => h) (by kernel_rfl) ?y9b hS2 ?_
  case y9b =>
    intro w' hw'; (try dsimp only at hw'); obtain ⟨e0, e1, e2, e3, e4, e5, e6, e7, e8, e9⟩ := hw'; go_simp; try with_reducible rfl
  simp only [Act.put, List.setIfInBounds_toArray, List.set_cons_zero, List.set_cons_succ]
  refine takeY 142 (i := 10) (v := ?v10b) rfl rfl (by kernel_rfl) (by kernel_rfl) (by kernel_rfl) (fun _ _ _ h => h) (by kernel_rfl) ?y10b hS2 ?_
  case y10b =>
    intro w' hw'; (try dsimp only at hw'); obtain ⟨e0, e1, e2, e3, e4, e5, e6, e7, e8, e9⟩ := hw'; go_simp; try with_reducible rfl
  simp only [Act.put, List.setIfInBounds_toArray, List.set_cons_zero, List.set_cons_succ]
  refine takeY 143 (i := 11) (v := ?v11b) rfl rfl (by kernel_rfl) (by kernel_rfl) (by kernel_rfl) (fun _ _ _ h => h) (by kernel_rfl) ?y11b hS2 ?_
  case y11b =>
    intro w' hw'; (try dsimp only at hw'); obtain ⟨e0, e1, e2, e3, e4, e5, e6, e7, e8, e9⟩ := hw'; go_simp; try with_reducible rfl
  simp only [Act.put, List.setIfInBounds_toArray, List.set_cons_zero, List.set_cons_succ]
  refine takeY 144 (i := 12) (v := ?v12b) rfl rfl (by kernel_rfl) (by kernel_rfl) (by kernel_rfl) (fun _ _ _ h => h) (by kernel_rfl) ?y12b hS2 ?_
  case y12b =>
    intro w' hw'; (try dsimp only at hw'); obtain ⟨e0, e1, e2, e3, e4, e5, e6, e7, e8, e9⟩ := hw'; go_simp; try with_reducible rfl
  simp only [Act.put, List.setIfInBounds_toArray, List.set_cons_zero, List.set_cons_succ]
  refine takeY 145 (i := 13) (v := ?v13b) rfl rfl (by kernel_rfl) (by kernel_rfl) (by kernel_rfl) (fun _ _ _ h => h) (by kernel_rfl) ?y13b hS2 ?_
  case y13b =>
    intro w' hw'; (try dsimp only at hw'); obtain ⟨e0, e1, e2, e3, e4, e5, e6, e7, e8, e9⟩ := hw'; go_simp; try with_reducible rfl
  simp only [Act.put, List.setIfInBounds_toArray, List.set_cons_zero, List.set_cons_succ]
  refine takeY 146 (i := 14) (v := ?v14b) rfl rfl (by kernel_rfl) (by kernel_rfl) (by kernel_rfl) (fun _ _ _ h => h) (by kernel_rfl) ?y14b hS2 ?_
  case y14b =>
    intro w' hw'; (try dsimp only at hw'); obtain ⟨e0, e1, e2, e3, e4, e5, e6, e7, e8, e9⟩ := hw'; go_simp; try with_reducible rfl
  simp only [Act.put, List.setIfInBounds_toArray, List.set_cons_zero, List.set_cons_succ]
  refine takeY 147 (i := 15) (v := ?v15b) rfl rfl (by kernel_rfl) (by kernel_rfl) (by kernel_rfl) (fun _ _ _ h => h) (by kernel_rfl) ?y15b hS2 ?_
  case y15b =>
    intro w' hw'; (try dsimp only at hw'); obtain ⟨e0, e1, e2, e3, e4, e5, e6, e7, e8, e9⟩ := hw'; go_simp; try with_reducible rfl
  simp only [Act.put, List.setIfInBounds_toArray, List.set_cons_zero, List.set_cons_succ]
  refine takeY 148 (i := 16) (v := ?v16b) rfl rfl (by kernel_rfl) (by kernel_rfl) (by kernel_rfl) (fun _ _ _ h => h) (by kernel_rfl) ?y16b hS2 ?_
  case y16b =>
    intro w' hw'; (try dsimp only at hw'); obtain ⟨e0, e1, e2, e3, e4, e5, e6, e7, e8, e9⟩ := hw'; go_simp; try with_reducible rfl
  simp only [Act.put, List.setIfInBounds_toArray, List.set_cons_zero, List.set_cons_succ]
  refine takeY 149 (i := 17) (v := ?v17b) rfl rfl (by kernel_rfl) (by kernel_rfl) (by kernel_rfl) (fun _ _ _ h => h) (by kernel_rfl) ?y17b hS2 ?_
  case y17b =>
    intro w' hw'; (try dsimp only at hw'); obtain ⟨e0, e1, e2, e3, e4, e5, e6, e7, e8, e9⟩ := hw'; go_simp; try with_reducible rfl
  simp only [Act.put, List.setIfInBounds_toArray, List.set_cons_zero, List.set_cons_succ]
  refine takeY 150 (i := 18) (v := ?v18b) rfl rfl (by kernel_rfl) (by kernel_rfl) (by kernel_rfl) (fun _ _ _ h => h) (by kernel_rfl) ?y18b hS2 ?_
  case y18b =>
    intro w' hw'; (try dsimp only at hw'); obtain ⟨e0, e1, e2, e3, e4, e5, e6, e7, e8, e9⟩ := hw'; go_simp; try with_reducible rfl
  simp only [Act.put, List.setIfInBounds_toArray, List.set_cons_zero, List.set_cons_succ]
  refine takeY 2 (i := 19) (v := ?v19b) rfl rfl (by kernel_rfl) (by kernel_rfl) (by kernel_rfl) (fun _ _ _ h => h) (by kernel_rfl) ?y19b hS2 ?_
  case y19b =>
    intro w' hw'; (try dsimp only at hw'); obtain ⟨e0, e1, e2, e3, e4, e5, e6, e7, e8, e9⟩ := hw'; go_simp; try with_reducible rfl
  simp only [Act.put, List.setIfInBounds_toArray, List.set_cons_zero, List.set_cons_succ]
  refine wpAnyH_done (by kernel_rfl) ?_ _
  have HBf := Lib.hid (HB1.out.trans ((below_on HBi.out (below_on HB12.out hbwb)).mono HB1.out.size))
  clear hbwa hbwb a_g a_0 a_1 a_2 a_3 a_4 b_g b_0 b_1 c_g c_0 c_1 hs0 hS1 hS2
  go_wp2
  go_ret
  exact ⟨rfl, HBf.out⟩
end Go.Proofs.Ytalgfiefadfmnaa.num
