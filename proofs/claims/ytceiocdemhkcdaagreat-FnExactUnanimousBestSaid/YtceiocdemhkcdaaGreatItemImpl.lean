/-
  The program's functions on one item: contracts.
-/
import Derived.Test.YtceiocdemhkcdaaGreatItemSpec
import Derived.Laws.CopyOwn
import Derived.Test.YtceiocdemhkcdaaGreatRegion
namespace Go.Proofs.YtceiocdemhkcdaaGreat.num
set_option maxRecDepth 20000
open Go.RowKit
set_option linter.unusedSimpArgs false

theorem id_of (x : Int) (b : Bool) (hb : b = true ↔ 0 ≤ x ∧ x ≤ 99) (w : World) :
    Calls Tryz.prog 186 #[.int .i64 x] w fun e w' => e = .returned (.bool b) ∧ w = w' := by
  obtain rfl : b = (decide (0 ≤ x) && decide (x ≤ 99)) := by rw [Bool.eq_iff_iff]; simpa using hb
  clear hb
  by_cases h1 : 0 ≤ x
  · go_enter Tryz.func186, Tryz.ntmps186
    go_wp2
    go_ret
    exact ⟨by simp [h1], rfl⟩
  · go_enter Tryz.func186, Tryz.ntmps186
    go_wp2
    go_ret
    exact ⟨by simp; omega, rfl⟩

/-- A record's value. -/
def recV (id a b c : Int) : Value := .agg #[.int .i64 id, .int .i64 a, .int .i64 b, .int .i64 c]

theorem heap_third (w : World) (o1 o2 o3 : Obj) : (((w.alloc o1).alloc o2).alloc o3).heap[w.heap.size + 2]? = some o3 := by
  have h := heap_alloc_new ((w.alloc o1).alloc o2) o3
  have e : ((w.alloc o1).alloc o2).heap.size = w.heap.size + 2 := by simp
  rwa [e] at h
theorem setRow_at {w : World} {g : Nat} {cs : Array Value} {t : TypeId} {fr : Nat × Nat} (h : w.heap[g]? = some (.cells cs t fr)) (cs' : Array Value) : (w.setRow g cs').heap[g]? = some (.cells cs' t fr) := by
  simp [World.setRow, Array.getElem?_modify, h]
theorem four_set {w : World} {g : Nat} {t : TypeId} {u0 u1 u2 u3 v0 v1 v2 v3 : Value} (h : w.heap[g]? = some (.cells #[u0, u1, u2, u3] t (0, 0))) :
    ((((w.setCell ⟨g, 0, none⟩ v0).setCell ⟨g, 1, none⟩ v1).setCell ⟨g, 2, none⟩ v2).setCell ⟨g, 3, none⟩ v3).heap[g]? = some (.cells #[v0, v1, v2, v3] t (0, 0)) := by
  have h := heap_setCell_same _ g 3 _ _ v3 (heap_setCell_same _ g 2 _ _ v2 (heap_setCell_same _ g 1 _ _ v1 (heap_setCell_same w g 0 _ _ v0 h)))
  simpa using h
theorem results_row_tmp {P : Program} {fn : Func} {p u : Tmp} {ty : TypeId} (h : fn.results = #[.cell p ty, .tmp u]) (tmps : Array Value) (w : World) (g : Nat) (t : TypeId) (cs : Array Value) (fr : Nat × Nat) (d : TypeDesc)
    (hp : tmps.getD p undef = .pointer (some ⟨g, 0, none⟩)) (hg : w.heap[g]? = some (.cells cs t fr))
    (hu : P.underlying ty = some d) (hd : (match d with | .struct _ | .array _ _ => true | _ => false) = true) (hi : (P.info? ty).map (·.size) = some cs.size) :
    (results fn tmps).run P w = .ok (.tuple #[.agg cs, tmps.getD u undef]) w := by
  rw [results_cell_tmp h]
  have hp' : tmps[p]?.getD undef = .pointer (some ⟨g, 0, none⟩) := by simpa using hp
  simp [hp', asAddr, Result.andThen, run_loadVar_row w g t ty cs fr d hg hu hd hi]

theorem record_no (w : World) (t : It) (h3 : t.n ≠ 3) :
    Calls Tryz.prog 185 #[t.val] w fun e w' => e = .returned (.tuple #[recV 0 0 0 0, .bool false]) ∧ Below w.heap.size w w' := by
  obtain ⟨id, A, n, c, xs⟩ := t
  unfold It.val
  simp only [] at h3 ⊢
  have hne : ((n : Int) != 3) = true := by simp; omega
  clear h3
  go_enter Tryz.func185, Tryz.ntmps185
  go_wp2
  refine bodyPost_ret_by (results_row_tmp rfl _ _ (w.heap.size + 1) 225 _ (0, 0) _ rfl (heap_alloc2_new w _ _) Tryz.underlying225 rfl (by kernel_rfl)) rfl ?_
  exact ⟨rfl, ((Below.refl _ w).alloc (Nat.le_refl _) _).alloc (by simp) _⟩
set_option maxRecDepth 20000 in
theorem record_yes (w : World) (B : Nat) (t : It) (hi : Ints w B t.A t.n t.xs) (hB : B ≤ w.heap.size) (a b c : Int) (hx : t.xs = [a, b, c]) :
    Calls Tryz.prog 185 #[t.val] w fun e w' => e = .returned (.tuple #[recV t.id a b c, .bool true]) ∧ Below w.heap.size w w' := by
  obtain ⟨id, A, n, cc, xs⟩ := t
  unfold It.val
  simp only [] at hi hx ⊢
  subst hx
  obtain rfl : n = 3 := hi.1.symm
  obtain ⟨b0, off, rfl, hb0, hc0⟩ := hi.2 0 (by decide)
  obtain ⟨b1, off1, he1, _, hc1⟩ := hi.2 1 (by decide)
  obtain ⟨b2, off2, he2, _, hc2⟩ := hi.2 2 (by decide)
  injection he1 with he1; injection he1 with e1 e2; subst e1 e2
  injection he2 with he2; injection he2 with e1 e2; subst e1 e2
  simp only [List.getD_cons_zero, List.getD_cons_succ, Nat.add_zero] at hc0 hc1 hc2
  have HC := Lib.hid (And.intro hc0 (And.intro hc1 hc2))
  clear hi hc0 hc1 hc2
  go_enter Tryz.func185, Tryz.ntmps185
  go_wp2
  generalize hW : World.alloc (World.alloc (World.alloc w _) _) _ = W0
  have hbel : Below w.heap.size w W0 := by subst hW; exact below3 (Nat.le_refl _) _ _ _
  have hsz : W0.heap.size = w.heap.size + 3 := by subst hW; simp
  have q1 : W0.cell? ⟨w.heap.size, 1, none⟩ = some (.slice (some ⟨b0, off, none⟩) 3 cc) := by subst hW; rw [World.cell?_alloc_past _ _ _ (by simp; omega), World.cell?_alloc_past _ _ _ (by simp), World.cell?_alloc_at _ _ _ _ rfl]; rfl
  have HO2 : Hid (W0.heap[w.heap.size + 1]? = some (.cells #[.int .i64 0, .int .i64 0, .int .i64 0, .int .i64 0] 225 (0, 0))) := by
    show _ = _; subst hW; rw [Below.heap_alloc _ _ _ (by simp)]; exact heap_alloc2_new w _ _
  have HO3 : Hid (W0.heap[w.heap.size + 2]? = some (.cells #[.int .i64 id, .int .i64 0, .int .i64 0, .int .i64 0] 225 (0, 0))) := by
    show _ = _; subst hW; exact heap_third w _ _ _
  have HB0 := Lib.hid hbel
  have HS0 := Lib.hid hsz
  clear hW hbel hsz
  go_still_tail 4, (by kernel_rfl)
  change wpList _ _ _ _ _ W0.drew
  refine wpList_copy_own rfl (.tmp 14) (.tmp 16) 29 29 rfl 3 Tryz.underlying29 (by kernel_rfl) (w.heap.size + 2) 1 3 3 ⟨b0, off, none⟩ 3 cc rfl rfl #[.int .i64 id, .int .i64 0, .int .i64 0, .int .i64 0] 225 HO3.out [.int .i64 a, .int .i64 b, .int .i64 c] rfl ?hsrc (by simp) ?h1 ?_
  case hsrc =>
    intro j v hj
    have hcell : ∀ k u, w.cell? ⟨b0, k, none⟩ = some u → W0.drew.cell? ⟨b0, k, none⟩ = some u := fun k u hu => (HB0.out.cell (p := ⟨b0, k, none⟩) (by exact Nat.lt_of_lt_of_le hb0 hB)).trans hu
    match j, hj with
    | 0, hj => simp at hj; subst hj; exact hcell _ _ HC.out.1
    | 1, hj => simp at hj; subst hj; exact hcell _ _ HC.out.2.1
    | 2, hj => simp at hj; subst hj; exact hcell _ _ HC.out.2.2
  case h1 => intro v hv; simp at hv; rcases hv with rfl | rfl | rfl <;> rfl
  generalize hW1 : World.setRow W0.drew _ _ = W1
  have hrow : W1.heap[w.heap.size + 2]? = some (.cells #[.int .i64 id, .int .i64 a, .int .i64 b, .int .i64 c] 225 (0, 0)) := by
    subst hW1; exact setRow_at (w := W0.drew) HO3.out _
  have hres : W1.heap[w.heap.size + 1]? = some (.cells #[.int .i64 0, .int .i64 0, .int .i64 0, .int .i64 0] 225 (0, 0)) := by
    subst hW1; rw [setRow_other _ _ _ _ (by omega)]; exact HO2.out
  have HB1 : Hid (Below w.heap.size w W1) := by
    subst hW1; exact below_setRow HB0.out.drew (by omega) _
  have c0 : W1.cell? ⟨w.heap.size + 1 + 1, 0, none⟩ = some (.int .i64 id) := cell_of_row W1 _ 0 _ _ (0, 0) hrow
  have c1 : W1.cell? ⟨w.heap.size + 1 + 1, 1, none⟩ = some (.int .i64 a) := cell_of_row W1 _ 1 _ _ (0, 0) hrow
  have c2 : W1.cell? ⟨w.heap.size + 1 + 1, 2, none⟩ = some (.int .i64 b) := cell_of_row W1 _ 2 _ _ (0, 0) hrow
  have c3 : W1.cell? ⟨w.heap.size + 1 + 1, 3, none⟩ = some (.int .i64 c) := cell_of_row W1 _ 3 _ _ (0, 0) hrow
  have d0 : W1.cell? ⟨w.heap.size + 1, 0, none⟩ = some (.int .i64 0) := cell_of_row W1 _ 0 _ _ (0, 0) hres
  have d1 : W1.cell? ⟨w.heap.size + 1, 1, none⟩ = some (.int .i64 0) := cell_of_row W1 _ 1 _ _ (0, 0) hres
  have d2 : W1.cell? ⟨w.heap.size + 1, 2, none⟩ = some (.int .i64 0) := cell_of_row W1 _ 2 _ _ (0, 0) hres
  have d3 : W1.cell? ⟨w.heap.size + 1, 3, none⟩ = some (.int .i64 0) := cell_of_row W1 _ 3 _ _ (0, 0) hres
  have g0 : W1.frozen? ⟨w.heap.size + 1, 0, none⟩ = false := frozen_of_row W1 _ 0 _ _ hres
  have g1 : W1.frozen? ⟨w.heap.size + 1, 1, none⟩ = false := frozen_of_row W1 _ 1 _ _ hres
  have g2 : W1.frozen? ⟨w.heap.size + 1, 2, none⟩ = false := frozen_of_row W1 _ 2 _ _ hres
  have g3 : W1.frozen? ⟨w.heap.size + 1, 3, none⟩ = false := frozen_of_row W1 _ 3 _ _ hres
  have HRes := Lib.hid hres
  clear hW1 hrow hres q1
  go_wp2
  refine bodyPost_ret_by (results_row_tmp rfl _ _ (w.heap.size + 1) 225 _ (0, 0) _ rfl (four_set HRes.out) Tryz.underlying225 rfl (by kernel_rfl)) rfl ?_
  exact ⟨rfl, (((HB1.out.setCell (by show _ ≤ w.heap.size + 1; omega) _).setCell (by show _ ≤ w.heap.size + 1; omega) _).setCell (by show _ ≤ w.heap.size + 1; omega) _).setCell (by show _ ≤ w.heap.size + 1; omega) _⟩

def clampI (v : Int) : Int := if 9 < (if v < 0 then 0 else v) then 9 else if v < 0 then 0 else v
/-- The array behind k rounds. -/
def clampA (a b c : Int) (k : Nat) : Array Value := #[.int .i64 (if 0 < k then clampI a else a), .int .i64 (if 1 < k then clampI b else b), .int .i64 (if 2 < k then clampI c else c)]
theorem clamped (w : World) (a b c : Int) :
    Calls Tryz.prog 187 #[.agg #[.int .i64 a, .int .i64 b, .int .i64 c]] w fun e w' => e = .returned (.agg #[.int .i64 (clampI a), .int .i64 (clampI b), .int .i64 (clampI c)]) ∧ Below w.heap.size w w' := by
  have i0 : ∀ w, (Instr.index 223 (.agg #[.int .i64 a, .int .i64 b, .int .i64 c]) (.int .i64 0)).run Tryz.prog w = .ok (.int .i64 a) w := fun _ => by kernel_rfl
  have i1 : ∀ w, (Instr.index 223 (.agg #[.int .i64 a, .int .i64 b, .int .i64 c]) (.int .i64 1)).run Tryz.prog w = .ok (.int .i64 b) w := fun _ => by kernel_rfl
  have i2 : ∀ w, (Instr.index 223 (.agg #[.int .i64 a, .int .i64 b, .int .i64 c]) (.int .i64 2)).run Tryz.prog w = .ok (.int .i64 c) w := fun _ => by kernel_rfl
  go_enter Tryz.func187, Tryz.ntmps187
  go_wp2
  go_loopw [6] (fun i wr => ∃ k : Nat, k ≤ 3 ∧ i = .int .i64 k ∧ wr = (w.alloc (.cells (clampA a b c k) 223)).alloc (.cells #[.int .i64 0, .int .i64 0, .int .i64 0] 223)) (fun i _ => 3 - (intOf i).toNat)
  case atStart => exact ⟨0, by decide, rfl, rfl⟩
  case round =>
    obtain ⟨k, hk, rfl, rfl⟩ := hrel
    rcases (show k = 0 ∨ k = 1 ∨ k = 2 ∨ k = 3 by omega) with rfl | rfl | rfl | rfl
    · unfold clampA
      go_wp2
      go_roundw
      case rel => exact ⟨1, by decide, rfl, rfl⟩
      case measure => simp [intOf]
    · unfold clampA
      go_wp2
      go_roundw
      case rel => exact ⟨2, by decide, rfl, rfl⟩
      case measure => simp [intOf]
    · unfold clampA
      go_wp2
      go_roundw
      case rel => exact ⟨3, by decide, rfl, rfl⟩
      case measure => simp [intOf]
    · unfold clampA
      go_wp2
      refine bodyPost_ret_by (results_cell_row rfl _ _ (w.heap.size + 1) 223 _ (0, 0) _ rfl (heap_alloc2_new w _ _) Tryz.underlying223 rfl (by kernel_rfl)) rfl ?_
      exact ⟨rfl, ((Below.refl _ w).alloc (Nat.le_refl _) _).alloc (by simp) _⟩

theorem clampI_eq (v : Int) : v = clampI v ↔ 0 ≤ v ∧ v ≤ 9 := by
  unfold clampI
  repeat' split
  all_goals omega
theorem arr_in (d : Nat) (w : World) (a b c a' b' c' : Int) :
    (Op.equalIn (d + 2) 223 (.agg #[.int .i64 a, .int .i64 b, .int .i64 c]) (.agg #[.int .i64 a', .int .i64 b', .int .i64 c'])).run Tryz.prog w = .ok (a == a' && (b == b' && c == c')) w := by
  have u3 := Tryz.underlying3
  have a3 := Tryz.isAgg3
  have z3 := Tryz.sizeOf3
  rw [show d + 2 = (d + 1) + 1 from rfl, Op.equalIn]
  simp only [Sem.run_bind, run_underlying Tryz.underlying223, Result.andThen_ok]
  simp only [Std.Legacy.Range.forIn_eq_forIn_range', Std.Legacy.Range.size, Nat.sub_zero, Nat.add_sub_cancel, Nat.div_one, List.range'_succ, List.range'_zero, List.forIn_cons, List.forIn_nil]
  go_simp
  by_cases h1 : a = a' <;> by_cases h2 : b = b' <;> by_cases h3 : c = c' <;> simp [h1, h2, h3]
theorem arr_eq (w : World) (a b c a' b' c' : Int) :
    (binOp .eql 223 (.agg #[.int .i64 a, .int .i64 b, .int .i64 c]) (.agg #[.int .i64 a', .int .i64 b', .int .i64 c'])).run Tryz.prog w = .ok (.bool (a == a' && (b == b' && c == c'))) w := by
  have h := arr_in 9998 w a b c a' b' c'
  go_simp
theorem rec_eq (w : World) (i a b c i' a' b' c' : Int) :
    (binOp .eql 225 (.agg #[.int .i64 i, .int .i64 a, .int .i64 b, .int .i64 c]) (.agg #[.int .i64 i', .int .i64 a', .int .i64 b', .int .i64 c'])).run Tryz.prog w = .ok (.bool (i == i' && (a == a' && (b == b' && c == c')))) w := by
  have hu := Tryz.underlying225
  have h := arr_in 9997 w a b c a' b' c'
  generalize (a == a' && (b == b' && c == c')) = q at h ⊢
  by_cases hi : i = i'
  · go_simp
    cases q <;> simp [hi]
  · go_simp

/-- What the program's test sees: three values, each its own clamped one. -/
theorem isP_three (id a b c : Int) : IsP (id, [a, b, c]) ↔ (0 ≤ id ∧ id ≤ 99) ∧ (a = clampI a ∧ b = clampI b ∧ c = clampI c) := by
  rw [clampI_eq, clampI_eq, clampI_eq]
  simp [IsP]
  omega
theorem three_of {xs : List Int} (h : xs.length = 3) : ∃ a b c, xs = [a, b, c] := by
  match xs, h with
  | [a, b, c], _ => exact ⟨a, b, c, rfl⟩

set_option maxRecDepth 20000 in
set_option maxHeartbeats 1600000 in
theorem iIsItem (w : World) (B : Nat) (t : It) (hi : Ints w B t.A t.n t.xs) (hB : B ≤ w.heap.size) (q : Bool) (hb : q = true ↔ IsP t.dat) :
    Calls Tryz.prog 148 #[t.val] w fun e w' => e = .returned (.bool q) ∧ Below w.heap.size w w' := by
  by_cases h3 : t.n = 3
  · obtain ⟨a, b, c, habc⟩ := three_of (hi.1.trans h3)
    obtain ⟨id, A, n, cc, xs⟩ := t
    simp only [It.dat] at hi h3 habc hb
    subst habc h3
    have HI := Lib.hid hi
    have HBo : Hid (q = true ↔ (0 ≤ id ∧ id ≤ 99) ∧ (a = clampI a ∧ b = clampI b ∧ c = clampI c)) := by show _ ↔ _; rw [hb, isP_three]
    clear hi hb
    obtain ⟨qi, hqi⟩ := bool_of (0 ≤ id ∧ id ≤ 99)
    have HQ := Lib.hid hqi
    clear hqi
    unfold It.val
    go_enter Tryz.func148, Tryz.ntmps148
    go_wp2_with fail
    refine (record_yes _ B ⟨id, A, 3, cc, [a, b, c]⟩ (HI.out.below ((Below.refl B w).alloc hB _)) (by simp; omega) a b c rfl).mono ?_
    rintro e w1 ⟨rfl, hb1⟩
    have HB1 := Lib.hid (((Below.refl w.heap.size w).alloc (Nat.le_refl _) (.cells #[.int .i64 id, .slice A 3 cc] 36)).trans (hb1.mono (by simp)))
    clear hb1
    unfold recV
    go_wp2
    generalize hW : World.alloc w1 _ = wg
    obtain ⟨g, hgw⟩ : ∃ g, g = w1.heap.size := ⟨_, rfl⟩
    rw [← hgw]
    have HBg : Hid (Below w.heap.size w wg) := Lib.hid (by subst hW; exact HB1.out.alloc HB1.out.size _)
    have hrow : wg.heap[g]? = some (.cells #[.int .i64 id, .int .i64 a, .int .i64 b, .int .i64 c] 225 (0, 0)) := by subst hW hgw; exact heap_alloc_new w1 _
    have hg : g < wg.heap.size := lt_of_block hrow
    have f0 : wg.cell? ⟨g, 0, none⟩ = some (.int .i64 id) := cell_of_row wg _ 0 _ _ (0, 0) hrow
    have f1 : wg.cell? ⟨g, 1, none⟩ = some (.int .i64 a) := cell_of_row wg _ 1 _ _ (0, 0) hrow
    have f2 : wg.cell? ⟨g, 2, none⟩ = some (.int .i64 b) := cell_of_row wg _ 2 _ _ (0, 0) hrow
    have f3 : wg.cell? ⟨g, 3, none⟩ = some (.int .i64 c) := cell_of_row wg _ 3 _ _ (0, 0) hrow
    clear hW hgw hrow
    cases qi
    · obtain rfl : q = false := by
        cases q
        · rfl
        · have := HQ.out.2 (HBo.out.1 rfl).1; cases this
      have hs0 : Below wg.heap.size wg wg.drew ∧ wg.drew.cell? ⟨g, 0, none⟩ = some (.int .i64 id) ∧ wg.drew.cell? ⟨g, 1, none⟩ = some (.int .i64 a) ∧ wg.drew.cell? ⟨g, 2, none⟩ = some (.int .i64 b) ∧ wg.drew.cell? ⟨g, 3, none⟩ = some (.int .i64 c) := ⟨(Below.refl _ _).drew, f0, f1, f2, f3⟩
      refine wp_region_held (S := fun w' => Below wg.heap.size wg w' ∧ w'.cell? ⟨g, 0, none⟩ = some (.int .i64 id) ∧ w'.cell? ⟨g, 1, none⟩ = some (.int .i64 a) ∧ w'.cell? ⟨g, 2, none⟩ = some (.int .i64 b) ∧ w'.cell? ⟨g, 3, none⟩ = some (.int .i64 c)) (by kernel_rfl) ?_
      change wpAnyH _ _ _ _ _ _ _ _ (World.drew _)
      refine takeY 10 (i := 0) (v := ?v0a) rfl rfl (by kernel_rfl) (by kernel_rfl) (by kernel_rfl) (fun _ _ _ h => h) (by kernel_rfl) ?y0a hs0 ?_
      case y0a =>
        intro w' hw'; (try dsimp only at hw'); obtain ⟨e0, e1, e2, e3, e4⟩ := hw'; go_simp; try with_reducible rfl
      simp only [Act.put, List.setIfInBounds_toArray, List.set_cons_zero, List.set_cons_succ]
      refine takeY 11 (i := 1) (v := ?v1a) rfl rfl (by kernel_rfl) (by kernel_rfl) (by kernel_rfl) (fun _ _ _ h => h) (by kernel_rfl) ?y1a hs0 ?_
      case y1a =>
        intro w' hw'; (try dsimp only at hw'); obtain ⟨e0, e1, e2, e3, e4⟩ := hw'; go_simp; try with_reducible rfl
      simp only [Act.put, List.setIfInBounds_toArray, List.set_cons_zero, List.set_cons_succ]
      refine takeY 12 (i := 2) (v := ?v2a) rfl rfl (by kernel_rfl) (by kernel_rfl) (by kernel_rfl) (fun _ _ _ h => h) (by kernel_rfl) ?y2a hs0 ?_
      case y2a =>
        intro w' hw'; (try dsimp only at hw'); obtain ⟨e0, e1, e2, e3, e4⟩ := hw'; go_simp; try with_reducible rfl
      simp only [Act.put, List.setIfInBounds_toArray, List.set_cons_zero, List.set_cons_succ]
      refine takeY 13 (i := 3) (v := ?v3a) rfl rfl (by kernel_rfl) (by kernel_rfl) (by kernel_rfl) (fun _ _ _ h => h) (by kernel_rfl) ?y3a hs0 ?_
      case y3a =>
        intro w' hw'; (try dsimp only at hw'); obtain ⟨e0, e1, e2, e3, e4⟩ := hw'; go_simp; try with_reducible rfl
      simp only [Act.put, List.setIfInBounds_toArray, List.set_cons_zero, List.set_cons_succ]
      refine wpAnyH_ready (rs := [4]) (by kernel_rfl) (by simp) ?_
      refine AllReadyH.cons rfl (fun K hK => ?_) AllReadyH.nil
      go_simp; go_at_call 186; refine (id_of id false HQ.out _).mono ?_; rintro e w3 ⟨rfl, rfl⟩
      refine hK.out _ _ hs0 (fun hS1 => ?_)
      clear hK K
      try simp only [Act.put, List.setIfInBounds_toArray, List.set_cons_zero, List.set_cons_succ]
      refine takeY 15 (i := 5) (v := ?v5a) rfl rfl (by kernel_rfl) (by kernel_rfl) (by kernel_rfl) (fun _ _ _ h => h) (by kernel_rfl) ?y5a hS1 ?_
      case y5a =>
        intro w' hw'; (try dsimp only at hw'); obtain ⟨e0, e1, e2, e3, e4⟩ := hw'; go_simp; try with_reducible rfl
      simp only [Act.put, List.setIfInBounds_toArray, List.set_cons_zero, List.set_cons_succ]
      refine takeY 16 (i := 6) (v := ?v6a) rfl rfl (by kernel_rfl) (by kernel_rfl) (by kernel_rfl) (fun _ _ _ h => h) (by kernel_rfl) ?y6a hS1 ?_
      case y6a =>
        intro w' hw'; (try dsimp only at hw'); obtain ⟨e0, e1, e2, e3, e4⟩ := hw'; go_simp; try with_reducible rfl
      simp only [Act.put, List.setIfInBounds_toArray, List.set_cons_zero, List.set_cons_succ]
      refine takeU 17 (i := 7) rfl rfl (by kernel_rfl) (by kernel_rfl) (by kernel_rfl) (fun _ _ _ h => h) (by kernel_rfl) hS1 ?_
      simp only [Act.put, List.setIfInBounds_toArray, List.set_cons_zero, List.set_cons_succ]
      refine takeU 18 (i := 8) rfl rfl (by kernel_rfl) (by kernel_rfl) (by kernel_rfl) (fun _ _ _ h => h) (by kernel_rfl) hS1 ?_
      simp only [Act.put, List.setIfInBounds_toArray, List.set_cons_zero, List.set_cons_succ]
      refine takeU 19 (i := 9) rfl rfl (by kernel_rfl) (by kernel_rfl) (by kernel_rfl) (fun _ _ _ h => h) (by kernel_rfl) hS1 ?_
      simp only [Act.put, List.setIfInBounds_toArray, List.set_cons_zero, List.set_cons_succ]
      refine takeU 20 (i := 10) rfl rfl (by kernel_rfl) (by kernel_rfl) (by kernel_rfl) (fun _ _ _ h => h) (by kernel_rfl) hS1 ?_
      simp only [Act.put, List.setIfInBounds_toArray, List.set_cons_zero, List.set_cons_succ]
      refine takeU 21 (i := 11) rfl rfl (by kernel_rfl) (by kernel_rfl) (by kernel_rfl) (fun _ _ _ h => h) (by kernel_rfl) hS1 ?_
      simp only [Act.put, List.setIfInBounds_toArray, List.set_cons_zero, List.set_cons_succ]
      refine takeU 22 (i := 12) rfl rfl (by kernel_rfl) (by kernel_rfl) (by kernel_rfl) (fun _ _ _ h => h) (by kernel_rfl) hS1 ?_
      simp only [Act.put, List.setIfInBounds_toArray, List.set_cons_zero, List.set_cons_succ]
      refine takeY 23 (i := 13) (v := ?v13a) rfl rfl (by kernel_rfl) (by kernel_rfl) (by kernel_rfl) (fun _ _ _ h => h) (by kernel_rfl) ?y13a hS1 ?_
      case y13a =>
        intro w' hw'; (try dsimp only at hw'); obtain ⟨e0, e1, e2, e3, e4⟩ := hw'; go_simp; try with_reducible rfl
      simp only [Act.put, List.setIfInBounds_toArray, List.set_cons_zero, List.set_cons_succ]
      refine takeY 2 (i := 14) (v := ?v14a) rfl rfl (by kernel_rfl) (by kernel_rfl) (by kernel_rfl) (fun _ _ _ h => h) (by kernel_rfl) ?y14a hS1 ?_
      case y14a =>
        intro w' hw'; (try dsimp only at hw'); obtain ⟨e0, e1, e2, e3, e4⟩ := hw'; go_simp; try with_reducible rfl
      simp only [Act.put, List.setIfInBounds_toArray, List.set_cons_zero, List.set_cons_succ]
      refine wpAnyH_done (by kernel_rfl) ?_ _
      go_wp2
      go_ret
      exact ⟨rfl, HBg.out.drew⟩
    · have HD := Lib.hid (HQ.out.1 rfl)
      have harr := fun w => arr_eq w a b c (clampI a) (clampI b) (clampI c)
      have HE : Hid ((a == clampI a && (b == clampI b && c == clampI c)) = q) := by
        show _ = _
        rw [Bool.eq_iff_iff, HBo.out]
        simp only [Bool.and_eq_true, beq_iff_eq]
        exact ⟨fun h => ⟨HD.out, h⟩, fun h => h.2⟩
      generalize (a == clampI a && (b == clampI b && c == clampI c)) = q3 at harr HE
      have hs0 : Below wg.heap.size wg wg.drew ∧ wg.drew.cell? ⟨g, 0, none⟩ = some (.int .i64 id) ∧ wg.drew.cell? ⟨g, 1, none⟩ = some (.int .i64 a) ∧ wg.drew.cell? ⟨g, 2, none⟩ = some (.int .i64 b) ∧ wg.drew.cell? ⟨g, 3, none⟩ = some (.int .i64 c) := ⟨(Below.refl _ _).drew, f0, f1, f2, f3⟩
      refine wp_region_held (S := fun w' => Below wg.heap.size wg w' ∧ w'.cell? ⟨g, 0, none⟩ = some (.int .i64 id) ∧ w'.cell? ⟨g, 1, none⟩ = some (.int .i64 a) ∧ w'.cell? ⟨g, 2, none⟩ = some (.int .i64 b) ∧ w'.cell? ⟨g, 3, none⟩ = some (.int .i64 c)) (by kernel_rfl) ?_
      change wpAnyH _ _ _ _ _ _ _ _ (World.drew _)
      refine takeY 10 (i := 0) (v := ?v0b) rfl rfl (by kernel_rfl) (by kernel_rfl) (by kernel_rfl) (fun _ _ _ h => h) (by kernel_rfl) ?y0b hs0 ?_
      case y0b =>
        intro w' hw'; (try dsimp only at hw'); obtain ⟨e0, e1, e2, e3, e4⟩ := hw'; go_simp; try with_reducible rfl
      simp only [Act.put, List.setIfInBounds_toArray, List.set_cons_zero, List.set_cons_succ]
      refine takeY 11 (i := 1) (v := ?v1b) rfl rfl (by kernel_rfl) (by kernel_rfl) (by kernel_rfl) (fun _ _ _ h => h) (by kernel_rfl) ?y1b hs0 ?_
      case y1b =>
        intro w' hw'; (try dsimp only at hw'); obtain ⟨e0, e1, e2, e3, e4⟩ := hw'; go_simp; try with_reducible rfl
      simp only [Act.put, List.setIfInBounds_toArray, List.set_cons_zero, List.set_cons_succ]
      refine takeY 12 (i := 2) (v := ?v2b) rfl rfl (by kernel_rfl) (by kernel_rfl) (by kernel_rfl) (fun _ _ _ h => h) (by kernel_rfl) ?y2b hs0 ?_
      case y2b =>
        intro w' hw'; (try dsimp only at hw'); obtain ⟨e0, e1, e2, e3, e4⟩ := hw'; go_simp; try with_reducible rfl
      simp only [Act.put, List.setIfInBounds_toArray, List.set_cons_zero, List.set_cons_succ]
      refine takeY 13 (i := 3) (v := ?v3b) rfl rfl (by kernel_rfl) (by kernel_rfl) (by kernel_rfl) (fun _ _ _ h => h) (by kernel_rfl) ?y3b hs0 ?_
      case y3b =>
        intro w' hw'; (try dsimp only at hw'); obtain ⟨e0, e1, e2, e3, e4⟩ := hw'; go_simp; try with_reducible rfl
      simp only [Act.put, List.setIfInBounds_toArray, List.set_cons_zero, List.set_cons_succ]
      refine wpAnyH_ready (rs := [4]) (by kernel_rfl) (by simp) ?_
      refine AllReadyH.cons rfl (fun K hK => ?_) AllReadyH.nil
      go_simp; go_at_call 186; refine (id_of id true ⟨fun _ => HD.out, fun _ => rfl⟩ _).mono ?_; rintro e w3 ⟨rfl, rfl⟩
      refine hK.out _ _ hs0 (fun hS1 => ?_)
      clear hK K
      try simp only [Act.put, List.setIfInBounds_toArray, List.set_cons_zero, List.set_cons_succ]
      refine takeY 15 (i := 5) (v := ?v5b) rfl rfl (by kernel_rfl) (by kernel_rfl) (by kernel_rfl) (fun _ _ _ h => h) (by kernel_rfl) ?y5b hS1 ?_
      case y5b =>
        intro w' hw'; (try dsimp only at hw'); obtain ⟨e0, e1, e2, e3, e4⟩ := hw'; go_simp; try with_reducible rfl
      simp only [Act.put, List.setIfInBounds_toArray, List.set_cons_zero, List.set_cons_succ]
      refine takeY 16 (i := 6) (v := ?v6b) rfl rfl (by kernel_rfl) (by kernel_rfl) (by kernel_rfl) (fun _ _ _ h => h) (by kernel_rfl) ?y6b hS1 ?_
      case y6b =>
        intro w' hw'; (try dsimp only at hw'); obtain ⟨e0, e1, e2, e3, e4⟩ := hw'; go_simp; try with_reducible rfl
      simp only [Act.put, List.setIfInBounds_toArray, List.set_cons_zero, List.set_cons_succ]
      refine takeY 17 (i := 7) (v := ?v7b) rfl rfl (by kernel_rfl) (by kernel_rfl) (by kernel_rfl) (fun _ _ _ h => h) (by kernel_rfl) ?y7b hS1 ?_
      case y7b =>
        intro w' hw'; (try dsimp only at hw'); obtain ⟨e0, e1, e2, e3, e4⟩ := hw'; go_simp; try with_reducible rfl
      simp only [Act.put, List.setIfInBounds_toArray, List.set_cons_zero, List.set_cons_succ]
      refine takeY 18 (i := 8) (v := ?v8b) rfl rfl (by kernel_rfl) (by kernel_rfl) (by kernel_rfl) (fun _ _ _ h => h) (by kernel_rfl) ?y8b hS1 ?_
      case y8b =>
        intro w' hw'; (try dsimp only at hw'); obtain ⟨e0, e1, e2, e3, e4⟩ := hw'; go_simp; try with_reducible rfl
      simp only [Act.put, List.setIfInBounds_toArray, List.set_cons_zero, List.set_cons_succ]
      refine takeY 19 (i := 9) (v := ?v9b) rfl rfl (by kernel_rfl) (by kernel_rfl) (by kernel_rfl) (fun _ _ _ h => h) (by kernel_rfl) ?y9b hS1 ?_
      case y9b =>
        intro w' hw'; (try dsimp only at hw'); obtain ⟨e0, e1, e2, e3, e4⟩ := hw'; go_simp; try with_reducible rfl
      simp only [Act.put, List.setIfInBounds_toArray, List.set_cons_zero, List.set_cons_succ]
      refine takeY 20 (i := 10) (v := ?v10b) rfl rfl (by kernel_rfl) (by kernel_rfl) (by kernel_rfl) (fun _ _ _ h => h) (by kernel_rfl) ?y10b hS1 ?_
      case y10b =>
        intro w' hw'; (try dsimp only at hw'); obtain ⟨e0, e1, e2, e3, e4⟩ := hw'; go_simp; try with_reducible rfl
      simp only [Act.put, List.setIfInBounds_toArray, List.set_cons_zero, List.set_cons_succ]
      refine wpAnyH_ready (rs := [11]) (by kernel_rfl) (by simp) ?_
      refine AllReadyH.cons rfl (fun K hK => ?_) AllReadyH.nil
      go_simp; go_at_call 187; refine (clamped _ a b c).mono ?_; rintro e w3 ⟨rfl, hb3⟩; replace hb3 := (Below.refl wg.heap.size wg).drew.trans (hb3.mono (Nat.le_refl _))
      refine hK.out _ _ ⟨hb3, (hb3.cell (p := ⟨g, 0, none⟩) hg).trans f0, (hb3.cell (p := ⟨g, 1, none⟩) hg).trans f1, (hb3.cell (p := ⟨g, 2, none⟩) hg).trans f2, (hb3.cell (p := ⟨g, 3, none⟩) hg).trans f3⟩ (fun hS2 => ?_)
      clear hK K
      try simp only [Act.put, List.setIfInBounds_toArray, List.set_cons_zero, List.set_cons_succ]
      refine takeY 22 (i := 12) (v := ?v12b) rfl rfl (by kernel_rfl) (by kernel_rfl) (by kernel_rfl) (fun _ _ _ h => h) (by kernel_rfl) ?y12b hS2 ?_
      case y12b =>
        intro w' hw'; (try dsimp only at hw'); obtain ⟨e0, e1, e2, e3, e4⟩ := hw'; go_simp; try with_reducible rfl
      simp only [Act.put, List.setIfInBounds_toArray, List.set_cons_zero, List.set_cons_succ]
      refine takeY 23 (i := 13) (v := ?v13b) rfl rfl (by kernel_rfl) (by kernel_rfl) (by kernel_rfl) (fun _ _ _ h => h) (by kernel_rfl) ?y13b hS2 ?_
      case y13b =>
        intro w' hw'; (try dsimp only at hw'); obtain ⟨e0, e1, e2, e3, e4⟩ := hw'; go_simp; try with_reducible rfl
      simp only [Act.put, List.setIfInBounds_toArray, List.set_cons_zero, List.set_cons_succ]
      refine takeY 2 (i := 14) (v := ?v14b) rfl rfl (by kernel_rfl) (by kernel_rfl) (by kernel_rfl) (fun _ _ _ h => h) (by kernel_rfl) ?y14b hS2 ?_
      case y14b =>
        intro w' hw'; (try dsimp only at hw'); obtain ⟨e0, e1, e2, e3, e4⟩ := hw'; go_simp; try with_reducible rfl
      simp only [Act.put, List.setIfInBounds_toArray, List.set_cons_zero, List.set_cons_succ]
      refine wpAnyH_done (by kernel_rfl) ?_ _
      go_wp2
      go_ret
      exact ⟨by rw [HE.out]; rfl, HBg.out.trans (hb3.mono HBg.out.size)⟩
  · obtain rfl : q = false := by
      cases q
      · rfl
      · exact absurd (by rw [← hi.1]; exact (hb.1 rfl).2.2) h3
    obtain ⟨id, A, n, cc, xs⟩ := t
    clear hi hb
    unfold It.val
    simp only [] at h3
    have H3 := Lib.hid h3
    clear h3
    go_enter Tryz.func148, Tryz.ntmps148
    go_wp2_with fail
    refine (record_no _ ⟨id, A, n, cc, xs⟩ H3.out).mono ?_
    rintro e w1 ⟨rfl, hb1⟩
    have HB1 := Lib.hid (((Below.refl w.heap.size w).alloc (Nat.le_refl _) (.cells #[.int .i64 id, .slice A n cc] 36)).trans (hb1.mono (by simp)))
    clear hb1
    unfold recV
    go_wp2
    go_quiet (fail)
    go_wp2
    go_ret
    exact ⟨rfl, below_drewN (HB1.out.alloc HB1.out.size _) _⟩
end Go.Proofs.YtceiocdemhkcdaaGreat.num
