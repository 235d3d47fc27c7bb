/- What the law FnWishes leans on, part 2: contracts of the functions that it calls. -/
import Derived.Laws.CopyOwn
import Derived.Test.YtalgfiefadfmnaaProg
import Derived.WalkKit
import Derived.Lib.Hide
import Derived.Maps.RangeWalk
import Derived.Maps.Ext
import Derived.Laws.IdiomRangeMap
import Derived.Deep.Cut
import Derived.Test.YtalgfiefadfmnaaWishesP1
namespace Go.Proofs.Ytalgfiefadfmnaa.num
open Go.RowKit
set_option linter.unusedSimpArgs false

theorem id_of (x : Int) (b : Bool) (hb : b = true ↔ 0 ≤ x ∧ x ≤ 99) (w : World) :
    Calls Try.prog 59 #[.int .i64 x] w fun e w' => e = .returned (.bool b) ∧ w = w' := by
  obtain rfl : b = (decide (0 ≤ x) && decide (x ≤ 99)) := by rw [Bool.eq_iff_iff]; simpa using hb
  clear hb
  by_cases h1 : 0 ≤ x
  · go_enter Try.func59, Try.ntmps59
    go_wp2
    go_ret
    exact ⟨by simp [h1], rfl⟩
  · go_enter Try.func59, Try.ntmps59
    go_wp2
    go_ret
    exact ⟨by simp; omega, rfl⟩

/-- A record's value. -/
def recV (id a b c : Int) : Value := .agg #[.int .i64 id, .int .i64 a, .int .i64 b, .int .i64 c]

theorem heap_third (w : World) (o1 o2 o3 : Obj) : (((w.alloc o1).alloc o2).alloc o3).heap[w.heap.size + 2]? = some o3 := by
  have h := heap_alloc_new ((w.alloc o1).alloc o2) o3
  have e : ((w.alloc o1).alloc o2).heap.size = w.heap.size + 2 := by simp
  rwa [e] at h
theorem setRow_at {w : World} {g : Nat} {cs : Array Value} {t : TypeId} {fr : Nat × Nat} (h : w.heap[g]? = some (.cells cs t fr)) (cs' : Array Value) : (w.setRow g cs').heap[g]? = some (.cells cs' t fr) := by
  simp [World.setRow, Array.getElem?_modify, h]
theorem four_set {w : World} {g : Nat} {t : TypeId} {u0 u1 u2 u3 v0 v1 v2 v3 : Value} (h : w.heap[g]? = some (.cells #[u0, u1, u2, u3] t (0, 0))) :
    ((((w.setCell ⟨g, 0, none⟩ v0).setCell ⟨g, 1, none⟩ v1).setCell ⟨g, 2, none⟩ v2).setCell ⟨g, 3, none⟩ v3).heap[g]? = some (.cells #[v0, v1, v2, v3] t (0, 0)) := by
  have h := heap_setCell_same _ g 3 _ _ v3 (heap_setCell_same _ g 2 _ _ v2 (heap_setCell_same _ g 1 _ _ v1 (heap_setCell_same w g 0 _ _ v0 h)))
  simpa using h
theorem results_row_tmp {P : Program} {fn : Func} {p u : Tmp} {ty : TypeId} (h : fn.results = #[.cell p ty, .tmp u]) (tmps : Array Value) (w : World) (g : Nat) (t : TypeId) (cs : Array Value) (fr : Nat × Nat) (d : TypeDesc)
    (hp : tmps.getD p undef = .pointer (some ⟨g, 0, none⟩)) (hg : w.heap[g]? = some (.cells cs t fr))
    (hu : P.underlying ty = some d) (hd : (match d with | .struct _ | .array _ _ => true | _ => false) = true) (hi : (P.info? ty).map (·.size) = some cs.size) :
    (results fn tmps).run P w = .ok (.tuple #[.agg cs, tmps.getD u undef]) w := by
  rw [results_cell_tmp h]
  have hp' : tmps[p]?.getD undef = .pointer (some ⟨g, 0, none⟩) := by simpa using hp
  simp [hp', asAddr, Result.andThen, run_loadVar_row w g t ty cs fr d hg hu hd hi]

theorem record_no (w : World) (t : It) (h3 : t.n ≠ 3) :
    Calls Try.prog 58 #[t.val] w fun e w' => e = .returned (.tuple #[recV 0 0 0 0, .bool false]) ∧ Below w.heap.size w w' := by
  obtain ⟨id, A, n, c, xs⟩ := t
  unfold It.val
  simp only [] at h3 ⊢
  have hne : ((n : Int) != 3) = true := by simp; omega
  clear h3
  go_enter Try.func58, Try.ntmps58
  go_wp2
  refine bodyPost_ret_by (results_row_tmp rfl _ _ (w.heap.size + 1) 97 _ (0, 0) _ rfl (heap_alloc2_new w _ _) Try.underlying97 rfl (by kernel_rfl)) rfl ?_
  exact ⟨rfl, ((Below.refl _ w).alloc (Nat.le_refl _) _).alloc (by simp) _⟩
set_option maxRecDepth 20000 in
theorem record_yes (w : World) (B : Nat) (t : It) (hi : Ints w B t.A t.n t.xs) (hB : B ≤ w.heap.size) (a b c : Int) (hx : t.xs = [a, b, c]) :
    Calls Try.prog 58 #[t.val] w fun e w' => e = .returned (.tuple #[recV t.id a b c, .bool true]) ∧ Below w.heap.size w w' := by
  obtain ⟨id, A, n, cc, xs⟩ := t
  unfold It.val
  simp only [] at hi hx ⊢
  subst hx
  obtain rfl : n = 3 := hi.1.symm
  obtain ⟨b0, off, rfl, hb0, hc0⟩ := hi.2 0 (by decide)
  obtain ⟨b1, off1, he1, _, hc1⟩ := hi.2 1 (by decide)
  obtain ⟨b2, off2, he2, _, hc2⟩ := hi.2 2 (by decide)
  injection he1 with he1; injection he1 with e1 e2; subst e1 e2
  injection he2 with he2; injection he2 with e1 e2; subst e1 e2
  simp only [List.getD_cons_zero, List.getD_cons_succ, Nat.add_zero] at hc0 hc1 hc2
  have HC := Lib.hid (And.intro hc0 (And.intro hc1 hc2))
  clear hi hc0 hc1 hc2
  go_enter Try.func58, Try.ntmps58
  go_wp2
  generalize hW : World.alloc (World.alloc (World.alloc w _) _) _ = W0
  have hbel : Below w.heap.size w W0 := by subst hW; exact below3 (Nat.le_refl _) _ _ _
  have hsz : W0.heap.size = w.heap.size + 3 := by subst hW; simp
  have q1 : W0.cell? ⟨w.heap.size, 1, none⟩ = some (.slice (some ⟨b0, off, none⟩) 3 cc) := by subst hW; rw [World.cell?_alloc_past _ _ _ (by simp; omega), World.cell?_alloc_past _ _ _ (by simp), World.cell?_alloc_at _ _ _ _ rfl]; rfl
  have HO2 : Hid (W0.heap[w.heap.size + 1]? = some (.cells #[.int .i64 0, .int .i64 0, .int .i64 0, .int .i64 0] 97 (0, 0))) := by
    show _ = _; subst hW; rw [Below.heap_alloc _ _ _ (by simp)]; exact heap_alloc2_new w _ _
  have HO3 : Hid (W0.heap[w.heap.size + 2]? = some (.cells #[.int .i64 id, .int .i64 0, .int .i64 0, .int .i64 0] 97 (0, 0))) := by
    show _ = _; subst hW; exact heap_third w _ _ _
  have HB0 := Lib.hid hbel
  have HS0 := Lib.hid hsz
  clear hW hbel hsz
  go_still_tail 4, (by kernel_rfl)
  change wpList _ _ _ _ _ W0.drew
  refine wpList_copy_own rfl (.tmp 14) (.tmp 16) 24 24 rfl 3 Try.underlying24 (by kernel_rfl) (w.heap.size + 2) 1 3 3 ⟨b0, off, none⟩ 3 cc rfl rfl #[.int .i64 id, .int .i64 0, .int .i64 0, .int .i64 0] 97 HO3.out [.int .i64 a, .int .i64 b, .int .i64 c] rfl ?hsrc (by simp) ?h1 ?_
  case hsrc =>
    intro j v hj
    have hcell : ∀ k u, w.cell? ⟨b0, k, none⟩ = some u → W0.drew.cell? ⟨b0, k, none⟩ = some u := fun k u hu => (HB0.out.cell (p := ⟨b0, k, none⟩) (by exact Nat.lt_of_lt_of_le hb0 hB)).trans hu
    match j, hj with
    | 0, hj => simp at hj; subst hj; exact hcell _ _ HC.out.1
    | 1, hj => simp at hj; subst hj; exact hcell _ _ HC.out.2.1
    | 2, hj => simp at hj; subst hj; exact hcell _ _ HC.out.2.2
  case h1 => intro v hv; simp at hv; rcases hv with rfl | rfl | rfl <;> rfl
  generalize hW1 : World.setRow W0.drew _ _ = W1
  have hrow : W1.heap[w.heap.size + 2]? = some (.cells #[.int .i64 id, .int .i64 a, .int .i64 b, .int .i64 c] 97 (0, 0)) := by
    subst hW1; exact setRow_at (w := W0.drew) HO3.out _
  have hres : W1.heap[w.heap.size + 1]? = some (.cells #[.int .i64 0, .int .i64 0, .int .i64 0, .int .i64 0] 97 (0, 0)) := by
    subst hW1; rw [setRow_other _ _ _ _ (by omega)]; exact HO2.out
  have HB1 : Hid (Below w.heap.size w W1) := by
    subst hW1; exact below_setRow HB0.out.drew (by omega) _
  have c0 : W1.cell? ⟨w.heap.size + 1 + 1, 0, none⟩ = some (.int .i64 id) := cell_of_row W1 _ 0 _ _ (0, 0) hrow
  have c1 : W1.cell? ⟨w.heap.size + 1 + 1, 1, none⟩ = some (.int .i64 a) := cell_of_row W1 _ 1 _ _ (0, 0) hrow
  have c2 : W1.cell? ⟨w.heap.size + 1 + 1, 2, none⟩ = some (.int .i64 b) := cell_of_row W1 _ 2 _ _ (0, 0) hrow
  have c3 : W1.cell? ⟨w.heap.size + 1 + 1, 3, none⟩ = some (.int .i64 c) := cell_of_row W1 _ 3 _ _ (0, 0) hrow
  have d0 : W1.cell? ⟨w.heap.size + 1, 0, none⟩ = some (.int .i64 0) := cell_of_row W1 _ 0 _ _ (0, 0) hres
  have d1 : W1.cell? ⟨w.heap.size + 1, 1, none⟩ = some (.int .i64 0) := cell_of_row W1 _ 1 _ _ (0, 0) hres
  have d2 : W1.cell? ⟨w.heap.size + 1, 2, none⟩ = some (.int .i64 0) := cell_of_row W1 _ 2 _ _ (0, 0) hres
  have d3 : W1.cell? ⟨w.heap.size + 1, 3, none⟩ = some (.int .i64 0) := cell_of_row W1 _ 3 _ _ (0, 0) hres
  have g0 : W1.frozen? ⟨w.heap.size + 1, 0, none⟩ = false := frozen_of_row W1 _ 0 _ _ hres
  have g1 : W1.frozen? ⟨w.heap.size + 1, 1, none⟩ = false := frozen_of_row W1 _ 1 _ _ hres
  have g2 : W1.frozen? ⟨w.heap.size + 1, 2, none⟩ = false := frozen_of_row W1 _ 2 _ _ hres
  have g3 : W1.frozen? ⟨w.heap.size + 1, 3, none⟩ = false := frozen_of_row W1 _ 3 _ _ hres
  have HRes := Lib.hid hres
  clear hW1 hrow hres q1
  go_wp2
  refine bodyPost_ret_by (results_row_tmp rfl _ _ (w.heap.size + 1) 97 _ (0, 0) _ rfl (four_set HRes.out) Try.underlying97 rfl (by kernel_rfl)) rfl ?_
  exact ⟨rfl, (((HB1.out.setCell (by show _ ≤ w.heap.size + 1; omega) _).setCell (by show _ ≤ w.heap.size + 1; omega) _).setCell (by show _ ≤ w.heap.size + 1; omega) _).setCell (by show _ ≤ w.heap.size + 1; omega) _⟩

def clampI (v : Int) : Int := if 9 < (if v < 0 then 0 else v) then 9 else if v < 0 then 0 else v
/-- The array behind k rounds. -/
def clampA (a b c : Int) (k : Nat) : Array Value := #[.int .i64 (if 0 < k then clampI a else a), .int .i64 (if 1 < k then clampI b else b), .int .i64 (if 2 < k then clampI c else c)]
theorem clamped (w : World) (a b c : Int) :
    Calls Try.prog 60 #[.agg #[.int .i64 a, .int .i64 b, .int .i64 c]] w fun e w' => e = .returned (.agg #[.int .i64 (clampI a), .int .i64 (clampI b), .int .i64 (clampI c)]) ∧ Below w.heap.size w w' := by
  have i0 : ∀ w, (Instr.index 95 (.agg #[.int .i64 a, .int .i64 b, .int .i64 c]) (.int .i64 0)).run Try.prog w = .ok (.int .i64 a) w := fun _ => by kernel_rfl
  have i1 : ∀ w, (Instr.index 95 (.agg #[.int .i64 a, .int .i64 b, .int .i64 c]) (.int .i64 1)).run Try.prog w = .ok (.int .i64 b) w := fun _ => by kernel_rfl
  have i2 : ∀ w, (Instr.index 95 (.agg #[.int .i64 a, .int .i64 b, .int .i64 c]) (.int .i64 2)).run Try.prog w = .ok (.int .i64 c) w := fun _ => by kernel_rfl
  go_enter Try.func60, Try.ntmps60
  go_wp2
  go_loopw [6] (fun i wr => ∃ k : Nat, k ≤ 3 ∧ i = .int .i64 k ∧ wr = (w.alloc (.cells (clampA a b c k) 95)).alloc (.cells #[.int .i64 0, .int .i64 0, .int .i64 0] 95)) (fun i _ => 3 - (intOf i).toNat)
  case atStart => exact ⟨0, by decide, rfl, rfl⟩
  case round =>
    obtain ⟨k, hk, rfl, rfl⟩ := hrel
    rcases (show k = 0 ∨ k = 1 ∨ k = 2 ∨ k = 3 by omega) with rfl | rfl | rfl | rfl
    · unfold clampA
      go_wp2
      go_roundw
      case rel => exact ⟨1, by decide, rfl, rfl⟩
      case measure => simp [intOf]
    · unfold clampA
      go_wp2
      go_roundw
      case rel => exact ⟨2, by decide, rfl, rfl⟩
      case measure => simp [intOf]
    · unfold clampA
      go_wp2
      go_roundw
      case rel => exact ⟨3, by decide, rfl, rfl⟩
      case measure => simp [intOf]
    · unfold clampA
      go_wp2
      refine bodyPost_ret_by (results_cell_row rfl _ _ (w.heap.size + 1) 95 _ (0, 0) _ rfl (heap_alloc2_new w _ _) Try.underlying95 rfl (by kernel_rfl)) rfl ?_
      exact ⟨rfl, ((Below.refl _ w).alloc (Nat.le_refl _) _).alloc (by simp) _⟩

theorem clampI_eq (v : Int) : v = clampI v ↔ 0 ≤ v ∧ v ≤ 9 := by
  unfold clampI
  repeat' split
  all_goals omega
theorem arr_in (d : Nat) (w : World) (a b c a' b' c' : Int) :
    (Op.equalIn (d + 2) 95 (.agg #[.int .i64 a, .int .i64 b, .int .i64 c]) (.agg #[.int .i64 a', .int .i64 b', .int .i64 c'])).run Try.prog w = .ok (a == a' && (b == b' && c == c')) w := by
  have u3 := Try.underlying3
  have a3 := Try.isAgg3
  have z3 := Try.sizeOf3
  rw [show d + 2 = (d + 1) + 1 from rfl, Op.equalIn]
  simp only [Sem.run_bind, run_underlying Try.underlying95, Result.andThen_ok]
  simp only [Std.Legacy.Range.forIn_eq_forIn_range', Std.Legacy.Range.size, Nat.sub_zero, Nat.add_sub_cancel, Nat.div_one, List.range'_succ, List.range'_zero, List.forIn_cons, List.forIn_nil]
  go_simp
  by_cases h1 : a = a' <;> by_cases h2 : b = b' <;> by_cases h3 : c = c' <;> simp [h1, h2, h3]
theorem arr_eq (w : World) (a b c a' b' c' : Int) :
    (binOp .eql 95 (.agg #[.int .i64 a, .int .i64 b, .int .i64 c]) (.agg #[.int .i64 a', .int .i64 b', .int .i64 c'])).run Try.prog w = .ok (.bool (a == a' && (b == b' && c == c'))) w := by
  have h := arr_in 9998 w a b c a' b' c'
  go_simp
theorem rec_eq (w : World) (i a b c i' a' b' c' : Int) :
    (binOp .eql 97 (.agg #[.int .i64 i, .int .i64 a, .int .i64 b, .int .i64 c]) (.agg #[.int .i64 i', .int .i64 a', .int .i64 b', .int .i64 c'])).run Try.prog w = .ok (.bool (i == i' && (a == a' && (b == b' && c == c')))) w := by
  have hu := Try.underlying97
  have h := arr_in 9997 w a b c a' b' c'
  generalize (a == a' && (b == b' && c == c')) = q at h ⊢
  by_cases hi : i = i'
  · go_simp
    cases q <;> simp [hi]
  · go_simp

/-- What the program's test sees: three values, each its own clamped one. -/
theorem isP_three (id a b c : Int) : IsP (id, [a, b, c]) ↔ (0 ≤ id ∧ id ≤ 99) ∧ (a = clampI a ∧ b = clampI b ∧ c = clampI c) := by
  rw [clampI_eq, clampI_eq, clampI_eq]
  simp [IsP]
  omega
theorem three_of {xs : List Int} (h : xs.length = 3) : ∃ a b c, xs = [a, b, c] := by
  match xs, h with
  | [a, b, c], _ => exact ⟨a, b, c, rfl⟩

set_option maxRecDepth 20000 in
set_option maxHeartbeats 1600000 in
theorem iIsItem (w : World) (B : Nat) (t : It) (hi : Ints w B t.A t.n t.xs) (hB : B ≤ w.heap.size) (q : Bool) (hb : q = true ↔ IsP t.dat) :
    Calls Try.prog 40 #[t.val] w fun e w' => e = .returned (.bool q) ∧ Below w.heap.size w w' := by
  by_cases h3 : t.n = 3
  · obtain ⟨a, b, c, habc⟩ := three_of (hi.1.trans h3)
    obtain ⟨id, A, n, cc, xs⟩ := t
    simp only [It.dat] at hi h3 habc hb
    subst habc h3
    have HI := Lib.hid hi
    have HBo : Hid (q = true ↔ (0 ≤ id ∧ id ≤ 99) ∧ (a = clampI a ∧ b = clampI b ∧ c = clampI c)) := by show _ ↔ _; rw [hb, isP_three]
    clear hi hb
    obtain ⟨qi, hqi⟩ := bool_of (0 ≤ id ∧ id ≤ 99)
    have HQ := Lib.hid hqi
    clear hqi
    unfold It.val
    go_enter Try.func40, Try.ntmps40
    go_wp2_with fail
    refine (record_yes _ B ⟨id, A, 3, cc, [a, b, c]⟩ (HI.out.below ((Below.refl B w).alloc hB _)) (by simp; omega) a b c rfl).mono ?_
    rintro e w1 ⟨rfl, hb1⟩
    have HB1 := Lib.hid (((Below.refl w.heap.size w).alloc (Nat.le_refl _) (.cells #[.int .i64 id, .slice A 3 cc] 36)).trans (hb1.mono (by simp)))
    clear hb1
    unfold recV
    go_wp2
    generalize hW : World.alloc w1 _ = wg
    obtain ⟨g, hgw⟩ : ∃ g, g = w1.heap.size := ⟨_, rfl⟩
    rw [← hgw]
    have HBg : Hid (Below w.heap.size w wg) := Lib.hid (by subst hW; exact HB1.out.alloc HB1.out.size _)
    have hrow : wg.heap[g]? = some (.cells #[.int .i64 id, .int .i64 a, .int .i64 b, .int .i64 c] 97 (0, 0)) := by subst hW hgw; exact heap_alloc_new w1 _
    have hg : g < wg.heap.size := lt_of_block hrow
    have f0 : wg.cell? ⟨g, 0, none⟩ = some (.int .i64 id) := cell_of_row wg _ 0 _ _ (0, 0) hrow
    have f1 : wg.cell? ⟨g, 1, none⟩ = some (.int .i64 a) := cell_of_row wg _ 1 _ _ (0, 0) hrow
    have f2 : wg.cell? ⟨g, 2, none⟩ = some (.int .i64 b) := cell_of_row wg _ 2 _ _ (0, 0) hrow
    have f3 : wg.cell? ⟨g, 3, none⟩ = some (.int .i64 c) := cell_of_row wg _ 3 _ _ (0, 0) hrow
    clear hW hgw hrow
    cases qi
    · obtain rfl : q = false := by
        cases q
        · rfl
        · have := HQ.out.2 (HBo.out.1 rfl).1; cases this
      have hs0 : Below wg.heap.size wg wg.drew ∧ wg.drew.cell? ⟨g, 0, none⟩ = some (.int .i64 id) ∧ wg.drew.cell? ⟨g, 1, none⟩ = some (.int .i64 a) ∧ wg.drew.cell? ⟨g, 2, none⟩ = some (.int .i64 b) ∧ wg.drew.cell? ⟨g, 3, none⟩ = some (.int .i64 c) := ⟨(Below.refl _ _).drew, f0, f1, f2, f3⟩
      refine wp_region_held (S := fun w' => Below wg.heap.size wg w' ∧ w'.cell? ⟨g, 0, none⟩ = some (.int .i64 id) ∧ w'.cell? ⟨g, 1, none⟩ = some (.int .i64 a) ∧ w'.cell? ⟨g, 2, none⟩ = some (.int .i64 b) ∧ w'.cell? ⟨g, 3, none⟩ = some (.int .i64 c)) (by kernel_rfl) ?_
      change wpAnyH _ _ _ _ _ _ _ _ (World.drew _)
      refine takeY 10 (i := 0) (v := ?v0a) rfl rfl (by kernel_rfl) (by kernel_rfl) (by kernel_rfl) (fun _ _ _ h => h) (by kernel_rfl) ?y0a hs0 ?_
      case y0a =>
        intro w' hw'; (try dsimp only at hw'); obtain ⟨e0, e1, e2, e3, e4⟩ := hw'; go_simp; try with_reducible rfl
      simp only [Act.put, List.setIfInBounds_toArray, List.set_cons_zero, List.set_cons_succ]
      refine takeY 11 (i := 1) (v := ?v1a) rfl rfl (by kernel_rfl) (by kernel_rfl) (by kernel_rfl) (fun _ _ _ h => h) (by kernel_rfl) ?y1a hs0 ?_
      case y1a =>
        intro w' hw'; (try dsimp only at hw'); obtain ⟨e0, e1, e2, e3, e4⟩ := hw'; go_simp; try with_reducible rfl
      simp only [Act.put, List.setIfInBounds_toArray, List.set_cons_zero, List.set_cons_succ]
      refine takeY 12 (i := 2) (v := ?v2a) rfl rfl (by kernel_rfl) (by kernel_rfl) (by kernel_rfl) (fun _ _ _ h => h) (by kernel_rfl) ?y2a hs0 ?_
      case y2a =>
        intro w' hw'; (try dsimp only at hw'); obtain ⟨e0, e1, e2, e3, e4⟩ := hw'; go_simp; try with_reducible rfl
      simp only [Act.put, List.setIfInBounds_toArray, List.set_cons_zero, List.set_cons_succ]
      refine takeY 13 (i := 3) (v := ?v3a) rfl rfl (by kernel_rfl) (by kernel_rfl) (by kernel_rfl) (fun _ _ _ h => h) (by kernel_rfl) ?y3a hs0 ?_
      case y3a =>
        intro w' hw'; (try dsimp only at hw'); obtain ⟨e0, e1, e2, e3, e4⟩ := hw'; go_simp; try with_reducible rfl
      simp only [Act.put, List.setIfInBounds_toArray, List.set_cons_zero, List.set_cons_succ]
      refine wpAnyH_ready (rs := [4]) (by kernel_rfl) (by simp) ?_
      refine AllReadyH.cons rfl (fun K hK => ?_) AllReadyH.nil
      go_simp; go_at_call 59; refine (id_of id false HQ.out _).mono ?_; rintro e w3 ⟨rfl, rfl⟩
      refine hK.out _ _ hs0 (fun hS1 => ?_)
      clear hK K
      try simp only [Act.put, List.setIfInBounds_toArray, List.set_cons_zero, List.set_cons_succ]
      refine takeY 15 (i := 5) (v := ?v5a) rfl rfl (by kernel_rfl) (by kernel_rfl) (by kernel_rfl) (fun _ _ _ h => h) (by kernel_rfl) ?y5a hS1 ?_
      case y5a =>
        intro w' hw'; (try dsimp only at hw'); obtain ⟨e0, e1, e2, e3, e4⟩ := hw'; go_simp; try with_reducible rfl
      simp only [Act.put, List.setIfInBounds_toArray, List.set_cons_zero, List.set_cons_succ]
      refine takeY 16 (i := 6) (v := ?v6a) rfl rfl (by kernel_rfl) (by kernel_rfl) (by kernel_rfl) (fun _ _ _ h => h) (by kernel_rfl) ?y6a hS1 ?_
      case y6a =>
        intro w' hw'; (try dsimp only at hw'); obtain ⟨e0, e1, e2, e3, e4⟩ := hw'; go_simp; try with_reducible rfl
      simp only [Act.put, List.setIfInBounds_toArray, List.set_cons_zero, List.set_cons_succ]
      refine takeU 17 (i := 7) rfl rfl (by kernel_rfl) (by kernel_rfl) (by kernel_rfl) (fun _ _ _ h => h) (by kernel_rfl) hS1 ?_
      simp only [Act.put, List.setIfInBounds_toArray, List.set_cons_zero, List.set_cons_succ]
      refine takeU 18 (i := 8) rfl rfl (by kernel_rfl) (by kernel_rfl) (by kernel_rfl) (fun _ _ _ h => h) (by kernel_rfl) hS1 ?_
      simp only [Act.put, List.setIfInBounds_toArray, List.set_cons_zero, List.set_cons_succ]
      refine takeU 19 (i := 9) rfl rfl (by kernel_rfl) (by kernel_rfl) (by kernel_rfl) (fun _ _ _ h => h) (by kernel_rfl) hS1 ?_
      simp only [Act.put, List.setIfInBounds_toArray, List.set_cons_zero, List.set_cons_succ]
      refine takeU 20 (i := 10) rfl rfl (by kernel_rfl) (by kernel_rfl) (by kernel_rfl) (fun _ _ _ h => h) (by kernel_rfl) hS1 ?_
      simp only [Act.put, List.setIfInBounds_toArray, List.set_cons_zero, List.set_cons_succ]
      refine takeU 21 (i := 11) rfl rfl (by kernel_rfl) (by kernel_rfl) (by kernel_rfl) (fun _ _ _ h => h) (by kernel_rfl) hS1 ?_
      simp only [Act.put, List.setIfInBounds_toArray, List.set_cons_zero, List.set_cons_succ]
      refine takeU 22 (i := 12) rfl rfl (by kernel_rfl) (by kernel_rfl) (by kernel_rfl) (fun _ _ _ h => h) (by kernel_rfl) hS1 ?_
      simp only [Act.put, List.setIfInBounds_toArray, List.set_cons_zero, List.set_cons_succ]
      refine takeY 23 (i := 13) (v := ?v13a) rfl rfl (by kernel_rfl) (by kernel_rfl) (by kernel_rfl) (fun _ _ _ h => h) (by kernel_rfl) ?y13a hS1 ?_
      case y13a =>
        intro w' hw'; (try dsimp only at hw'); obtain ⟨e0, e1, e2, e3, e4⟩ := hw'; go_simp; try with_reducible rfl
      simp only [Act.put, List.setIfInBounds_toArray, List.set_cons_zero, List.set_cons_succ]
      refine takeY 2 (i := 14) (v := ?v14a) rfl rfl (by kernel_rfl) (by kernel_rfl) (by kernel_rfl) (fun _ _ _ h => h) (by kernel_rfl) ?y14a hS1 ?_
      case y14a =>
        intro w' hw'; (try dsimp only at hw'); obtain ⟨e0, e1, e2, e3, e4⟩ := hw'; go_simp; try with_reducible rfl
      simp only [Act.put, List.setIfInBounds_toArray, List.set_cons_zero, List.set_cons_succ]
      refine wpAnyH_done (by kernel_rfl) ?_ _
      go_wp2
      go_ret
      exact ⟨rfl, HBg.out.drew⟩
    · have HD := Lib.hid (HQ.out.1 rfl)
      have harr := fun w => arr_eq w a b c (clampI a) (clampI b) (clampI c)
      have HE : Hid ((a == clampI a && (b == clampI b && c == clampI c)) = q) := by
        show _ = _
        rw [Bool.eq_iff_iff, HBo.out]
        simp only [Bool.and_eq_true, beq_iff_eq]
        exact ⟨fun h => ⟨HD.out, h⟩, fun h => h.2⟩
      generalize (a == clampI a && (b == clampI b && c == clampI c)) = q3 at harr HE
      have hs0 : Below wg.heap.size wg wg.drew ∧ wg.drew.cell? ⟨g, 0, none⟩ = some (.int .i64 id) ∧ wg.drew.cell? ⟨g, 1, none⟩ = some (.int .i64 a) ∧ wg.drew.cell? ⟨g, 2, none⟩ = some (.int .i64 b) ∧ wg.drew.cell? ⟨g, 3, none⟩ = some (.int .i64 c) := ⟨(Below.refl _ _).drew, f0, f1, f2, f3⟩
      refine wp_region_held (S := fun w' => Below wg.heap.size wg w' ∧ w'.cell? ⟨g, 0, none⟩ = some (.int .i64 id) ∧ w'.cell? ⟨g, 1, none⟩ = some (.int .i64 a) ∧ w'.cell? ⟨g, 2, none⟩ = some (.int .i64 b) ∧ w'.cell? ⟨g, 3, none⟩ = some (.int .i64 c)) (by kernel_rfl) ?_
      change wpAnyH _ _ _ _ _ _ _ _ (World.drew _)
      refine takeY 10 (i := 0) (v := ?v0b) rfl rfl (by kernel_rfl) (by kernel_rfl) (by kernel_rfl) (fun _ _ _ h => h) (by kernel_rfl) ?y0b hs0 ?_
      case y0b =>
        intro w' hw'; (try dsimp only at hw'); obtain ⟨e0, e1, e2, e3, e4⟩ := hw'; go_simp; try with_reducible rfl
      simp only [Act.put, List.setIfInBounds_toArray, List.set_cons_zero, List.set_cons_succ]
      refine takeY 11 (i := 1) (v := ?v1b) rfl rfl (by kernel_rfl) (by kernel_rfl) (by kernel_rfl) (fun _ _ _ h => h) (by kernel_rfl) ?y1b hs0 ?_
      case y1b =>
        intro w' hw'; (try dsimp only at hw'); obtain ⟨e0, e1, e2, e3, e4⟩ := hw'; go_simp; try with_reducible rfl
      simp only [Act.put, List.setIfInBounds_toArray, List.set_cons_zero, List.set_cons_succ]
      refine takeY 12 (i := 2) (v := ?v2b) rfl rfl (by kernel_rfl) (by kernel_rfl) (by kernel_rfl) (fun _ _ _ h => h) (by kernel_rfl) ?y2b hs0 ?_
      case y2b =>
        intro w' hw'; (try dsimp only at hw'); obtain ⟨e0, e1, e2, e3, e4⟩ := hw'; go_simp; try with_reducible rfl
      simp only [Act.put, List.setIfInBounds_toArray, List.set_cons_zero, List.set_cons_succ]
      refine takeY 13 (i := 3) (v := ?v3b) rfl rfl (by kernel_rfl) (by kernel_rfl) (by kernel_rfl) (fun _ _ _ h => h) (by kernel_rfl) ?y3b hs0 ?_
      case y3b =>
        intro w' hw'; (try dsimp only at hw'); obtain ⟨e0, e1, e2, e3, e4⟩ := hw'; go_simp; try with_reducible rfl
      simp only [Act.put, List.setIfInBounds_toArray, List.set_cons_zero, List.set_cons_succ]
      refine wpAnyH_ready (rs := [4]) (by kernel_rfl) (by simp) ?_
      refine AllReadyH.cons rfl (fun K hK => ?_) AllReadyH.nil
      go_simp; go_at_call 59; refine (id_of id true ⟨fun _ => HD.out, fun _ => rfl⟩ _).mono ?_; rintro e w3 ⟨rfl, rfl⟩
      refine hK.out _ _ hs0 (fun hS1 => ?_)
      clear hK K
      try simp only [Act.put, List.setIfInBounds_toArray, List.set_cons_zero, List.set_cons_succ]
      refine takeY 15 (i := 5) (v := ?v5b) rfl rfl (by kernel_rfl) (by kernel_rfl) (by kernel_rfl) (fun _ _ _ h => h) (by kernel_rfl) ?y5b hS1 ?_
      case y5b =>
        intro w' hw'; (try dsimp only at hw'); obtain ⟨e0, e1, e2, e3, e4⟩ := hw'; go_simp; try with_reducible rfl
      simp only [Act.put, List.setIfInBounds_toArray, List.set_cons_zero, List.set_cons_succ]
      refine takeY 16 (i := 6) (v := ?v6b) rfl rfl (by kernel_rfl) (by kernel_rfl) (by kernel_rfl) (fun _ _ _ h => h) (by kernel_rfl) ?y6b hS1 ?_
      case y6b =>
        intro w' hw'; (try dsimp only at hw'); obtain ⟨e0, e1, e2, e3, e4⟩ := hw'; go_simp; try with_reducible rfl
      simp only [Act.put, List.setIfInBounds_toArray, List.set_cons_zero, List.set_cons_succ]
      refine takeY 17 (i := 7) (v := ?v7b) rfl rfl (by kernel_rfl) (by kernel_rfl) (by kernel_rfl) (fun _ _ _ h => h) (by kernel_rfl) ?y7b hS1 ?_
      case y7b =>
        intro w' hw'; (try dsimp only at hw'); obtain ⟨e0, e1, e2, e3, e4⟩ := hw'; go_simp; try with_reducible rfl
      simp only [Act.put, List.setIfInBounds_toArray, List.set_cons_zero, List.set_cons_succ]
      refine takeY 18 (i := 8) (v := ?v8b) rfl rfl (by kernel_rfl) (by kernel_rfl) (by kernel_rfl) (fun _ _ _ h => h) (by kernel_rfl) ?y8b hS1 ?_
      case y8b =>
        intro w' hw'; (try dsimp only at hw'); obtain ⟨e0, e1, e2, e3, e4⟩ := hw'; go_simp; try with_reducible rfl
      simp only [Act.put, List.setIfInBounds_toArray, List.set_cons_zero, List.set_cons_succ]
      refine takeY 19 (i := 9) (v := ?v9b) rfl rfl (by kernel_rfl) (by kernel_rfl) (by kernel_rfl) (fun _ _ _ h => h) (by kernel_rfl) ?y9b hS1 ?_
      case y9b =>
        intro w' hw'; (try dsimp only at hw'); obtain ⟨e0, e1, e2, e3, e4⟩ := hw'; go_simp; try with_reducible rfl
      simp only [Act.put, List.setIfInBounds_toArray, List.set_cons_zero, List.set_cons_succ]
      refine takeY 20 (i := 10) (v := ?v10b) rfl rfl (by kernel_rfl) (by kernel_rfl) (by kernel_rfl) (fun _ _ _ h => h) (by kernel_rfl) ?y10b hS1 ?_
      case y10b =>
        intro w' hw'; (try dsimp only at hw'); obtain ⟨e0, e1, e2, e3, e4⟩ := hw'; go_simp; try with_reducible rfl
      simp only [Act.put, List.setIfInBounds_toArray, List.set_cons_zero, List.set_cons_succ]
      refine wpAnyH_ready (rs := [11]) (by kernel_rfl) (by simp) ?_
      refine AllReadyH.cons rfl (fun K hK => ?_) AllReadyH.nil
      go_simp; go_at_call 60; refine (clamped _ a b c).mono ?_; rintro e w3 ⟨rfl, hb3⟩; replace hb3 := (Below.refl wg.heap.size wg).drew.trans (hb3.mono (Nat.le_refl _))
      refine hK.out _ _ ⟨hb3, (hb3.cell (p := ⟨g, 0, none⟩) hg).trans f0, (hb3.cell (p := ⟨g, 1, none⟩) hg).trans f1, (hb3.cell (p := ⟨g, 2, none⟩) hg).trans f2, (hb3.cell (p := ⟨g, 3, none⟩) hg).trans f3⟩ (fun hS2 => ?_)
      clear hK K
      try simp only [Act.put, List.setIfInBounds_toArray, List.set_cons_zero, List.set_cons_succ]
      refine takeY 22 (i := 12) (v := ?v12b) rfl rfl (by kernel_rfl) (by kernel_rfl) (by kernel_rfl) (fun _ _ _ h => h) (by kernel_rfl) ?y12b hS2 ?_
      case y12b =>
        intro w' hw'; (try dsimp only at hw'); obtain ⟨e0, e1, e2, e3, e4⟩ := hw'; go_simp; try with_reducible rfl
      simp only [Act.put, List.setIfInBounds_toArray, List.set_cons_zero, List.set_cons_succ]
      refine takeY 23 (i := 13) (v := ?v13b) rfl rfl (by kernel_rfl) (by kernel_rfl) (by kernel_rfl) (fun _ _ _ h => h) (by kernel_rfl) ?y13b hS2 ?_
      case y13b =>
        intro w' hw'; (try dsimp only at hw'); obtain ⟨e0, e1, e2, e3, e4⟩ := hw'; go_simp; try with_reducible rfl
      simp only [Act.put, List.setIfInBounds_toArray, List.set_cons_zero, List.set_cons_succ]
      refine takeY 2 (i := 14) (v := ?v14b) rfl rfl (by kernel_rfl) (by kernel_rfl) (by kernel_rfl) (fun _ _ _ h => h) (by kernel_rfl) ?y14b hS2 ?_
      case y14b =>
        intro w' hw'; (try dsimp only at hw'); obtain ⟨e0, e1, e2, e3, e4⟩ := hw'; go_simp; try with_reducible rfl
      simp only [Act.put, List.setIfInBounds_toArray, List.set_cons_zero, List.set_cons_succ]
      refine wpAnyH_done (by kernel_rfl) ?_ _
      go_wp2
      go_ret
      exact ⟨by rw [HE.out]; rfl, HBg.out.trans (hb3.mono HBg.out.size)⟩
  · obtain rfl : q = false := by
      cases q
      · rfl
      · exact absurd (by rw [← hi.1]; exact (hb.1 rfl).2.2) h3
    obtain ⟨id, A, n, cc, xs⟩ := t
    clear hi hb
    unfold It.val
    simp only [] at h3
    have H3 := Lib.hid h3
    clear h3
    go_enter Try.func40, Try.ntmps40
    go_wp2_with fail
    refine (record_no _ ⟨id, A, n, cc, xs⟩ H3.out).mono ?_
    rintro e w1 ⟨rfl, hb1⟩
    have HB1 := Lib.hid (((Below.refl w.heap.size w).alloc (Nat.le_refl _) (.cells #[.int .i64 id, .slice A n cc] 36)).trans (hb1.mono (by simp)))
    clear hb1
    unfold recV
    go_wp2
    go_quiet (fail)
    go_wp2
    go_ret
    exact ⟨rfl, below_drewN (HB1.out.alloc HB1.out.size _) _⟩
end Go.Proofs.Ytalgfiefadfmnaa.num
namespace Go.Proofs.Ytalgfiefadfmnaa.num
open Go.RowKit Go.Maps
set_option linter.unusedVariables false
set_option linter.unusedSimpArgs false

theorem results_row_tmp2 {P : Program} {fn : Func} {p u v : Tmp} {ty : TypeId} (h : fn.results = #[.cell p ty, .tmp u, .tmp v]) (tmps : Array Value) (w : World) (g : Nat) (t : TypeId) (cs : Array Value) (fr : Nat × Nat) (d : TypeDesc)
    (hp : tmps.getD p undef = .pointer (some ⟨g, 0, none⟩)) (hg : w.heap[g]? = some (.cells cs t fr))
    (hu : P.underlying ty = some d) (hd : (match d with | .struct _ | .array _ _ => true | _ => false) = true) (hi : (P.info? ty).map (·.size) = some cs.size) :
    (results fn tmps).run P w = .ok (.tuple #[.agg cs, tmps.getD u undef, tmps.getD v undef]) w := by
  have hp' : tmps[p]?.getD undef = .pointer (some ⟨g, 0, none⟩) := by simpa using hp
  simp only [results, h]
  simp [Sem.run_bind, hp', asAddr, Result.andThen, run_loadVar_row w g t ty cs fr d hg hu hd hi]
theorem results_rows3 {P : Program} {fn : Func} {p1 p2 p3 : Tmp} {ty1 ty2 ty3 : TypeId} (h : fn.results = #[.cell p1 ty1, .cell p2 ty2, .cell p3 ty3]) (tmps : Array Value) (w : World)
    (g1 g2 g3 : Nat) (t1 t2 t3 : TypeId) (c1 c2 c3 : Array Value) (f1 f2 f3 : Nat × Nat) (d1 d2 d3 : TypeDesc)
    (hp1 : tmps.getD p1 undef = .pointer (some ⟨g1, 0, none⟩)) (hp2 : tmps.getD p2 undef = .pointer (some ⟨g2, 0, none⟩)) (hp3 : tmps.getD p3 undef = .pointer (some ⟨g3, 0, none⟩))
    (hg1 : w.heap[g1]? = some (.cells c1 t1 f1)) (hg2 : w.heap[g2]? = some (.cells c2 t2 f2)) (hg3 : w.heap[g3]? = some (.cells c3 t3 f3))
    (hu1 : P.underlying ty1 = some d1) (hd1 : (match d1 with | .struct _ | .array _ _ => true | _ => false) = true) (hi1 : (P.info? ty1).map (·.size) = some c1.size)
    (hu2 : P.underlying ty2 = some d2) (hd2 : (match d2 with | .struct _ | .array _ _ => true | _ => false) = true) (hi2 : (P.info? ty2).map (·.size) = some c2.size)
    (hu3 : P.underlying ty3 = some d3) (hd3 : (match d3 with | .struct _ | .array _ _ => true | _ => false) = true) (hi3 : (P.info? ty3).map (·.size) = some c3.size) :
    (results fn tmps).run P w = .ok (.tuple #[.agg c1, .agg c2, .agg c3]) w := by
  have hp1' : tmps[p1]?.getD undef = .pointer (some ⟨g1, 0, none⟩) := by simpa using hp1
  have hp2' : tmps[p2]?.getD undef = .pointer (some ⟨g2, 0, none⟩) := by simpa using hp2
  have hp3' : tmps[p3]?.getD undef = .pointer (some ⟨g3, 0, none⟩) := by simpa using hp3
  simp only [results, h]
  simp [Sem.run_bind, hp1', hp2', hp3', asAddr, Result.andThen, run_loadVar_row w g1 t1 ty1 c1 f1 d1 hg1 hu1 hd1 hi1, run_loadVar_row w g2 t2 ty2 c2 f2 d2 hg2 hu2 hd2 hi2, run_loadVar_row w g3 t3 ty3 c3 f3 d3 hg3 hu3 hd3 hi3]

/-- What a draw of a wish hands out: a short wish of its own, behind all that lay before. -/
def DrawnW (w w' : World) (t : Wi) : Prop := WiOwn w' w.heap.size t ∧ Below w.heap.size w w'
theorem row_next {w : World} {a : Option Addr} {len : Nat} (h : Row w w.heap.size a len) (ob : Obj) : Row (w.alloc ob) (w.heap.size + 1) a len := by
  have h := (h.below ((Below.refl _ w).alloc (Nat.le_refl _) ob)).wide
  rw [World.size_alloc] at h
  exact h
/-- Where a draw stands: the result's block X still zero, the wish in block Y. -/
structure DrSt (w : World) (g : Nat) (a : Option Addr) (len cap : Nat) (Y : Nat) (t : Wi) (wr : World) : Prop where
  x : wr.heap[w.heap.size]? = some (.cells #[.int .i64 0, .int .i64 0, .int .i64 0, .slice none 0 0, .slice none 0 0] 27 (0, 0))
  y : wr.heap[Y]? = some (.cells #[.int .i64 t.kind, .int .i64 t.field, .int .i64 t.value, .slice t.LA t.Ln t.Lc, .slice t.PA t.Pn t.Pc] 27 (0, 0))
  o : WiOwn wr (g + 1) t
  c : Cur wr g a len cap
  b : Below w.heap.size w wr
theorem DrSt.kept {w wr w' : World} {g : Nat} {a : Option Addr} {len cap Y : Nat} {t : Wi} (h : DrSt w g a len cap Y t wr) (hg1 : w.heap.size + 1 ≤ g) (hY : g < Y) (hg : wr.grownBy w' (some g)) (hc : Cur w' g a len cap) : DrSt w g a len cap Y t w' :=
  ⟨row_kept hg h.x (by omega), row_kept hg h.y (by omega), h.o.blocks fun k hk hk2 => hg.block k hk2 fun e => by have := Option.some.inj e; omega, hc, h.b.trans (grown_below hg (by omega) h.b.size)⟩
theorem DrSt.drew {w wr : World} {g : Nat} {a : Option Addr} {len cap Y : Nat} {t : Wi} (h : DrSt w g a len cap Y t wr) (hg1 : w.heap.size + 1 ≤ g) : DrSt w g a len cap Y t wr.drew :=
  ⟨h.x, h.y, h.o.blocks fun _ _ _ => rfl, h.c, h.b.trans (grown_below (g := g) (grown_drew (grown_refl wr (some g))) (by omega) h.b.size)⟩

set_option maxRecDepth 20000 in
set_option maxHeartbeats 6400000 in
theorem draw_rank (w : World) (a : Option Addr) (len cap : Nat) (hlen : len ≤ 1048576) (hrow : Row w w.heap.size a len) :
    Calls Try.prog 18 #[.slice a len cap] w fun e w' => ∃ t : Wi, ∃ x : Int, e = .returned (.tuple #[t.val, .int .i64 x]) ∧ DrawnW w w' t ∧ -1 ≤ x ∧ x < 11 := by
  have HR := Lib.hid hrow
  have HR1 := Lib.hid (row_next hrow (.cells #[.int .i64 0, .int .i64 0, .int .i64 0, .slice none 0 0, .slice none 0 0] 27))
  clear hrow
  go_enter Try.func18, Try.ntmps18
  go_wp2_with fail
  refine (new_any _ a len cap hlen (w.heap.size + 1) HR1.out).mono ?_
  rintro e w1 ⟨g, rfl, hg, hc1, hb1⟩
  rw [World.size_alloc] at hg hb1
  have HC1 := Lib.hid hc1
  have HX1 := Lib.hid (row_below hb1 (heap_alloc_new w (.cells #[.int .i64 0, .int .i64 0, .int .i64 0, .slice none 0 0, .slice none 0 0] 27)) (by omega))
  have HB1 : Hid (Below w.heap.size w w1) := Lib.hid (((Below.refl w.heap.size w).alloc (Nat.le_refl _) _).trans (hb1.mono (by omega)))
  have hgl := Lib.hid hc1.lt
  clear hc1 hb1 HR1
  go_wp2_with fail
  refine (any_wish _ g a len cap hlen HC1.out w.heap.size (by omega) (HR.out.below HB1.out)).mono ?_
  rintro e w2 ⟨t, rfl, ho, hn5, hc2, hg2⟩
  have hgY : g < w2.heap.size := hc2.lt
  have HS2 : Hid (DrSt w g a len cap w2.heap.size t (w2.alloc (.cells #[.int .i64 t.kind, .int .i64 t.field, .int .i64 t.value, .slice t.LA t.Ln t.Lc, .slice t.PA t.Pn t.Pc] 27))) := Lib.hid (by
    have ho' : WiOwn w2 (g + 1) t := ho.low hgl.out
    have hb2 : Below w.heap.size w w2 := HB1.out.trans (grown_below hg2 (by omega) HB1.out.size)
    exact ⟨(Below.heap_alloc _ _ _ (by omega)).trans (row_kept hg2 HX1.out (by omega)), heap_alloc_new w2 _, ho'.blocks fun b _ hb => Below.heap_alloc _ _ _ hb, hc2.kept (Below.heap_alloc _ _ _ hc2.lt), hb2.alloc (by omega) _⟩)
  clear ho hc2 hg2 HC1 HX1 HB1
  unfold Wi.val
  have HS3 := Lib.hid (HS2.out.drew hg)
  have y0 : (w2.alloc (.cells #[.int .i64 t.kind, .int .i64 t.field, .int .i64 t.value, .slice t.LA t.Ln t.Lc, .slice t.PA t.Pn t.Pc] 27)).cell? ⟨w2.heap.size, 0, none⟩ = some (.int .i64 t.kind) := cell_of_row _ _ 0 _ _ (0, 0) HS2.out.y
  go_wp2
  go_region_law (go_simp; go_at_call 31; refine (below_any 12 (by omega) _ g a len cap hlen HS3.out.c w.heap.size (by omega) (HR.out.below HS3.out.b)).mono ?_; rintro e wn ⟨u, rfl, hu, hcn, hgn⟩; obtain ⟨hu0, hu1⟩ := hu.2 (by omega); have HSn := Lib.hid (HS3.out.kept (by omega) hgY hgn hcn); have x0 : wn.cell? ⟨w.heap.size, 0, none⟩ = some (.int .i64 0) := cell_of_row wn _ 0 _ _ (0, 0) HSn.out.x; have x1 : wn.cell? ⟨w.heap.size, 1, none⟩ = some (.int .i64 0) := cell_of_row wn _ 1 _ _ (0, 0) HSn.out.x; have x2 : wn.cell? ⟨w.heap.size, 2, none⟩ = some (.int .i64 0) := cell_of_row wn _ 2 _ _ (0, 0) HSn.out.x; have x3 : wn.cell? ⟨w.heap.size, 3, none⟩ = some (.slice none 0 0) := cell_of_row wn _ 3 _ _ (0, 0) HSn.out.x; have x4 : wn.cell? ⟨w.heap.size, 4, none⟩ = some (.slice none 0 0) := cell_of_row wn _ 4 _ _ (0, 0) HSn.out.x; have z0 : wn.frozen? ⟨w.heap.size, 0, none⟩ = false := frozen_of_row wn _ 0 _ _ HSn.out.x; have z1 : wn.frozen? ⟨w.heap.size, 1, none⟩ = false := frozen_of_row wn _ 1 _ _ HSn.out.x; have z2 : wn.frozen? ⟨w.heap.size, 2, none⟩ = false := frozen_of_row wn _ 2 _ _ HSn.out.x; have z3 : wn.frozen? ⟨w.heap.size, 3, none⟩ = false := frozen_of_row wn _ 3 _ _ HSn.out.x; have z4 : wn.frozen? ⟨w.heap.size, 4, none⟩ = false := frozen_of_row wn _ 4 _ _ HSn.out.x; have y0 : wn.cell? ⟨w2.heap.size, 0, none⟩ = some (.int .i64 t.kind) := cell_of_row wn _ 0 _ _ (0, 0) HSn.out.y; have y1 : wn.cell? ⟨w2.heap.size, 1, none⟩ = some (.int .i64 t.field) := cell_of_row wn _ 1 _ _ (0, 0) HSn.out.y; have y2 : wn.cell? ⟨w2.heap.size, 2, none⟩ = some (.int .i64 t.value) := cell_of_row wn _ 2 _ _ (0, 0) HSn.out.y; have y3 : wn.cell? ⟨w2.heap.size, 3, none⟩ = some (.slice t.LA t.Ln t.Lc) := cell_of_row wn _ 3 _ _ (0, 0) HSn.out.y; have y4 : wn.cell? ⟨w2.heap.size, 4, none⟩ = some (.slice t.PA t.Pn t.Pc) := cell_of_row wn _ 4 _ _ (0, 0) HSn.out.y; clear hu hcn hgn)
  all_goals
    have hw : IntKind.i64.wrap (u - 1) = u - 1 := IntWalk.i64_in _ ⟨by omega, by omega⟩
    go_wp2
    refine bodyPost_ret_by (results_row_tmp rfl _ _ w.heap.size 27 _ (0, 0) _ rfl (five_set HSn.out.x) Try.underlying27 rfl (by kernel_rfl)) rfl ?_
    exact ⟨t, IntKind.i64.wrap (u - 1), rfl, ⟨(HSn.out.o.blocks fun k hk _ => set5_other _ _ _ _ _ _ _ _ (by omega)).low (by omega), HSn.out.b.trans (set5_below _ _ _ _ _ _ _ _ (Nat.le_refl _))⟩, by rw [hw]; omega, by rw [hw]; omega⟩
set_option maxRecDepth 20000 in
set_option maxHeartbeats 6400000 in
theorem draw_vals (w : World) (a : Option Addr) (len cap : Nat) (hlen : len ≤ 1048576) (hrow : Row w w.heap.size a len) :
    Calls Try.prog 10 #[.slice a len cap] w fun e w' => ∃ t : Wi, ∃ x y : Int, e = .returned (.tuple #[t.val, .int .i64 x, .int .i64 y]) ∧ DrawnW w w' t ∧ 0 ≤ x ∧ x < 11 ∧ -1 ≤ y ∧ y < 11 := by
  have HR := Lib.hid hrow
  have HR1 := Lib.hid (row_next hrow (.cells #[.int .i64 0, .int .i64 0, .int .i64 0, .slice none 0 0, .slice none 0 0] 27))
  clear hrow
  go_enter Try.func10, Try.ntmps10
  go_wp2_with fail
  refine (new_any _ a len cap hlen (w.heap.size + 1) HR1.out).mono ?_
  rintro e w1 ⟨g, rfl, hg, hc1, hb1⟩
  rw [World.size_alloc] at hg hb1
  have HC1 := Lib.hid hc1
  have HX1 := Lib.hid (row_below hb1 (heap_alloc_new w (.cells #[.int .i64 0, .int .i64 0, .int .i64 0, .slice none 0 0, .slice none 0 0] 27)) (by omega))
  have HB1 : Hid (Below w.heap.size w w1) := Lib.hid (((Below.refl w.heap.size w).alloc (Nat.le_refl _) _).trans (hb1.mono (by omega)))
  have hgl := Lib.hid hc1.lt
  clear hc1 hb1 HR1
  go_wp2_with fail
  refine (any_wish _ g a len cap hlen HC1.out w.heap.size (by omega) (HR.out.below HB1.out)).mono ?_
  rintro e w2 ⟨t, rfl, ho, hn5, hc2, hg2⟩
  have hgY : g < w2.heap.size := hc2.lt
  have HS2 : Hid (DrSt w g a len cap w2.heap.size t (w2.alloc (.cells #[.int .i64 t.kind, .int .i64 t.field, .int .i64 t.value, .slice t.LA t.Ln t.Lc, .slice t.PA t.Pn t.Pc] 27))) := Lib.hid (by
    have ho' : WiOwn w2 (g + 1) t := ho.low hgl.out
    have hb2 : Below w.heap.size w w2 := HB1.out.trans (grown_below hg2 (by omega) HB1.out.size)
    exact ⟨(Below.heap_alloc _ _ _ (by omega)).trans (row_kept hg2 HX1.out (by omega)), heap_alloc_new w2 _, ho'.blocks fun b _ hb => Below.heap_alloc _ _ _ hb, hc2.kept (Below.heap_alloc _ _ _ hc2.lt), hb2.alloc (by omega) _⟩)
  clear ho hc2 hg2 HC1 HX1 HB1
  unfold Wi.val
  go_wp2_with fail
  refine (below_any 11 (by omega) _ g a len cap hlen HS2.out.c w.heap.size (by omega) (HR.out.below HS2.out.b)).mono ?_
  rintro e w3 ⟨x, rfl, hx, hc3, hg3⟩
  obtain ⟨hx0, hx1⟩ := hx.2 (by omega)
  have HS' := Lib.hid (HS2.out.kept (by omega) hgY hg3 hc3)
  have HS3 := Lib.hid (HS'.out.drew hg)
  have y0 : w3.cell? ⟨w2.heap.size, 0, none⟩ = some (.int .i64 t.kind) := cell_of_row w3 _ 0 _ _ (0, 0) HS'.out.y
  have y1 : w3.cell? ⟨w2.heap.size, 1, none⟩ = some (.int .i64 t.field) := cell_of_row w3 _ 1 _ _ (0, 0) HS'.out.y
  have y2 : w3.cell? ⟨w2.heap.size, 2, none⟩ = some (.int .i64 t.value) := cell_of_row w3 _ 2 _ _ (0, 0) HS'.out.y
  have y3 : w3.cell? ⟨w2.heap.size, 3, none⟩ = some (.slice t.LA t.Ln t.Lc) := cell_of_row w3 _ 3 _ _ (0, 0) HS'.out.y
  have y4 : w3.cell? ⟨w2.heap.size, 4, none⟩ = some (.slice t.PA t.Pn t.Pc) := cell_of_row w3 _ 4 _ _ (0, 0) HS'.out.y
  clear hx hc3 hg3 HS2
  go_wp2
  go_region_law (go_simp; go_at_call 31; refine (below_any 12 (by omega) _ g a len cap hlen HS3.out.c w.heap.size (by omega) (HR.out.below HS3.out.b)).mono ?_; rintro e wn ⟨u, rfl, hu, hcn, hgn⟩; obtain ⟨hu0, hu1⟩ := hu.2 (by omega); have HSn := Lib.hid (HS3.out.kept (by omega) hgY hgn hcn); have x0 : wn.cell? ⟨w.heap.size, 0, none⟩ = some (.int .i64 0) := cell_of_row wn _ 0 _ _ (0, 0) HSn.out.x; have x1 : wn.cell? ⟨w.heap.size, 1, none⟩ = some (.int .i64 0) := cell_of_row wn _ 1 _ _ (0, 0) HSn.out.x; have x2 : wn.cell? ⟨w.heap.size, 2, none⟩ = some (.int .i64 0) := cell_of_row wn _ 2 _ _ (0, 0) HSn.out.x; have x3 : wn.cell? ⟨w.heap.size, 3, none⟩ = some (.slice none 0 0) := cell_of_row wn _ 3 _ _ (0, 0) HSn.out.x; have x4 : wn.cell? ⟨w.heap.size, 4, none⟩ = some (.slice none 0 0) := cell_of_row wn _ 4 _ _ (0, 0) HSn.out.x; have z0 : wn.frozen? ⟨w.heap.size, 0, none⟩ = false := frozen_of_row wn _ 0 _ _ HSn.out.x; have z1 : wn.frozen? ⟨w.heap.size, 1, none⟩ = false := frozen_of_row wn _ 1 _ _ HSn.out.x; have z2 : wn.frozen? ⟨w.heap.size, 2, none⟩ = false := frozen_of_row wn _ 2 _ _ HSn.out.x; have z3 : wn.frozen? ⟨w.heap.size, 3, none⟩ = false := frozen_of_row wn _ 3 _ _ HSn.out.x; have z4 : wn.frozen? ⟨w.heap.size, 4, none⟩ = false := frozen_of_row wn _ 4 _ _ HSn.out.x; have y0 : wn.cell? ⟨w2.heap.size, 0, none⟩ = some (.int .i64 t.kind) := cell_of_row wn _ 0 _ _ (0, 0) HSn.out.y; have y1 : wn.cell? ⟨w2.heap.size, 1, none⟩ = some (.int .i64 t.field) := cell_of_row wn _ 1 _ _ (0, 0) HSn.out.y; have y2 : wn.cell? ⟨w2.heap.size, 2, none⟩ = some (.int .i64 t.value) := cell_of_row wn _ 2 _ _ (0, 0) HSn.out.y; have y3 : wn.cell? ⟨w2.heap.size, 3, none⟩ = some (.slice t.LA t.Ln t.Lc) := cell_of_row wn _ 3 _ _ (0, 0) HSn.out.y; have y4 : wn.cell? ⟨w2.heap.size, 4, none⟩ = some (.slice t.PA t.Pn t.Pc) := cell_of_row wn _ 4 _ _ (0, 0) HSn.out.y; clear hu hcn hgn)
  all_goals
    have hw : IntKind.i64.wrap (u - 1) = u - 1 := IntWalk.i64_in _ ⟨by omega, by omega⟩
    go_wp2
    refine bodyPost_ret_by (results_row_tmp2 rfl _ _ w.heap.size 27 _ (0, 0) _ rfl (five_set HSn.out.x) Try.underlying27 rfl (by kernel_rfl)) rfl ?_
    exact ⟨t, x, IntKind.i64.wrap (u - 1), rfl, ⟨(HSn.out.o.blocks fun k hk _ => set5_other _ _ _ _ _ _ _ _ (by omega)).low (by omega), HSn.out.b.trans (set5_below _ _ _ _ _ _ _ _ (Nat.le_refl _))⟩, by omega, by omega, by rw [hw]; omega, by rw [hw]; omega⟩
/-- Where the draw of two items stands: three results still zero, the wish in block Y, the first item in block Z. -/
structure DrIt (w : World) (g : Nat) (a : Option Addr) (len cap : Nat) (Y Z : Nat) (t : Wi) (s : It) (wr : World) : Prop where
  x : wr.heap[w.heap.size]? = some (.cells #[.int .i64 0, .int .i64 0, .int .i64 0, .slice none 0 0, .slice none 0 0] 27 (0, 0))
  x1 : wr.heap[w.heap.size + 1]? = some (.cells #[.int .i64 0, .slice none 0 0] 36 (0, 0))
  x2 : wr.heap[w.heap.size + 2]? = some (.cells #[.int .i64 0, .slice none 0 0] 36 (0, 0))
  y : wr.heap[Y]? = some (.cells #[.int .i64 t.kind, .int .i64 t.field, .int .i64 t.value, .slice t.LA t.Ln t.Lc, .slice t.PA t.Pn t.Pc] 27 (0, 0))
  z : wr.heap[Z]? = some (.cells #[.int .i64 s.id, .slice s.A s.n s.c] 36 (0, 0))
  o : WiOwn wr (g + 1) t
  i : OwnI wr (g + 1) (.slice s.A s.n s.c) s.xs
  c : Cur wr g a len cap
  b : Below w.heap.size w wr
theorem DrIt.kept {w wr w' : World} {g : Nat} {a : Option Addr} {len cap Y Z : Nat} {t : Wi} {s : It} (h : DrIt w g a len cap Y Z t s wr) (hg1 : w.heap.size + 3 ≤ g) (hY : g < Y) (hZ : g < Z) (hg : wr.grownBy w' (some g)) (hc : Cur w' g a len cap) : DrIt w g a len cap Y Z t s w' :=
  ⟨row_kept hg h.x (by omega), row_kept hg h.x1 (by omega), row_kept hg h.x2 (by omega), row_kept hg h.y (by omega), row_kept hg h.z (by omega), h.o.blocks fun k hk hk2 => hg.block k hk2 fun e => by have := Option.some.inj e; omega, ownI_keptg h.i hg (by omega), hc, h.b.trans (grown_below hg (by omega) h.b.size)⟩
theorem DrIt.drew {w wr : World} {g : Nat} {a : Option Addr} {len cap Y Z : Nat} {t : Wi} {s : It} (h : DrIt w g a len cap Y Z t s wr) (hg1 : w.heap.size + 3 ≤ g) : DrIt w g a len cap Y Z t s wr.drew :=
  ⟨h.x, h.x1, h.x2, h.y, h.z, h.o.blocks fun _ _ _ => rfl, ownI_blocks h.i fun _ _ => rfl, h.c, h.b.trans (grown_below (g := g) (grown_drew (grown_refl wr (some g))) (by omega) h.b.size)⟩
/-- The three results stored. -/
def set9 (w : World) (X : Nat) (t : Wi) (s u : It) : World := set2 (set2 (set5 w X (.int .i64 t.kind) (.int .i64 t.field) (.int .i64 t.value) (.slice t.LA t.Ln t.Lc) (.slice t.PA t.Pn t.Pc)) (X + 1) (.int .i64 s.id) (.slice s.A s.n s.c)) (X + 2) (.int .i64 u.id) (.slice u.A u.n u.c)
theorem set9_other (w : World) (X b : Nat) (t : Wi) (s u : It) (h : X + 3 ≤ b) : (set9 w X t s u).heap[b]? = w.heap[b]? := by
  unfold set9
  rw [set2_other _ _ _ _ _ (by omega), set2_other _ _ _ _ _ (by omega), set5_other _ _ _ _ _ _ _ _ (by omega)]
theorem set9_below (w : World) (X B : Nat) (t : Wi) (s u : It) (h : B ≤ X) : Below B w (set9 w X t s u) := by
  unfold set9
  exact ((set5_below _ _ _ _ _ _ _ _ h).trans (set2_below _ _ _ _ _ (by omega))).trans (set2_below _ _ _ _ _ (by omega))
set_option maxRecDepth 20000 in
set_option maxHeartbeats 6400000 in
theorem draw_items (w : World) (a : Option Addr) (len cap : Nat) (hlen : len ≤ 1048576) (hrow : Row w w.heap.size a len) :
    Calls Try.prog 17 #[.slice a len cap] w fun e w' => ∃ t : Wi, ∃ s u : It, e = .returned (.tuple #[t.val, s.val, u.val]) ∧ DrawnW w w' t ∧ OwnI w' w.heap.size (.slice s.A s.n s.c) s.xs ∧ s.xs.length ≤ 4 ∧ OwnI w' w.heap.size (.slice u.A u.n u.c) u.xs ∧ u.xs.length ≤ 4 := by
  have HR := Lib.hid hrow
  have HR1 : Hid (Row (((w.alloc (.cells #[.int .i64 0, .int .i64 0, .int .i64 0, .slice none 0 0, .slice none 0 0] 27)).alloc (.cells #[.int .i64 0, .slice none 0 0] 36)).alloc (.cells #[.int .i64 0, .slice none 0 0] 36)) (w.heap.size + 3) a len) := Lib.hid (by
    have h := (hrow.below (below3 (Nat.le_refl _) (.cells #[.int .i64 0, .int .i64 0, .int .i64 0, .slice none 0 0, .slice none 0 0] 27) (.cells #[.int .i64 0, .slice none 0 0] 36) (.cells #[.int .i64 0, .slice none 0 0] 36))).wide
    simp only [World.size_alloc] at h
    exact h)
  clear hrow
  go_enter Try.func17, Try.ntmps17
  go_wp2_with fail
  refine (new_any _ a len cap hlen (w.heap.size + 3) HR1.out).mono ?_
  rintro e w1 ⟨g, rfl, hg, hc1, hb1⟩
  simp only [World.size_alloc] at hg hb1
  have HC1 := Lib.hid hc1
  have HX1 : Hid (w1.heap[w.heap.size]? = some (.cells #[.int .i64 0, .int .i64 0, .int .i64 0, .slice none 0 0, .slice none 0 0] 27 (0, 0)) ∧ w1.heap[w.heap.size + 1]? = some (.cells #[.int .i64 0, .slice none 0 0] 36 (0, 0)) ∧ w1.heap[w.heap.size + 2]? = some (.cells #[.int .i64 0, .slice none 0 0] 36 (0, 0))) := Lib.hid ⟨row_below hb1 ((Below.heap_alloc _ _ _ (by simp; omega)).trans ((Below.heap_alloc _ _ _ (by simp)).trans (heap_alloc_new w _))) (by omega), row_below hb1 ((Below.heap_alloc _ _ _ (by simp)).trans (heap_alloc2_new w _ _)) (by omega), row_below hb1 (by have h := heap_alloc_new ((w.alloc (.cells #[.int .i64 0, .int .i64 0, .int .i64 0, .slice none 0 0, .slice none 0 0] 27)).alloc (.cells #[.int .i64 0, .slice none 0 0] 36)) (.cells #[.int .i64 0, .slice none 0 0] 36); simp only [World.size_alloc] at h; exact h) (by omega)⟩
  have HB1 : Hid (Below w.heap.size w w1) := Lib.hid ((below3 (Nat.le_refl _) _ _ _).trans (hb1.mono (by omega)))
  have hgl := Lib.hid hc1.lt
  clear hc1 hb1 HR1
  go_wp2_with fail
  refine (any_wish _ g a len cap hlen HC1.out w.heap.size (by omega) (HR.out.below HB1.out)).mono ?_
  rintro e w2 ⟨t, rfl, ho, hn5, hc2, hg2⟩
  have hgY : g < w2.heap.size := hc2.lt
  have HO2 : Hid (WiOwn w2 (g + 1) t) := Lib.hid (ho.low hgl.out)
  have HB2 : Hid (Below w.heap.size w w2) := Lib.hid (HB1.out.trans (grown_below hg2 (by omega) HB1.out.size))
  have HX2 : Hid (w2.heap[w.heap.size]? = some (.cells #[.int .i64 0, .int .i64 0, .int .i64 0, .slice none 0 0, .slice none 0 0] 27 (0, 0)) ∧ w2.heap[w.heap.size + 1]? = some (.cells #[.int .i64 0, .slice none 0 0] 36 (0, 0)) ∧ w2.heap[w.heap.size + 2]? = some (.cells #[.int .i64 0, .slice none 0 0] 36 (0, 0))) := Lib.hid ⟨row_kept hg2 HX1.out.1 (by omega), row_kept hg2 HX1.out.2.1 (by omega), row_kept hg2 HX1.out.2.2 (by omega)⟩
  have HC2 := Lib.hid hc2
  clear ho hc2 hg2 HC1 HX1 HB1
  unfold Wi.val
  go_wp2_with fail
  refine (any_item _ g a len cap hlen (HC2.out.kept (Below.heap_alloc _ _ _ hgY)) w.heap.size (by omega) (HR.out.below (HB2.out.alloc (by omega) _))).mono ?_
  rintro e w3 ⟨s, rfl, hi, hi3, hi4, hc3, hg3⟩
  have hsz := hg3.size
  rw [World.size_alloc] at hsz
  have hgZ : g < w3.heap.size := hc3.lt
  have HS2 : Hid (DrIt w g a len cap w2.heap.size w3.heap.size t s (w3.alloc (.cells #[.int .i64 s.id, .slice s.A s.n s.c] 36))) := Lib.hid (by
    have ho' : WiOwn w3 (g + 1) t := (HO2.out.blocks fun b _ hb => Below.heap_alloc _ _ _ hb).blocks fun k hk hk2 => hg3.block k hk2 fun e => by have := Option.some.inj e; omega
    have hi' : OwnI w3 (g + 1) (.slice s.A s.n s.c) s.xs := ownI_lowD hi (by simp; omega)
    have hb3 : Below w.heap.size w w3 := (HB2.out.alloc (by omega) _).trans (grown_below hg3 (by omega) (by simp; omega))
    have up : ∀ {X : Nat} {o : Obj}, w2.heap[X]? = some o → X ≠ g → (w3.alloc (.cells #[.int .i64 s.id, .slice s.A s.n s.c] 36)).heap[X]? = some o := fun {X} {o} h hX => by
      have h1 : X < w2.heap.size := lt_of_block h
      exact (Below.heap_alloc _ _ _ (by omega)).trans (row_kept hg3 ((Below.heap_alloc _ _ _ h1).trans h) hX)
    exact ⟨up HX2.out.1 (by omega), up HX2.out.2.1 (by omega), up HX2.out.2.2 (by omega), (Below.heap_alloc _ _ _ (by omega)).trans (row_kept hg3 (heap_alloc_new w2 _) (by omega)), heap_alloc_new w3 _, ho'.blocks fun b _ hb => Below.heap_alloc _ _ _ hb, ownI_blocks hi' fun k hk => Below.heap_alloc _ _ _ (ownI_tops hi' k hk), hc3.kept (Below.heap_alloc _ _ _ hc3.lt), hb3.alloc (by omega) _⟩)
  clear hi hc3 hg3 HC2 HX2 HB2 HO2
  unfold It.val
  have HS3 := Lib.hid (HS2.out.drew hg)
  have y0 : (w3.alloc (.cells #[.int .i64 s.id, .slice s.A s.n s.c] 36)).cell? ⟨w2.heap.size, 0, none⟩ = some (.int .i64 t.kind) := cell_of_row (w3.alloc (.cells #[.int .i64 s.id, .slice s.A s.n s.c] 36)) _ 0 _ _ (0, 0) HS2.out.y
  have y1 : (w3.alloc (.cells #[.int .i64 s.id, .slice s.A s.n s.c] 36)).cell? ⟨w2.heap.size, 1, none⟩ = some (.int .i64 t.field) := cell_of_row (w3.alloc (.cells #[.int .i64 s.id, .slice s.A s.n s.c] 36)) _ 1 _ _ (0, 0) HS2.out.y
  have y2 : (w3.alloc (.cells #[.int .i64 s.id, .slice s.A s.n s.c] 36)).cell? ⟨w2.heap.size, 2, none⟩ = some (.int .i64 t.value) := cell_of_row (w3.alloc (.cells #[.int .i64 s.id, .slice s.A s.n s.c] 36)) _ 2 _ _ (0, 0) HS2.out.y
  have y3 : (w3.alloc (.cells #[.int .i64 s.id, .slice s.A s.n s.c] 36)).cell? ⟨w2.heap.size, 3, none⟩ = some (.slice t.LA t.Ln t.Lc) := cell_of_row (w3.alloc (.cells #[.int .i64 s.id, .slice s.A s.n s.c] 36)) _ 3 _ _ (0, 0) HS2.out.y
  have y4 : (w3.alloc (.cells #[.int .i64 s.id, .slice s.A s.n s.c] 36)).cell? ⟨w2.heap.size, 4, none⟩ = some (.slice t.PA t.Pn t.Pc) := cell_of_row (w3.alloc (.cells #[.int .i64 s.id, .slice s.A s.n s.c] 36)) _ 4 _ _ (0, 0) HS2.out.y
  go_wp2
  go_region_law (go_simp; go_at_call 38; refine (any_item _ g a len cap hlen HS3.out.c w.heap.size (by omega) (HR.out.below HS3.out.b)).mono ?_; rintro e wn ⟨u, rfl, hu, hu3, hu4, hcn, hgn⟩; have HSn := Lib.hid (HS3.out.kept (by omega) hgY hgZ hgn hcn); have HUn := Lib.hid (ownI_lowD (B' := g + 1) hu (by have := HS3.out.c.lt; omega)); have x0 : wn.cell? ⟨w.heap.size, 0, none⟩ = some (.int .i64 0) := cell_of_row wn _ 0 _ _ (0, 0) HSn.out.x; have x1 : wn.cell? ⟨w.heap.size, 1, none⟩ = some (.int .i64 0) := cell_of_row wn _ 1 _ _ (0, 0) HSn.out.x; have x2 : wn.cell? ⟨w.heap.size, 2, none⟩ = some (.int .i64 0) := cell_of_row wn _ 2 _ _ (0, 0) HSn.out.x; have x3 : wn.cell? ⟨w.heap.size, 3, none⟩ = some (.slice none 0 0) := cell_of_row wn _ 3 _ _ (0, 0) HSn.out.x; have x4 : wn.cell? ⟨w.heap.size, 4, none⟩ = some (.slice none 0 0) := cell_of_row wn _ 4 _ _ (0, 0) HSn.out.x; have z0 : wn.frozen? ⟨w.heap.size, 0, none⟩ = false := frozen_of_row wn _ 0 _ _ HSn.out.x; have z1 : wn.frozen? ⟨w.heap.size, 1, none⟩ = false := frozen_of_row wn _ 1 _ _ HSn.out.x; have z2 : wn.frozen? ⟨w.heap.size, 2, none⟩ = false := frozen_of_row wn _ 2 _ _ HSn.out.x; have z3 : wn.frozen? ⟨w.heap.size, 3, none⟩ = false := frozen_of_row wn _ 3 _ _ HSn.out.x; have z4 : wn.frozen? ⟨w.heap.size, 4, none⟩ = false := frozen_of_row wn _ 4 _ _ HSn.out.x; have y0 : wn.cell? ⟨w2.heap.size, 0, none⟩ = some (.int .i64 t.kind) := cell_of_row wn _ 0 _ _ (0, 0) HSn.out.y; have y1 : wn.cell? ⟨w2.heap.size, 1, none⟩ = some (.int .i64 t.field) := cell_of_row wn _ 1 _ _ (0, 0) HSn.out.y; have y2 : wn.cell? ⟨w2.heap.size, 2, none⟩ = some (.int .i64 t.value) := cell_of_row wn _ 2 _ _ (0, 0) HSn.out.y; have y3 : wn.cell? ⟨w2.heap.size, 3, none⟩ = some (.slice t.LA t.Ln t.Lc) := cell_of_row wn _ 3 _ _ (0, 0) HSn.out.y; have y4 : wn.cell? ⟨w2.heap.size, 4, none⟩ = some (.slice t.PA t.Pn t.Pc) := cell_of_row wn _ 4 _ _ (0, 0) HSn.out.y; have p0 : wn.cell? ⟨w.heap.size + 1, 0, none⟩ = some (.int .i64 0) := cell_of_row wn _ 0 _ _ (0, 0) HSn.out.x1; have p1 : wn.cell? ⟨w.heap.size + 1, 1, none⟩ = some (.slice none 0 0) := cell_of_row wn _ 1 _ _ (0, 0) HSn.out.x1; have q0 : wn.frozen? ⟨w.heap.size + 1, 0, none⟩ = false := frozen_of_row wn _ 0 _ _ HSn.out.x1; have q1 : wn.frozen? ⟨w.heap.size + 1, 1, none⟩ = false := frozen_of_row wn _ 1 _ _ HSn.out.x1; have r0 : wn.cell? ⟨w.heap.size + 2, 0, none⟩ = some (.int .i64 0) := cell_of_row wn _ 0 _ _ (0, 0) HSn.out.x2; have r1 : wn.cell? ⟨w.heap.size + 2, 1, none⟩ = some (.slice none 0 0) := cell_of_row wn _ 1 _ _ (0, 0) HSn.out.x2; have k0 : wn.frozen? ⟨w.heap.size + 2, 0, none⟩ = false := frozen_of_row wn _ 0 _ _ HSn.out.x2; have k1 : wn.frozen? ⟨w.heap.size + 2, 1, none⟩ = false := frozen_of_row wn _ 1 _ _ HSn.out.x2; have m0 : wn.cell? ⟨w3.heap.size, 0, none⟩ = some (.int .i64 s.id) := cell_of_row wn _ 0 _ _ (0, 0) HSn.out.z; have m1 : wn.cell? ⟨w3.heap.size, 1, none⟩ = some (.slice s.A s.n s.c) := cell_of_row wn _ 1 _ _ (0, 0) HSn.out.z; unfold It.val; clear hu hcn hgn)
  all_goals
    go_wp2
    refine bodyPost_ret_by (results_rows3 rfl _ _ w.heap.size (w.heap.size + 1) (w.heap.size + 1 + 1) 27 36 36 #[.int .i64 t.kind, .int .i64 t.field, .int .i64 t.value, .slice t.LA t.Ln t.Lc, .slice t.PA t.Pn t.Pc] #[.int .i64 s.id, .slice s.A s.n s.c] #[.int .i64 u.id, .slice u.A u.n u.c] (0, 0) (0, 0) (0, 0) _ _ _ rfl rfl rfl ?_ ?_ ?_ Try.underlying27 rfl (by kernel_rfl) Try.underlying36 rfl (by kernel_rfl) Try.underlying36 rfl (by kernel_rfl)) rfl ?_
    rotate_left 3
    · refine ⟨t, s, u, rfl, ⟨(HSn.out.o.blocks fun k hk _ => set9_other _ _ _ t s u (by omega)).low (by omega), HSn.out.b.trans (set9_below _ _ _ t s u (Nat.le_refl _))⟩, ownI_lowD (ownI_blocks HSn.out.i fun k hk => set9_other _ _ _ t s u (by have := ownI_lows HSn.out.i k hk; omega)) (by omega), hi4, ownI_lowD (ownI_blocks HUn.out fun k hk => set9_other _ _ _ t s u (by have := ownI_lows HUn.out k hk; omega)) (by omega), hu4⟩
    · exact (set2_other _ _ _ _ _ (by omega)).trans ((set2_other _ _ _ _ _ (by omega)).trans (five_set HSn.out.x))
    · exact (set2_other _ _ _ _ _ (by omega)).trans (two_setD ((set5_other _ _ _ _ _ _ _ _ (by omega)).trans HSn.out.x1))
    · exact two_setD ((set2_other _ _ _ _ _ (by omega)).trans ((set5_other _ _ _ _ _ _ _ _ (by omega)).trans HSn.out.x2))
end Go.Proofs.Ytalgfiefadfmnaa.num
namespace Go.Proofs.Ytalgfiefadfmnaa.num
open Go.RowKit
set_option linter.unusedVariables false

/-- At least one value, all from 0 to 9, each less than the next. -/
def AscUp (l : List Int) : Prop := (∀ v ∈ l, InR v) ∧ ∀ i x y, l[i]? = some x → l[i + 1]? = some y → x < y
def Asc (l : List Int) : Prop := l ≠ [] ∧ AscUp l
theorem AscUp.nil : AscUp [] := ⟨by simp, by simp⟩
theorem ascUp_take {l : List Int} (h : AscUp l) (k : Nat) : AscUp (l.take k) :=
  ⟨fun v hv => h.1 v (List.mem_of_mem_take hv), fun i x y hx hy => by
    rw [List.getElem?_take] at hx hy
    split at hx
    · split at hy
      · exact h.2 i x y hx hy
      · cases hy
    · cases hx⟩
theorem ascUp_snoc {l : List Int} {k : Nat} {v : Int} (h : AscUp (l.take k)) (hv : l[k]? = some v) (hr : InR v) (ho : ∀ j u, k = j + 1 → l[j]? = some u → u < v) : AscUp (l.take (k + 1)) := by
  rw [ptake_at hv]
  have hk : k < l.length := (List.getElem?_eq_some_iff.1 hv).1
  have hlen : (l.take k).length = k := by rw [List.length_take]; omega
  refine ⟨fun x hx => ?_, fun i x y hx hy => ?_⟩
  · rcases List.mem_append.1 hx with hx | hx
    · exact h.1 x hx
    · rw [List.mem_singleton.1 hx]; exact hr
  · rcases Nat.lt_trichotomy (i + 1) k with h1 | h1 | h1
    · rw [List.getElem?_append_left (by omega)] at hx hy
      exact h.2 i x y hx hy
    · rw [List.getElem?_append_left (by omega), List.getElem?_take, if_pos (by omega)] at hx
      rw [List.getElem?_append_right (by omega), hlen] at hy
      rw [show i + 1 - k = 0 by omega] at hy
      simp at hy
      subst hy
      exact ho i x h1.symm hx
    · rw [List.getElem?_eq_none (by simp; omega)] at hy
      cases hy
theorem asc_bad {l : List Int} {k : Nat} {v u : Int} (hv : l[k + 1]? = some v) (hu : l[k]? = some u) (h : v ≤ u) : ¬ AscUp l := fun ha => by
  have := ha.2 k u v hu hv
  omega
theorem asc_next {l : List Int} {k j : Nat} {x y : Int} (hj : j + 1 = k) (hy : l[j]? = some y) (h : y < x) : ∀ j' u, k = j' + 1 → l[j']? = some u → u < x := fun j' u hj' hu => by
  obtain rfl : j' = j := by omega
  rw [hy] at hu
  cases hu
  exact h
/-- What IsWish asks. -/
structure IsW (d : WD) : Prop where
  f : 0 ≤ d.field ∧ d.field ≤ 2
  k : 0 ≤ d.kind ∧ d.kind ≤ 4
  v : if d.kind = 2 then InR d.value else d.value = 0
  l : if d.kind = 3 then Asc d.ls else d.ls = []
  p : if d.kind = 4 then OkP d.ps else d.ps = []
/-- The rank of a value from 0 to 9, for a wish of another kind than order. -/
def rankW (d : WD) (v : Int) : Int := if d.kind = 0 then v else if d.kind = 1 then 9 - v else if d.kind = 2 then (if v < d.value then d.value - v else v - d.value) else if v ∈ d.ls then 0 else 1
/-- The comparison of two values, for a valid wish. -/
def cmpW (d : WD) (a b : Int) : Int :=
  if d.kind = 4 then (if a = b then 0 else if rb d.ps a b = true then 1 else if rb d.ps b a = true then -1 else 2)
  else if rankW d a < rankW d b then 1 else if rankW d b < rankW d a then -1 else 0

theorem in_same (x lo hi : Int) (b : Bool) (hb : b = true ↔ lo ≤ x ∧ x ≤ hi) (w : World) :
    Calls Try.prog 34 #[.int .i64 x, .int .i64 lo, .int .i64 hi] w fun e w' => e = .returned (.bool b) ∧ w' = w :=
  (in_of x lo hi b hb w).mono fun _ _ h => ⟨h.1, h.2.symm⟩
theorem in_quiet {P : Program} {f : FuncId} {args : Array Value} {w : World} {m n : Nat} {v : Value} (h : Calls P f args (w.drewN (m + n)) fun e w' => e = .returned v ∧ w' = w.drewN (m + n)) : Calls P f args (w.drewN (m + n)) fun e w'' => e = .returned v ∧ ∃ n', w'' = w.drewN (m + n') :=
  h.mono fun _ _ ⟨he, hm⟩ => ⟨he, n, hm⟩
set_option maxRecDepth 20000 in
theorem ascS (w : World) (B : Nat) (A : Option Addr) (n c : Nat) (xs : List Int) (hi : Ints w B A n xs) (hn : n ≤ 1048576) (b : Bool) (hb : b = true ↔ Asc xs) :
    Calls Try.prog 36 #[.slice A n c] w fun e w' => e = .returned (.bool b) ∧ Below w.heap.size w w' := by
  have HX := Lib.hid hi
  have HB := Lib.hid hb
  clear hi hb
  have hno : ¬ AscUp xs → b = false := fun h => by
    cases b
    · rfl
    · exact absurd (HB.out.1 rfl).2 h
  have HNo := Lib.hid hno
  clear hno
  go_enter Try.func36, Try.ntmps36
  go_wp2
  go_loopw [3] (fun i wr => ∃ k : Nat, k ≤ n ∧ i = .int .i64 k ∧ AscUp (xs.take k) ∧ ∃ m, wr = w.drewN m) (fun i _ => n - (intOf i).toNat)
  case atStart => exact ⟨0, Nat.zero_le _, rfl, by rw [List.take_zero]; exact AscUp.nil, 0, rfl⟩
  case round =>
    obtain ⟨k, hk, rfl, hasc, m, rfl⟩ := hrel
    have HA := Lib.hid hasc
    clear hasc
    by_cases hlt : k < n
    · obtain ⟨b1, off, x, hA1, hb1, hat, hc⟩ := HX.out.at k hlt
      have HT := Lib.hid hat
      have hlt' : (k : Int) < (n : Int) := by omega
      obtain ⟨q, hq⟩ := bool_of (0 ≤ x ∧ x ≤ 9)
      have HQ := Lib.hid hq
      clear hat hq
      cases q
      · obtain rfl : b = false := HNo.out fun h => by have := HQ.out.2 (h.1 x (List.mem_of_getElem? HT.out)); cases this
        subst hA1
        go_wp2
        go_quiet ((go_at_call 34; refine in_quiet (in_same x 0 9 false HQ.out _)))
        go_wp2
        go_ret
        exact ⟨rfl, by rw [World.drewN_drewN]; exact below_drewN (Below.refl _ _) _⟩
      · have HD := Lib.hid (HQ.out.1 rfl)
        rcases Nat.eq_zero_or_pos k with h0 | h0
        · have HK := Lib.hid h0
          subst hA1
          clear h0
          have hk0 : decide (0 < k) = false := decide_eq_false (by have := HK.out; omega)
          go_wp2
          go_quiet ((go_at_call 34; refine in_quiet (in_same x 0 9 true ⟨fun _ => HD.out, fun _ => rfl⟩ _)))
          clear hk0
          go_wp2
          go_roundw
          case rel => exact ⟨k + 1, by omega, by go_num, ascUp_snoc HA.out HT.out HD.out (fun j u hj _ => by have := HK.out; omega), _, rfl⟩
          case measure => simp [intOf]; omega
        · obtain ⟨j, hj⟩ : ∃ j, j + 1 = k := ⟨k - 1, by omega⟩
          obtain ⟨b2, off2, y, hA2, hb2, hat2, hc2⟩ := HX.out.at j (by omega)
          obtain ⟨rfl, rfl⟩ : b1 = b2 ∧ off = off2 := by rw [hA1] at hA2; injection hA2 with h; injection h with h1 h2; exact ⟨h1, h2⟩
          have HT0 := Lib.hid hat2
          have HJ := Lib.hid hj
          have HK0 : Hid ((0 : Int) < (k : Int)) := by show _ < _; omega
          have hkj : (k : Int) - 1 = (j : Int) := by omega
          have hkw : IntKind.i64.wrap ((k : Int) - 1) = (j : Int) := by rw [hkj]; exact IntWalk.i64_in _ ⟨by omega, by omega⟩
          have hjw : IntKind.i64.wrap (j : Int) = (j : Int) := IntWalk.i64_in _ ⟨by omega, by omega⟩
          have hjn : (j : Int) < (n : Int) := by omega
          have hjn' : j < n := by omega
          have hk0 : decide (0 < k) = true := decide_eq_true (by have := HK0.out; omega)
          subst hA1
          clear h0 hj hat2 hA2
          by_cases hle : x ≤ y
          · obtain rfl : b = false := HNo.out (asc_bad (by rw [HJ.out]; exact HT.out) HT0.out hle)
            go_wp2
            go_quiet ((go_at_call 34; refine in_quiet (in_same x 0 9 true ⟨fun _ => HD.out, fun _ => rfl⟩ _)))
            clear hk0
            go_wp2
            go_ret
            exact ⟨rfl, by rw [World.drewN_drewN]; exact below_drewN (Below.refl _ _) _⟩
          · have HLe : Hid (y < x) := by show _ < _; omega
            go_wp2
            go_quiet ((go_at_call 34; refine in_quiet (in_same x 0 9 true ⟨fun _ => HD.out, fun _ => rfl⟩ _)))
            clear hk0
            go_wp2
            go_roundw
            case rel => exact ⟨k + 1, by omega, by go_num, ascUp_snoc HA.out HT.out HD.out (asc_next HJ.out HT0.out HLe.out), _, rfl⟩
            case measure => simp [intOf]; omega
    · obtain rfl : k = n := by omega
      have h := HA.out
      rw [ptake_all HX.out.1] at h
      have HH := Lib.hid h
      clear h
      by_cases h0 : (0 : Int) < (k : Int)
      · have hd : decide (0 < k) = true := by simp; omega
        obtain rfl : b = true := HB.out.2 ⟨fun e => by have := HX.out.1; rw [e] at this; simp at this; omega, HH.out⟩
        go_wp2
        go_ret
        exact ⟨by simp, below_drewN (Below.refl _ _) _⟩
      · obtain rfl : b = false := by
          cases b
          · rfl
          · exact absurd (List.length_eq_zero_iff.1 (by rw [HX.out.1]; omega)) (HB.out.1 rfl).1
        go_wp2
        go_ret
        exact ⟨by simp; omega, below_drewN (Below.refl _ _) _⟩
end Go.Proofs.Ytalgfiefadfmnaa.num
namespace Go.Proofs.Ytalgfiefadfmnaa.num
open Go.RowKit
set_option linter.unusedVariables false

theorem isW01 {k f v : Int} {ls : List Int} {ps : List (Int × Int)} (hk : k = 0 ∨ k = 1) (hf : 0 ≤ f ∧ f ≤ 2) : IsW ⟨k, f, v, ls, ps⟩ ↔ v = 0 ∧ ls = [] ∧ ps = [] := by
  constructor
  · intro ⟨_, _, h1, h2, h3⟩
    dsimp only at h1 h2 h3
    rw [if_neg (by omega)] at h1 h2 h3
    exact ⟨h1, h2, h3⟩
  · rintro ⟨rfl, rfl, rfl⟩
    exact ⟨hf, by dsimp only; omega, by rw [if_neg (by dsimp only; omega)], by rw [if_neg (by dsimp only; omega)], by rw [if_neg (by dsimp only; omega)]⟩
theorem isW2 {f v : Int} {ls : List Int} {ps : List (Int × Int)} (hf : 0 ≤ f ∧ f ≤ 2) : IsW ⟨2, f, v, ls, ps⟩ ↔ InR v ∧ ls = [] ∧ ps = [] := by
  constructor
  · intro ⟨_, _, h1, h2, h3⟩
    exact ⟨h1, h2, h3⟩
  · rintro ⟨h, rfl, rfl⟩
    exact ⟨hf, ⟨by show (0:Int) ≤ 2; decide, by show (2:Int) ≤ 4; decide⟩, h, rfl, rfl⟩
theorem isW3 {f v : Int} {ls : List Int} {ps : List (Int × Int)} (hf : 0 ≤ f ∧ f ≤ 2) : IsW ⟨3, f, v, ls, ps⟩ ↔ v = 0 ∧ Asc ls ∧ ps = [] := by
  constructor
  · intro ⟨_, _, h1, h2, h3⟩
    exact ⟨h1, h2, h3⟩
  · rintro ⟨rfl, h, rfl⟩
    exact ⟨hf, ⟨by show (0:Int) ≤ 3; decide, by show (3:Int) ≤ 4; decide⟩, rfl, h, rfl⟩
theorem isW4 {f v : Int} {ls : List Int} {ps : List (Int × Int)} (hf : 0 ≤ f ∧ f ≤ 2) : IsW ⟨4, f, v, ls, ps⟩ ↔ v = 0 ∧ ls = [] ∧ OkP ps := by
  constructor
  · intro ⟨_, _, h1, h2, h3⟩
    exact ⟨h1, h2, h3⟩
  · rintro ⟨rfl, rfl, h⟩
    exact ⟨hf, ⟨by show (0:Int) ≤ 4; decide, by show (4:Int) ≤ 4; decide⟩, rfl, rfl, h⟩

set_option maxRecDepth 20000 in
set_option maxHeartbeats 1600000 in
theorem sIsWish (w : World) (B : Nat) (t : Wi) (hi : WiIn w B t) (hB : B ≤ w.heap.size) (hn : t.Short) (b : Bool) (hb : b = true ↔ IsW t.dat) :
    Calls Try.prog 15 #[t.val] w fun e w' => e = .returned (.bool b) ∧ Below w.heap.size w w' := by
  obtain ⟨k, f, v, LA, Ln, Lc, ls, PA, Pn, Pc, ps⟩ := t
  obtain ⟨-, -, -, hl, hp⟩ := hi
  unfold Wi.val
  simp only [Wi.dat, Wi.Short] at hl hp hn hb ⊢
  have HL := Lib.hid hl
  have HP := Lib.hid hp
  have HB := Lib.hid hb
  have HN := Lib.hid hn
  have HB1 : Hid (∀ o : Obj, Below B w (w.alloc o)) := Lib.hid fun o => (Below.refl B w).alloc hB _
  have HW1 : Hid (∀ o : Obj, Below w.heap.size w (w.alloc o)) := Lib.hid fun o => (Below.refl _ w).alloc (Nat.le_refl _) _
  have HLn : Hid (ls = [] ↔ Ln = 0) := by
    show _ ↔ _
    rw [← hl.1, List.length_eq_zero_iff]
  have HPn : Hid (ps = [] ↔ ((Pn : Int) == 0) = true) := by
    show _ ↔ _
    rw [← hp.1, ← List.length_eq_zero_iff]
    simp
  clear hl hp hb hn
  have HNo : Hid (¬ IsW ⟨k, f, v, ls, ps⟩ → b = false) := Lib.hid fun h => by
    cases b
    · rfl
    · exact absurd (HB.out.1 rfl) h
  obtain ⟨qf, hqf⟩ := bool_of (0 ≤ f ∧ f ≤ 2)
  have HQF := Lib.hid hqf
  clear hqf
  cases qf
  · obtain rfl := HNo.out fun h => by have := HQF.out.2 h.f; cases this
    go_enter Try.func15, Try.ntmps15
    go_wp2_with fail
    refine (in_of f 0 2 false HQF.out _).mono ?_
    rintro e w1 ⟨rfl, rfl⟩
    go_wp2
    go_ret
    exact ⟨rfl, HW1.out _⟩
  · have HF := Lib.hid (HQF.out.1 rfl)
    clear HQF
    by_cases k0 : k = 0
    · subst k0
      by_cases hv : v = 0
      · subst hv
        by_cases hL : Ln = 0
        · have hL' : ((Ln : Int) == 0) = true := by simp [hL]
          have HLL := Lib.hid (HLn.out.2 hL)
          clear hL
          have HE : Hid (b = ((Pn : Int) == 0)) := Lib.hid (Bool.eq_iff_iff.2 (HB.out.trans ((isW01 (.inl rfl) HF.out).trans ⟨fun h => HPn.out.1 h.2.2, fun h => ⟨rfl, HLL.out, HPn.out.2 h⟩⟩)))
          go_enter Try.func15, Try.ntmps15
          go_wp2_with fail
          refine (in_of f 0 2 true ⟨fun _ => HF.out, fun _ => rfl⟩ _).mono ?_
          rintro e w1 ⟨rfl, rfl⟩
          go_wp2
          go_ret
          exact ⟨congrArg (fun x => Ending.returned (.bool x)) HE.out.symm, HW1.out _⟩
        · have hL' : ((Ln : Int) == 0) = false := by simp [hL]
          have HLL := Lib.hid hL
          clear hL
          obtain rfl := HNo.out fun h => HLL.out (HLn.out.1 ((isW01 (.inl rfl) HF.out).1 h).2.1)
          go_enter Try.func15, Try.ntmps15
          go_wp2_with fail
          refine (in_of f 0 2 true ⟨fun _ => HF.out, fun _ => rfl⟩ _).mono ?_
          rintro e w1 ⟨rfl, rfl⟩
          go_wp2
          go_ret
          exact ⟨rfl, HW1.out _⟩
      · have hv' : (v == 0) = false := by simpa using hv
        have HV := Lib.hid hv
        clear hv
        obtain rfl := HNo.out fun h => HV.out ((isW01 (.inl rfl) HF.out).1 h).1
        go_enter Try.func15, Try.ntmps15
        go_wp2_with fail
        refine (in_of f 0 2 true ⟨fun _ => HF.out, fun _ => rfl⟩ _).mono ?_
        rintro e w1 ⟨rfl, rfl⟩
        go_wp2
        go_ret
        exact ⟨rfl, HW1.out _⟩
    · by_cases k1 : k = 1
      · subst k1
        clear k0
        by_cases hv : v = 0
        · subst hv
          by_cases hL : Ln = 0
          · have hL' : ((Ln : Int) == 0) = true := by simp [hL]
            have HLL := Lib.hid (HLn.out.2 hL)
            clear hL
            have HE : Hid (b = ((Pn : Int) == 0)) := Lib.hid (Bool.eq_iff_iff.2 (HB.out.trans ((isW01 (.inr rfl) HF.out).trans ⟨fun h => HPn.out.1 h.2.2, fun h => ⟨rfl, HLL.out, HPn.out.2 h⟩⟩)))
            go_enter Try.func15, Try.ntmps15
            go_wp2_with fail
            refine (in_of f 0 2 true ⟨fun _ => HF.out, fun _ => rfl⟩ _).mono ?_
            rintro e w1 ⟨rfl, rfl⟩
            go_wp2
            go_ret
            exact ⟨congrArg (fun x => Ending.returned (.bool x)) HE.out.symm, HW1.out _⟩
          · have hL' : ((Ln : Int) == 0) = false := by simp [hL]
            have HLL := Lib.hid hL
            clear hL
            obtain rfl := HNo.out fun h => HLL.out (HLn.out.1 ((isW01 (.inr rfl) HF.out).1 h).2.1)
            go_enter Try.func15, Try.ntmps15
            go_wp2_with fail
            refine (in_of f 0 2 true ⟨fun _ => HF.out, fun _ => rfl⟩ _).mono ?_
            rintro e w1 ⟨rfl, rfl⟩
            go_wp2
            go_ret
            exact ⟨rfl, HW1.out _⟩
        · have hv' : (v == 0) = false := by simpa using hv
          have HV := Lib.hid hv
          clear hv
          obtain rfl := HNo.out fun h => HV.out ((isW01 (.inr rfl) HF.out).1 h).1
          go_enter Try.func15, Try.ntmps15
          go_wp2_with fail
          refine (in_of f 0 2 true ⟨fun _ => HF.out, fun _ => rfl⟩ _).mono ?_
          rintro e w1 ⟨rfl, rfl⟩
          go_wp2
          go_ret
          exact ⟨rfl, HW1.out _⟩
      · by_cases k2 : k = 2
        · subst k2
          clear k0 k1
          obtain ⟨qv, hqv⟩ := bool_of (0 ≤ v ∧ v ≤ 9)
          have HQV := Lib.hid hqv
          clear hqv
          cases qv
          · obtain rfl := HNo.out fun h => by have := HQV.out.2 ((isW2 HF.out).1 h).1; cases this
            go_enter Try.func15, Try.ntmps15
            go_wp2_with fail
            refine (in_of f 0 2 true ⟨fun _ => HF.out, fun _ => rfl⟩ _).mono ?_
            rintro e w1 ⟨rfl, rfl⟩
            go_wp2_with fail
            refine (in_of v 0 9 false HQV.out _).mono ?_
            rintro e w1 ⟨rfl, rfl⟩
            go_wp2
            go_ret
            exact ⟨rfl, HW1.out _⟩
          · have HV := Lib.hid (HQV.out.1 rfl)
            by_cases hL : Ln = 0
            · have hL' : ((Ln : Int) == 0) = true := by simp [hL]
              have HLL := Lib.hid (HLn.out.2 hL)
              clear hL
              have HE : Hid (b = ((Pn : Int) == 0)) := Lib.hid (Bool.eq_iff_iff.2 (HB.out.trans ((isW2 HF.out).trans ⟨fun h => HPn.out.1 h.2.2, fun h => ⟨HV.out, HLL.out, HPn.out.2 h⟩⟩)))
              go_enter Try.func15, Try.ntmps15
              go_wp2_with fail
              refine (in_of f 0 2 true ⟨fun _ => HF.out, fun _ => rfl⟩ _).mono ?_
              rintro e w1 ⟨rfl, rfl⟩
              go_wp2_with fail
              refine (in_of v 0 9 true ⟨fun _ => HV.out, fun _ => rfl⟩ _).mono ?_
              rintro e w1 ⟨rfl, rfl⟩
              go_wp2
              go_ret
              exact ⟨congrArg (fun x => Ending.returned (.bool x)) HE.out.symm, HW1.out _⟩
            · have hL' : ((Ln : Int) == 0) = false := by simp [hL]
              have HLL := Lib.hid hL
              clear hL
              obtain rfl := HNo.out fun h => HLL.out (HLn.out.1 ((isW2 HF.out).1 h).2.1)
              go_enter Try.func15, Try.ntmps15
              go_wp2_with fail
              refine (in_of f 0 2 true ⟨fun _ => HF.out, fun _ => rfl⟩ _).mono ?_
              rintro e w1 ⟨rfl, rfl⟩
              go_wp2_with fail
              refine (in_of v 0 9 true ⟨fun _ => HV.out, fun _ => rfl⟩ _).mono ?_
              rintro e w1 ⟨rfl, rfl⟩
              go_wp2
              go_ret
              exact ⟨rfl, HW1.out _⟩
        · by_cases k3 : k = 3
          · subst k3
            clear k0 k1 k2
            by_cases hv : v = 0
            · subst hv
              obtain ⟨ql, hql⟩ := bool_of (Asc ls)
              have HQL := Lib.hid hql
              clear hql
              cases ql
              · obtain rfl := HNo.out fun h => by have := HQL.out.2 ((isW3 HF.out).1 h).2.1; cases this
                go_enter Try.func15, Try.ntmps15
                go_wp2_with fail
                refine (in_of f 0 2 true ⟨fun _ => HF.out, fun _ => rfl⟩ _).mono ?_
                rintro e w1 ⟨rfl, rfl⟩
                go_wp2_with fail
                refine (ascS _ B LA Ln Lc ls (HL.out.below (HB1.out _)) HN.out.1 false HQL.out).mono ?_
                rintro e w1 ⟨rfl, hb1⟩
                have HBB := Lib.hid ((HW1.out _).trans (hb1.mono (by simp)))
                have c4 : w1.cell? ⟨w.heap.size, 4, none⟩ = some (.slice PA Pn Pc) := (hb1.cell (p := ⟨w.heap.size, 4, none⟩) (by simp)).trans (by rw [World.cell?_alloc_at _ _ _ _ rfl]; rfl)
                clear hb1
                go_wp2
                go_ret
                exact ⟨rfl, HBB.out⟩
              · have HAs := Lib.hid (HQL.out.1 rfl)
                clear HQL
                have HE : Hid (b = ((Pn : Int) == 0)) := Lib.hid (Bool.eq_iff_iff.2 (HB.out.trans ((isW3 HF.out).trans ⟨fun h => HPn.out.1 h.2.2, fun h => ⟨rfl, HAs.out, HPn.out.2 h⟩⟩)))
                go_enter Try.func15, Try.ntmps15
                go_wp2_with fail
                refine (in_of f 0 2 true ⟨fun _ => HF.out, fun _ => rfl⟩ _).mono ?_
                rintro e w1 ⟨rfl, rfl⟩
                go_wp2_with fail
                refine (ascS _ B LA Ln Lc ls (HL.out.below (HB1.out _)) HN.out.1 true ⟨fun _ => HAs.out, fun _ => rfl⟩).mono ?_
                rintro e w1 ⟨rfl, hb1⟩
                have HBB := Lib.hid ((HW1.out _).trans (hb1.mono (by simp)))
                have c4 : w1.cell? ⟨w.heap.size, 4, none⟩ = some (.slice PA Pn Pc) := (hb1.cell (p := ⟨w.heap.size, 4, none⟩) (by simp)).trans (by rw [World.cell?_alloc_at _ _ _ _ rfl]; rfl)
                clear hb1
                go_wp2
                go_ret
                exact ⟨congrArg (fun x => Ending.returned (.bool x)) HE.out.symm, HBB.out⟩
            · have hv' : (v == 0) = false := by simpa using hv
              have HV := Lib.hid hv
              clear hv
              obtain rfl := HNo.out fun h => HV.out ((isW3 HF.out).1 h).1
              go_enter Try.func15, Try.ntmps15
              go_wp2_with fail
              refine (in_of f 0 2 true ⟨fun _ => HF.out, fun _ => rfl⟩ _).mono ?_
              rintro e w1 ⟨rfl, rfl⟩
              go_wp2
              go_ret
              exact ⟨rfl, HW1.out _⟩
          · by_cases k4 : k = 4
            · subst k4
              clear k0 k1 k2 k3
              by_cases hv : v = 0
              · subst hv
                by_cases hL : Ln = 0
                · have hL' : ((Ln : Int) == 0) = true := by simp [hL]
                  have HLL := Lib.hid (HLn.out.2 hL)
                  clear hL
                  go_enter Try.func15, Try.ntmps15
                  go_wp2_with fail
                  refine (in_of f 0 2 true ⟨fun _ => HF.out, fun _ => rfl⟩ _).mono ?_
                  rintro e w1 ⟨rfl, rfl⟩
                  go_wp2_with fail
                  refine (sArePairs _ B PA Pn Pc ps (HP.out.below (HB1.out _)) (by simp; omega) HN.out.2 b (HB.out.trans ((isW4 HF.out).trans ⟨fun h => h.2.2, fun h => ⟨rfl, HLL.out, h⟩⟩))).mono ?_
                  rintro e w1 ⟨rfl, hb1⟩
                  have HBB := Lib.hid ((HW1.out _).trans (hb1.mono (by simp)))
                  clear hb1
                  go_wp2
                  go_ret
                  exact ⟨rfl, HBB.out⟩
                · have hL' : ((Ln : Int) == 0) = false := by simp [hL]
                  have HLL := Lib.hid hL
                  clear hL
                  obtain rfl := HNo.out fun h => HLL.out (HLn.out.1 ((isW4 HF.out).1 h).2.1)
                  go_enter Try.func15, Try.ntmps15
                  go_wp2_with fail
                  refine (in_of f 0 2 true ⟨fun _ => HF.out, fun _ => rfl⟩ _).mono ?_
                  rintro e w1 ⟨rfl, rfl⟩
                  go_wp2
                  go_ret
                  exact ⟨rfl, HW1.out _⟩
              · have hv' : (v == 0) = false := by simpa using hv
                have HV := Lib.hid hv
                clear hv
                obtain rfl := HNo.out fun h => HV.out ((isW4 HF.out).1 h).1
                go_enter Try.func15, Try.ntmps15
                go_wp2_with fail
                refine (in_of f 0 2 true ⟨fun _ => HF.out, fun _ => rfl⟩ _).mono ?_
                rintro e w1 ⟨rfl, rfl⟩
                go_wp2
                go_ret
                exact ⟨rfl, HW1.out _⟩
            · have f0 : (k == 0) = false := by simpa using k0
              have f1 : (k == 1) = false := by simpa using k1
              have f2 : (k == 2) = false := by simpa using k2
              have f3 : (k == 3) = false := by simpa using k3
              have f4 : (k == 4) = false := by simpa using k4
              obtain rfl := HNo.out fun h => by have := h.k; dsimp only at this; omega
              clear k0 k1 k2 k3 k4
              go_enter Try.func15, Try.ntmps15
              go_wp2_with fail
              refine (in_of f 0 2 true ⟨fun _ => HF.out, fun _ => rfl⟩ _).mono ?_
              rintro e w1 ⟨rfl, rfl⟩
              go_wp2
              go_ret
              exact ⟨rfl, HW1.out _⟩
end Go.Proofs.Ytalgfiefadfmnaa.num
namespace Go.Proofs.Ytalgfiefadfmnaa.num
open Go.RowKit
set_option linter.unusedVariables false

/-- The cells of a box of five that the call laid, behind calls. -/
theorem box5 {w w' : World} {v0 v1 v2 v3 v4 : Value} {T : TypeId} (hb : Below (w.alloc (.cells #[v0, v1, v2, v3, v4] T)).heap.size (w.alloc (.cells #[v0, v1, v2, v3, v4] T)) w') :
    w'.cell? ⟨w.heap.size, 0, none⟩ = some v0 ∧ w'.cell? ⟨w.heap.size, 1, none⟩ = some v1 ∧ w'.cell? ⟨w.heap.size, 2, none⟩ = some v2 ∧ w'.cell? ⟨w.heap.size, 3, none⟩ = some v3 ∧ w'.cell? ⟨w.heap.size, 4, none⟩ = some v4 ∧ w.heap.size < w'.heap.size := by
  have hc : ∀ j v, #[v0, v1, v2, v3, v4][j]? = some v → w'.cell? ⟨w.heap.size, j, none⟩ = some v := fun j v h => (hb.cell (p := ⟨w.heap.size, j, none⟩) (by simp)).trans (by rw [World.cell?_alloc_at _ _ _ _ rfl]; exact h)
  exact ⟨hc 0 _ rfl, hc 1 _ rfl, hc 2 _ rfl, hc 3 _ rfl, hc 4 _ rfl, by have := hb.size; simp at this; omega⟩

theorem IsW.val2 {d : WD} (h : IsW d) (hk : d.kind = 2) : InR d.value := by have := h.v; rwa [if_pos hk] at this
theorem rankW3 {f x v : Int} {ls : List Int} {ps : List (Int × Int)} : rankW ⟨3, f, x, ls, ps⟩ v = if v ∈ ls then 0 else 1 := rfl
theorem rankW2 {f x v : Int} {ls : List Int} {ps : List (Int × Int)} : rankW ⟨2, f, x, ls, ps⟩ v = if v < x then x - v else v - x := rfl
set_option maxRecDepth 20000 in
theorem sRank (w : World) (B : Nat) (t : Wi) (hi : WiIn w B t) (hB : B ≤ w.heap.size) (hn : t.Short) (hw : IsW t.dat) (h4 : t.kind ≠ 4) (x : Int) (hx : InR x) :
    Calls Try.prog 39 #[t.val, .int .i64 x] w fun e w' => e = .returned (.int .i64 (rankW t.dat x)) ∧ Below w.heap.size w w' := by
  have hv := fun hk => hw.val2 hk
  have hk := hw.k
  obtain ⟨k, f, v, LA, Ln, Lc, ls, PA, Pn, Pc, ps⟩ := t
  obtain ⟨-, -, -, hl, hp⟩ := hi
  unfold Wi.val
  simp only [Wi.dat, Wi.Short] at hl hp hn hk hv h4 ⊢
  obtain ⟨x0, x9⟩ := hx
  have HL := Lib.hid hl
  have HN := Lib.hid hn
  have HB1 : Hid (∀ o : Obj, Below B w (w.alloc o)) := Lib.hid fun o => (Below.refl B w).alloc hB _
  have HW1 : Hid (∀ o : Obj, Below w.heap.size w (w.alloc o)) := Lib.hid fun o => (Below.refl _ w).alloc (Nat.le_refl _) _
  clear hl hp hn hw
  rcases (show k = 0 ∨ k = 1 ∨ k = 2 ∨ k = 3 by omega) with rfl | rfl | rfl | rfl
  · clear hv hk h4
    go_enter Try.func39, Try.ntmps39
    go_wp2
    go_ret
    exact ⟨rfl, HW1.out _⟩
  · clear hv hk h4
    go_enter Try.func39, Try.ntmps39
    go_wp2
    go_ret
    exact ⟨rfl, HW1.out _⟩
  · obtain ⟨v0, v9⟩ := hv rfl
    clear hk h4 hv
    rw [rankW2]
    by_cases hxv : x < v
    · rw [if_pos hxv]
      go_enter Try.func39, Try.ntmps39
      go_wp2
      go_ret
      exact ⟨rfl, HW1.out _⟩
    · rw [if_neg hxv]
      go_enter Try.func39, Try.ntmps39
      go_wp2
      go_ret
      exact ⟨rfl, HW1.out _⟩
  · clear hv hk h4
    obtain ⟨q, hq⟩ := bool_of (x ∈ ls)
    have HQ := Lib.hid hq
    have hr : rankW ⟨3, f, v, ls, ps⟩ x = if q = true then 0 else 1 := by
      rw [rankW3]
      simp only [hq]
    have HR := Lib.hid hr
    clear hq hr
    go_enter Try.func39, Try.ntmps39
    go_wp2_with fail
    refine (has_of _ B LA Ln Lc ls (HL.out.below (HB1.out _)) (by have := HN.out.1; omega) x q HQ.out).mono ?_
    rintro e w1 ⟨rfl, rfl⟩
    cases q
    · go_wp2
      go_ret
      exact ⟨congrArg (fun x => Ending.returned (.int .i64 x)) HR.out.symm, HW1.out _⟩
    · go_wp2
      go_ret
      exact ⟨congrArg (fun x => Ending.returned (.int .i64 x)) HR.out.symm, HW1.out _⟩

theorem rankW_le {d : WD} (hw : IsW d) (h4 : d.kind ≠ 4) {x : Int} (hx : InR x) : 0 ≤ rankW d x ∧ rankW d x ≤ 9 := by
  have hv := fun hk => hw.val2 hk
  have hk := hw.k
  obtain ⟨x0, x9⟩ := hx
  unfold rankW
  split
  · omega
  · split
    · omega
    · split
      · rename_i h
        obtain ⟨v0, v9⟩ := hv h
        split <;> omega
      · split <;> omega
set_option maxRecDepth 20000 in
theorem sCmp (w : World) (B : Nat) (t : Wi) (hi : WiIn w B t) (hB : B ≤ w.heap.size) (hn : t.Short) (hw : IsW t.dat) (x y : Int) (hx : InR x) (hy : InR y) :
    Calls Try.prog 35 #[t.val, .int .i64 x, .int .i64 y] w fun e w' => e = .returned (.int .i64 (cmpW t.dat x y)) ∧ Below w.heap.size w w' := by
  have HI := Lib.hid hi
  have HW := Lib.hid hw
  have HN := Lib.hid hn
  have HB1 : Hid (∀ o : Obj, Below B w (w.alloc o)) := Lib.hid fun o => (Below.refl B w).alloc hB _
  have HW1 : Hid (∀ o : Obj, Below w.heap.size w (w.alloc o)) := Lib.hid fun o => (Below.refl _ w).alloc (Nat.le_refl _) _
  have HX := Lib.hid hx
  have HY := Lib.hid hy
  clear hi hw hn hx hy
  by_cases h4 : t.kind = 4
  · obtain ⟨k, f, v, LA, Ln, Lc, ls, PA, Pn, Pc, ps⟩ := t
    simp only [] at h4
    subst h4
    unfold Wi.val
    simp only [Wi.dat]
    have HP : Hid (Pairs w B PA Pn ps) := Lib.hid HI.out.p
    have HNP : Hid (Pn ≤ 1048576) := Lib.hid HN.out.2
    clear HI HW HN
    by_cases he : x = y
    · subst he
      go_enter Try.func35, Try.ntmps35
      go_wp2
      go_ret
      exact ⟨by simp [cmpW], HW1.out _⟩
    · have he' : (x == y) = false := by simpa using he
      have HE := Lib.hid he
      clear he
      obtain ⟨q1, hq1⟩ : ∃ q, q = rb ps x y := ⟨_, rfl⟩
      obtain ⟨q2, hq2⟩ : ∃ q, q = rb ps y x := ⟨_, rfl⟩
      have HC : Hid (cmpW ⟨4, f, v, ls, ps⟩ x y = if q1 = true then 1 else if q2 = true then -1 else 2) := Lib.hid (by
        unfold cmpW
        rw [if_pos rfl, if_neg HE.out, hq1, hq2])
      have HQ1 : Hid (q1 = true ↔ Reach ps x y) := Lib.hid (by rw [hq1, rb_iff])
      have HQ2 : Hid (q2 = true ↔ Reach ps y x) := Lib.hid (by rw [hq2, rb_iff])
      clear hq1 hq2
      go_enter Try.func35, Try.ntmps35
      go_wp2_with fail
      refine (reach_of _ B PA Pn Pc ps (HP.out.below (HB1.out _)) (by simp; omega) HNP.out x y q1 HQ1.out).mono ?_
      rintro e w1 ⟨rfl, hb1⟩
      obtain ⟨-, -, -, -, c4, hg⟩ := box5 hb1
      have HBB := Lib.hid (And.intro ((HW1.out _).trans (hb1.mono (by simp))) ((HB1.out _).trans (hb1.mono (by simp; omega))))
      clear hb1
      cases q1
      · go_wp2_with fail
        refine (reach_of _ B PA Pn Pc ps (HP.out.below HBB.out.2) (by omega) HNP.out y x q2 HQ2.out).mono ?_
        rintro e w2 ⟨rfl, hb2⟩
        have HBC := Lib.hid (HBB.out.1.trans (hb2.mono HBB.out.1.size))
        clear hb2 c4
        cases q2
        · go_wp2
          go_ret
          exact ⟨congrArg (fun x => Ending.returned (.int .i64 x)) HC.out.symm, HBC.out⟩
        · go_wp2
          go_ret
          exact ⟨congrArg (fun x => Ending.returned (.int .i64 x)) HC.out.symm, HBC.out⟩
      · go_wp2
        go_ret
        exact ⟨congrArg (fun x => Ending.returned (.int .i64 x)) HC.out.symm, HBB.out.1⟩
  · obtain ⟨rx, hrx⟩ : ∃ r, r = rankW t.dat x := ⟨_, rfl⟩
    obtain ⟨ry, hry⟩ : ∃ r, r = rankW t.dat y := ⟨_, rfl⟩
    have HC : Hid (cmpW t.dat x y = if rx < ry then 1 else if ry < rx then -1 else 0) := Lib.hid (by
      unfold cmpW
      rw [if_neg (show ¬ t.dat.kind = 4 from h4), hrx, hry])
    have bx := rankW_le HW.out h4 HX.out
    have by' := rankW_le HW.out h4 HY.out
    rw [← hrx] at bx
    rw [← hry] at by'
    have HRX : Hid (∀ w1 : World, WiIn w1 B t → B ≤ w1.heap.size → Calls Try.prog 39 #[t.val, .int .i64 x] w1 fun e w' => e = .returned (.int .i64 rx) ∧ Below w1.heap.size w1 w') := Lib.hid fun w1 h1 h2 => by
      rw [hrx]; exact sRank w1 B t h1 h2 HN.out HW.out h4 x HX.out
    have HRY : Hid (∀ w1 : World, WiIn w1 B t → B ≤ w1.heap.size → Calls Try.prog 39 #[t.val, .int .i64 y] w1 fun e w' => e = .returned (.int .i64 ry) ∧ Below w1.heap.size w1 w') := Lib.hid fun w1 h1 h2 => by
      rw [hry]; exact sRank w1 B t h1 h2 HN.out HW.out h4 y HY.out
    clear hrx hry
    obtain ⟨k, f, v, LA, Ln, Lc, ls, PA, Pn, Pc, ps⟩ := t
    unfold Wi.val at HRX HRY ⊢
    simp only [Wi.dat] at HC ⊢
    have h4' : (k == 4) = false := by simpa using h4
    clear h4 HW HN
    have HBX := Lib.hid bx
    have HBY := Lib.hid by'
    obtain ⟨b1, b2⟩ := bx
    obtain ⟨b3, b4⟩ := by'
    go_enter Try.func35, Try.ntmps35
    go_wp2_with fail
    refine (HRX.out _ (HI.out.below (HB1.out _)) (by simp; omega)).mono ?_
    rintro e w1 ⟨rfl, hb1⟩
    obtain ⟨c0, c1, c2, c3, c4, hg⟩ := box5 hb1
    have HBB := Lib.hid (And.intro ((HW1.out _).trans (hb1.mono (by simp))) ((HB1.out _).trans (hb1.mono (by simp; omega))))
    clear hb1
    go_wp2_with fail
    refine (HRY.out _ (HI.out.below HBB.out.2) (by omega)).mono ?_
    rintro e w2 ⟨rfl, hb2⟩
    have HBC := Lib.hid (HBB.out.1.trans (hb2.mono HBB.out.1.size))
    clear hb2 c0 c1 c2 c3 c4
    by_cases hlt : rx < ry
    · go_wp2
      go_ret
      exact ⟨congrArg (fun x => Ending.returned (.int .i64 x)) (HC.out.trans (by rw [if_pos (by omega)])).symm, HBC.out⟩
    · by_cases hgt : ry < rx
      · go_wp2
        go_ret
        exact ⟨congrArg (fun x => Ending.returned (.int .i64 x)) (HC.out.trans (by rw [if_neg (by omega), if_pos (by omega)])).symm, HBC.out⟩
      · go_wp2
        go_ret
        exact ⟨congrArg (fun x => Ending.returned (.int .i64 x)) (HC.out.trans (by rw [if_neg (by omega), if_neg (by omega)])).symm, HBC.out⟩
end Go.Proofs.Ytalgfiefadfmnaa.num
namespace Go.Proofs.Ytalgfiefadfmnaa.num
open Go.RowKit
set_option linter.unusedVariables false

/-- What RankOfValue answers. -/
def rankV (d : WD) (q : Bool) (x : Int) : Int := if q then rankW d x else 0
/-- What CompareValues answers. -/
def cmpV (d : WD) (q : Bool) (x y : Int) : Int := if q then cmpW d x y else 2

set_option maxRecDepth 20000 in
theorem sRankOf (w : World) (B : Nat) (t : Wi) (hi : WiIn w B t) (hB : B ≤ w.heap.size) (hn : t.Short) (x : Int) (q : Bool) (hq : q = true ↔ IsW t.dat ∧ t.kind ≠ 4 ∧ InR x) :
    Calls Try.prog 19 #[t.val, .int .i64 x] w fun e w' => e = .returned (.tuple #[.int .i64 (rankV t.dat q x), .bool q]) ∧ Below w.heap.size w w' := by
  have HI := Lib.hid hi
  have HN := Lib.hid hn
  have HQ := Lib.hid hq
  have HB1 : Hid (∀ o : Obj, Below B w (w.alloc o)) := Lib.hid fun o => (Below.refl B w).alloc hB _
  have HW1 : Hid (∀ o : Obj, Below w.heap.size w (w.alloc o)) := Lib.hid fun o => (Below.refl _ w).alloc (Nat.le_refl _) _
  obtain ⟨qw, hqw⟩ := bool_of (IsW t.dat)
  obtain ⟨qx, hqx⟩ := bool_of (0 ≤ x ∧ x ≤ 9)
  have HS : Hid (∀ w1 : World, WiIn w1 B t → B ≤ w1.heap.size → Calls Try.prog 15 #[t.val] w1 fun e w' => e = .returned (.bool qw) ∧ Below w1.heap.size w1 w') := Lib.hid fun w1 h1 h2 => sIsWish w1 B t h1 h2 hn qw hqw
  have HR : Hid (∀ w1 : World, WiIn w1 B t → B ≤ w1.heap.size → q = true → Calls Try.prog 39 #[t.val, .int .i64 x] w1 fun e w' => e = .returned (.int .i64 (rankV t.dat q x)) ∧ Below w1.heap.size w1 w') := Lib.hid fun w1 h1 h2 h => by
    have h0 := hq.1 h
    subst h
    exact sRank w1 B t h1 h2 hn h0.1 h0.2.1 x h0.2.2
  have HQW := Lib.hid hqw
  have HQX := Lib.hid hqx
  have HV : Hid (q = false → rankV t.dat q x = 0) := Lib.hid fun h => by subst h; rfl
  have hno : (qw = false ∨ t.kind = 4 ∨ qx = false) → q = false := fun h => by
    cases q
    · rfl
    · obtain ⟨h1, h2, h3⟩ := HQ.out.1 rfl
      rcases h with h | h | h
      · rw [HQW.out.2 h1] at h; cases h
      · exact absurd h h2
      · rw [HQX.out.2 h3] at h; cases h
  have hyes : qw = true → t.kind ≠ 4 → qx = true → q = true := fun h1 h2 h3 => HQ.out.2 ⟨HQW.out.1 h1, h2, HQX.out.1 h3⟩
  have HNo := Lib.hid hno
  have HYes := Lib.hid hyes
  clear hi hn hq hqw hqx hno hyes HQ HQW
  generalize rankV t.dat q x = z at *
  obtain ⟨k, f, v, LA, Ln, Lc, ls, PA, Pn, Pc, ps⟩ := t
  unfold Wi.val at HS HR ⊢
  simp only [] at HNo HYes
  go_enter Try.func19, Try.ntmps19
  go_wp2_with fail
  refine (HS.out _ (HI.out.below (HB1.out _)) (by simp; omega)).mono ?_
  rintro e w1 ⟨rfl, hb1⟩
  obtain ⟨c0, c1, c2, c3, c4, hg⟩ := box5 hb1
  have HBB := Lib.hid (And.intro ((HW1.out _).trans (hb1.mono (by simp))) ((HB1.out _).trans (hb1.mono (by simp; omega))))
  clear hb1
  cases qw
  · obtain rfl := HNo.out (.inl rfl)
    obtain rfl := HV.out rfl
    go_wp2
    go_ret2
    exact ⟨rfl, HBB.out.1⟩
  · by_cases h4 : k = 4
    · subst h4
      obtain rfl := HNo.out (.inr (.inl rfl))
      obtain rfl := HV.out rfl
      go_wp2
      go_ret2
      exact ⟨rfl, HBB.out.1⟩
    · have h4' : (k == 4) = false := by simpa using h4
      have H4 := Lib.hid h4
      clear h4
      cases qx
      · obtain rfl := HNo.out (.inr (.inr rfl))
        obtain rfl := HV.out rfl
        go_wp2_with fail
        refine (in_of x 0 9 false HQX.out _).mono ?_
        rintro e w2 ⟨rfl, rfl⟩
        go_wp2
        go_ret2
        exact ⟨rfl, HBB.out.1⟩
      · obtain rfl := HYes.out rfl H4.out rfl
        have HX := Lib.hid (HQX.out.1 rfl)
        go_wp2_with fail
        refine (in_of x 0 9 true ⟨fun _ => HX.out, fun _ => rfl⟩ _).mono ?_
        rintro e w2 ⟨rfl, rfl⟩
        go_wp2_with fail
        refine (HR.out _ (HI.out.below HBB.out.2) (by omega) (by first | rfl | trivial)).mono ?_
        rintro e w2 ⟨rfl, hb2⟩
        have HBC := Lib.hid (HBB.out.1.trans (hb2.mono HBB.out.1.size))
        clear hb2 c0 c1 c2 c3 c4
        go_wp2
        go_ret2
        exact ⟨rfl, HBC.out⟩

set_option maxRecDepth 20000 in
theorem sCmpVals (w : World) (B : Nat) (t : Wi) (hi : WiIn w B t) (hB : B ≤ w.heap.size) (hn : t.Short) (x y : Int) (q : Bool) (hq : q = true ↔ IsW t.dat ∧ InR x ∧ InR y) :
    Calls Try.prog 13 #[t.val, .int .i64 x, .int .i64 y] w fun e w' => e = .returned (.int .i64 (cmpV t.dat q x y)) ∧ Below w.heap.size w w' := by
  have HI := Lib.hid hi
  have HN := Lib.hid hn
  have HQ := Lib.hid hq
  have HB1 : Hid (∀ o : Obj, Below B w (w.alloc o)) := Lib.hid fun o => (Below.refl B w).alloc hB _
  have HW1 : Hid (∀ o : Obj, Below w.heap.size w (w.alloc o)) := Lib.hid fun o => (Below.refl _ w).alloc (Nat.le_refl _) _
  obtain ⟨qw, hqw⟩ := bool_of (IsW t.dat)
  obtain ⟨qx, hqx⟩ := bool_of (0 ≤ x ∧ x ≤ 9)
  obtain ⟨qy, hqy⟩ := bool_of (0 ≤ y ∧ y ≤ 9)
  have HS : Hid (∀ w1 : World, WiIn w1 B t → B ≤ w1.heap.size → Calls Try.prog 15 #[t.val] w1 fun e w' => e = .returned (.bool qw) ∧ Below w1.heap.size w1 w') := Lib.hid fun w1 h1 h2 => sIsWish w1 B t h1 h2 hn qw hqw
  have HR : Hid (∀ w1 : World, WiIn w1 B t → B ≤ w1.heap.size → q = true → Calls Try.prog 35 #[t.val, .int .i64 x, .int .i64 y] w1 fun e w' => e = .returned (.int .i64 (cmpV t.dat q x y)) ∧ Below w1.heap.size w1 w') := Lib.hid fun w1 h1 h2 h => by
    have h0 := hq.1 h
    subst h
    exact sCmp w1 B t h1 h2 hn h0.1 x y h0.2.1 h0.2.2
  have HQW := Lib.hid hqw
  have HQX := Lib.hid hqx
  have HQY := Lib.hid hqy
  have HV : Hid (q = false → cmpV t.dat q x y = 2) := Lib.hid fun h => by subst h; rfl
  have hno : (qw = false ∨ qx = false ∨ qy = false) → q = false := fun h => by
    cases q
    · rfl
    · obtain ⟨h1, h2, h3⟩ := HQ.out.1 rfl
      rcases h with h | h | h
      · rw [HQW.out.2 h1] at h; cases h
      · rw [HQX.out.2 h2] at h; cases h
      · rw [HQY.out.2 h3] at h; cases h
  have hyes : qw = true → qx = true → qy = true → q = true := fun h1 h2 h3 => HQ.out.2 ⟨HQW.out.1 h1, HQX.out.1 h2, HQY.out.1 h3⟩
  have HNo := Lib.hid hno
  have HYes := Lib.hid hyes
  clear hi hn hq hqw hqx hqy hno hyes HQ HQW
  generalize cmpV t.dat q x y = z at *
  obtain ⟨k, f, v, LA, Ln, Lc, ls, PA, Pn, Pc, ps⟩ := t
  unfold Wi.val at HS HR ⊢
  go_enter Try.func13, Try.ntmps13
  go_wp2_with fail
  refine (HS.out _ (HI.out.below (HB1.out _)) (by simp; omega)).mono ?_
  rintro e w1 ⟨rfl, hb1⟩
  obtain ⟨c0, c1, c2, c3, c4, hg⟩ := box5 hb1
  have HBB := Lib.hid (And.intro ((HW1.out _).trans (hb1.mono (by simp))) ((HB1.out _).trans (hb1.mono (by simp; omega))))
  clear hb1
  cases qw
  · obtain rfl := HNo.out (.inl rfl)
    obtain rfl := HV.out rfl
    go_wp2
    go_ret
    exact ⟨rfl, HBB.out.1⟩
  · cases qx
    · obtain rfl := HNo.out (.inr (.inl rfl))
      obtain rfl := HV.out rfl
      go_wp2_with fail
      refine (in_of x 0 9 false HQX.out _).mono ?_
      rintro e w2 ⟨rfl, rfl⟩
      go_wp2
      go_ret
      exact ⟨rfl, HBB.out.1⟩
    · have HX := Lib.hid (HQX.out.1 rfl)
      cases qy
      · obtain rfl := HNo.out (.inr (.inr rfl))
        obtain rfl := HV.out rfl
        go_wp2_with fail
        refine (in_of x 0 9 true ⟨fun _ => HX.out, fun _ => rfl⟩ _).mono ?_
        rintro e w2 ⟨rfl, rfl⟩
        go_wp2_with fail
        refine (in_of y 0 9 false HQY.out _).mono ?_
        rintro e w2 ⟨rfl, rfl⟩
        go_wp2
        go_ret
        exact ⟨rfl, HBB.out.1⟩
      · obtain rfl := HYes.out rfl rfl rfl
        have HY := Lib.hid (HQY.out.1 rfl)
        go_wp2_with fail
        refine (in_of x 0 9 true ⟨fun _ => HX.out, fun _ => rfl⟩ _).mono ?_
        rintro e w2 ⟨rfl, rfl⟩
        go_wp2_with fail
        refine (in_of y 0 9 true ⟨fun _ => HY.out, fun _ => rfl⟩ _).mono ?_
        rintro e w2 ⟨rfl, rfl⟩
        go_wp2_with fail
        refine (HR.out _ (HI.out.below HBB.out.2) (by omega) (by first | rfl | trivial)).mono ?_
        rintro e w2 ⟨rfl, hb2⟩
        have HBC := Lib.hid (HBB.out.1.trans (hb2.mono HBB.out.1.size))
        clear hb2 c0 c1 c2 c3 c4
        go_wp2
        go_ret
        exact ⟨rfl, HBC.out⟩

/-- The name of a code. -/
def nameC (c : Int) : ByteArray := if c = -1 then ⟨#[119, 111, 114, 115, 101]⟩ else if c = 0 then ⟨#[101, 113, 117, 97, 108]⟩ else if c = 1 then ⟨#[98, 101, 116, 116, 101, 114]⟩ else if c = 2 then ⟨#[117, 110, 114, 101, 108, 97, 116, 101, 100]⟩ else ⟨#[]⟩
theorem sCode (c : Int) (w : World) :
    Calls Try.prog 28 #[.int .i64 c] w fun e w' => e = .returned (.string (nameC c)) ∧ w = w' := by
  by_cases h0 : c = -1
  · subst h0
    go_enter Try.func28, Try.ntmps28
    go_wp2
    go_ret
    exact ⟨rfl, rfl⟩
  · have g0 : (c == -1) = false := by simpa using h0
    by_cases h1 : c = 0
    · subst h1
      clear h0
      go_enter Try.func28, Try.ntmps28
      go_wp2
      go_ret
      exact ⟨rfl, rfl⟩
    · have g1 : (c == 0) = false := by simpa using h1
      by_cases h2 : c = 1
      · subst h2
        clear h0 h1
        go_enter Try.func28, Try.ntmps28
        go_wp2
        go_ret
        exact ⟨rfl, rfl⟩
      · have g2 : (c == 1) = false := by simpa using h2
        by_cases h3 : c = 2
        · subst h3
          clear h0 h1 h2
          go_enter Try.func28, Try.ntmps28
          go_wp2
          go_ret
          exact ⟨rfl, rfl⟩
        · have g3 : (c == 2) = false := by simpa using h3
          have he : nameC c = ⟨#[]⟩ := by unfold nameC; rw [if_neg h0, if_neg h1, if_neg h2, if_neg h3]
          rw [he]
          clear h0 h1 h2 h3 he
          go_enter Try.func28, Try.ntmps28
          go_wp2
          go_ret
          exact ⟨rfl, rfl⟩
theorem iCode (c : Int) (w : World) :
    Calls Try.prog 16 #[.int .i64 c] w fun e w' => e = .returned (.string (nameC c)) ∧ w = w' := by
  by_cases h0 : c = -1
  · subst h0
    go_enter Try.func16, Try.ntmps16
    go_wp2
    go_ret
    exact ⟨rfl, rfl⟩
  · have g0 : (c == -1) = false := by simpa using h0
    by_cases h1 : c = 0
    · subst h1
      clear h0
      go_enter Try.func16, Try.ntmps16
      go_wp2
      go_ret
      exact ⟨rfl, rfl⟩
    · have g1 : (c == 0) = false := by simpa using h1
      by_cases h2 : c = 1
      · subst h2
        clear h0 h1
        go_enter Try.func16, Try.ntmps16
        go_wp2
        go_ret
        exact ⟨rfl, rfl⟩
      · have g2 : (c == 1) = false := by simpa using h2
        by_cases h3 : c = 2
        · subst h3
          clear h0 h1 h2
          go_enter Try.func16, Try.ntmps16
          go_wp2
          go_ret
          exact ⟨rfl, rfl⟩
        · have g3 : (c == 2) = false := by simpa using h3
          have he : nameC c = ⟨#[]⟩ := by unfold nameC; rw [if_neg h0, if_neg h1, if_neg h2, if_neg h3]
          rw [he]
          clear h0 h1 h2 h3 he
          go_enter Try.func16, Try.ntmps16
          go_wp2
          go_ret
          exact ⟨rfl, rfl⟩
end Go.Proofs.Ytalgfiefadfmnaa.num
namespace Go.Proofs.Ytalgfiefadfmnaa.num
open Go.RowKit Go.Maps
set_option linter.unusedVariables false

def kI (v : Int) : Lit := .int .i64 v
theorem kI_inj {u v : Int} (h : kI u = kI v) : u = v := by unfold kI at h; injection h
theorem kI_key (v : Int) : WideAt.IsKeyLit (kI v) := trivial
theorem kI_same (u v : Int) : (kI u).sameKey (kI v) = (u == v) := by
  by_cases h : u = v
  · subst h
    rw [WideAt.sameKey_self (kI_key u)]
    simp
  · rw [sameKey_ne (fun e => h (kI_inj e))]
    simpa using h
/-- D's elements, key by key. -/
def Reads (D : DataW Unit) (f : Int → Option (DataW Unit)) : Prop := ∀ v : Int, (Lit.int .i64 v).wf = true → ∀ z, D.atKey (kI v) z = (f v).getD z
theorem Reads.has {D : DataW Unit} {f : Int → Option (DataW Unit)} (h : Reads D f) {v : Int} (hv : (Lit.int .i64 v).wf = true) : Maps.has D (kI v) = (f v).isSome := by
  cases e : f v with
  | none => exact has_false_of_atKey fun z => by rw [h v hv z, e]; rfl
  | some d => exact has_true_of_atKey fun z => by rw [h v hv z, e]; rfl
theorem Reads.of_at {D : DataW Unit} {f : Int → Option (DataW Unit)} (h : Reads D f) {v : Int} (hv : (Lit.int .i64 v).wf = true) {d : DataW Unit} (hat : ∀ z, D.atKey (kI v) z = d) : f v = some d := by
  cases e : f v with
  | none =>
    have h1 := (h v hv .nil).symm.trans (hat .nil)
    have h2 := (h v hv (.lit (.bool true))).symm.trans (hat _)
    rw [e] at h1 h2
    simp at h1 h2
    rw [← h1] at h2; cases h2
  | some d' =>
    have h1 := (h v hv .nil).symm.trans (hat .nil)
    rw [e] at h1
    simp at h1
    rw [h1]
theorem Reads.congr {D : DataW Unit} {f g : Int → Option (DataW Unit)} (h : Reads D f) (e : ∀ v, (Lit.int .i64 v).wf = true → f v = g v) : Reads D g := fun v hv z => by rw [← e v hv]; exact h v hv z
theorem Reads.put {D : DataW Unit} {f : Int → Option (DataW Unit)} (h : Reads D f) (hm : IsMap D) (v : Int) (d : DataW Unit) : Reads (D.put (kI v) d) (fun x => if x = v then some d else f x) := fun x hx z => by
  by_cases e : x = v
  · subst e
    rw [atKey_put_same hm (kI_key _)]
    show _ = (if x = x then some d else f x).getD z
    rw [if_pos rfl]; rfl
  · rw [atKey_put_other (fun e' => e (kI_inj e'))]
    show _ = (if x = v then some d else f x).getD z
    rw [if_neg e]; exact h x hx z
theorem Reads.del {D : DataW Unit} {f : Int → Option (DataW Unit)} (h : Reads D f) (v : Int) : Reads (D.del (kI v)) (fun x => if x = v then none else f x) := fun x hx z => by
  by_cases e : x = v
  · subst e
    rw [atKey_del_same]
    show _ = (if x = x then none else f x).getD z
    rw [if_pos rfl]; rfl
  · rw [atKey_del_other (fun e' => e (kI_inj e'))]
    show _ = (if x = v then none else f x).getD z
    rw [if_neg e]; exact h x hx z

section
variable {P : Program} {k : TypeId} {R : Value → Option (DataW Unit × List MemPlace)} {w w' : World} {b n : Nat} {f : Int → Option (DataW Unit)}
/-- Block b is a map of at most n entries that holds f. -/
def MapAt (P : Program) (k : TypeId) (R : Value → Option (DataW Unit × List MemPlace)) (w : World) (b n : Nat) (f : Int → Option (DataW Unit)) : Prop := ∃ D, w.ownsMap P k R b n D ∧ Reads D f
theorem MapAt.lt (h : MapAt P k R w b n f) : b < w.heap.size := by obtain ⟨D, h, _⟩ := h; exact h.lt
theorem MapAt.mono (h : MapAt P k R w b n f) {m : Nat} (hm : n ≤ m) : MapAt P k R w b m f := by obtain ⟨D, h, r⟩ := h; exact ⟨D, h.mono hm, r⟩
theorem MapAt.block (h : MapAt P k R w b n f) (hb : w'.heap[b]? = w.heap[b]?) : MapAt P k R w' b n f := by
  obtain ⟨D, ⟨es, clock, h1, h2⟩, r⟩ := h
  exact ⟨D, ⟨es, clock, hb.trans h1, h2⟩, r⟩
theorem MapAt.kept {row : Option Nat} (h : MapAt P k R w b n f) (hg : w.grownBy w' row) (hne : some b ≠ row) : MapAt P k R w' b n f := h.block (hg.block b h.lt hne)
theorem MapAt.alloc (h : MapAt P k R w b n f) (o : Obj) : MapAt P k R (w.alloc o) b n f := h.block (Below.heap_alloc _ _ _ h.lt)
theorem MapAt.congr (h : MapAt P k R w b n f) {g : Int → Option (DataW Unit)} (e : ∀ v, (Lit.int .i64 v).wf = true → f v = g v) : MapAt P k R w b n g := by obtain ⟨D, h, r⟩ := h; exact ⟨D, h, r.congr e⟩
theorem MapAt.made (w : World) : MapAt P k R (w.alloc (.map #[] 0)) w.heap.size 0 (fun _ => none) := ⟨.map [], World.ownsMap_made w P k R, fun _ _ _ => rfl⟩
/-- m[v]. -/
theorem MapAt.look {t e : TypeId} (h : MapAt P k R w b n f) (K : Keyed P k) (hk : P.underlying k = some (.int .i64)) (ht : P.underlying t = some (.map k e)) {z : Value} (hz : (zeroValue e).run P w = .ok z w) {zd : DataW Unit} {zp : List MemPlace} (hzd : R z = some (zd, zp)) {v : Int} (hv : (Lit.int .i64 v).wf = true) :
    ∃ val ps, (Instr.lookup t (.map (some b)) (.int .i64 v) false).run P w = .ok val w ∧ R val = some ((f v).getD zd, ps) := by
  obtain ⟨D, h, r⟩ := h
  obtain ⟨val, ps, h1, h2⟩ := h.lookup K ht hz hzd (kl := kI v) (keyOf_int_mk hk hv)
  exact ⟨val, ps, h1, by rw [h2, r v hv]⟩
/-- len(m) is 0 just where nothing is held. -/
theorem MapAt.len {t e : TypeId} (h : MapAt P k R w b n f) (hk : P.underlying k = some (.int .i64)) (K : Keyed P k) (ht : P.underlying t = some (.map k e)) (ty : TypeId) :
    ∃ m : Nat, (Builtin.len_ #[t] ty #[.map (some b)]).run P w = .ok (.int .i64 m) w ∧ (m = 0 ↔ ∀ v : Int, (Lit.int .i64 v).wf = true → f v = none) := by
  obtain ⟨D, h, r⟩ := h
  refine ⟨Maps.size D, h.len ht ty, ?_⟩
  obtain ⟨es, clock, hb, F, hs, rfl⟩ := h
  constructor
  · intro h0 v hv
    have hn := r.has hv
    have he : (es.toList.map (WideElems.rg P k R)).foldr DataW.insert [] = [] := List.eq_nil_of_length_eq_zero h0
    rw [he] at hn
    cases e : f v
    · rfl
    · rw [e] at hn; cases hn
  · intro hall
    refine Classical.byContradiction fun hne => ?_
    have : es.toList ≠ [] := fun e => hne (by rw [e]; rfl)
    obtain ⟨x, l, hx⟩ := List.exists_cons_of_ne_nil this
    have hxm : x ∈ es.toList := by rw [hx]; simp
    obtain ⟨y, hy⟩ := F.reads x hxm
    have hkey := WideElems.rd_key hy
    obtain ⟨v, _, hkl, hv⟩ := keyOf_int_inv hk hkey
    have h1 := r.has hv
    rw [hall v hv] at h1
    have h2 : Maps.has (.map ((es.toList.map (WideElems.rg P k R)).foldr DataW.insert [])) (kI v) = true := by
      refine List.any_eq_true.2 ⟨WideElems.rg P k R x, mem_sorted.2 (List.mem_map.2 ⟨x, hxm, rfl⟩), ?_⟩
      rw [WideElems.rg_of hy, hkl]
      exact WideAt.sameKey_self (kI_key v)
    rw [h2] at h1
    cases h1
end

section
variable {P : Program} {k : TypeId} {R : Value → Option (DataW Unit × List MemPlace)} (w : World) {b n : Nat} {f : Int → Option (DataW Unit)} {ops : Array Oper} {rest : List Oper} {o : Oper} {a : Act} {Q : Exit → Act → World → Prop}
/-- 'm[v] = x'. -/
theorem wp_put (hg : o.guard = none) (m x y : Operand) (t : TypeId) (hop : o.op = Op.mapUpdate t m x y) {e : TypeId} (K : Keyed P k) (hk : P.underlying k = some (.int .i64)) (ht : P.underlying t = some (.map k e))
    (hm : a.eval m = .map (some b)) (h : MapAt P k R w b n f) (hn : n < maxLen) (v : Int) (hx : a.eval x = .int .i64 v) (hv : (Lit.int .i64 v).wf = true) (val : Value) (hy : a.eval y = val) (d : DataW Unit) (ps : List MemPlace) (hval : R val = some (d, ps))
    (hK : ∀ w', MapAt P k R w' b (n + 1) (fun x => if x = v then some d else f x) → w.grownBy w' (some b) → w'.heap.size = w.heap.size → wpList P ops Q rest (a.put o.dst undef) w') :
    wpList P ops Q (o :: rest) a w := by
  obtain ⟨D, h, r⟩ := h
  refine wpList_mapUpdate_in w hg m x y t hop k e K ht R b n D hm h hn _ val (kI v) hx hy (keyOf_int_mk hk hv) d ps hval fun w' h' ht' => ?_
  refine hK w' ⟨_, h', r.put h.isMap v d⟩ ht'.grown ?_
  obtain ⟨_, _, _, _, _, rfl⟩ := ht'
  simp [Go.ChangeMaps.setBlock]
/-- 'delete(m, v)'. -/
theorem wp_del (hg : o.guard = none) (m x : Operand) (t : TypeId) (hop : o.op = Op.call { callee := Callee.builtin Builtin.delete, args := #[m, x], argTypes := #[t, k] }) {e : TypeId} (K : Keyed P k) (hk : P.underlying k = some (.int .i64)) (ht : P.underlying t = some (.map k e))
    (hm : a.eval m = .map (some b)) (h : MapAt P k R w b n f) (v : Int) (hx : a.eval x = .int .i64 v) (hv : (Lit.int .i64 v).wf = true)
    (hK : ∀ w', MapAt P k R w' b n (fun x => if x = v then none else f x) → w.grownBy w' (some b) → w'.heap.size = w.heap.size → wpList P ops Q rest (a.put o.dst (.tuple #[])) w') :
    wpList P ops Q (o :: rest) a w := by
  obtain ⟨D, h, r⟩ := h
  refine wpList_delete_own w hg m x t k hop e K ht R b n D hm h _ (kI v) hx (keyOf_int_mk hk hv) fun w' h' ht' => ?_
  refine hK w' ⟨_, h', r.del v⟩ ht'.grown ?_
  obtain ⟨_, _, _, _, _, rfl⟩ := ht'
  simp [Go.ChangeMaps.setBlock]

/-- A range over the map is under way: what is still to come, by key. -/
def RangeAt (P : Program) (k : TypeId) (R : Value → Option (DataW Unit × List MemPlace)) (w : World) (b r n : Nat) (f : Int → Option (DataW Unit)) (L : Int → Bool) (cnt : Nat) : Prop :=
  ∃ D left, w.ranges P k R b r n D left cnt ∧ Reads D f ∧ ∀ v, L v = left (kI v)
/-- 'range m'. -/
theorem wp_range (hg : o.guard = none) (m : Operand) (t : TypeId) (hop : o.op = Op.range t m) {e : TypeId} (K : Keyed P k) (ht : P.underlying t = some (.map k e))
    (hm : a.eval m = .map (some b)) (h : MapAt P k R w b n f)
    (hK : ∀ w' L cnt, RangeAt P k R w' b w.heap.size n f L cnt → (∀ v, (Lit.int .i64 v).wf = true → L v = (f v).isSome) → cnt ≤ n → w.grownBy w' none → w'.heap.size = w.heap.size + 1 → wpList P ops Q rest (a.put o.dst (.pointer (some ⟨w.heap.size, 0, none⟩))) w') :
    wpList P ops Q (o :: rest) a w := by
  obtain ⟨D, h, r⟩ := h
  refine wpList_range_own w hg m t hop k e K ht R b n D hm h fun w' h1 h2 h3 => ?_
  exact hK w' (fun v => Maps.has D (kI v)) _ ⟨D, _, h1, r, fun _ => rfl⟩ (fun v hv => r.has hv) h.size_le h2 h3
/-- The step. -/
theorem wp_next {β : Type} {r : Nat} {L : Int → Bool} {cnt : Nat} (hg : o.guard = none) (it : Operand) (hop : o.op = Op.next it false) (K : Keyed P k) (hk : P.underlying k = some (.int .i64)) (mkV : β → Value) (invV : ∀ v y, R v = some y → ∃ c, v = mkV c)
    (hit : a.eval it = .pointer (some ⟨r, 0, none⟩)) (h : RangeAt P k R w b r n f L cnt)
    (hDone : (∀ v, L v = false) → MapAt P k R w b n f → wpList P ops Q rest (a.put o.dst (.tuple #[.bool false])) w)
    (hMore : ∀ (x : Int) (c : β) (w' : World) (cnt' : Nat), (Lit.int .i64 x).wf = true → L x = true → (∃ d ps, R (mkV c) = some (d, ps) ∧ f x = some d) → RangeAt P k R w' b r n f (fun v => L v && !(v == x)) cnt' → cnt' < cnt →
      w.grownBy w' (some r) → w'.heap.size = w.heap.size → (Instr.entry (.pointer (some ⟨r, 0, none⟩))).run P w' = .ok (.tuple #[.int .i64 x, mkV c]) w' → wpList P ops Q rest (a.put o.dst (.tuple #[.bool true, .int .i64 x, mkV c])) w') :
    wpList P ops Q (o :: rest) a w := by
  obtain ⟨D, left, h, rd, hL⟩ := h
  refine wpList_next_ranges w hg it hop k K R (Value.int .i64) mkV (fun key kl hkey => by obtain ⟨x, rfl, _⟩ := keyOf_int_inv hk hkey; exact ⟨x, rfl⟩) invV b r n D left cnt hit h
    (fun _ hl => hDone (fun v => by rw [hL, hl]) ⟨D, h.owns, rd⟩) (fun x c kl y w' cnt' hkey hlk hv hat hrg hlt hgr hsz hen => ?_)
  obtain ⟨x', ex, rfl, hwx⟩ := keyOf_int_inv hk hkey
  cases ex
  exact hMore x c w' cnt' hwx (by rw [hL]; exact hlk) ⟨y.1, y.2, hv, rd.of_at hwx hat⟩ ⟨D, _, hrg, rd, fun v => by show (L v && !(v == x)) = (left (kI v) && !(kI v).sameKey (kI x)); rw [hL, kI_same]⟩ hlt hgr hsz hen
end
theorem RangeAt.kept {P : Program} {k : TypeId} {R : Value → Option (DataW Unit × List MemPlace)} {w w' : World} {b r n : Nat} {f : Int → Option (DataW Unit)} {L : Int → Bool} {cnt : Nat} {row : Option Nat}
    (h : RangeAt P k R w b r n f L cnt) (hg : w.grownBy w' row) (h1 : some b ≠ row) (h2 : some r ≠ row) : RangeAt P k R w' b r n f L cnt := by
  obtain ⟨D, left, h, rest⟩ := h
  exact ⟨D, left, h.kept hg h1 h2, rest⟩
theorem RangeAt.owns {P : Program} {k : TypeId} {R : Value → Option (DataW Unit × List MemPlace)} {w : World} {b r n : Nat} {f : Int → Option (DataW Unit)} {L : Int → Bool} {cnt : Nat} (h : RangeAt P k R w b r n f L cnt) : MapAt P k R w b n f := by
  obtain ⟨D, left, h, rd, _⟩ := h
  exact ⟨D, h.owns, rd⟩
theorem RangeAt.left_eq {P : Program} {k : TypeId} {R : Value → Option (DataW Unit × List MemPlace)} {w : World} {b r n : Nat} {f : Int → Option (DataW Unit)} {L : Int → Bool} {cnt : Nat} (h : RangeAt P k R w b r n f L cnt) : w.rangeLeft b r = cnt := by
  obtain ⟨D, left, h, _⟩ := h
  exact h.left_eq
theorem RangeAt.lt {P : Program} {k : TypeId} {R : Value → Option (DataW Unit × List MemPlace)} {w : World} {b r n : Nat} {f : Int → Option (DataW Unit)} {L : Int → Bool} {cnt : Nat} (h : RangeAt P k R w b r n f L cnt) : r < w.heap.size := by
  obtain ⟨D, left, h, _⟩ := h
  exact h.lt
theorem RangeAt.ne {P : Program} {k : TypeId} {R : Value → Option (DataW Unit × List MemPlace)} {w : World} {b r n : Nat} {f : Int → Option (DataW Unit)} {L : Int → Bool} {cnt : Nat} (h : RangeAt P k R w b r n f L cnt) : r ≠ b := by
  obtain ⟨D, left, h, _⟩ := h
  exact h.ne
end Go.Proofs.Ytalgfiefadfmnaa.num
namespace Go.Proofs.Ytalgfiefadfmnaa.num
open Go.RowKit Go.Maps
set_option linter.unusedVariables false

theorem keyInt : Keyed Try.prog 3 := int_keyed Try.underlying3
def setElem (v : Value) : Option (DataW Unit × List MemPlace) := match v with
  | .bool x => some (.lit (.bool x), [])
  | _ => none
def refElem (v : Value) : Option (DataW Unit × List MemPlace) := match v with
  | .map none => some (.lit (.int .i64 (-1)), [])
  | .map (some b) => some (.lit (.int .i64 b), [])
  | _ => none
def refLit : Option Nat → DataW Unit
  | none => .lit (.int .i64 (-1))
  | some b => .lit (.int .i64 b)
theorem refElem_map (o : Option Nat) : refElem (.map o) = some (refLit o, []) := by cases o <;> rfl
theorem refLit_inj {o o' : Option Nat} (h : refLit o = refLit o') : o = o' := by
  cases o <;> cases o' <;> simp [refLit] at h ⊢ <;> omega
theorem setElem_inv (v : Value) (y : DataW Unit × List MemPlace) (h : setElem v = some y) : ∃ c : Bool, v = .bool c := by
  unfold setElem at h
  split at h
  · exact ⟨_, rfl⟩
  · cases h
theorem refElem_inv (v : Value) (y : DataW Unit × List MemPlace) (h : refElem v = some y) : ∃ c : Option Nat, v = .map c := by
  unfold refElem at h
  split at h
  · exact ⟨_, rfl⟩
  · exact ⟨_, rfl⟩
  · cases h

def bit (S : Int → Bool) (v : Int) : Option (DataW Unit) := if S v then some (.lit (.bool true)) else none
/-- Block b is a map[int]bool that holds just the values of S, each with true. -/
def SetAt (w : World) (b n : Nat) (S : Int → Bool) : Prop := MapAt Try.prog 3 setElem w b n (bit S)
/-- Block b is a map from values to sets: M v is the element at v. -/
def OutAt (w : World) (b n : Nat) (M : Int → Option (Option Nat)) : Prop := MapAt Try.prog 3 refElem w b n (fun v => (M v).map refLit)
theorem bit_congr {S S' : Int → Bool} {v : Int} (h : S v = S' v) : bit S v = bit S' v := by unfold bit; rw [h]
/-- The element at v, as a place; nil where there is none. -/
def elt (M : Int → Option (Option Nat)) (v : Int) : Option Nat := (M v).getD none
theorem SetAt.congr {w : World} {b n : Nat} {S S' : Int → Bool} (h : SetAt w b n S) (e : ∀ v, (Lit.int .i64 v).wf = true → S v = S' v) : SetAt w b n S' := MapAt.congr h fun v hv => by unfold bit; rw [e v hv]
theorem SetAt.made (w : World) : SetAt (w.alloc (.map #[] 0)) w.heap.size 0 (fun _ => false) := MapAt.made w
theorem OutAt.made (w : World) : OutAt (w.alloc (.map #[] 0)) w.heap.size 0 (fun _ => none) := MapAt.made w
theorem zero_bool (w : World) : (zeroValue 4).run Try.prog w = .ok (.bool false) w := by kernel_rfl
theorem zero_set (w : World) : (zeroValue 112).run Try.prog w = .ok (.map none) w := by kernel_rfl
/-- s[v]. -/
theorem SetAt.look {w : World} {b n : Nat} {S : Int → Bool} (h : SetAt w b n S) (v : Int) (hv : (Lit.int .i64 v).wf = true) : (Instr.lookup 112 (.map (some b)) (.int .i64 v) false).run Try.prog w = .ok (.bool (S v)) w := by
  obtain ⟨val, ps, h1, h2⟩ := MapAt.look h keyInt Try.underlying3 Try.underlying112 (zero_bool w) (zd := .lit (.bool false)) (zp := []) rfl hv
  obtain ⟨c, rfl⟩ := setElem_inv _ _ h2
  rw [h1]
  unfold bit setElem at h2
  cases e : S v <;> rw [e] at h2 <;> simp at h2 <;> rw [h2.1]
theorem nil_look (w : World) (v : Int) (hv : (Lit.int .i64 v).wf = true) : (Instr.lookup 112 (.map none) (.int .i64 v) false).run Try.prog w = .ok (.bool false) w :=
  Maps.look_nil false keyInt Try.underlying112 (zero_bool w) (keyOf_int_mk Try.underlying3 hv)
theorem OutAt.look {w : World} {b n : Nat} {M : Int → Option (Option Nat)} (h : OutAt w b n M) (v : Int) (hv : (Lit.int .i64 v).wf = true) : (Instr.lookup 87 (.map (some b)) (.int .i64 v) false).run Try.prog w = .ok (.map (elt M v)) w := by
  obtain ⟨val, ps, h1, h2⟩ := MapAt.look h keyInt Try.underlying3 Try.underlying87 (zero_set w) (zd := refLit none) (zp := []) rfl hv
  obtain ⟨c, rfl⟩ := refElem_inv _ _ h2
  rw [h1]
  rw [refElem_map] at h2
  have h3 := congrArg Prod.fst (Option.some.inj h2)
  unfold elt
  cases e : M v with
  | none => rw [e] at h3; exact congrArg (fun c => Result.ok (Value.map c) w) (refLit_inj h3)
  | some o => rw [e] at h3; exact congrArg (fun c => Result.ok (Value.map c) w) (refLit_inj h3)
theorem nil_out (w : World) (v : Int) (hv : (Lit.int .i64 v).wf = true) : (Instr.lookup 87 (.map none) (.int .i64 v) false).run Try.prog w = .ok (.map none) w :=
  Maps.look_nil false keyInt Try.underlying87 (zero_set w) (keyOf_int_mk Try.underlying3 hv)
/-- A set that may be nil. -/
def OptSet (w : World) (o : Option Nat) (n : Nat) (S : Int → Bool) : Prop := match o with
  | none => ∀ v, S v = false
  | some b => SetAt w b n S
theorem OptSet.kept {w w' : World} {o : Option Nat} {n : Nat} {S : Int → Bool} {row : Option Nat} (h : OptSet w o n S) (hg : w.grownBy w' row) (hne : ∀ b, o = some b → some b ≠ row) : OptSet w' o n S := by
  cases o with
  | none => exact h
  | some b => exact MapAt.kept h hg (hne b rfl)
theorem OptSet.look {w : World} {o : Option Nat} {n : Nat} {S : Int → Bool} (h : OptSet w o n S) (v : Int) (hv : (Lit.int .i64 v).wf = true) : (Instr.lookup 112 (.map o) (.int .i64 v) false).run Try.prog w = .ok (.bool (S v)) w := by
  cases o with
  | none => rw [nil_look w v hv, h v]
  | some b => exact SetAt.look h v hv

section
variable (w : World) {b n : Nat} {ops : Array Oper} {rest : List Oper} {o : Oper} {a : Act} {Q : Exit → Act → World → Prop}
/-- The step of a range over a set. -/
theorem wp_next_set {S : Int → Bool} {r : Nat} {L : Int → Bool} {cnt : Nat} (hg : o.guard = none) (it : Operand) (hop : o.op = Op.next it false)
    (hit : a.eval it = .pointer (some ⟨r, 0, none⟩)) (h : RangeAt Try.prog 3 setElem w b r n (bit S) L cnt)
    (hDone : (∀ v, L v = false) → wpList Try.prog ops Q rest (a.put o.dst (.tuple #[.bool false])) w)
    (hMore : ∀ (x : Int) (w' : World) (cnt' : Nat), (Lit.int .i64 x).wf = true → L x = true → S x = true → RangeAt Try.prog 3 setElem w' b r n (bit S) (fun v => L v && !(v == x)) cnt' → cnt' < cnt →
      w.grownBy w' (some r) → w'.heap.size = w.heap.size → (Instr.entry (.pointer (some ⟨r, 0, none⟩))).run Try.prog w' = .ok (.tuple #[.int .i64 x, .bool true]) w' → wpList Try.prog ops Q rest (a.put o.dst (.tuple #[.bool true, .int .i64 x, .bool true])) w') :
    wpList Try.prog ops Q (o :: rest) a w :=
  wp_next w hg it hop keyInt Try.underlying3 Value.bool setElem_inv hit h (fun h1 _ => hDone h1) (fun x c w' cnt' h1 h2 h3 h4 h5 h6 h7 h8 => by
    obtain ⟨d, ps, e1, e2⟩ := h3
    unfold bit at e2
    cases e : S x
    · rw [e] at e2; cases e2
    · rw [e] at e2
      cases e2
      cases c
      · cases e1
      · exact hMore x w' cnt' h1 h2 e h4 h5 h6 h7 h8)
/-- An entry of a map of sets has come: at x, the element o. -/
structure Came (w w' : World) (b r n : Nat) (M : Int → Option (Option Nat)) (L : Int → Bool) (cnt cnt' : Nat) (x : Int) (o : Option Nat) : Prop where
  wf : (Lit.int .i64 x).wf = true
  left : L x = true
  elem : M x = some o
  range : RangeAt Try.prog 3 refElem w' b r n (fun v => (M v).map refLit) (fun v => L v && !(v == x)) cnt'
  lt : cnt' < cnt
  grown : w.grownBy w' (some r)
  size : w'.heap.size = w.heap.size
  entry : (Instr.entry (.pointer (some ⟨r, 0, none⟩))).run Try.prog w' = .ok (.tuple #[.int .i64 x, .map o]) w'
/-- The step of a range over a map of sets, all of them there. -/
theorem wp_next_ref {M : Int → Option Nat} {r : Nat} {L : Int → Bool} {cnt : Nat} (hg : o.guard = none) (it : Operand) (hop : o.op = Op.next it false)
    (hit : a.eval it = .pointer (some ⟨r, 0, none⟩)) (h : RangeAt Try.prog 3 refElem w b r n (fun v => (M v).map some |>.map refLit) L cnt)
    (hDone : (∀ v, L v = false) → wpList Try.prog ops Q rest (a.put o.dst (.tuple #[.bool false])) w)
    (hMore : ∀ (x : Int) (z : Nat) (w' : World) (cnt' : Nat), Came w w' b r n (fun v => (M v).map some) L cnt cnt' x (some z) → wpList Try.prog ops Q rest (a.put o.dst (.tuple #[.bool true, .int .i64 x, .map (some z)])) w') :
    wpList Try.prog ops Q (o :: rest) a w :=
  wp_next w hg it hop keyInt Try.underlying3 Value.map refElem_inv hit h (fun h1 _ => hDone h1) (fun x c w' cnt' h1 h2 h3 h4 h5 h6 h7 h8 => by
    obtain ⟨d, ps, e1, e2⟩ := h3
    rw [refElem_map] at e1
    cases e1
    cases e : M x with
    | none => simp [e] at e2
    | some z =>
      simp only [e, Option.map_some, Option.some.injEq] at e2
      obtain rfl := refLit_inj e2
      exact hMore x z w' cnt' ⟨h1, h2, by simp [e], h4, h5, h6, h7, h8⟩)
/-- The step of a range over a map of sets, some of them nil. -/
theorem wp_next_out {M : Int → Option (Option Nat)} {r : Nat} {L : Int → Bool} {cnt : Nat} (hg : o.guard = none) (it : Operand) (hop : o.op = Op.next it false)
    (hit : a.eval it = .pointer (some ⟨r, 0, none⟩)) (h : RangeAt Try.prog 3 refElem w b r n (fun v => (M v).map refLit) L cnt)
    (hDone : (∀ v, L v = false) → wpList Try.prog ops Q rest (a.put o.dst (.tuple #[.bool false])) w)
    (hMore : ∀ (x : Int) (w' : World) (cnt' : Nat), Came w w' b r n M L cnt cnt' x (elt M x) → wpList Try.prog ops Q rest (a.put o.dst (.tuple #[.bool true, .int .i64 x, .map (elt M x)])) w') :
    wpList Try.prog ops Q (o :: rest) a w :=
  wp_next w hg it hop keyInt Try.underlying3 Value.map refElem_inv hit h (fun h1 _ => hDone h1) (fun x c w' cnt' h1 h2 h3 h4 h5 h6 h7 h8 => by
    obtain ⟨d, ps, e1, e2⟩ := h3
    rw [refElem_map] at e1
    cases e1
    have hc : M x = some c := by
      cases e : M x with
      | none => simp [e] at e2
      | some c' =>
        simp only [e, Option.map_some, Option.some.injEq] at e2
        rw [refLit_inj e2]
    have he : elt M x = c := by unfold elt; rw [hc]; rfl
    subst he
    exact hMore x w' cnt' ⟨h1, h2, hc, h4, h5, h6, h7, h8⟩)
end

theorem copy_set (w : World) (bd bs nd ns : Nat) (S S' : Int → Bool) (hd : SetAt w bd nd S) (hs : SetAt w bs ns S') (hne : bd ≠ bs) (hroom : nd + ns ≤ 1048576) :
    Calls Try.prog 67 #[.map (some bd), .map (some bs)] w fun e w' => e = .returned (.tuple #[]) ∧ SetAt w' bd (nd + ns) (fun v => S v || S' v) ∧ w.grownBy w' (some bd) := by
  have hbd : bd < w.heap.size := MapAt.lt hd
  have hbs : bs < w.heap.size := MapAt.lt hs
  go_enter Try.func67, Try.ntmps67
  go_wp2_with (first
    | (at_range; refine wp_range _ rfl _ 112 rfl keyInt Try.underlying112 rfl hs ?_; intro w0 L0 cnt0 hrg0 hL0 hc0 hg0 hs0)
    | go_in)
  go_frame
  go_loopw [8] (fun _ wr => ∃ (L : Int → Bool) (cnt : Nat), RangeAt Try.prog 3 setElem wr bs w.heap.size ns (bit S') L cnt ∧ cnt ≤ ns ∧ SetAt wr bd (nd + (ns - cnt)) (fun v => S v || (S' v && !L v)) ∧ w.grownBy wr (some bd))
    (fun _ wr => wr.rangeLeft bs w.heap.size)
  case atStart =>
    refine ⟨_, _, hrg0, hc0, ((MapAt.kept hd hg0 (by simp)).mono (by omega)).congr fun v hv => ?_, hg0.but _⟩
    refine bit_congr ?_
    have := hL0 v hv
    unfold bit at this
    show S v = (S v || (S' v && !L0 v))
    rw [this]
    cases S v <;> cases S' v <;> rfl
  case round =>
    obtain ⟨L, cnt, hrg, hcn, hout, hgw⟩ := hrel
    go_wp2_with (first
      | (at_next; refine wp_next_set _ rfl _ rfl rfl hrg ?_ ?_)
      | go_in)
    · intro hl0
      go_wp2
      go_end0
      exact ⟨rfl, (MapAt.mono hout (by omega)).congr fun v _ => bit_congr (by simp [hl0]), hgw⟩
    · intro x w1 cnt1 hwx hlx hsx hrg1 hlt hg1 hs1 hen
      have hr1 := hrg.lt
      have hgr := hgw.size
      have hout1 := MapAt.kept hout hg1 (fun e => by have := Option.some.inj e; omega)
      have HSX := Lib.hid hsx
      have HL := Lib.hid hlx
      clear hsx hlx
      go_wp2_with (first
        | (at_mapUpdate; refine wp_put _ rfl _ _ _ 112 rfl keyInt Try.underlying3 Try.underlying112 rfl hout1 (by unfold maxLen; omega) x rfl hwx _ rfl (.lit (.bool true)) [] rfl ?_; intro w2 hout2 hg2 hs2; go_frame)
        | go_in)
      have hrg2 := hrg1.kept hg2 (fun e => hne (Option.some.inj e).symm) (fun e => by have := Option.some.inj e; omega)
      go_roundw
      case rel =>
        refine ⟨_, cnt1, hrg2, by omega, (MapAt.mono hout2 (by omega)).congr fun v hv => ?_, (hgw.andThen hg1 (fun j hj => .inl (by cases hj; exact Nat.le_refl _))).andThen hg2 (fun j hj => .inr hj)⟩
        show (if v = x then some (DataW.lit (Lit.bool true)) else bit (fun v => S v || (S' v && !L v)) v) = bit (fun v => S v || (S' v && !(L v && !(v == x)))) v
        by_cases e : v = x
        · subst e
          simp [bit, HSX.out]
        · have e' : (v == x) = false := by simpa using e
          simp [bit, e, e']
      case measure => rw [hrg2.left_eq, hrg.left_eq]; exact hlt

theorem copy_nil (w : World) (pd : Option Nat) :
    Calls Try.prog 67 #[.map pd, .map none] w fun e w' => e = .returned (.tuple #[]) ∧ w' = w.alloc (.mapIter none 0 #[] 0) := by
  have hrg := run_range_nilMap (P := Try.prog) w 112 _ _ Try.underlying112
  have hnx : ∀ ty, (Instr.next (.pointer (some ⟨w.heap.size, 0, none⟩)) false ty).run Try.prog (w.alloc (.mapIter none 0 #[] 0)) = _ := fun ty => run_next_nilMap _ ty 0 0 #[]
  go_enter Try.func67, Try.ntmps67
  go_wp2
  refine wp_loop_rounds 1 ?_
  rw [rounds_succ]
  go_wp2
  go_end0
  exact ⟨rfl, rfl⟩

theorem copy_of_set (w : World) (bd nd ns : Nat) (o : Option Nat) (S S' : Int → Bool) (hd : SetAt w bd nd S) (hs : OptSet w o ns S') (hne : o ≠ some bd) (hroom : nd + ns ≤ 1048576) :
    Calls Try.prog 67 #[.map (some bd), .map o] w fun e w' => e = .returned (.tuple #[]) ∧ SetAt w' bd (nd + ns) (fun v => S v || S' v) ∧ w.grownBy w' (some bd) := by
  cases o with
  | none =>
    refine (copy_nil w (some bd)).mono fun e w' ⟨he, hw⟩ => ?_
    subst hw
    refine ⟨he, ((MapAt.alloc hd _).mono (Nat.le_add_right _ _)).congr fun v _ => ?_, World.grownBy_alloc w _ _⟩
    refine bit_congr ?_
    show S v = (S v || S' v)
    rw [hs v]
    simp
  | some b => exact copy_set w bd b nd ns S S' hd hs (fun e => hne (by rw [e])) hroom
end Go.Proofs.Ytalgfiefadfmnaa.num
namespace Go.Proofs.Ytalgfiefadfmnaa.num
open Go.RowKit Go.Maps
set_option linter.unusedVariables false

/-- Block b of w is the map whose element at v (block M v) is the set of those a with R a v; all of it from block B on. -/
structure SetsR (w : World) (B b n : Nat) (M : Int → Option Nat) (R : Int → Int → Bool) : Prop where
  out : OutAt w b n (fun v => (M v).map some)
  low : B ≤ b
  has : ∀ v a, R a v = true → ∃ x, M v = some x
  rng : ∀ v x, M v = some x → InR v
  sets : ∀ v x, M v = some x → B ≤ x ∧ x ≠ b ∧ SetAt w x n (fun a => R a v)
  inj : ∀ v v' x, M v = some x → M v' = some x → v = v'
theorem SetsR.below {w w' : World} {B b n : Nat} {M : Int → Option Nat} {R : Int → Int → Bool} (h : SetsR w B b n M R) (hb : Below w.heap.size w w') : SetsR w' B b n M R :=
  ⟨MapAt.block h.out (hb.block _ (MapAt.lt h.out)), h.low, h.has, h.rng, fun v x hx => by
    obtain ⟨h1, h2, h3⟩ := h.sets v x hx
    exact ⟨h1, h2, MapAt.block h3 (hb.block _ (MapAt.lt h3))⟩, h.inj⟩
theorem SetsR.none {w : World} {B b n : Nat} {M : Int → Option Nat} {R : Int → Int → Bool} (h : SetsR w B b n M R) {v : Int} (hv : M v = none) (a : Int) : R a v = false := by
  cases e : R a v
  · rfl
  · obtain ⟨x, hx⟩ := h.has v a e
    rw [hv] at hx; cases hx
theorem elt_some (M : Int → Option Nat) (v : Int) : elt (fun v => (M v).map some) v = M v := by
  unfold elt
  cases e : M v <;> simp [e]
theorem SetsR.opt {w : World} {B b n : Nat} {M : Int → Option Nat} {R : Int → Int → Bool} (h : SetsR w B b n M R) (v : Int) : OptSet w (M v) n (fun a => R a v) := by
  cases e : M v with
  | none => exact fun a => h.none e a
  | some x => exact (h.sets v x e).2.2
theorem inR_wf {v : Int} (h : InR v) : (Lit.int .i64 v).wf = true := WalkArith.wf_i64 (by unfold InR at h; omega)

theorem eq_nil_yes (w : World) : (binOp BinOp.eql 112 (.map none) (.map none)).run Try.prog w = .ok (.bool true) w := by kernel_rfl
theorem eq_nil_no (w : World) (z : Nat) : (binOp BinOp.eql 112 (.map (some z)) (.map none)).run Try.prog w = .ok (.bool false) w := by kernel_rfl

theorem closes_of (w : World) (B b n : Nat) (M : Int → Option Nat) (R : Int → Int → Bool) (h : SetsR w B b n M R) (x y : Int) (hx : InR x) (hy : InR y) (q : Bool) (hq : q = true ↔ x = y ∨ R y x = true) :
    Calls Try.prog 64 #[.map (some b), .agg #[.int .i64 x, .int .i64 y]] w fun e w' => e = .returned (.bool q) ∧ Below w.heap.size w w' := by
  have HQ := Lib.hid hq
  have HS := Lib.hid h
  have HX := Lib.hid hx
  have HY := Lib.hid hy
  clear hq h hx hy
  by_cases he : x = y
  · subst he
    obtain rfl : q = true := HQ.out.2 (.inl rfl)
    go_enter Try.func64, Try.ntmps64
    go_wp2
    go_ret
    exact ⟨rfl, (Below.refl _ w).alloc (Nat.le_refl _) _⟩
  · have hne : (x == y) = false := by simpa using he
    obtain rfl : q = R y x := by
      rw [Bool.eq_iff_iff, HQ.out]
      exact ⟨fun h => h.resolve_left he, fun h => .inr h⟩
    have HE := Lib.hid he
    clear he HQ
    have hS1 := HS.out.below ((Below.refl w.heap.size w).alloc (Nat.le_refl _) (.cells #[.int .i64 x, .int .i64 y] 102))
    have e1 := hS1.out.look x (inR_wf HX.out)
    rw [elt_some] at e1
    have e2 := (hS1.opt x).look y (inR_wf HY.out)
    clear hS1
    go_enter Try.func64, Try.ntmps64
    go_wp2
    go_ret
    exact ⟨rfl, (Below.refl _ w).alloc (Nat.le_refl _) _⟩

/-- addPair's loop under way: the sets of those values that have come are the new ones. -/
structure AddInv (wr w : World) (B b pb r n : Nat) (x y : Int) (M : Int → Option Nat) (R : Int → Int → Bool) (L : Int → Bool) : Prop where
  low : Below B w wr
  box : wr.heap[pb]? = some (.cells #[.int .i64 x, .int .i64 y] 102)
  sets : ∀ v z, M v = some z → SetAt wr z (if L v then n else 2 * n + 1) (fun a => if L v then R a v else stepR R (x, y) a v)
  src : ∀ z, M x = some z → SetAt wr z n (fun a => R a x)
  ends : ∀ v z, M v = some z → B ≤ z ∧ z ≠ b ∧ z ≠ pb ∧ z < r
  pbr : pb < r ∧ B ≤ r ∧ B ≤ pb ∧ b < r ∧ B ≤ b ∧ b ≠ pb
/-- Blocks that are none of the sets, nor the pair's own, may turn. -/
theorem AddInv.kept {wr w1 w : World} {B b pb r n : Nat} {x y : Int} {M : Int → Option Nat} {R : Int → Int → Bool} {L : Int → Bool} (h : AddInv wr w B b pb r n x y M R L) (hg : wr.grownBy w1 (some r)) (hr : r < wr.heap.size) : AddInv w1 w B b pb r n x y M R L :=
  ⟨h.low.grown hg (by have := h.pbr; omega) (fun k hk => by cases hk; exact h.pbr.2.1), (hg.block pb (by have := h.pbr; omega) (fun e => by have := Option.some.inj e; have := h.pbr; omega)).trans h.box,
    fun v z hz => MapAt.kept (h.sets v z hz) hg (fun e => by have := Option.some.inj e; have := h.ends v z hz; omega),
    fun z hz => MapAt.kept (h.src z hz) hg (fun e => by have := Option.some.inj e; have := h.ends x z hz; omega), h.ends, h.pbr⟩
theorem AddInv.cells {wr w : World} {B b pb r n : Nat} {x y : Int} {M : Int → Option Nat} {R : Int → Int → Bool} {L : Int → Bool} (h : AddInv wr w B b pb r n x y M R L) : wr.cell? ⟨pb, 0, none⟩ = some (.int .i64 x) ∧ wr.cell? ⟨pb, 1, none⟩ = some (.int .i64 y) := by
  have := h.box
  constructor <;> simp [World.cell?, this]
/-- The value u has come, and nothing is to be done. -/
theorem AddInv.skip {wr w : World} {B b pb r n : Nat} {x y u : Int} {M : Int → Option Nat} {R : Int → Int → Bool} {L : Int → Bool} (h : AddInv wr w B b pb r n x y M R L) (hu : L u = true) (h1 : u ≠ y) (h2 : R y u = false) : AddInv wr w B b pb r n x y M R (fun v => L v && !(v == u)) :=
  ⟨h.low, h.box, fun v z hz => by
    have hs := h.sets v z hz
    by_cases e : v = u
    · subst e
      rw [hu] at hs
      refine (MapAt.mono hs (by simp; omega)).congr fun a _ => bit_congr ?_
      have h1' : (v == y) = false := by simpa using h1
      simp [stepR, h1', h2]
    · have e' : (v == u) = false := by simpa using e
      refine MapAt.congr (MapAt.mono hs (by simp [e'])) fun a _ => bit_congr (by simp [e']), h.src, h.ends, h.pbr⟩
/-- The value u has come, and its set has been written. -/
theorem AddInv.done {wr w' w : World} {B b pb r n z : Nat} {x y u : Int} {M : Int → Option Nat} {R : Int → Int → Bool} {L : Int → Bool} (h : AddInv wr w B b pb r n x y M R L) (hM : ∀ v v' x, M v = some x → M v' = some x → v = v') (hz : M u = some z) (hux : u ≠ x) (hc : u = y ∨ R y u = true)
    (hg : wr.grownBy w' (some z)) (hr : r < wr.heap.size) (hnew : SetAt w' z (2 * n + 1) (fun a => (if a = x then true else R a u) || R a x)) : AddInv w' w B b pb r n x y M R (fun v => L v && !(v == u)) := by
  have hze := h.ends u z hz
  refine ⟨h.low.grown hg (by have := h.pbr; omega) (fun k hk => by cases hk; exact hze.1), (hg.block pb (by have := h.pbr; omega) (fun e => by have := Option.some.inj e; omega)).trans h.box, fun v z' hz' => ?_, fun z' hz' => ?_, h.ends, h.pbr⟩
  · by_cases e : v = u
    · subst e
      obtain rfl : z = z' := Option.some.inj (hz.symm.trans hz')
      refine (MapAt.mono hnew (by simp)).congr fun a _ => bit_congr ?_
      have hcc : (v == y || R y v) = true := by
        rcases hc with rfl | hc
        · simp
        · simp [hc]
      simp only [BEq.rfl, Bool.not_true, Bool.and_false, Bool.false_eq_true, if_false, stepR, hcc, Bool.and_true]
      by_cases ea : a = x
      · subst ea; simp
      · have ea' : (a == x) = false := by simpa using ea
        simp [ea, ea']
    · have hzz : z' ≠ z := fun e' => e (hM _ _ z' hz' (e' ▸ hz))
      have e' : (v == u) = false := by simpa using e
      refine MapAt.congr (MapAt.mono (MapAt.kept (h.sets v z' hz') hg (fun e => hzz (Option.some.inj e))) (by simp [e'])) fun a _ => bit_congr (by simp [e'])
  · have hzz : z' ≠ z := fun e' => hux (hM _ _ z (hz) (e' ▸ hz'))
    exact MapAt.kept (h.src z' hz') hg (fun e => hzz (Option.some.inj e))
/-- All have come. -/
theorem AddInv.fin {wr w : World} {B b pb r n : Nat} {x y : Int} {M : Int → Option Nat} {R : Int → Int → Bool} {L : Int → Bool} (h : AddInv wr w B b pb r n x y M R L) (hl : ∀ v, L v = false) (hout : OutAt wr b n (fun v => (M v).map some))
    (hhas : ∀ v a, R a v = true → ∃ x, M v = some x) (hy : ∃ z, M y = some z) (hrng : ∀ v x, M v = some x → InR v) (hM : ∀ v v' x, M v = some x → M v' = some x → v = v') (m : Nat) (hm : 2 * n + 1 ≤ m) : SetsR wr B b m M (stepR R (x, y)) :=
  ⟨MapAt.mono hout (by omega), h.pbr.2.2.2.2.1, fun v a ha => by
    unfold stepR at ha
    simp only [Bool.or_eq_true, Bool.and_eq_true, beq_iff_eq] at ha
    rcases ha with ha | ⟨_, ha⟩
    · exact hhas v a ha
    · rcases ha with rfl | ha
      · exact hy
      · exact hhas v y ha, hrng, fun v z hz => by
    obtain ⟨h1, h2, _⟩ := h.ends v z hz
    refine ⟨h1, h2, (MapAt.mono (h.sets v z hz) (by simp [hl]; omega)).congr fun a _ => bit_congr (by simp [hl])⟩, hM⟩

set_option maxHeartbeats 2000000 in
theorem add_of (w : World) (B b n : Nat) (M : Int → Option Nat) (R : Int → Int → Bool) (h : SetsR w B b n M R) (hB : B ≤ w.heap.size) (hn : n ≤ 100000) (x y : Int) (hx : InR x) (hy : InR y) (hne : x ≠ y) (hR : R y x = false) :
    Calls Try.prog 65 #[.map (some b), .agg #[.int .i64 x, .int .i64 y]] w fun e w' => e = .returned (.tuple #[]) ∧ (∃ M', SetsR w' B b (2 * n + 3) M' (stepR R (x, y))) ∧ Below B w w' := by
  have HS := Lib.hid h
  have HX := Lib.hid hx
  have HY := Lib.hid hy
  have HNe := Lib.hid hne
  have HRf := Lib.hid hR
  have hb := MapAt.lt h.out
  have HB1 := Lib.hid ((Below.refl w.heap.size w).alloc (Nat.le_refl _) (.cells #[.int .i64 x, .int .i64 y] 102))
  have hS1 := h.below HB1.out
  have HS1 := Lib.hid hS1
  have e1 := hS1.out.look y (inR_wf hy)
  rw [elt_some] at e1
  clear h hx hy hne hR hS1
  rcases hMy : M y with _ | zy
  · rw [hMy] at e1
    have HMy0 := Lib.hid hMy
    clear hMy
    have eN := eq_nil_yes
    have hmm := @run_makeMap Try.prog
    go_enter Try.func65, Try.ntmps65
    go_upto_region 3 with (first
      | (at_mapUpdate; refine wp_put _ rfl _ _ _ 87 rfl keyInt Try.underlying3 Try.underlying87 rfl (MapAt.alloc HS1.out.out (.map #[] 0)) (by unfold maxLen; omega) y rfl (inR_wf HY.out) _ rfl (refLit (some (w.heap.size + 1))) [] rfl ?_; intro w2 hout2 hg2 hs2)
      | go_in)
    clear hmm eN
    obtain ⟨M1, hM1⟩ : ∃ M1 : Int → Option Nat, M1 = fun v => if v = y then some (w.heap.size + 1) else M v := ⟨_, rfl⟩
    obtain ⟨n1, hn1⟩ : ∃ n1, n1 = n + 1 := ⟨_, rfl⟩
    have hM1y : M1 y = some (w.heap.size + 1) := by rw [hM1]; simp
    have hM1o : ∀ v, v ≠ y → M1 v = M v := fun v hv => by rw [hM1]; simp [hv]
    clear hM1
    have Hout2 : Hid (OutAt w2 b n1 (fun v => (M1 v).map some)) := Lib.hid (by
      rw [hn1]
      refine MapAt.congr hout2 fun v _ => ?_
      by_cases e : v = y
      · subst e; simp [hM1y]
      · simp [e, hM1o v e])
    have hold : ∀ v z, M v = some z → z < w.heap.size := fun v z hz => MapAt.lt (HS.out.sets v z hz).2.2
    have hset : ∀ v z, M1 v = some z → B ≤ z ∧ z ≠ b ∧ z ≠ w.heap.size ∧ z < w2.heap.size ∧ SetAt w2 z n (fun a => R a v) := fun v z hz => by
      simp at hs2
      by_cases e : v = y
      · subst e
        rw [hM1y] at hz
        cases hz
        refine ⟨by omega, by omega, by omega, by omega, ?_⟩
        have h0 : SetAt ((w.alloc (.cells #[.int .i64 x, .int .i64 v] 102)).alloc (.map #[] 0)) (w.heap.size + 1) 0 (fun _ => false) := by
          have := SetAt.made (w.alloc (.cells #[.int .i64 x, .int .i64 v] 102))
          simpa using this
        refine (MapAt.mono (MapAt.kept h0 hg2 (fun e => by have := Option.some.inj e; omega)) (Nat.zero_le _)).congr fun a _ => bit_congr ?_
        exact (HS.out.none HMy0.out a).symm
      · rw [hM1o v e] at hz
        obtain ⟨h1, h2, h3⟩ := HS1.out.sets v z hz
        have h4 := hold v z hz
        exact ⟨h1, h2, by omega, by omega, MapAt.kept (MapAt.alloc h3 _) hg2 (fun e => h2 (Option.some.inj e))⟩
    have HInj : Hid (∀ v v' z, M1 v = some z → M1 v' = some z → v = v') := Lib.hid fun v v' z h1 h2 => by
      by_cases e : v = y
      · by_cases e' : v' = y
        · rw [e, e']
        · subst e
          rw [hM1y] at h1
          rw [hM1o v' e'] at h2
          have := hold v' z h2
          cases h1
          omega
      · rw [hM1o v e] at h1
        by_cases e' : v' = y
        · subst e'
          rw [hM1y] at h2
          have := hold v z h1
          cases h2
          omega
        · rw [hM1o v' e'] at h2
          exact HS.out.inj v v' z h1 h2
    have HHas : Hid (∀ v a, R a v = true → ∃ z, M1 v = some z) := Lib.hid fun v a ha => by
      by_cases e : v = y
      · subst e; exact ⟨_, hM1y⟩
      · rw [hM1o v e]; exact HS.out.has v a ha
    have HRng : Hid (∀ v z, M1 v = some z → InR v) := Lib.hid fun v z hz => by
      by_cases e : v = y
      · subst e; exact HY.out
      · rw [hM1o v e] at hz; exact HS.out.rng v z hz
    have HMy : Hid (∃ z, M1 y = some z) := Lib.hid ⟨_, hM1y⟩
    have hbox2 : w2.heap[w.heap.size]? = some (.cells #[.int .i64 x, .int .i64 y] 102) := by
      refine (hg2.block w.heap.size (by simp; omega) (fun e => by have := Option.some.inj e; omega)).trans ?_
      rw [Below.heap_alloc _ _ _ (by simp)]
      exact heap_alloc_new w _
    have hb2 : Below B w w2 := (((Below.refl B w).alloc hB _).alloc (by simp; omega) _).grown hg2 (by simp; omega) (fun k hk => by cases hk; exact HS.out.low)
    have hn1' : n1 ≤ 100001 := by omega
    have hn2 : 2 * n1 + 1 ≤ 2 * n + 3 := by omega
    have HInv : Hid (∀ w3 L0, w2.grownBy w3 none → w3.heap.size = w2.heap.size + 1 → (∀ v, (Lit.int .i64 v).wf = true → L0 v = ((M1 v).map some |>.map refLit).isSome) → AddInv w3 w B b w.heap.size w2.heap.size n1 x y M1 R L0) := Lib.hid fun w3 L0 hg0 hs0 hL0 => by
      have hsl := hb2.size
      have hbl := MapAt.lt Hout2.out
      refine ⟨hb2.grown hg0 (by omega) (fun k hk => by cases hk), (hg0.block w.heap.size (Array.getElem?_eq_some_iff.1 hbox2).1 (by simp)).trans hbox2, fun v z hz => ?_, fun z hz => ?_, fun v z hz => ?_, (Array.getElem?_eq_some_iff.1 hbox2).1, by omega, hB, hbl, HS.out.low, by omega⟩
      · have hLv : L0 v = true := by
          rw [hL0 v (inR_wf (HRng.out v z hz)), hz]; rfl
        rw [hLv]
        exact MapAt.mono (MapAt.kept (hset v z hz).2.2.2.2 hg0 (by simp)) (by simp; omega)
      · exact MapAt.mono (MapAt.kept (hset x z hz).2.2.2.2 hg0 (by simp)) (by omega)
      · obtain ⟨h1, h2, h3, h4, _⟩ := hset v z hz
        exact ⟨h1, h2, h3, h4⟩
    have HOut := Hout2
    clear hout2 hg2 hs2 hset hold hM1y hM1o hbox2 hb2 e1 HS1 HB1 hn1
    go_wp2_with (first
      | (at_range; refine wp_range _ rfl _ 87 rfl keyInt Try.underlying87 rfl HOut.out ?_; intro w3 L0 cnt0 hrg0 hL0 hc0 hg0 hs0)
      | go_in)
    try go_frame
    have HI0 := Lib.hid (HInv.out w3 L0 hg0 hs0 hL0)
    have HR0 := Lib.hid hrg0
    clear hrg0 hL0 hg0 hs0 HOut HInv
    go_loopw [17] (fun _ wr => ∃ (L : Int → Bool) (cnt : Nat), RangeAt Try.prog 3 refElem wr b w2.heap.size n1 (fun v => (M1 v).map some |>.map refLit) L cnt ∧ AddInv wr w B b w.heap.size w2.heap.size n1 x y M1 R L)
      (fun _ wr => wr.rangeLeft b w2.heap.size)
    case atStart => exact ⟨_, _, HR0.out, HI0.out⟩
    case round =>
      clear HR0 HI0
      obtain ⟨L, cnt, hrg, hinv⟩ := hrel
      have HV := Lib.hid hinv
      clear hinv
      go_wp2_with (first
        | (at_next; refine wp_next_ref _ rfl _ rfl rfl hrg ?_ ?_)
        | go_in)
      · intro hl0
        have HL := Lib.hid hl0
        clear hl0
        go_wp2
        go_end0
        exact ⟨rfl, ⟨M1, HV.out.fin HL.out hrg.owns HHas.out HMy.out HRng.out HInj.out _ (by omega)⟩, HV.out.low⟩
      · intro u z w4 cnt4 hcame
        have hr4 := hrg.lt
        have hz : M1 u = some z := by
          have := hcame.elem
          cases e : M1 u <;> simp [e] at this
          rw [this]
        have hlu := hcame.left
        have hrg4 := hcame.range
        have hlt4 := hcame.lt
        have hg4 := hcame.grown
        have hs4 := hcame.size
        have hen := hcame.entry
        clear hcame
        have HZ := Lib.hid hz
        have HLu := Lib.hid hlu
        have HV4 := Lib.hid (HV.out.kept hg4 hr4)
        obtain ⟨f0, f1⟩ := HV4.out.cells
        have hsz : SetAt w4 z n1 (fun a => R a u) := by
          have := HV4.out.sets u z hz
          rw [hlu] at this
          simpa using this
        have e1 := hsz.look y (inR_wf HY.out)
        have HSz := Lib.hid hsz
        have HR4 := Lib.hid hrg4
        have Hlt4 := Lib.hid hlt4
        have HR := Lib.hid hrg
        have hr5 : Hid (w2.heap.size < w4.heap.size) := Lib.hid (by rw [hs4]; exact hr4)
        clear hz hlu hrg hlt4 hg4 hs4 hr4 hrg4 hsz HV
        by_cases huy : u = y
        · obtain ⟨cc, hcc⟩ : ∃ cc : Bool, cc = R y u := ⟨_, rfl⟩
          rw [← hcc] at e1
          have HUY := Lib.hid (show u = y ∨ R y u = true from .inl huy)
          have hbe : (u == y) = true := by simpa using huy
          have HHuy := Lib.hid huy
          clear huy hcc
          go_upto_region 8 with (first
            | (at_mapUpdate; refine wp_put _ rfl _ _ _ 112 rfl keyInt Try.underlying3 Try.underlying112 rfl HSz.out (by unfold maxLen; omega) x rfl (inR_wf HX.out) _ rfl (.lit (.bool true)) [] rfl ?_; intro w5 hset5 hg5 hs5)
            | go_in)
          have hux : u ≠ x := fun e => by
            subst e
            rcases HUY.out with h | h
            · exact HNe.out h
            · rw [HRf.out] at h; cases h
          have HUX := Lib.hid hux
          have hzr := HV4.out.ends u z HZ.out
          have hbr := HV4.out.pbr
          have HR5 := Lib.hid (HR4.out.kept hg5 (fun e => by have := Option.some.inj e; omega) (fun e => by have := Option.some.inj e; omega))
          have e3 := OutAt.look (M := fun v => (M1 v).map some) HR5.out.owns x (inR_wf HX.out)
          rw [elt_some] at e3
          have f2 : w5.cell? ⟨w.heap.size, 0, none⟩ = some (.int .i64 x) := (World.cell?_of_block (hg5.block w.heap.size (by have := hr5.out; omega) (fun e => by have := Option.some.inj e; omega))).trans f0
          have hsrc : OptSet w5 (M1 x) n1 (fun a => R a x) := by
            cases e : M1 x with
            | none =>
              intro a
              cases e' : R a x
              · exact e'
              · obtain ⟨z', hz'⟩ := HHas.out x a e'
                rw [e] at hz'; cases hz'
            | some z' =>
              have hzz : z' ≠ z := fun e' => hux (HInj.out _ _ z HZ.out (e' ▸ e))
              exact MapAt.kept (HV4.out.src z' e) hg5 (fun e => hzz (Option.some.inj e))
          have HSrc := Lib.hid hsrc
          have Hg5 := Lib.hid hg5
          have Hset5 : Hid (SetAt w5 z (n1 + 1) (fun a => if a = x then true else R a u)) := Lib.hid (MapAt.congr hset5 fun a _ => by
            show (if a = x then some (DataW.lit (Lit.bool true)) else bit (fun a => R a u) a) = bit (fun a => if a = x then true else R a u) a
            by_cases e : a = x <;> simp [bit, e])
          have Hs5 := Lib.hid hs5
          clear hset5 hg5 hs5 hsrc hux hzr hbr f0 f1 e1 hen
          go_wp2_with fail
          refine (copy_of_set w5 z (n1 + 1) n1 (M1 x) _ _ Hset5.out HSrc.out (fun e => HUX.out (HInj.out _ _ z HZ.out e)) (by omega)).mono ?_
          rintro e w6 ⟨rfl, hset6, hg6⟩
          have HG6 := Lib.hid (Hg5.out.trans hg6)
          have HR6 := Lib.hid (HR5.out.kept hg6 (fun e => by have := Option.some.inj e; have := (HV4.out.ends u z HZ.out).2.1; omega) (fun e => by have := Option.some.inj e; have := (HV4.out.ends u z HZ.out).2.2.2; omega))
          have HSet6 := Lib.hid hset6
          clear hset6 hg6 e3 f2
          go_wp2
          go_roundw
          case rel => exact ⟨_, cnt4, HR6.out, HV4.out.done HInj.out HZ.out HUX.out HUY.out HG6.out hr5.out (MapAt.mono HSet6.out (by omega))⟩
          case measure => rw [HR6.out.left_eq, HR.out.left_eq]; exact Hlt4.out
        · have hbe : (u == y) = false := by simpa using huy
          have HHuy := Lib.hid huy
          clear huy
          cases hcc : R y u
          · rw [hcc] at e1
            have HCC := Lib.hid hcc
            clear hcc
            go_wp2
            go_roundw
            case rel => exact ⟨_, cnt4, HR4.out, HV4.out.skip HLu.out HHuy.out HCC.out⟩
            case measure => rw [HR4.out.left_eq, HR.out.left_eq]; exact Hlt4.out
          · rw [hcc] at e1
            have HUY := Lib.hid (show u = y ∨ R y u = true from .inr hcc)
            clear hcc
            go_upto_region 8 with (first
              | (at_mapUpdate; refine wp_put _ rfl _ _ _ 112 rfl keyInt Try.underlying3 Try.underlying112 rfl HSz.out (by unfold maxLen; omega) x rfl (inR_wf HX.out) _ rfl (.lit (.bool true)) [] rfl ?_; intro w5 hset5 hg5 hs5)
              | go_in)
            have hux : u ≠ x := fun e => by
              subst e
              rcases HUY.out with h | h
              · exact HNe.out h
              · rw [HRf.out] at h; cases h
            have HUX := Lib.hid hux
            have hzr := HV4.out.ends u z HZ.out
            have hbr := HV4.out.pbr
            have HR5 := Lib.hid (HR4.out.kept hg5 (fun e => by have := Option.some.inj e; omega) (fun e => by have := Option.some.inj e; omega))
            have e3 := OutAt.look (M := fun v => (M1 v).map some) HR5.out.owns x (inR_wf HX.out)
            rw [elt_some] at e3
            have f2 : w5.cell? ⟨w.heap.size, 0, none⟩ = some (.int .i64 x) := (World.cell?_of_block (hg5.block w.heap.size (by have := hr5.out; omega) (fun e => by have := Option.some.inj e; omega))).trans f0
            have hsrc : OptSet w5 (M1 x) n1 (fun a => R a x) := by
              cases e : M1 x with
              | none =>
                intro a
                cases e' : R a x
                · exact e'
                · obtain ⟨z', hz'⟩ := HHas.out x a e'
                  rw [e] at hz'; cases hz'
              | some z' =>
                have hzz : z' ≠ z := fun e' => hux (HInj.out _ _ z HZ.out (e' ▸ e))
                exact MapAt.kept (HV4.out.src z' e) hg5 (fun e => hzz (Option.some.inj e))
            have HSrc := Lib.hid hsrc
            have Hg5 := Lib.hid hg5
            have Hset5 : Hid (SetAt w5 z (n1 + 1) (fun a => if a = x then true else R a u)) := Lib.hid (MapAt.congr hset5 fun a _ => by
              show (if a = x then some (DataW.lit (Lit.bool true)) else bit (fun a => R a u) a) = bit (fun a => if a = x then true else R a u) a
              by_cases e : a = x <;> simp [bit, e])
            have Hs5 := Lib.hid hs5
            clear hset5 hg5 hs5 hsrc hux hzr hbr f0 f1 e1 hen
            go_wp2_with fail
            refine (copy_of_set w5 z (n1 + 1) n1 (M1 x) _ _ Hset5.out HSrc.out (fun e => HUX.out (HInj.out _ _ z HZ.out e)) (by omega)).mono ?_
            rintro e w6 ⟨rfl, hset6, hg6⟩
            have HG6 := Lib.hid (Hg5.out.trans hg6)
            have HR6 := Lib.hid (HR5.out.kept hg6 (fun e => by have := Option.some.inj e; have := (HV4.out.ends u z HZ.out).2.1; omega) (fun e => by have := Option.some.inj e; have := (HV4.out.ends u z HZ.out).2.2.2; omega))
            have HSet6 := Lib.hid hset6
            clear hset6 hg6 e3 f2
            go_wp2
            go_roundw
            case rel => exact ⟨_, cnt4, HR6.out, HV4.out.done HInj.out HZ.out HUX.out HUY.out HG6.out hr5.out (MapAt.mono HSet6.out (by omega))⟩
            case measure => rw [HR6.out.left_eq, HR.out.left_eq]; exact Hlt4.out
  · rw [hMy] at e1
    have HMy0 := Lib.hid hMy
    clear hMy
    obtain ⟨w2, hw2⟩ : ∃ w2, w2 = w.alloc (.cells #[.int .i64 x, .int .i64 y] 102) := ⟨_, rfl⟩
    have HW2 := Lib.hid hw2
    obtain ⟨M1, hM1⟩ : ∃ M1 : Int → Option Nat, M1 = M := ⟨_, rfl⟩
    obtain ⟨n1, hn1⟩ : ∃ n1, n1 = n := ⟨_, rfl⟩
    have Hout2 : Hid (OutAt w2 b n1 (fun v => (M1 v).map some)) := Lib.hid (by rw [hn1, hM1, hw2]; exact HS1.out.out)
    have hold : ∀ v z, M v = some z → z < w.heap.size := fun v z hz => MapAt.lt (HS.out.sets v z hz).2.2
    have hs2 : w2.heap.size = w.heap.size + 1 := by rw [hw2]; simp
    have hset : ∀ v z, M1 v = some z → B ≤ z ∧ z ≠ b ∧ z ≠ w.heap.size ∧ z < w2.heap.size ∧ SetAt w2 z n (fun a => R a v) := fun v z hz => by
      rw [hM1] at hz
      have h4 := hold v z hz
      obtain ⟨h1, h2, h3⟩ := HS1.out.sets v z hz
      exact ⟨h1, h2, by omega, by omega, by rw [hw2]; exact h3⟩
    have HInj : Hid (∀ v v' z, M1 v = some z → M1 v' = some z → v = v') := Lib.hid (by rw [hM1]; exact HS.out.inj)
    have HHas : Hid (∀ v a, R a v = true → ∃ z, M1 v = some z) := Lib.hid (by rw [hM1]; exact HS.out.has)
    have HRng : Hid (∀ v z, M1 v = some z → InR v) := Lib.hid (by rw [hM1]; exact HS.out.rng)
    have HMy : Hid (∃ z, M1 y = some z) := Lib.hid (by rw [hM1]; exact ⟨_, HMy0.out⟩)
    have hbox2 : w2.heap[w.heap.size]? = some (.cells #[.int .i64 x, .int .i64 y] 102) := by rw [hw2]; exact heap_alloc_new w _
    have hb2 : Below B w w2 := by rw [hw2]; exact (Below.refl B w).alloc hB _
    have hn1' : n1 ≤ 100001 := by omega
    have hn2 : 2 * n1 + 1 ≤ 2 * n + 3 := by omega
    have HInv : Hid (∀ w3 L0, w2.grownBy w3 none → w3.heap.size = w2.heap.size + 1 → (∀ v, (Lit.int .i64 v).wf = true → L0 v = ((M1 v).map some |>.map refLit).isSome) → AddInv w3 w B b w.heap.size w2.heap.size n1 x y M1 R L0) := Lib.hid fun w3 L0 hg0 hs0 hL0 => by
      have hsl := hb2.size
      have hbl := MapAt.lt Hout2.out
      refine ⟨hb2.grown hg0 (by omega) (fun k hk => by cases hk), (hg0.block w.heap.size (Array.getElem?_eq_some_iff.1 hbox2).1 (by simp)).trans hbox2, fun v z hz => ?_, fun z hz => ?_, fun v z hz => ?_, (Array.getElem?_eq_some_iff.1 hbox2).1, by omega, hB, hbl, HS.out.low, by omega⟩
      · have hLv : L0 v = true := by
          rw [hL0 v (inR_wf (HRng.out v z hz)), hz]; rfl
        rw [hLv]
        exact MapAt.mono (MapAt.kept (hset v z hz).2.2.2.2 hg0 (by simp)) (by simp; omega)
      · exact MapAt.mono (MapAt.kept (hset x z hz).2.2.2.2 hg0 (by simp)) (by omega)
      · obtain ⟨h1, h2, h3, h4, _⟩ := hset v z hz
        exact ⟨h1, h2, h3, h4⟩
    have HOut := Hout2
    clear hw2 hold hs2 hset hbox2 hb2 HS1 HB1 hn1 hM1
    have eN := eq_nil_no
    go_enter Try.func65, Try.ntmps65
    go_upto_region 3 with (fail)
    clear eN e1
    rw [← HW2.out]
    clear HW2
    go_wp2_with (first
      | (at_range; refine wp_range _ rfl _ 87 rfl keyInt Try.underlying87 rfl HOut.out ?_; intro w3 L0 cnt0 hrg0 hL0 hc0 hg0 hs0)
      | go_in)
    try go_frame
    have HI0 := Lib.hid (HInv.out w3 L0 hg0 hs0 hL0)
    have HR0 := Lib.hid hrg0
    clear hrg0 hL0 hg0 hs0 HOut HInv
    go_loopw [17] (fun _ wr => ∃ (L : Int → Bool) (cnt : Nat), RangeAt Try.prog 3 refElem wr b w2.heap.size n1 (fun v => (M1 v).map some |>.map refLit) L cnt ∧ AddInv wr w B b w.heap.size w2.heap.size n1 x y M1 R L)
      (fun _ wr => wr.rangeLeft b w2.heap.size)
    case atStart => exact ⟨_, _, HR0.out, HI0.out⟩
    case round =>
      clear HR0 HI0
      obtain ⟨L, cnt, hrg, hinv⟩ := hrel
      have HV := Lib.hid hinv
      clear hinv
      go_wp2_with (first
        | (at_next; refine wp_next_ref _ rfl _ rfl rfl hrg ?_ ?_)
        | go_in)
      · intro hl0
        have HL := Lib.hid hl0
        clear hl0
        go_wp2
        go_end0
        exact ⟨rfl, ⟨M1, HV.out.fin HL.out hrg.owns HHas.out HMy.out HRng.out HInj.out _ (by omega)⟩, HV.out.low⟩
      · intro u z w4 cnt4 hcame
        have hr4 := hrg.lt
        have hz : M1 u = some z := by
          have := hcame.elem
          cases e : M1 u <;> simp [e] at this
          rw [this]
        have hlu := hcame.left
        have hrg4 := hcame.range
        have hlt4 := hcame.lt
        have hg4 := hcame.grown
        have hs4 := hcame.size
        have hen := hcame.entry
        clear hcame
        have HZ := Lib.hid hz
        have HLu := Lib.hid hlu
        have HV4 := Lib.hid (HV.out.kept hg4 hr4)
        obtain ⟨f0, f1⟩ := HV4.out.cells
        have hsz : SetAt w4 z n1 (fun a => R a u) := by
          have := HV4.out.sets u z hz
          rw [hlu] at this
          simpa using this
        have e1 := hsz.look y (inR_wf HY.out)
        have HSz := Lib.hid hsz
        have HR4 := Lib.hid hrg4
        have Hlt4 := Lib.hid hlt4
        have HR := Lib.hid hrg
        have hr5 : Hid (w2.heap.size < w4.heap.size) := Lib.hid (by rw [hs4]; exact hr4)
        clear hz hlu hrg hlt4 hg4 hs4 hr4 hrg4 hsz HV
        by_cases huy : u = y
        · obtain ⟨cc, hcc⟩ : ∃ cc : Bool, cc = R y u := ⟨_, rfl⟩
          rw [← hcc] at e1
          have HUY := Lib.hid (show u = y ∨ R y u = true from .inl huy)
          have hbe : (u == y) = true := by simpa using huy
          have HHuy := Lib.hid huy
          clear huy hcc
          go_upto_region 8 with (first
            | (at_mapUpdate; refine wp_put _ rfl _ _ _ 112 rfl keyInt Try.underlying3 Try.underlying112 rfl HSz.out (by unfold maxLen; omega) x rfl (inR_wf HX.out) _ rfl (.lit (.bool true)) [] rfl ?_; intro w5 hset5 hg5 hs5)
            | go_in)
          have hux : u ≠ x := fun e => by
            subst e
            rcases HUY.out with h | h
            · exact HNe.out h
            · rw [HRf.out] at h; cases h
          have HUX := Lib.hid hux
          have hzr := HV4.out.ends u z HZ.out
          have hbr := HV4.out.pbr
          have HR5 := Lib.hid (HR4.out.kept hg5 (fun e => by have := Option.some.inj e; omega) (fun e => by have := Option.some.inj e; omega))
          have e3 := OutAt.look (M := fun v => (M1 v).map some) HR5.out.owns x (inR_wf HX.out)
          rw [elt_some] at e3
          have f2 : w5.cell? ⟨w.heap.size, 0, none⟩ = some (.int .i64 x) := (World.cell?_of_block (hg5.block w.heap.size (by have := hr5.out; omega) (fun e => by have := Option.some.inj e; omega))).trans f0
          have hsrc : OptSet w5 (M1 x) n1 (fun a => R a x) := by
            cases e : M1 x with
            | none =>
              intro a
              cases e' : R a x
              · exact e'
              · obtain ⟨z', hz'⟩ := HHas.out x a e'
                rw [e] at hz'; cases hz'
            | some z' =>
              have hzz : z' ≠ z := fun e' => hux (HInj.out _ _ z HZ.out (e' ▸ e))
              exact MapAt.kept (HV4.out.src z' e) hg5 (fun e => hzz (Option.some.inj e))
          have HSrc := Lib.hid hsrc
          have Hg5 := Lib.hid hg5
          have Hset5 : Hid (SetAt w5 z (n1 + 1) (fun a => if a = x then true else R a u)) := Lib.hid (MapAt.congr hset5 fun a _ => by
            show (if a = x then some (DataW.lit (Lit.bool true)) else bit (fun a => R a u) a) = bit (fun a => if a = x then true else R a u) a
            by_cases e : a = x <;> simp [bit, e])
          have Hs5 := Lib.hid hs5
          clear hset5 hg5 hs5 hsrc hux hzr hbr f0 f1 e1 hen
          go_wp2_with fail
          refine (copy_of_set w5 z (n1 + 1) n1 (M1 x) _ _ Hset5.out HSrc.out (fun e => HUX.out (HInj.out _ _ z HZ.out e)) (by omega)).mono ?_
          rintro e w6 ⟨rfl, hset6, hg6⟩
          have HG6 := Lib.hid (Hg5.out.trans hg6)
          have HR6 := Lib.hid (HR5.out.kept hg6 (fun e => by have := Option.some.inj e; have := (HV4.out.ends u z HZ.out).2.1; omega) (fun e => by have := Option.some.inj e; have := (HV4.out.ends u z HZ.out).2.2.2; omega))
          have HSet6 := Lib.hid hset6
          clear hset6 hg6 e3 f2
          go_wp2
          go_roundw
          case rel => exact ⟨_, cnt4, HR6.out, HV4.out.done HInj.out HZ.out HUX.out HUY.out HG6.out hr5.out (MapAt.mono HSet6.out (by omega))⟩
          case measure => rw [HR6.out.left_eq, HR.out.left_eq]; exact Hlt4.out
        · have hbe : (u == y) = false := by simpa using huy
          have HHuy := Lib.hid huy
          clear huy
          cases hcc : R y u
          · rw [hcc] at e1
            have HCC := Lib.hid hcc
            clear hcc
            go_wp2
            go_roundw
            case rel => exact ⟨_, cnt4, HR4.out, HV4.out.skip HLu.out HHuy.out HCC.out⟩
            case measure => rw [HR4.out.left_eq, HR.out.left_eq]; exact Hlt4.out
          · rw [hcc] at e1
            have HUY := Lib.hid (show u = y ∨ R y u = true from .inr hcc)
            clear hcc
            go_upto_region 8 with (first
              | (at_mapUpdate; refine wp_put _ rfl _ _ _ 112 rfl keyInt Try.underlying3 Try.underlying112 rfl HSz.out (by unfold maxLen; omega) x rfl (inR_wf HX.out) _ rfl (.lit (.bool true)) [] rfl ?_; intro w5 hset5 hg5 hs5)
              | go_in)
            have hux : u ≠ x := fun e => by
              subst e
              rcases HUY.out with h | h
              · exact HNe.out h
              · rw [HRf.out] at h; cases h
            have HUX := Lib.hid hux
            have hzr := HV4.out.ends u z HZ.out
            have hbr := HV4.out.pbr
            have HR5 := Lib.hid (HR4.out.kept hg5 (fun e => by have := Option.some.inj e; omega) (fun e => by have := Option.some.inj e; omega))
            have e3 := OutAt.look (M := fun v => (M1 v).map some) HR5.out.owns x (inR_wf HX.out)
            rw [elt_some] at e3
            have f2 : w5.cell? ⟨w.heap.size, 0, none⟩ = some (.int .i64 x) := (World.cell?_of_block (hg5.block w.heap.size (by have := hr5.out; omega) (fun e => by have := Option.some.inj e; omega))).trans f0
            have hsrc : OptSet w5 (M1 x) n1 (fun a => R a x) := by
              cases e : M1 x with
              | none =>
                intro a
                cases e' : R a x
                · exact e'
                · obtain ⟨z', hz'⟩ := HHas.out x a e'
                  rw [e] at hz'; cases hz'
              | some z' =>
                have hzz : z' ≠ z := fun e' => hux (HInj.out _ _ z HZ.out (e' ▸ e))
                exact MapAt.kept (HV4.out.src z' e) hg5 (fun e => hzz (Option.some.inj e))
            have HSrc := Lib.hid hsrc
            have Hg5 := Lib.hid hg5
            have Hset5 : Hid (SetAt w5 z (n1 + 1) (fun a => if a = x then true else R a u)) := Lib.hid (MapAt.congr hset5 fun a _ => by
              show (if a = x then some (DataW.lit (Lit.bool true)) else bit (fun a => R a u) a) = bit (fun a => if a = x then true else R a u) a
              by_cases e : a = x <;> simp [bit, e])
            have Hs5 := Lib.hid hs5
            clear hset5 hg5 hs5 hsrc hux hzr hbr f0 f1 e1 hen
            go_wp2_with fail
            refine (copy_of_set w5 z (n1 + 1) n1 (M1 x) _ _ Hset5.out HSrc.out (fun e => HUX.out (HInj.out _ _ z HZ.out e)) (by omega)).mono ?_
            rintro e w6 ⟨rfl, hset6, hg6⟩
            have HG6 := Lib.hid (Hg5.out.trans hg6)
            have HR6 := Lib.hid (HR5.out.kept hg6 (fun e => by have := Option.some.inj e; have := (HV4.out.ends u z HZ.out).2.1; omega) (fun e => by have := Option.some.inj e; have := (HV4.out.ends u z HZ.out).2.2.2; omega))
            have HSet6 := Lib.hid hset6
            clear hset6 hg6 e3 f2
            go_wp2
            go_roundw
            case rel => exact ⟨_, cnt4, HR6.out, HV4.out.done HInj.out HZ.out HUX.out HUY.out HG6.out hr5.out (MapAt.mono HSet6.out (by omega))⟩
            case measure => rw [HR6.out.left_eq, HR.out.left_eq]; exact Hlt4.out
end Go.Proofs.Ytalgfiefadfmnaa.num
namespace Go.Proofs.Ytalgfiefadfmnaa.num
open Go.RowKit Go.Maps
set_option linter.unusedVariables false

theorem lt_cell {w : World} {b o : Nat} {v : Value} (h : w.cell? ⟨b, o, none⟩ = some v) : b < w.heap.size := by
  rcases Nat.lt_or_ge b w.heap.size with h' | h'
  · exact h'
  · simp [World.cell?, Array.getElem?_eq_none h'] at h
theorem isValue_of (v : Int) (q : Bool) (hq : q = true ↔ InR v) (w : World) :
    Calls Try.prog 33 #[.int .i64 v] w fun e w' => e = .returned (.bool q) ∧ w = w' := by
  obtain rfl : q = (decide (0 ≤ v) && decide (v ≤ 9)) := by rw [Bool.eq_iff_iff, hq]; simp [InR]
  clear hq
  by_cases h1 : 0 ≤ v
  · go_enter Try.func33, Try.ntmps33
    go_wp2
    go_ret
    exact ⟨by simp [h1], rfl⟩
  · go_enter Try.func33, Try.ntmps33
    go_wp2
    go_ret
    exact ⟨by simp; omega, rfl⟩

/-- aboveSets under way: behind k pairs. -/
def AboveRel (ps : List (Int × Int)) (B b : Nat) (w : World) (k : Nat) (wr : World) : Prop :=
  Good (ps.take k) ∧ (∃ (n : Nat) (M : Int → Option Nat), n + 3 ≤ 3 * 2 ^ k ∧ SetsR wr B b n M (rb (ps.take k))) ∧ Below B w wr ∧ b < wr.heap.size
/-- What aboveSets answers. -/
def AboveP (ps : List (Int × Int)) (B : Nat) (q : Bool) (o : Option Nat) (w : World) : Prop :=
  (q = false → o = none) ∧ (q = true → ∃ (b n : Nat) (M : Int → Option Nat), o = some b ∧ n ≤ 765 ∧ SetsR w B b n M (rb ps))
theorem AboveP.below {ps : List (Int × Int)} {B : Nat} {q : Bool} {o : Option Nat} {w w' : World} (h : AboveP ps B q o w) (hb : Below w.heap.size w w') : AboveP ps B q o w' :=
  ⟨h.1, fun hq => by obtain ⟨b, n, M, h1, h2, h3⟩ := h.2 hq; exact ⟨b, n, M, h1, h2, h3.below hb⟩⟩
theorem rb_step (ps : List (Int × Int)) (k : Nat) (p : Int × Int) (h : ps[k]? = some p) : rb (ps.take (k + 1)) = stepR (rb (ps.take k)) p := by
  rw [ptake_at h]
  unfold rb
  rw [List.foldl_append]
  rfl
set_option maxHeartbeats 800000 in
theorem above_of (w : World) (B : Nat) (A : Option Addr) (n c : Nat) (ps : List (Int × Int)) (hi : Pairs w B A n ps) (hB : B ≤ w.heap.size) (hn : n ≤ 1048576) (q : Bool) (hq : q = true ↔ OkP ps) :
    Calls Try.prog 53 #[.slice A n c] w fun e w' => (∃ o, e = .returned (.tuple #[.map o, .bool q]) ∧ AboveP ps w.heap.size q o w') ∧ Below w.heap.size w w' := by
  have HX := Lib.hid hi
  have HQ := Lib.hid hq
  clear hi hq
  by_cases h8 : (n : Int) ≤ 8
  · have hmm := @run_makeMap Try.prog
    go_enter Try.func53, Try.ntmps53
    go_wp2
    clear hmm
    go_loopw [13] (fun i wr => ∃ k : Nat, k ≤ n ∧ i = .int .i64 k ∧ AboveRel ps w.heap.size w.heap.size w k wr) (fun i _ => n - (intOf i).toNat)
    case atStart =>
      refine ⟨0, Nat.zero_le _, rfl, Good.nil, ⟨0, fun _ => none, by decide, ?_⟩, (Below.refl _ _).alloc (Nat.le_refl _) _, by simp⟩
      exact ⟨OutAt.made w, Nat.le_refl _, (fun v a h => by cases h), (fun v x h => by cases h), (fun v x h => by cases h), (fun v v' x h => by cases h)⟩
    case round =>
      obtain ⟨k, hk, rfl, hgood, ⟨m, M, hm, hsets⟩, hbel, hbs⟩ := hrel
      have HG := Lib.hid hgood
      have HS := Lib.hid hsets
      have HB := Lib.hid hbel
      have HM := Lib.hid hm
      clear hgood hsets hm
      by_cases hlt : k < n
      · obtain ⟨b1, off, x, y, rfl, hb1, hat, hc1, hc2⟩ := HX.out.at k hlt
        have f1 := (hbel.cell (p := ⟨b1, off + k * 2, none⟩) (by exact Nat.lt_of_lt_of_le hb1 hB)).trans hc1
        have f2 := (hbel.cell (p := ⟨b1, off + k * 2 + 1, none⟩) (by exact Nat.lt_of_lt_of_le hb1 hB)).trans hc2
        have HT := Lib.hid hat
        obtain ⟨q1, hq1⟩ := bool_of (InR x)
        obtain ⟨q2, hq2⟩ := bool_of (InR y)
        have HQ1 := Lib.hid hq1
        have HQ2 := Lib.hid hq2
        have hbad : ¬ Good (ps.take (k + 1)) → q = false := fun h => by
          cases q
          · rfl
          · exact absurd (good_take (HQ.out.1 rfl).1 _) h
        have HBad := Lib.hid hbad
        have hgs := good_snoc (ps := ps.take k) (p := (x, y))
        rw [← ptake_at hat] at hgs
        have HGS := Lib.hid hgs
        clear hat hq1 hq2 hbad hgs hc1 hc2 hbel
        go_wp2_with fail
        refine (isValue_of x q1 HQ1.out _).mono ?_
        rintro e w1 ⟨rfl, hw1⟩
        have hb1' : Below wr.heap.size wr w1 := by
          rw [← hw1]
          exact (Below.refl _ wr).alloc (Nat.le_refl _) _
        have hcell : w1.cell? ⟨wr.heap.size, 0, none⟩ = some (.int .i64 x) ∧ w1.cell? ⟨wr.heap.size, 1, none⟩ = some (.int .i64 y) := by
          rw [← hw1]
          constructor <;> (rw [World.cell?_alloc_at _ _ _ _ rfl]; rfl)
        obtain ⟨g1, g2⟩ := hcell
        have HW := Lib.hid hb1'
        have HS1 := Lib.hid (HS.out.below hb1')
        clear f1 f2 hb1' hw1 HS
        cases q1
        · obtain rfl : q = false := HBad.out fun h => by
            have := HQ1.out.2 (HGS.out.1 h).2.1
            cases this
          go_wp2
          go_ret2
          exact ⟨⟨_, rfl, (fun _ => rfl), fun h => by cases h⟩, HB.out.trans (HW.out.mono HB.out.size)⟩
        · go_wp2_with fail
          refine (isValue_of y q2 HQ2.out _).mono ?_
          rintro e w2 ⟨rfl, rfl⟩
          cases q2
          · obtain rfl : q = false := HBad.out fun h => by
              have := HQ2.out.2 (HGS.out.1 h).2.2.1
              cases this
            go_wp2
            go_ret2
            exact ⟨⟨_, rfl, (fun _ => rfl), fun h => by cases h⟩, HB.out.trans (HW.out.mono HB.out.size)⟩
          · have HIX := Lib.hid (HQ1.out.1 (by first | rfl | trivial))
            have HIY := Lib.hid (HQ2.out.1 (by first | rfl | trivial))
            obtain ⟨q3, hq3⟩ := bool_of (x = y ∨ rb (ps.take k) y x = true)
            have HQ3 := Lib.hid hq3
            clear hq3
            go_wp2_with fail
            refine (closes_of w1 w.heap.size w.heap.size m M _ HS1.out x y HIX.out HIY.out q3 HQ3.out).mono ?_
            rintro e w2 ⟨rfl, hb2⟩
            have HW2 := Lib.hid (HW.out.trans (hb2.mono HW.out.size))
            have HS2 := Lib.hid (HS1.out.below hb2)
            have g3 := (hb2.cell (p := ⟨wr.heap.size, 0, none⟩) (by have := g1; exact lt_cell g1)).trans g1
            have g4 := (hb2.cell (p := ⟨wr.heap.size, 1, none⟩) (by exact lt_cell g1)).trans g2
            clear hb2 g1 g2 HS1 HW
            cases q3
            · have hne : x ≠ y := fun e => by have := HQ3.out.2 (.inl e); cases this
              have hrf : rb (ps.take k) y x = false := by
                cases e : rb (ps.take k) y x
                · rfl
                · have := HQ3.out.2 (.inr e); cases this
              have HNE := Lib.hid hne
              have HRF := Lib.hid hrf
              have hm1 : m ≤ 100000 := by
                have h1 := HM.out
                have h2 : 2 ^ k ≤ 2 ^ 8 := Nat.pow_le_pow_right (by decide) (by omega)
                omega
              clear hne hrf
              go_wp2_with fail
              refine (add_of w2 w.heap.size w.heap.size m M _ HS2.out (Nat.le_trans HB.out.size HW2.out.size) hm1 x y HIX.out HIY.out HNE.out HRF.out).mono ?_
              rintro e w3 ⟨rfl, hset, hb3⟩
              have HB3 := Lib.hid ((HB.out.trans (HW2.out.mono HB.out.size)).trans hb3)
              have HSet := Lib.hid hset
              clear hset hb3 g3 g4 HS2
              go_wp2
              go_roundw
              case rel =>
                obtain ⟨M', hM'⟩ := HSet.out
                refine ⟨k + 1, by omega, by go_num, HGS.out.2 ⟨HG.out, HIX.out, HIY.out, HNE.out, HRF.out⟩, ⟨2 * m + 3, M', ?_, ?_⟩, HB3.out, MapAt.lt hM'.out⟩
                · have h1 := HM.out
                  rw [Nat.pow_succ]; omega
                · rw [rb_step ps k (x, y) HT.out]; exact hM'
              case measure => simp [intOf]; omega
            · obtain rfl : q = false := HBad.out fun h => by
                have h1 := (HGS.out.1 h).2.2.2
                rcases HQ3.out.1 (by first | rfl | trivial) with e | e
                · exact h1.1 e
                · rw [h1.2] at e; cases e
              go_wp2
              go_ret2
              exact ⟨⟨_, rfl, (fun _ => rfl), fun h => by cases h⟩, HB.out.trans (HW2.out.mono HB.out.size)⟩
      · obtain rfl : k = n := by omega
        have hg := HG.out
        have hs := HS.out
        rw [ptake_all HX.out.1] at hg hs
        have hok : OkP ps := ⟨hg, by rw [HX.out.1]; omega⟩
        obtain rfl : q = true := HQ.out.2 hok
        have hm1 : m ≤ 765 := by
          have h1 := HM.out
          have h2 : 2 ^ k ≤ 2 ^ 8 := Nat.pow_le_pow_right (by decide) (by omega)
          omega
        have HSF := Lib.hid hs
        clear hg hs hok hbel
        go_wp2
        go_ret2
        exact ⟨⟨_, rfl, (fun h => by cases h), fun _ => ⟨_, m, M, rfl, hm1, HSF.out⟩⟩, HB.out⟩
  · obtain rfl : q = false := by
      cases q
      · rfl
      · have := (HQ.out.1 rfl).2
        rw [HX.out.1] at this
        omega
    go_enter Try.func53, Try.ntmps53
    go_wp2
    go_ret2
    exact ⟨⟨_, rfl, (fun _ => rfl), fun h => by cases h⟩, Below.refl _ _⟩
end Go.Proofs.Ytalgfiefadfmnaa.num
namespace Go.Proofs.Ytalgfiefadfmnaa.num
open Go.RowKit Go.Maps
set_option linter.unusedVariables false

/-- Two lookups, one behind the other, in what aboveSets answered. -/
theorem AboveP.look {ps : List (Int × Int)} {B : Nat} {q : Bool} {o : Option Nat} {w : World} (h : AboveP ps B q o w) {v a : Int} (hv : (Lit.int .i64 v).wf = true) (ha : (Lit.int .i64 a).wf = true) :
    ∃ o2, (Instr.lookup 87 (.map o) (.int .i64 v) false).run Try.prog w = .ok (.map o2) w ∧ (Instr.lookup 112 (.map o2) (.int .i64 a) false).run Try.prog w = .ok (.bool (q && rb ps a v)) w := by
  cases q
  · obtain rfl := h.1 rfl
    exact ⟨none, nil_out w v hv, by simpa using nil_look w a ha⟩
  · obtain ⟨b, n, M, rfl, _, hs⟩ := h.2 rfl
    refine ⟨M v, ?_, ?_⟩
    · have := OutAt.look hs.out v hv
      rw [elt_some] at this
      exact this
    · simpa using (hs.opt v).look a ha
/-- The closure's first part, if there is one. -/
def cq (ps : List (Int × Int)) (q : Bool) (k : Nat) : List (Int × Int) := if q then clo ps k else []
theorem cq_zero (ps : List (Int × Int)) (q : Bool) : cq ps q 0 = [] := by cases q <;> rfl
theorem cq_succ (ps : List (Int × Int)) (q : Bool) {a b : Nat} (ha : a < 10) (hb : b < 10) : cq ps q (a * 10 + (b + 1)) = if (q && rb ps a b) = true then cq ps q (a * 10 + b) ++ [((a : Int), (b : Int))] else cq ps q (a * 10 + b) := by
  cases q
  · rfl
  · exact clo_succ ps ha hb
theorem cq_len (ps : List (Int × Int)) (q : Bool) (k : Nat) : (cq ps q k).length ≤ 100 := by
  cases q
  · simp [cq]
  · exact clo_len ps k
theorem nat_wf {k : Nat} (h : k ≤ 10) : (Lit.int .i64 (k : Int)).wf = true := WalkArith.wf_i64 (by omega)
theorem OwnP.low {w : World} {B B' : Nat} {v : Value} {l : List (Int × Int)} (h : OwnP w B v l) (hB : B' ≤ B) : OwnP w B' v l :=
  ⟨h.1, h.2.imp id fun ⟨g, cap, cur, h1, h2, h3⟩ => ⟨g, cap, cur, h1, Nat.le_trans hB h2, h3⟩⟩
end Go.Proofs.Ytalgfiefadfmnaa.num
namespace Go.Proofs.Ytalgfiefadfmnaa.num
open Go.RowKit Go.Maps
set_option linter.unusedVariables false


set_option maxRecDepth 20000 in
theorem iList (w : World) (B : Nat) (A : Option Addr) (n c : Nat) (xs : List Int) (hi : Ints w B A n xs) (hn : n ≤ 1048576) (b : Bool) (hb : b = true ↔ Asc xs) :
    Calls Try.prog 52 #[.slice A n c] w fun e w' => e = .returned (.bool b) ∧ w' = w := by
  have HX := Lib.hid hi
  have HB := Lib.hid hb
  clear hi hb
  have HNo : Hid (¬ AscUp xs → b = false) := Lib.hid fun h => by
    cases b
    · rfl
    · exact absurd (HB.out.1 rfl).2 h
  go_enter Try.func52, Try.ntmps52
  go_wp2
  go_loopw [7] (fun i wr => ∃ k : Nat, k ≤ n ∧ i = .int .i64 k ∧ AscUp (xs.take k) ∧ wr = w) (fun i _ => n - (intOf i).toNat)
  case atStart => exact ⟨0, Nat.zero_le _, rfl, by rw [List.take_zero]; exact AscUp.nil, rfl⟩
  case round =>
    obtain ⟨k, hk, rfl, hasc, rfl⟩ := hrel
    have HA := Lib.hid hasc
    clear hasc
    by_cases hlt : k < n
    · obtain ⟨b1, off, x, hA1, hb1, hat, hc⟩ := HX.out.at k hlt
      have HT := Lib.hid hat
      have hlt' : (k : Int) < (n : Int) := by omega
      obtain ⟨q, hq⟩ := bool_of (InR x)
      have HQ := Lib.hid hq
      clear hat hq
      cases q
      · obtain rfl : b = false := HNo.out fun h => by have := HQ.out.2 (h.1 x (List.mem_of_getElem? HT.out)); cases this
        subst hA1
        go_wp2_with fail
        refine (isValue_of x false HQ.out _).mono ?_
        rintro e w1 ⟨rfl, rfl⟩
        go_wp2
        go_ret
        exact ⟨rfl, rfl⟩
      · have HD := Lib.hid (HQ.out.1 rfl)
        rcases Nat.eq_zero_or_pos k with h0 | h0
        · have HK := Lib.hid h0
          subst hA1
          clear h0
          have hk0 : decide (0 < k) = false := decide_eq_false (by have := HK.out; omega)
          go_wp2_with fail
          refine (isValue_of x true ⟨fun _ => HD.out, fun _ => rfl⟩ _).mono ?_
          rintro e w1 ⟨rfl, rfl⟩
          go_wp2
          clear hk0
          go_roundw
          case rel => exact ⟨k + 1, by omega, by go_num, ascUp_snoc HA.out HT.out HD.out (fun j u hj _ => by have := HK.out; omega), by first | rfl | trivial⟩
          case measure => simp [intOf]; omega
        · obtain ⟨j, hj⟩ : ∃ j, j + 1 = k := ⟨k - 1, by omega⟩
          obtain ⟨b2, off2, y, hA2, hb2, hat2, hc2⟩ := HX.out.at j (by omega)
          obtain ⟨rfl, rfl⟩ : b1 = b2 ∧ off = off2 := by rw [hA1] at hA2; injection hA2 with h; injection h with h1 h2; exact ⟨h1, h2⟩
          have HT0 := Lib.hid hat2
          have HJ := Lib.hid hj
          have HK0 : Hid ((0 : Int) < (k : Int)) := by show _ < _; omega
          have hkj : (k : Int) - 1 = (j : Int) := by omega
          have hkw : IntKind.i64.wrap ((k : Int) - 1) = (j : Int) := by rw [hkj]; exact IntWalk.i64_in _ ⟨by omega, by omega⟩
          have hjw : IntKind.i64.wrap (j : Int) = (j : Int) := IntWalk.i64_in _ ⟨by omega, by omega⟩
          have hjn : (j : Int) < (n : Int) := by omega
          have hjn' : j < n := by omega
          have hk0 : decide (0 < k) = true := decide_eq_true (by have := HK0.out; omega)
          subst hA1
          clear h0 hj hat2 hA2
          by_cases hle : x ≤ y
          · obtain rfl : b = false := HNo.out (asc_bad (by rw [HJ.out]; exact HT.out) HT0.out hle)
            go_wp2_with fail
            refine (isValue_of x true ⟨fun _ => HD.out, fun _ => rfl⟩ _).mono ?_
            rintro e w1 ⟨rfl, rfl⟩
            go_wp2
            go_ret
            exact ⟨rfl, rfl⟩
          · have HLe : Hid (y < x) := by show _ < _; omega
            go_wp2_with fail
            refine (isValue_of x true ⟨fun _ => HD.out, fun _ => rfl⟩ _).mono ?_
            rintro e w1 ⟨rfl, rfl⟩
            go_wp2
            clear hk0
            go_roundw
            case rel => exact ⟨k + 1, by omega, by go_num, ascUp_snoc HA.out HT.out HD.out (asc_next HJ.out HT0.out HLe.out), by first | rfl | trivial⟩
            case measure => simp [intOf]; omega
    · obtain rfl : k = n := by omega
      have h := HA.out
      rw [ptake_all HX.out.1] at h
      have HH := Lib.hid h
      clear h
      by_cases h0 : (0 : Int) < (k : Int)
      · have hd : decide (0 < k) = true := by simp; omega
        obtain rfl : b = true := HB.out.2 ⟨fun e => by have := HX.out.1; rw [e] at this; simp at this; omega, HH.out⟩
        go_wp2
        go_ret
        exact ⟨by simp, rfl⟩
      · obtain rfl : b = false := by
          cases b
          · rfl
          · exact absurd (List.length_eq_zero_iff.1 (by rw [HX.out.1]; omega)) (HB.out.1 rfl).1
        go_wp2
        go_ret
        exact ⟨by simp; omega, rfl⟩

set_option maxRecDepth 20000 in
theorem iOther (w : World) (t : Wi) (hl : t.Ln ≤ 1048576) (hp : t.Pn ≤ 1048576) (q : Bool) (hq : q = true ↔ (t.kind ≠ 2 ∧ t.value ≠ 0) ∨ (t.kind ≠ 3 ∧ t.Ln ≠ 0) ∨ (t.kind ≠ 4 ∧ t.Pn ≠ 0)) :
    Calls Try.prog 51 #[t.val] w fun e w' => e = .returned (.bool q) ∧ Below w.heap.size w w' := by
  obtain ⟨k, f, v, LA, Ln, Lc, ls, PA, Pn, Pc, ps⟩ := t
  unfold Wi.val
  simp only [] at hl hp hq ⊢
  have HW1 : Hid (∀ o : Obj, Below w.heap.size w (w.alloc o)) := Lib.hid fun o => (Below.refl _ w).alloc (Nat.le_refl _) _
  by_cases k2 : k = 2
  · subst k2
    by_cases hL : Ln = 0
    · have hL' : decide (0 < Ln) = false := by simp [hL]
      have hL2 : ¬ ((0 : Int) < (Ln : Int)) := by omega
      by_cases hP : Pn = 0
      · have hP' : decide (0 < Pn) = false := by simp [hP]
        have hP2 : ¬ ((0 : Int) < (Pn : Int)) := by omega
        obtain rfl : q = false := by
          cases q
          · rfl
          · exact absurd (hq.1 rfl) (by omega)
        clear hq hL hP
        go_enter Try.func51, Try.ntmps51
        go_wp2
        go_ret
        exact ⟨by first | rfl | simp, HW1.out _⟩
      · have hP' : decide (0 < Pn) = true := by simp; omega
        have hP2 : (0 : Int) < (Pn : Int) := by omega
        obtain rfl : q = true := hq.2 (by omega)
        clear hq hL hP
        go_enter Try.func51, Try.ntmps51
        go_wp2
        go_ret
        exact ⟨by first | rfl | simp, HW1.out _⟩
    · have hL' : decide (0 < Ln) = true := by simp; omega
      have hL2 : (0 : Int) < (Ln : Int) := by omega
      obtain rfl : q = true := hq.2 (by omega)
      clear hq hL
      go_enter Try.func51, Try.ntmps51
      go_wp2
      go_ret
      exact ⟨by first | rfl | simp, HW1.out _⟩
  · by_cases k3 : k = 3
    · subst k3
      clear k2
      by_cases hv : v = 0
      · have hv' : (v != 0) = false := by simp [hv]
        by_cases hP : Pn = 0
        · have hP' : decide (0 < Pn) = false := by simp [hP]
          have hP2 : ¬ ((0 : Int) < (Pn : Int)) := by omega
          obtain rfl : q = false := by
            cases q
            · rfl
            · exact absurd (hq.1 rfl) (by omega)
          clear hq hv hP
          go_enter Try.func51, Try.ntmps51
          go_wp2
          go_ret
          exact ⟨by first | rfl | simp, HW1.out _⟩
        · have hP' : decide (0 < Pn) = true := by simp; omega
          have hP2 : (0 : Int) < (Pn : Int) := by omega
          obtain rfl : q = true := hq.2 (by omega)
          clear hq hv hP
          go_enter Try.func51, Try.ntmps51
          go_wp2
          go_ret
          exact ⟨by first | rfl | simp, HW1.out _⟩
      · have hv' : (v != 0) = true := by simp [hv]
        obtain rfl : q = true := hq.2 (by omega)
        clear hq hv
        go_enter Try.func51, Try.ntmps51
        go_wp2
        go_ret
        exact ⟨by first | rfl | simp, HW1.out _⟩
    · by_cases k4 : k = 4
      · subst k4
        clear k2 k3
        by_cases hv : v = 0
        · have hv' : (v != 0) = false := by simp [hv]
          by_cases hL : Ln = 0
          · have hL' : decide (0 < Ln) = false := by simp [hL]
            have hL2 : ¬ ((0 : Int) < (Ln : Int)) := by omega
            obtain rfl : q = false := by
              cases q
              · rfl
              · exact absurd (hq.1 rfl) (by omega)
            clear hq hv hL
            go_enter Try.func51, Try.ntmps51
            go_wp2
            go_ret
            exact ⟨by first | rfl | simp, HW1.out _⟩
          · have hL' : decide (0 < Ln) = true := by simp; omega
            have hL2 : (0 : Int) < (Ln : Int) := by omega
            obtain rfl : q = true := hq.2 (by omega)
            clear hq hv hL
            go_enter Try.func51, Try.ntmps51
            go_wp2
            go_ret
            exact ⟨by first | rfl | simp, HW1.out _⟩
        · have hv' : (v != 0) = true := by simp [hv]
          obtain rfl : q = true := hq.2 (by omega)
          clear hq hv
          go_enter Try.func51, Try.ntmps51
          go_wp2
          go_ret
          exact ⟨by first | rfl | simp, HW1.out _⟩
      · have f2 : (k != 2) = true := by simpa using k2
        have f3 : (k != 3) = true := by simpa using k3
        have f4 : (k != 4) = true := by simpa using k4
        by_cases hv : v = 0
        · have hv' : (v != 0) = false := by simp [hv]
          by_cases hL : Ln = 0
          · have hL' : decide (0 < Ln) = false := by simp [hL]
            have hL2 : ¬ ((0 : Int) < (Ln : Int)) := by omega
            by_cases hP : Pn = 0
            · have hP' : decide (0 < Pn) = false := by simp [hP]
              have hP2 : ¬ ((0 : Int) < (Pn : Int)) := by omega
              obtain rfl : q = false := by
                cases q
                · rfl
                · exact absurd (hq.1 rfl) (by omega)
              clear hq k2 k3 k4 hv hL hP
              go_enter Try.func51, Try.ntmps51
              go_wp2
              go_ret
              exact ⟨by first | rfl | simp, HW1.out _⟩
            · have hP' : decide (0 < Pn) = true := by simp; omega
              have hP2 : (0 : Int) < (Pn : Int) := by omega
              obtain rfl : q = true := hq.2 (by omega)
              clear hq k2 k3 k4 hv hL hP
              go_enter Try.func51, Try.ntmps51
              go_wp2
              go_ret
              exact ⟨by first | rfl | simp, HW1.out _⟩
          · have hL' : decide (0 < Ln) = true := by simp; omega
            have hL2 : (0 : Int) < (Ln : Int) := by omega
            obtain rfl : q = true := hq.2 (by omega)
            clear hq k2 k3 k4 hv hL
            go_enter Try.func51, Try.ntmps51
            go_wp2
            go_ret
            exact ⟨by first | rfl | simp, HW1.out _⟩
        · have hv' : (v != 0) = true := by simp [hv]
          obtain rfl : q = true := hq.2 (by omega)
          clear hq k2 k3 k4 hv
          go_enter Try.func51, Try.ntmps51
          go_wp2
          go_ret
          exact ⟨by first | rfl | simp, HW1.out _⟩
end Go.Proofs.Ytalgfiefadfmnaa.num
namespace Go.Proofs.Ytalgfiefadfmnaa.num
open Go.RowKit

def nearI (b : Int) : Value := .iface 84 (.agg #[.int .i64 b])
def amongI (A : Option Addr) (n c : Nat) : Value := .iface 86 (.agg #[.slice A n c])
def orderI (o : Option Nat) : Value := .iface 91 (.agg #[.map o])
end Go.Proofs.Ytalgfiefadfmnaa.num
namespace Go.Proofs.Ytalgfiefadfmnaa.num
open Go.RowKit Go.Maps
set_option linter.unusedVariables false

/-- v is the taste of the valid wish t. -/
def TasteAt (w : World) (t : Wi) (v : Value) : Prop :=
  (t.kind ≠ 4 ∧ ∃ b, InR b ∧ v = nearI b ∧ ∀ x, InR x → rankW t.dat x = if x < b then b - x else x - b) ∨
  (t.kind ≠ 4 ∧ v = amongI t.LA t.Ln t.Lc ∧ ∀ x, rankW t.dat x = if x ∈ t.ls then 0 else 1) ∨
  (t.kind = 4 ∧ ∃ o B, v = orderI o ∧ AboveP t.ps B true o w)
theorem TasteAt.below {w w' : World} {t : Wi} {v : Value} (h : TasteAt w t v) (hb : Below w.heap.size w w') : TasteAt w' t v := by
  rcases h with h | h | ⟨h, o, B, e, a⟩
  · exact .inl h
  · exact .inr (.inl h)
  · exact .inr (.inr ⟨h, o, B, e, a.below hb⟩)
theorem value_same (v : Int) (q : Bool) (hq : q = true ↔ InR v) (w : World) :
    Calls Try.prog 33 #[.int .i64 v] w fun e w' => e = .returned (.bool q) ∧ w' = w :=
  (isValue_of v q hq w).mono fun _ _ h => ⟨h.1, h.2.symm⟩

set_option maxRecDepth 20000 in
set_option maxHeartbeats 1600000 in
theorem taste_of (w : World) (B : Nat) (t : Wi) (hi : WiIn w B t) (hB : B ≤ w.heap.size) (hn : t.Short) (q : Bool) (hq : q = true ↔ IsW t.dat) :
    Calls Try.prog 32 #[t.val] w fun e w' => (∃ v, e = .returned (.tuple #[v, .bool q]) ∧ (q = true → TasteAt w' t v)) ∧ Below w.heap.size w w' := by
  have HO : Hid (∀ (w1 : World) (p : Bool), (p = true ↔ (t.kind ≠ 2 ∧ t.value ≠ 0) ∨ (t.kind ≠ 3 ∧ t.Ln ≠ 0) ∨ (t.kind ≠ 4 ∧ t.Pn ≠ 0)) → Calls Try.prog 51 #[t.val] w1 fun e w' => e = .returned (.bool p) ∧ Below w1.heap.size w1 w') := Lib.hid fun w1 p hp => iOther w1 t hn.1 hn.2 p hp
  obtain ⟨k, f, v, LA, Ln, Lc, ls, PA, Pn, Pc, ps⟩ := t
  obtain ⟨-, -, -, hl, hp⟩ := hi
  unfold Wi.val at HO ⊢
  simp only [Wi.dat, Wi.Short] at hl hp hn hq HO ⊢
  have HL := Lib.hid hl
  have HP := Lib.hid hp
  have HQ := Lib.hid hq
  have HN := Lib.hid hn
  have HB1 : Hid (∀ o : Obj, Below B w (w.alloc o)) := Lib.hid fun o => (Below.refl B w).alloc hB _
  have HW1 : Hid (∀ o : Obj, Below w.heap.size w (w.alloc o)) := Lib.hid fun o => (Below.refl _ w).alloc (Nat.le_refl _) _
  have HLn : Hid (ls = [] ↔ Ln = 0) := by
    show _ ↔ _
    rw [← hl.1, List.length_eq_zero_iff]
  have HPn : Hid (ps = [] ↔ Pn = 0) := by
    show _ ↔ _
    rw [← hp.1, List.length_eq_zero_iff]
  clear hl hp hq hn
  have HNo : Hid (¬ IsW ⟨k, f, v, ls, ps⟩ → q = false) := Lib.hid fun h => by
    cases q
    · rfl
    · exact absurd (HQ.out.1 rfl) h
  by_cases f0 : f < 0
  · obtain rfl := HNo.out fun h => by have := h.f.1; dsimp only at this; omega
    go_enter Try.func32, Try.ntmps32
    go_wp2
    go_ret2
    first | exact ⟨⟨_, rfl, fun h => by cases h⟩, HW1.out _⟩ | exact ⟨rfl, HW1.out _⟩ | exact ⟨⟨_, rfl⟩, HW1.out _⟩
  by_cases f3 : 3 ≤ f
  · obtain rfl := HNo.out fun h => by have := h.f.2; dsimp only at this; omega
    go_enter Try.func32, Try.ntmps32
    go_wp2
    go_ret2
    first | exact ⟨⟨_, rfl, fun h => by cases h⟩, HW1.out _⟩ | exact ⟨rfl, HW1.out _⟩ | exact ⟨⟨_, rfl⟩, HW1.out _⟩
  have HF : Hid (0 ≤ f ∧ f ≤ 2) := Lib.hid ⟨by omega, by omega⟩
  obtain ⟨p, hp⟩ := bool_of ((k ≠ 2 ∧ v ≠ 0) ∨ (k ≠ 3 ∧ Ln ≠ 0) ∨ (k ≠ 4 ∧ Pn ≠ 0))
  have HPp := Lib.hid hp
  clear hp
  cases p
  · have HK2 : Hid (k ≠ 2 → v = 0) := Lib.hid fun h => by
      by_cases hv : v = 0
      · exact hv
      · have := HPp.out.2 (.inl ⟨h, hv⟩); cases this
    have HK3 : Hid (k ≠ 3 → ls = []) := Lib.hid fun h => by
      by_cases hv : Ln = 0
      · exact HLn.out.2 hv
      · have := HPp.out.2 (.inr (.inl ⟨h, hv⟩)); cases this
    have HK4 : Hid (k ≠ 4 → ps = []) := Lib.hid fun h => by
      by_cases hv : Pn = 0
      · exact HPn.out.2 hv
      · have := HPp.out.2 (.inr (.inr ⟨h, hv⟩)); cases this
    by_cases k0 : k = 0
    · subst k0
      obtain rfl := HQ.out.2 ((isW01 (.inl rfl) HF.out).2 ⟨HK2.out (by decide), HK3.out (by decide), HK4.out (by decide)⟩)
      have HT : Hid (∀ w', TasteAt w' ⟨0, f, v, LA, Ln, Lc, ls, PA, Pn, Pc, ps⟩ (nearI 0)) := Lib.hid fun w' => .inl ⟨by show (0 : Int) ≠ 4; decide, 0, ⟨by decide, by decide⟩, rfl, fun x hx => by
        have h0 := hx.1
        have h9 := hx.2
        have e : rankW (Wi.dat ⟨0, f, v, LA, Ln, Lc, ls, PA, Pn, Pc, ps⟩) x = x := rfl
        rw [e]
        split <;> omega⟩
      go_enter Try.func32, Try.ntmps32
      go_wp2_with fail
      refine (HO.out _ false HPp.out).mono ?_
      rintro e w1 ⟨rfl, hb1⟩
      obtain ⟨c0, c1, c2, c3, c4, hg⟩ := box5 hb1
      have HBB := Lib.hid (And.intro ((HW1.out _).trans (hb1.mono (by simp))) ((HB1.out _).trans (hb1.mono (by simp; omega))))
      clear hb1
      go_wp2
      go_ret2
      exact ⟨⟨_, rfl, fun _ => HT.out _⟩, HBB.out.1⟩
    · by_cases k1 : k = 1
      · subst k1
        clear k0
        obtain rfl := HQ.out.2 ((isW01 (.inr rfl) HF.out).2 ⟨HK2.out (by decide), HK3.out (by decide), HK4.out (by decide)⟩)
        have HT : Hid (∀ w', TasteAt w' ⟨1, f, v, LA, Ln, Lc, ls, PA, Pn, Pc, ps⟩ (nearI 9)) := Lib.hid fun w' => .inl ⟨by show (1 : Int) ≠ 4; decide, 9, ⟨by decide, by decide⟩, rfl, fun x hx => by
          have h0 := hx.1
          have h9 := hx.2
          have e : rankW (Wi.dat ⟨1, f, v, LA, Ln, Lc, ls, PA, Pn, Pc, ps⟩) x = 9 - x := rfl
          rw [e]
          split <;> omega⟩
        go_enter Try.func32, Try.ntmps32
        go_wp2_with fail
        refine (HO.out _ false HPp.out).mono ?_
        rintro e w1 ⟨rfl, hb1⟩
        obtain ⟨c0, c1, c2, c3, c4, hg⟩ := box5 hb1
        have HBB := Lib.hid (And.intro ((HW1.out _).trans (hb1.mono (by simp))) ((HB1.out _).trans (hb1.mono (by simp; omega))))
        clear hb1
        go_wp2
        go_ret2
        exact ⟨⟨_, rfl, fun _ => HT.out _⟩, HBB.out.1⟩
      · by_cases k2 : k = 2
        · subst k2
          clear k0 k1
          obtain ⟨qv, hqv⟩ := bool_of (InR v)
          obtain rfl : qv = q := by
            rw [Bool.eq_iff_iff, HQ.out, hqv, isW2 HF.out]
            exact ⟨fun h => ⟨h, HK3.out (by decide), HK4.out (by decide)⟩, fun h => h.1⟩
          have HV := Lib.hid hqv
          clear hqv
          go_enter Try.func32, Try.ntmps32
          go_wp2_with fail
          refine (HO.out _ false HPp.out).mono ?_
          rintro e w1 ⟨rfl, hb1⟩
          obtain ⟨c0, c1, c2, c3, c4, hg⟩ := box5 hb1
          have HBB := Lib.hid (And.intro ((HW1.out _).trans (hb1.mono (by simp))) ((HB1.out _).trans (hb1.mono (by simp; omega))))
          clear hb1
          go_wp2
          go_quiet ((go_at_call 33; refine Calls.quiet_of_same (value_same v qv HV.out _)))
          go_wp2
          go_ret2
          refine ⟨⟨_, rfl, fun h => .inl ⟨by show (2 : Int) ≠ 4; decide, v, HV.out.1 (by first | exact h | trivial), rfl, fun x hx => rfl⟩⟩, below_drewN HBB.out.1 _⟩
        · by_cases k3 : k = 3
          · subst k3
            clear k0 k1 k2
            obtain ⟨ql, hql⟩ := bool_of (Asc ls)
            obtain rfl : ql = q := by
              rw [Bool.eq_iff_iff, HQ.out, hql, isW3 HF.out]
              exact ⟨fun h => ⟨HK2.out (by decide), h, HK4.out (by decide)⟩, fun h => h.2.1⟩
            have HV := Lib.hid hql
            clear hql
            go_enter Try.func32, Try.ntmps32
            go_wp2_with fail
            refine (HO.out _ false HPp.out).mono ?_
            rintro e w1 ⟨rfl, hb1⟩
            obtain ⟨c0, c1, c2, c3, c4, hg⟩ := box5 hb1
            have HBB := Lib.hid (And.intro ((HW1.out _).trans (hb1.mono (by simp))) ((HB1.out _).trans (hb1.mono (by simp; omega))))
            clear hb1
            go_wp2
            go_quiet ((go_at_call 52; refine Calls.quiet_of_same (iList _ B LA Ln Lc ls (HL.out.below (below_drewN HBB.out.2 _)) HN.out.1 ql HV.out)))
            go_wp2
            go_ret2
            exact ⟨⟨_, rfl, fun h => .inr (.inl ⟨by show (3 : Int) ≠ 4; decide, rfl, fun x => rfl⟩)⟩, below_drewN HBB.out.1 _⟩
          · by_cases k4 : k = 4
            · subst k4
              clear k0 k1 k2 k3
              have HV : Hid (q = true ↔ OkP ps) := Lib.hid (by
                rw [HQ.out, isW4 HF.out]
                exact ⟨fun h => h.2.2, fun h => ⟨HK2.out (by decide), HK3.out (by decide), h⟩⟩)
              go_enter Try.func32, Try.ntmps32
              go_wp2_with fail
              refine (HO.out _ false HPp.out).mono ?_
              rintro e w1 ⟨rfl, hb1⟩
              obtain ⟨c0, c1, c2, c3, c4, hg⟩ := box5 hb1
              have HBB := Lib.hid (And.intro ((HW1.out _).trans (hb1.mono (by simp))) ((HB1.out _).trans (hb1.mono (by simp; omega))))
              clear hb1
              go_wp2_with fail
              refine (above_of _ B PA Pn Pc ps (HP.out.below HBB.out.2) (by omega) HN.out.2 q HV.out).mono ?_
              rintro e w2 ⟨⟨o, rfl, hab⟩, hb2⟩
              have HAB := Lib.hid hab
              have HBC := Lib.hid (HBB.out.1.trans (hb2.mono HBB.out.1.size))
              clear hb2 hab c0 c1 c2 c3 c4
              go_wp2
              go_ret2
              exact ⟨⟨_, rfl, fun h => .inr (.inr ⟨rfl, o, _, rfl, h ▸ HAB.out⟩)⟩, HBC.out⟩
            · have f0 : (k == 0) = false := by simpa using k0
              have f1 : (k == 1) = false := by simpa using k1
              have f2 : (k == 2) = false := by simpa using k2
              have f3 : (k == 3) = false := by simpa using k3
              have f4 : (k == 4) = false := by simpa using k4
              obtain rfl := HNo.out fun h => by have := h.k; dsimp only at this; omega
              clear k0 k1 k2 k3 k4
              go_enter Try.func32, Try.ntmps32
              go_wp2_with fail
              refine (HO.out _ false HPp.out).mono ?_
              rintro e w1 ⟨rfl, hb1⟩
              obtain ⟨c0, c1, c2, c3, c4, hg⟩ := box5 hb1
              have HBB := Lib.hid (And.intro ((HW1.out _).trans (hb1.mono (by simp))) ((HB1.out _).trans (hb1.mono (by simp; omega))))
              clear hb1
              go_wp2
              go_ret2
              exact ⟨⟨_, rfl, fun h => by cases h⟩, HBB.out.1⟩
  · obtain rfl := HNo.out fun h => by
      have hv := h.v
      have hl := h.l
      have hp := h.p
      dsimp only at hv hl hp
      rcases HPp.out.1 rfl with ⟨h1, h2⟩ | ⟨h1, h2⟩ | ⟨h1, h2⟩
      · rw [if_neg h1] at hv; exact h2 hv
      · rw [if_neg h1] at hl; exact h2 (HLn.out.1 hl)
      · rw [if_neg h1] at hp; exact h2 (HPn.out.1 hp)
    have HPt := Lib.hid (HPp.out.1 rfl)
    clear HPp
    go_enter Try.func32, Try.ntmps32
    go_wp2_with fail
    refine (HO.out _ true ⟨fun _ => HPt.out, fun _ => rfl⟩).mono ?_
    rintro e w1 ⟨rfl, hb1⟩
    have HBB := Lib.hid ((HW1.out _).trans (hb1.mono (by simp)))
    clear hb1
    go_wp2
    go_ret2
    exact ⟨⟨_, rfl, fun h => by cases h⟩, HBB.out⟩
end Go.Proofs.Ytalgfiefadfmnaa.num
namespace Go.Proofs.Ytalgfiefadfmnaa.num
open Go.RowKit Go.Maps
set_option linter.unusedVariables false

set_option maxRecDepth 20000 in
theorem iIsWish (w : World) (B : Nat) (t : Wi) (hi : WiIn w B t) (hB : B ≤ w.heap.size) (hn : t.Short) (q : Bool) (hq : q = true ↔ IsW t.dat) :
    Calls Try.prog 14 #[t.val] w fun e w' => e = .returned (.bool q) ∧ Below w.heap.size w w' := by
  have HI := Lib.hid hi
  have HS := Lib.hid (fun (w1 : World) h1 h2 => taste_of w1 B t h1 h2 hn q hq)
  clear hi hq
  obtain ⟨k, f, v, LA, Ln, Lc, ls, PA, Pn, Pc, ps⟩ := t
  unfold Wi.val at HS ⊢
  go_enter Try.func14, Try.ntmps14
  go_wp2_with fail
  first
    | refine (HS.out _ HI.out hB).mono ?_
    | refine (HS.out _ (HI.out.below ((Below.refl B w).alloc hB _)) (by simp; omega)).mono ?_
  rintro e w1 ⟨⟨tv, rfl, -⟩, hb1⟩
  go_wp2
  go_ret
  first
    | exact ⟨rfl, hb1⟩
    | exact ⟨rfl, ((Below.refl _ w).alloc (Nat.le_refl _) _).trans (hb1.mono (by simp))⟩

end Go.Proofs.Ytalgfiefadfmnaa.num
namespace Go.Proofs.Ytalgfiefadfmnaa.num
open Go.RowKit
set_option linter.unusedVariables false

theorem nearRank (w : World) (b v : Int) (hb : InR b) (hv : InR v) :
    Calls Try.prog 84 #[.agg #[.int .i64 b], .int .i64 v] w fun e w' => e = .returned (.tuple #[.int .i64 (if v < b then b - v else v - b), .bool true]) ∧ Below w.heap.size w w' := by
  obtain ⟨b0, b9⟩ := hb
  obtain ⟨v0, v9⟩ := hv
  by_cases h : v < b
  · rw [if_pos h]
    go_enter Try.func84, Try.ntmps84
    go_wp2
    go_ret2
    exact ⟨rfl, (Below.refl _ w).alloc (Nat.le_refl _) _⟩
  · rw [if_neg h]
    go_enter Try.func84, Try.ntmps84
    go_wp2
    go_ret2
    exact ⟨rfl, (Below.refl _ w).alloc (Nat.le_refl _) _⟩
theorem cmpInt (w : World) (x y : Int) :
    Calls Try.prog 86 #[.int .i64 x, .int .i64 y] w fun e w' => e = .returned (.int .i64 (if x < y then -1 else if y < x then 1 else 0)) ∧ w = w' := by
  have nn : ∀ (w : World) (x : Int), Calls Try.prog 87 #[.int .i64 x] w fun e w' => e = .returned (.bool false) ∧ w = w' := fun w x => by
    have hx : (x != x) = false := by simp
    go_enter Try.func87, Try.ntmps87
    go_wp2
    go_ret
    exact ⟨rfl, rfl⟩
  have HNN := Lib.hid nn
  clear nn
  by_cases h : x < y
  · rw [if_pos h]
    go_enter Try.func86, Try.ntmps86
    go_wp2_with fail
    refine (HNN.out _ x).mono ?_
    rintro e w1 ⟨rfl, rfl⟩
    go_wp2_with fail
    refine (HNN.out _ y).mono ?_
    rintro e w1 ⟨rfl, rfl⟩
    go_wp2
    go_ret
    exact ⟨rfl, rfl⟩
  · by_cases h2 : y < x
    · rw [if_neg h, if_pos h2]
      go_enter Try.func86, Try.ntmps86
      go_wp2_with fail
      refine (HNN.out _ x).mono ?_
      rintro e w1 ⟨rfl, rfl⟩
      go_wp2_with fail
      refine (HNN.out _ y).mono ?_
      rintro e w1 ⟨rfl, rfl⟩
      go_wp2
      go_ret
      exact ⟨rfl, rfl⟩
    · rw [if_neg h, if_neg h2]
      go_enter Try.func86, Try.ntmps86
      go_wp2_with fail
      refine (HNN.out _ x).mono ?_
      rintro e w1 ⟨rfl, rfl⟩
      go_wp2_with fail
      refine (HNN.out _ y).mono ?_
      rintro e w1 ⟨rfl, rfl⟩
      go_wp2
      go_ret
      exact ⟨rfl, rfl⟩
theorem near_rank_m (b : Int) (w : World) : (method 232 84 (.agg #[.int .i64 b]) "loop.example/g01987/impl.rank").run Try.prog w = .ok (84, .agg #[.int .i64 b]) w := by kernel_rfl
theorem near_cmp_m (b : Int) (w : World) : (method 232 84 (.agg #[.int .i64 b]) "loop.example/g01987/impl.compare").run Try.prog w = .ok (83, .agg #[.int .i64 b]) w := by kernel_rfl
theorem among_rank_m (A : Option Addr) (n c : Nat) (w : World) : (method 232 86 (.agg #[.slice A n c]) "loop.example/g01987/impl.rank").run Try.prog w = .ok (89, .agg #[.slice A n c]) w := by kernel_rfl
theorem among_cmp_m (A : Option Addr) (n c : Nat) (w : World) : (method 232 86 (.agg #[.slice A n c]) "loop.example/g01987/impl.compare").run Try.prog w = .ok (88, .agg #[.slice A n c]) w := by kernel_rfl
theorem order_rank_m (o : Option Nat) (w : World) : (method 232 91 (.agg #[.map o]) "loop.example/g01987/impl.rank").run Try.prog w = .ok (93, .agg #[.map o]) w := by kernel_rfl
theorem order_cmp_m (o : Option Nat) (w : World) : (method 232 91 (.agg #[.map o]) "loop.example/g01987/impl.compare").run Try.prog w = .ok (92, .agg #[.map o]) w := by kernel_rfl
theorem near_cmp_n (b : Int) (w : World) : (nilAhead 232 84 (.agg #[.int .i64 b]) "loop.example/g01987/impl.compare").run Try.prog w = .ok (some false) w := by kernel_rfl
theorem among_cmp_n (A : Option Addr) (n c : Nat) (w : World) : (nilAhead 232 86 (.agg #[.slice A n c]) "loop.example/g01987/impl.compare").run Try.prog w = .ok (some false) w := by kernel_rfl
theorem order_cmp_n (o : Option Nat) (w : World) : (nilAhead 232 91 (.agg #[.map o]) "loop.example/g01987/impl.compare").run Try.prog w = .ok (some false) w := by kernel_rfl
set_option maxRecDepth 20000 in
theorem cmpNear (w : World) (b : Int) (x y : Int) (hb : InR b) (hx : InR x) (hy : InR y) :
    Calls Try.prog 85 #[nearI b, .int .i64 x, .int .i64 y] w fun e w' => e = .returned (.int .i64 (if (if x < b then b - x else x - b) < (if y < b then b - y else y - b) then 1 else if (if y < b then b - y else y - b) < (if x < b then b - x else x - b) then -1 else 0)) ∧ Below w.heap.size w w' := by
  have hm := near_rank_m b
  obtain ⟨rx, hrx⟩ : ∃ r, r = (if x < b then b - x else x - b) := ⟨_, rfl⟩
  obtain ⟨ry, hry⟩ : ∃ r, r = (if y < b then b - y else y - b) := ⟨_, rfl⟩
  have HX := Lib.hid (fun (w1 : World) (_ : Below w.heap.size w w1) => nearRank w1 b x hb hx)
  have HY := Lib.hid (fun (w1 : World) (_ : Below w.heap.size w w1) => nearRank w1 b y hb hy)
  rw [← hrx] at HX ⊢
  rw [← hry] at HY ⊢
  obtain ⟨z, hz⟩ : ∃ z : Int, (if rx < ry then 1 else if ry < rx then -1 else 0) = z := ⟨_, rfl⟩
  rw [hz]
  have HZ : Hid ((if ry < rx then (-1 : Int) else if rx < ry then 1 else 0) = z) := Lib.hid (by rw [← hz]; split <;> split <;> first | rfl | omega)
  clear hrx hry hz
  unfold nearI
  go_enter Try.func85, Try.ntmps85
  go_wp2_with fail
  refine (HX.out _ (Below.refl _ _)).mono ?_
  rintro e w1 ⟨rfl, hb1⟩
  have HB1 := Lib.hid hb1
  clear hb1
  go_wp2_with fail
  refine (HY.out _ HB1.out).mono ?_
  rintro e w2 ⟨rfl, hb2⟩
  have HB2 := Lib.hid (HB1.out.trans (hb2.mono HB1.out.size))
  clear hb2 hm
  go_wp2_with fail
  refine (cmpInt _ ry rx).mono ?_
  rintro e w3 ⟨rfl, rfl⟩
  rw [HZ.out]
  go_wp2
  go_ret
  exact ⟨rfl, HB2.out⟩

/-- slices.Index. -/
theorem idx_of (w : World) (B : Nat) (A : Option Addr) (n c : Nat) (xs : List Int) (hi : Ints w B A n xs) (hn : n ≤ 1048576) (x : Int) :
    Calls Try.prog 91 #[.slice A n c, .int .i64 x] w fun e w' => (∃ r : Int, e = .returned (.int .i64 r) ∧ (0 ≤ r ↔ x ∈ xs)) ∧ w = w' := by
  have HX := Lib.hid hi
  clear hi
  go_enter Try.func91, Try.ntmps91
  go_wp2
  go_loopw [8] (fun i wr => ∃ k : Nat, k ≤ n ∧ i = .int .i64 k ∧ x ∉ xs.take k ∧ w = wr) (fun i _ => n - (intOf i).toNat)
  case atStart => exact ⟨0, Nat.zero_le _, rfl, by simp, rfl⟩
  case round =>
    obtain ⟨k, hk, rfl, hno, rfl⟩ := hrel
    have HNo := Lib.hid hno
    clear hno
    by_cases hlt : k < n
    · obtain ⟨b1, off, y, rfl, hb1, hat, hc⟩ := HX.out.at k hlt
      have HT := Lib.hid hat
      have hlt' : (k : Int) < (n : Int) := by omega
      clear hat
      by_cases he : x = y
      · subst he
        go_wp2
        go_ret
        exact ⟨⟨k, rfl, ⟨fun _ => List.mem_of_getElem? HT.out, fun _ => by omega⟩⟩, rfl⟩
      · have he' : (x == y) = false := by simpa using he
        have HE := Lib.hid he
        clear he
        go_wp2
        go_roundw
        case rel =>
          refine ⟨k + 1, by omega, by go_num, ?_, by first | rfl | trivial⟩
          rw [ptake_at HT.out]
          intro hm
          rcases List.mem_append.1 hm with hm | hm
          · exact HNo.out hm
          · exact HE.out (List.mem_singleton.1 hm)
        case measure => simp [intOf]; omega
    · obtain rfl : k = n := by omega
      have h := HNo.out
      rw [ptake_all HX.out.1] at h
      have HH := Lib.hid h
      clear h
      go_wp2
      go_ret
      exact ⟨⟨-1, rfl, ⟨fun h => by omega, fun h => absurd h HH.out⟩⟩, rfl⟩
theorem contains_of (w : World) (B : Nat) (A : Option Addr) (n c : Nat) (xs : List Int) (hi : Ints w B A n xs) (hn : n ≤ 1048576) (x : Int) (q : Bool) (hq : q = true ↔ x ∈ xs) :
    Calls Try.prog 90 #[.slice A n c, .int .i64 x] w fun e w' => e = .returned (.bool q) ∧ w = w' := by
  have HX := Lib.hid hi
  have HQ := Lib.hid hq
  clear hi hq
  go_enter Try.func90, Try.ntmps90
  go_wp2_with fail
  refine (idx_of w B A n c xs HX.out hn x).mono ?_
  rintro e w1 ⟨⟨r, rfl, hr⟩, rfl⟩
  by_cases h0 : 0 ≤ r
  · obtain rfl : q = true := HQ.out.2 (hr.1 h0)
    clear hr
    go_wp2
    go_ret
    exact ⟨by simp, rfl⟩
  · obtain rfl : q = false := by
      cases q
      · rfl
      · exact absurd (hr.2 (HQ.out.1 rfl)) h0
    clear hr
    go_wp2
    go_ret
    exact ⟨by simp; omega, rfl⟩
theorem amongRank (w : World) (B : Nat) (A : Option Addr) (n c : Nat) (xs : List Int) (hi : Ints w B A n xs) (hB : B ≤ w.heap.size) (hn : n ≤ 1048576) (x : Int) :
    Calls Try.prog 89 #[.agg #[.slice A n c], .int .i64 x] w fun e w' => e = .returned (.tuple #[.int .i64 (if x ∈ xs then 0 else 1), .bool true]) ∧ Below w.heap.size w w' := by
  have HX := Lib.hid hi
  have HB1 : Hid (∀ o : Obj, Below B w (w.alloc o)) := Lib.hid fun o => (Below.refl B w).alloc hB _
  have HW1 : Hid (∀ o : Obj, Below w.heap.size w (w.alloc o)) := Lib.hid fun o => (Below.refl _ w).alloc (Nat.le_refl _) _
  obtain ⟨q, hq⟩ := bool_of (x ∈ xs)
  have hz : (if x ∈ xs then (0 : Int) else 1) = if q = true then 0 else 1 := by simp only [hq]
  rw [hz]
  have HQ := Lib.hid hq
  clear hi hq hz
  go_enter Try.func89, Try.ntmps89
  go_wp2_with fail
  refine (contains_of _ B A n c xs (HX.out.below (HB1.out _)) hn x q HQ.out).mono ?_
  rintro e w1 ⟨rfl, rfl⟩
  cases q
  · go_wp2
    go_ret2
    exact ⟨rfl, HW1.out _⟩
  · go_wp2
    go_ret2
    exact ⟨rfl, HW1.out _⟩
set_option maxRecDepth 20000 in
theorem cmpAmong (w : World) (B : Nat) (A : Option Addr) (n c : Nat) (xs : List Int) (x y : Int) (hi : Ints w B A n xs) (hB : B ≤ w.heap.size) (hn : n ≤ 1048576) :
    Calls Try.prog 85 #[amongI A n c, .int .i64 x, .int .i64 y] w fun e w' => e = .returned (.int .i64 (if (if x ∈ xs then (0 : Int) else 1) < (if y ∈ xs then (0 : Int) else 1) then 1 else if (if y ∈ xs then (0 : Int) else 1) < (if x ∈ xs then (0 : Int) else 1) then -1 else 0)) ∧ Below w.heap.size w w' := by
  have hm := among_rank_m A n c
  obtain ⟨rx, hrx⟩ : ∃ r, r = (if x ∈ xs then (0 : Int) else 1) := ⟨_, rfl⟩
  obtain ⟨ry, hry⟩ : ∃ r, r = (if y ∈ xs then (0 : Int) else 1) := ⟨_, rfl⟩
  have HX := Lib.hid (fun (w1 : World) (h : Below w.heap.size w w1) => amongRank w1 B A n c xs (hi.below (h.mono hB)) (Nat.le_trans hB h.size) hn x)
  have HY := Lib.hid (fun (w1 : World) (h : Below w.heap.size w w1) => amongRank w1 B A n c xs (hi.below (h.mono hB)) (Nat.le_trans hB h.size) hn y)
  rw [← hrx] at HX ⊢
  rw [← hry] at HY ⊢
  obtain ⟨z, hz⟩ : ∃ z : Int, (if rx < ry then 1 else if ry < rx then -1 else 0) = z := ⟨_, rfl⟩
  rw [hz]
  have HZ : Hid ((if ry < rx then (-1 : Int) else if rx < ry then 1 else 0) = z) := Lib.hid (by rw [← hz]; split <;> split <;> first | rfl | omega)
  clear hrx hry hz
  unfold amongI
  go_enter Try.func85, Try.ntmps85
  go_wp2_with fail
  refine (HX.out _ (Below.refl _ _)).mono ?_
  rintro e w1 ⟨rfl, hb1⟩
  have HB1 := Lib.hid hb1
  clear hb1
  go_wp2_with fail
  refine (HY.out _ HB1.out).mono ?_
  rintro e w2 ⟨rfl, hb2⟩
  have HB2 := Lib.hid (HB1.out.trans (hb2.mono HB1.out.size))
  clear hb2 hm
  go_wp2_with fail
  refine (cmpInt _ ry rx).mono ?_
  rintro e w3 ⟨rfl, rfl⟩
  rw [HZ.out]
  go_wp2
  go_ret
  exact ⟨rfl, HB2.out⟩

end Go.Proofs.Ytalgfiefadfmnaa.num
namespace Go.Proofs.Ytalgfiefadfmnaa.num
open Go.RowKit Go.Maps
set_option linter.unusedVariables false

set_option maxRecDepth 20000 in
theorem nearCmp (w : World) (b : Int) (x y : Int) (hb : InR b) (hx : InR x) (hy : InR y) :
    Calls Try.prog 83 #[.agg #[.int .i64 b], .int .i64 x, .int .i64 y] w fun e w' => e = .returned (.int .i64 (if (if x < b then b - x else x - b) < (if y < b then b - y else y - b) then 1 else if (if y < b then b - y else y - b) < (if x < b then b - x else x - b) then -1 else 0)) ∧ Below w.heap.size w w' := by
  have HW1 : Hid (∀ o : Obj, Below w.heap.size w (w.alloc o)) := Lib.hid fun o => (Below.refl _ w).alloc (Nat.le_refl _) _
  have HC : Hid (∀ o : Obj, Calls Try.prog 85 #[.iface 84 (.agg #[.int .i64 b]), .int .i64 x, .int .i64 y] (w.alloc o) fun e w' => e = .returned (.int .i64 (if (if x < b then b - x else x - b) < (if y < b then b - y else y - b) then 1 else if (if y < b then b - y else y - b) < (if x < b then b - x else x - b) then -1 else 0)) ∧ Below (w.alloc o).heap.size (w.alloc o) w') := Lib.hid fun o => cmpNear (w.alloc o) b x y hb hx hy
  generalize (if (if x < b then b - x else x - b) < (if y < b then b - y else y - b) then (1 : Int) else if (if y < b then b - y else y - b) < (if x < b then b - x else x - b) then -1 else 0) = z at *
  go_enter Try.func83, Try.ntmps83
  go_wp2_with fail
  refine (HC.out _).mono ?_
  rintro e w1 ⟨rfl, hb1⟩
  have HB := Lib.hid ((HW1.out _).trans (hb1.mono (by simp)))
  clear hb1
  go_wp2
  go_ret
  exact ⟨rfl, HB.out⟩
set_option maxRecDepth 20000 in
theorem amongCmp (w : World) (B : Nat) (A : Option Addr) (n c : Nat) (xs : List Int) (x y : Int) (hi : Ints w B A n xs) (hB : B ≤ w.heap.size) (hn : n ≤ 1048576) :
    Calls Try.prog 88 #[.agg #[.slice A n c], .int .i64 x, .int .i64 y] w fun e w' => e = .returned (.int .i64 (if (if x ∈ xs then (0 : Int) else 1) < (if y ∈ xs then (0 : Int) else 1) then 1 else if (if y ∈ xs then (0 : Int) else 1) < (if x ∈ xs then (0 : Int) else 1) then -1 else 0)) ∧ Below w.heap.size w w' := by
  have HW1 : Hid (∀ o : Obj, Below w.heap.size w (w.alloc o)) := Lib.hid fun o => (Below.refl _ w).alloc (Nat.le_refl _) _
  have HC : Hid (∀ o : Obj, Calls Try.prog 85 #[.iface 86 (.agg #[.slice A n c]), .int .i64 x, .int .i64 y] (w.alloc o) fun e w' => e = .returned (.int .i64 (if (if x ∈ xs then (0 : Int) else 1) < (if y ∈ xs then (0 : Int) else 1) then 1 else if (if y ∈ xs then (0 : Int) else 1) < (if x ∈ xs then (0 : Int) else 1) then -1 else 0)) ∧ Below (w.alloc o).heap.size (w.alloc o) w') := Lib.hid fun o => cmpAmong (w.alloc o) B A n c xs x y (hi.below ((Below.refl B w).alloc hB _)) (by simp; omega) hn
  generalize (if (if x ∈ xs then (0 : Int) else 1) < (if y ∈ xs then (0 : Int) else 1) then (1 : Int) else if (if y ∈ xs then (0 : Int) else 1) < (if x ∈ xs then (0 : Int) else 1) then -1 else 0) = z at *
  go_enter Try.func88, Try.ntmps88
  go_wp2_with fail
  refine (HC.out _).mono ?_
  rintro e w1 ⟨rfl, hb1⟩
  have HB := Lib.hid ((HW1.out _).trans (hb1.mono (by simp)))
  clear hb1
  go_wp2
  go_ret
  exact ⟨rfl, HB.out⟩
theorem orderRank (w : World) (o : Option Nat) (x : Int) :
    Calls Try.prog 93 #[.agg #[.map o], .int .i64 x] w fun e w' => e = .returned (.tuple #[.int .i64 0, .bool false]) ∧ Below w.heap.size w w' := by
  go_enter Try.func93, Try.ntmps93
  go_wp2
  go_ret2
  exact ⟨rfl, (Below.refl _ w).alloc (Nat.le_refl _) _⟩
set_option maxRecDepth 20000 in
theorem orderCmp (w : World) (B : Nat) (o : Option Nat) (ps : List (Int × Int)) (h : AboveP ps B true o w) (x y : Int) (hx : InR x) (hy : InR y) :
    Calls Try.prog 92 #[.agg #[.map o], .int .i64 x, .int .i64 y] w fun e w' => e = .returned (.int .i64 (if x = y then 0 else if rb ps x y = true then 1 else if rb ps y x = true then -1 else 2)) ∧ Below w.heap.size w w' := by
  have HW1 : Hid (∀ o : Obj, Below w.heap.size w (w.alloc o)) := Lib.hid fun o => (Below.refl _ w).alloc (Nat.le_refl _) _
  by_cases he : x = y
  · subst he
    rw [if_pos rfl]
    clear h
    go_enter Try.func92, Try.ntmps92
    go_wp2
    go_ret
    exact ⟨rfl, HW1.out _⟩
  · rw [if_neg he]
    have he' : (x == y) = false := by simpa using he
    have wx : (Lit.int .i64 x).wf = true := WalkArith.wf_i64 (by have := hx.1; have := hx.2; omega)
    have wy : (Lit.int .i64 y).wf = true := WalkArith.wf_i64 (by have := hy.1; have := hy.2; omega)
    have hl1 : ∀ w1, Below w.heap.size w w1 → ∃ o2, (Instr.lookup 87 (.map o) (.int .i64 y) false).run Try.prog w1 = .ok (.map o2) w1 ∧ (Instr.lookup 112 (.map o2) (.int .i64 x) false).run Try.prog w1 = .ok (.bool (rb ps x y)) w1 := fun w1 hb => by
      obtain ⟨o2, e1, e2⟩ := (h.below hb).look wy wx
      exact ⟨o2, e1, by simpa using e2⟩
    have hl2 : ∀ w1, Below w.heap.size w w1 → ∃ o2, (Instr.lookup 87 (.map o) (.int .i64 x) false).run Try.prog w1 = .ok (.map o2) w1 ∧ (Instr.lookup 112 (.map o2) (.int .i64 y) false).run Try.prog w1 = .ok (.bool (rb ps y x)) w1 := fun w1 hb => by
      obtain ⟨o2, e1, e2⟩ := (h.below hb).look wx wy
      exact ⟨o2, e1, by simpa using e2⟩
    obtain ⟨o1, e1, e2⟩ := hl1 (w.alloc (.cells #[.map o] 91)) (HW1.out _)
    obtain ⟨o3, e3, e4⟩ := hl2 (w.alloc (.cells #[.map o] 91)) (HW1.out _)
    clear he h hl1 hl2 hx hy
    generalize rb ps x y = q1 at *
    generalize rb ps y x = q2 at *
    cases q1
    · cases q2
      · go_enter Try.func92, Try.ntmps92
        go_wp2
        go_ret
        exact ⟨rfl, HW1.out _⟩
      · go_enter Try.func92, Try.ntmps92
        go_wp2
        go_ret
        exact ⟨rfl, HW1.out _⟩
    · go_enter Try.func92, Try.ntmps92
      go_wp2
      go_ret
      exact ⟨rfl, HW1.out _⟩
end Go.Proofs.Ytalgfiefadfmnaa.num
namespace Go.Proofs.Ytalgfiefadfmnaa.num
open Go.RowKit Go.Maps
set_option linter.unusedVariables false

set_option maxRecDepth 20000 in
set_option maxHeartbeats 1600000 in
theorem iRankOf (w : World) (B : Nat) (t : Wi) (hi : WiIn w B t) (hB : B ≤ w.heap.size) (hn : t.Short) (x : Int) (q : Bool) (hq : q = true ↔ IsW t.dat ∧ t.kind ≠ 4 ∧ InR x) :
    Calls Try.prog 12 #[t.val, .int .i64 x] w fun e w' => e = .returned (.tuple #[.int .i64 (rankV t.dat q x), .bool q]) ∧ Below w.heap.size w w' := by
  have HI := Lib.hid hi
  have HB1 : Hid (∀ o : Obj, Below B w (w.alloc o)) := Lib.hid fun o => (Below.refl B w).alloc hB _
  have HW1 : Hid (∀ o : Obj, Below w.heap.size w (w.alloc o)) := Lib.hid fun o => (Below.refl _ w).alloc (Nat.le_refl _) _
  obtain ⟨qw, hqw⟩ := bool_of (IsW t.dat)
  have HS : Hid (∀ w1 : World, WiIn w1 B t → B ≤ w1.heap.size → Calls Try.prog 32 #[t.val] w1 fun e w' => (∃ v, e = .returned (.tuple #[v, .bool qw]) ∧ (qw = true → TasteAt w' t v)) ∧ Below w1.heap.size w1 w') := Lib.hid fun w1 h1 h2 => taste_of w1 B t h1 h2 hn qw hqw
  obtain ⟨qx, hqx⟩ := bool_of (InR x)
  have HQX := Lib.hid hqx
  have HNo : Hid ((qw = false ∨ qx = false ∨ t.kind = 4) → q = false) := Lib.hid fun h => by
    cases q
    · rfl
    · obtain ⟨h1, h2, h3⟩ := hq.1 rfl
      rcases h with h | h | h
      · rw [hqw.2 h1] at h; cases h
      · rw [hqx.2 h3] at h; cases h
      · exact absurd h h2
  have HYes : Hid (qw = true → t.kind ≠ 4 → qx = true → q = true) := Lib.hid fun h1 h2 h3 => hq.2 ⟨hqw.1 h1, h2, hqx.1 h3⟩
  have HV : Hid (q = false → rankV t.dat q x = 0) := Lib.hid fun h => by subst h; rfl
  have HU : Hid (q = true → rankV t.dat q x = rankW t.dat x) := Lib.hid fun h => by subst h; rfl
  have HLs : Hid (∀ w1, Below B w w1 → Ints w1 B t.LA t.Ln t.ls) := Lib.hid fun w1 h => hi.l.below h
  have HLn : Hid (t.Ln ≤ 1048576) := Lib.hid hn.1
  clear hi hq hqw hqx
  generalize rankV t.dat q x = z at *
  have hval : t.val = .agg #[.int .i64 t.kind, .int .i64 t.field, .int .i64 t.value, .slice t.LA t.Ln t.Lc, .slice t.PA t.Pn t.Pc] := rfl
  rw [hval] at HS ⊢
  clear hval
  go_enter Try.func12, Try.ntmps12
  go_wp2_with fail
  refine (HS.out _ (HI.out.below (HB1.out _)) (by simp; omega)).mono ?_
  rintro e w1 ⟨⟨tv, rfl, ht⟩, hb1⟩
  obtain ⟨c0, c1, c2, c3, c4, hg⟩ := box5 hb1
  have HBB := Lib.hid (And.intro ((HW1.out _).trans (hb1.mono (by simp))) ((HB1.out _).trans (hb1.mono (by simp; omega))))
  have HT := Lib.hid ht
  clear hb1 ht
  cases qw
  · obtain rfl := HNo.out (.inl rfl)
    obtain rfl := HV.out rfl
    go_wp2
    go_ret2
    exact ⟨rfl, HBB.out.1⟩
  cases qx
  · obtain rfl := HNo.out (.inr (.inl rfl))
    obtain rfl := HV.out rfl
    go_wp2_with fail
    refine (isValue_of x false HQX.out _).mono ?_
    rintro e w2 ⟨rfl, rfl⟩
    go_wp2
    go_ret2
    exact ⟨rfl, HBB.out.1⟩
  have HX := Lib.hid (HQX.out.1 rfl)
  clear HQX
  rcases HT.out rfl with ⟨h4, b, hb, rfl, hr⟩ | ⟨h4, rfl, hr⟩ | ⟨h4, o, B2, rfl, hab⟩
  · obtain rfl := HYes.out rfl h4 rfl
    have HZ := Lib.hid ((HU.out rfl).trans (hr x HX.out))
    have hm := near_rank_m b
    have HB := Lib.hid hb
    clear hr h4 hb HT
    unfold nearI
    go_wp2_with fail
    refine (isValue_of x true ⟨fun _ => HX.out, fun _ => rfl⟩ _).mono ?_
    rintro e w2 ⟨rfl, rfl⟩
    go_wp2_with fail
    refine (nearRank _ b x HB.out HX.out).mono ?_
    rintro e w2 ⟨rfl, hb2⟩
    have HBC := Lib.hid (HBB.out.1.trans (hb2.mono HBB.out.1.size))
    clear hb2 c0 c1 c2 c3 c4 hm
    rw [← HZ.out]
    go_wp2
    go_ret2
    exact ⟨rfl, HBC.out⟩
  · obtain rfl := HYes.out rfl h4 rfl
    have HZ := Lib.hid ((HU.out rfl).trans (hr x))
    have hm := among_rank_m t.LA t.Ln t.Lc
    clear hr h4 HT
    unfold amongI
    go_wp2_with fail
    refine (isValue_of x true ⟨fun _ => HX.out, fun _ => rfl⟩ _).mono ?_
    rintro e w2 ⟨rfl, rfl⟩
    go_wp2_with fail
    refine (amongRank _ B t.LA t.Ln t.Lc t.ls (HLs.out _ HBB.out.2) (by omega) HLn.out x).mono ?_
    rintro e w2 ⟨rfl, hb2⟩
    have HBC := Lib.hid (HBB.out.1.trans (hb2.mono HBB.out.1.size))
    clear hb2 c0 c1 c2 c3 c4 hm
    rw [← HZ.out]
    go_wp2
    go_ret2
    exact ⟨rfl, HBC.out⟩
  · obtain rfl := HNo.out (.inr (.inr h4))
    obtain rfl := HV.out rfl
    have hm := order_rank_m o
    clear hab h4 HT
    unfold orderI
    go_wp2_with fail
    refine (isValue_of x true ⟨fun _ => HX.out, fun _ => rfl⟩ _).mono ?_
    rintro e w2 ⟨rfl, rfl⟩
    go_wp2_with fail
    refine (orderRank _ o x).mono ?_
    rintro e w2 ⟨rfl, hb2⟩
    have HBC := Lib.hid (HBB.out.1.trans (hb2.mono HBB.out.1.size))
    clear hb2 c0 c1 c2 c3 c4 hm
    go_wp2
    go_ret2
    exact ⟨rfl, HBC.out⟩

set_option maxRecDepth 20000 in
set_option maxHeartbeats 1600000 in
theorem iCmpVals (w : World) (B : Nat) (t : Wi) (hi : WiIn w B t) (hB : B ≤ w.heap.size) (hn : t.Short) (x y : Int) (q : Bool) (hq : q = true ↔ IsW t.dat ∧ InR x ∧ InR y) :
    Calls Try.prog 11 #[t.val, .int .i64 x, .int .i64 y] w fun e w' => e = .returned (.int .i64 (cmpV t.dat q x y)) ∧ Below w.heap.size w w' := by
  have HI := Lib.hid hi
  have HB1 : Hid (∀ o : Obj, Below B w (w.alloc o)) := Lib.hid fun o => (Below.refl B w).alloc hB _
  have HW1 : Hid (∀ o : Obj, Below w.heap.size w (w.alloc o)) := Lib.hid fun o => (Below.refl _ w).alloc (Nat.le_refl _) _
  obtain ⟨qw, hqw⟩ := bool_of (IsW t.dat)
  have HS : Hid (∀ w1 : World, WiIn w1 B t → B ≤ w1.heap.size → Calls Try.prog 32 #[t.val] w1 fun e w' => (∃ v, e = .returned (.tuple #[v, .bool qw]) ∧ (qw = true → TasteAt w' t v)) ∧ Below w1.heap.size w1 w') := Lib.hid fun w1 h1 h2 => taste_of w1 B t h1 h2 hn qw hqw
  obtain ⟨qx, hqx⟩ := bool_of (InR x)
  obtain ⟨qy, hqy⟩ := bool_of (InR y)
  have HQX := Lib.hid hqx
  have HQY := Lib.hid hqy
  have HNo : Hid ((qw = false ∨ qx = false ∨ qy = false) → q = false) := Lib.hid fun h => by
    cases q
    · rfl
    · obtain ⟨h1, h2, h3⟩ := hq.1 rfl
      rcases h with h | h | h
      · rw [hqw.2 h1] at h; cases h
      · rw [hqx.2 h2] at h; cases h
      · rw [hqy.2 h3] at h; cases h
  have HYes : Hid (qw = true → qx = true → qy = true → q = true) := Lib.hid fun h1 h2 h3 => hq.2 ⟨hqw.1 h1, hqx.1 h2, hqy.1 h3⟩
  have HV : Hid (q = false → cmpV t.dat q x y = 2) := Lib.hid fun h => by subst h; rfl
  have HU : Hid (q = true → cmpV t.dat q x y = cmpW t.dat x y) := Lib.hid fun h => by subst h; rfl
  have HLs : Hid (∀ w1, Below B w w1 → Ints w1 B t.LA t.Ln t.ls) := Lib.hid fun w1 h => hi.l.below h
  have HLn : Hid (t.Ln ≤ 1048576) := Lib.hid hn.1
  clear hi hq hqw hqx hqy
  generalize cmpV t.dat q x y = z at *
  have hval : t.val = .agg #[.int .i64 t.kind, .int .i64 t.field, .int .i64 t.value, .slice t.LA t.Ln t.Lc, .slice t.PA t.Pn t.Pc] := rfl
  rw [hval] at HS ⊢
  clear hval
  go_enter Try.func11, Try.ntmps11
  go_wp2_with fail
  refine (HS.out _ (HI.out.below (HB1.out _)) (by simp; omega)).mono ?_
  rintro e w1 ⟨⟨tv, rfl, ht⟩, hb1⟩
  obtain ⟨c0, c1, c2, c3, c4, hg⟩ := box5 hb1
  have HBB := Lib.hid (And.intro ((HW1.out _).trans (hb1.mono (by simp))) ((HB1.out _).trans (hb1.mono (by simp; omega))))
  have HT := Lib.hid ht
  clear hb1 ht
  cases qw
  · obtain rfl := HNo.out (.inl rfl)
    obtain rfl := HV.out rfl
    go_wp2
    go_ret
    exact ⟨rfl, HBB.out.1⟩
  cases qx
  · obtain rfl := HNo.out (.inr (.inl rfl))
    obtain rfl := HV.out rfl
    go_wp2_with fail
    refine (isValue_of x false HQX.out _).mono ?_
    rintro e w2 ⟨rfl, rfl⟩
    go_wp2
    go_ret
    exact ⟨rfl, HBB.out.1⟩
  have HX := Lib.hid (HQX.out.1 rfl)
  clear HQX
  cases qy
  · obtain rfl := HNo.out (.inr (.inr rfl))
    obtain rfl := HV.out rfl
    go_wp2_with fail
    refine (isValue_of x true ⟨fun _ => HX.out, fun _ => rfl⟩ _).mono ?_
    rintro e w2 ⟨rfl, rfl⟩
    go_wp2_with fail
    refine (isValue_of y false HQY.out _).mono ?_
    rintro e w2 ⟨rfl, rfl⟩
    go_wp2
    go_ret
    exact ⟨rfl, HBB.out.1⟩
  have HY := Lib.hid (HQY.out.1 rfl)
  clear HQY
  obtain rfl := HYes.out rfl rfl rfl
  rcases HT.out rfl with ⟨h4, b, hb, rfl, hr⟩ | ⟨h4, rfl, hr⟩ | ⟨h4, o, B2, rfl, hab⟩
  · have HZ := Lib.hid ((HU.out rfl).trans (show cmpW t.dat x y = _ by unfold cmpW; rw [if_neg (show ¬ t.dat.kind = 4 from h4), hr x HX.out, hr y HY.out]))
    have hm := near_cmp_m b
    have HB := Lib.hid hb
    clear hr h4 hb HT
    unfold nearI
    go_wp2_with fail
    refine (isValue_of x true ⟨fun _ => HX.out, fun _ => rfl⟩ _).mono ?_
    rintro e w2 ⟨rfl, rfl⟩
    go_wp2_with fail
    refine (isValue_of y true ⟨fun _ => HY.out, fun _ => rfl⟩ _).mono ?_
    rintro e w2 ⟨rfl, rfl⟩
    go_wp2_with fail
    refine (nearCmp _ b x y HB.out HX.out HY.out).mono ?_
    rintro e w2 ⟨rfl, hb2⟩
    have HBC := Lib.hid (HBB.out.1.trans (hb2.mono HBB.out.1.size))
    clear hb2 c0 c1 c2 c3 c4 hm
    rw [← HZ.out]
    go_wp2
    go_ret
    exact ⟨rfl, HBC.out⟩
  · have HZ := Lib.hid ((HU.out rfl).trans (show cmpW t.dat x y = _ by unfold cmpW; rw [if_neg (show ¬ t.dat.kind = 4 from h4), hr x, hr y]))
    have hm := among_cmp_m t.LA t.Ln t.Lc
    clear hr h4 HT
    unfold amongI
    go_wp2_with fail
    refine (isValue_of x true ⟨fun _ => HX.out, fun _ => rfl⟩ _).mono ?_
    rintro e w2 ⟨rfl, rfl⟩
    go_wp2_with fail
    refine (isValue_of y true ⟨fun _ => HY.out, fun _ => rfl⟩ _).mono ?_
    rintro e w2 ⟨rfl, rfl⟩
    go_wp2_with fail
    refine (amongCmp _ B t.LA t.Ln t.Lc t.ls x y (HLs.out _ HBB.out.2) (by omega) HLn.out).mono ?_
    rintro e w2 ⟨rfl, hb2⟩
    have HBC := Lib.hid (HBB.out.1.trans (hb2.mono HBB.out.1.size))
    clear hb2 c0 c1 c2 c3 c4 hm
    rw [← HZ.out]
    go_wp2
    go_ret
    exact ⟨rfl, HBC.out⟩
  · have HZ := Lib.hid ((HU.out rfl).trans (show cmpW t.dat x y = _ by unfold cmpW; rw [if_pos (show t.dat.kind = 4 from h4)]))
    have hm := order_cmp_m o
    have HA := Lib.hid hab
    clear hab h4 HT
    unfold orderI
    go_wp2_with fail
    refine (isValue_of x true ⟨fun _ => HX.out, fun _ => rfl⟩ _).mono ?_
    rintro e w2 ⟨rfl, rfl⟩
    go_wp2_with fail
    refine (isValue_of y true ⟨fun _ => HY.out, fun _ => rfl⟩ _).mono ?_
    rintro e w2 ⟨rfl, rfl⟩
    go_wp2_with fail
    refine (orderCmp _ B2 o t.ps HA.out x y HX.out HY.out).mono ?_
    rintro e w2 ⟨rfl, hb2⟩
    have HBC := Lib.hid (HBB.out.1.trans (hb2.mono HBB.out.1.size))
    clear hb2 c0 c1 c2 c3 c4 hm
    rw [show (if x = y then (0 : Int) else if rb t.ps x y = true then 1 else if rb t.ps y x = true then -1 else 2) = z from HZ.out.symm]
    go_wp2
    go_ret
    exact ⟨rfl, HBC.out⟩
end Go.Proofs.Ytalgfiefadfmnaa.num
