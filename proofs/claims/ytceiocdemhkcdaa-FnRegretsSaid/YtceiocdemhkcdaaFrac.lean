/-
  Fractions in memory; isLess and keptShare: contracts.
-/
import Derived.Test.YtceiocdemhkcdaaItemPick
namespace Go.Proofs.Ytceiocdemhkcdaa.num
set_option maxRecDepth 20000
open Go.RowKit
set_option linter.unusedVariables false
set_option linter.unusedSimpArgs false

/-- A fraction in a box. -/
def FrB (w : World) (g : Nat) (p : Fr) : Prop := w.heap[g]? = some (.cells #[.int .i64 p.num, .int .i64 p.den] 63 (0, 0))
theorem FrB.lt {w : World} {g : Nat} {p : Fr} (h : FrB w g p) : g < w.heap.size := (Array.getElem?_eq_some_iff.1 h).1
theorem FrB.below {w w' : World} {g : Nat} {p : Fr} (h : FrB w g p) (hb : Below w.heap.size w w') : FrB w' g p := (hb.block g h.lt).trans h
theorem FrB.new (w : World) (p : Fr) : FrB (w.alloc (.cells #[.int .i64 p.num, .int .i64 p.den] 63)) w.heap.size p := heap_alloc_new w _
theorem FrB.set {w : World} {g : Nat} {p : Fr} (h : FrB w g p) (a b : Int) : FrB ((w.setCell ⟨g, 0, none⟩ (.int .i64 a)).setCell ⟨g, 1, none⟩ (.int .i64 b)) g ⟨a, b⟩ := by
  have h := heap_setCell_same _ g 1 _ _ (.int .i64 b) (heap_setCell_same w g 0 _ _ (.int .i64 a) h)
  unfold FrB
  simpa using h
theorem FrB.other {w : World} {g g' : Nat} {p : Fr} (h : FrB w g p) (hne : g' ≠ g) (u v : Value) : FrB ((w.setCell ⟨g', 0, none⟩ u).setCell ⟨g', 1, none⟩ v) g p := by
  unfold FrB
  rw [heap_setCell_other _ _ _ _ (fun e => hne e.symm), heap_setCell_other _ _ _ _ (fun e => hne e.symm)]
  exact h
theorem FrB.cells {w : World} {g : Nat} {p : Fr} (h : FrB w g p) : w.cell? ⟨g, 0, none⟩ = some (.int .i64 p.num) ∧ w.cell? ⟨g, 1, none⟩ = some (.int .i64 p.den) ∧ w.frozen? ⟨g, 0, none⟩ = false ∧ w.frozen? ⟨g, 1, none⟩ = false := by
  unfold FrB at h
  refine ⟨?_, ?_, ?_, ?_⟩ <;> simp [World.cell?, World.frozen?, h]
def Fr.val (p : Fr) : Value := .agg #[.int .i64 p.num, .int .i64 p.den]
/-- A fraction whose parts are small. -/
def Fr.Small (p : Fr) : Prop := 0 ≤ p.num ∧ p.num ≤ 100 ∧ 0 ≤ p.den ∧ p.den ≤ 100
theorem mul_hundred {a b : Int} (ha : 0 ≤ a) (ha1 : a ≤ 100) (hb : 0 ≤ b) (hb1 : b ≤ 100) : 0 ≤ a * b ∧ a * b ≤ 10000 := by
  refine ⟨Int.mul_nonneg ha hb, ?_⟩
  have h1 := Int.mul_le_mul ha1 hb1 hb (by decide)
  omega
theorem less_c (p q : Fr) (hp : p.Small) (hq : q.Small) (w : World) :
    Calls Try.prog 50 #[.agg #[.int .i64 p.num, .int .i64 p.den], .agg #[.int .i64 q.num, .int .i64 q.den]] w fun e w' => e = .returned (.bool (p.less q)) ∧ Below w.heap.size w w' := by
  obtain ⟨a, b⟩ := p
  obtain ⟨c, d⟩ := q
  unfold Fr.less
  simp only [Fr.Small] at hp hq ⊢
  have h1 := mul_hundred hp.1 hp.2.1 hq.2.2.1 hq.2.2.2
  have h2 := mul_hundred hq.1 hq.2.1 hp.2.2.1 hp.2.2.2
  clear hp hq
  have HB : Hid (∀ o o' : Obj, Below w.heap.size w ((w.alloc o).alloc o')) := Lib.hid fun o o' => ((Below.refl _ w).alloc (Nat.le_refl _) _).alloc (by simp) _
  go_enter Try.func50, Try.ntmps50
  go_wp2
  go_ret
  exact ⟨rfl, HB.out _ _⟩
set_option maxRecDepth 20000 in
theorem iKept (w : World) (B : Nat) (A A' : Option Addr) (n n' c c' : Nat) (its cs : List It) (hi : Items w B A n its) (hi' : Items w B A' n' cs) (hB : B ≤ w.heap.size) (hn : n ≤ 1048576) (hn' : n' ≤ 1048576) (B2 : Nat) (A2 : Option Addr) (n2 c2 : Nat) (ws : List Int) (h2 : Ints w B2 A2 n2 ws) (hB2 : B2 ≤ w.heap.size) (hn2 : n2 ≤ 1048576) :
    Calls Try.prog 76 #[.slice A n c, .slice A' n' c', .slice A2 n2 c2] w fun e w' => e = .returned (.agg #[.int .i64 (keptF (its.map It.dat) (cs.map It.dat) ws).num, .int .i64 (keptF (its.map It.dat) (cs.map It.dat) ws).den]) ∧ Below w.heap.size w w' := by
  obtain ⟨D1, hD1⟩ : ∃ D, gu ws (its.map It.dat) = D := ⟨_, rfl⟩
  obtain ⟨D2, hD2⟩ : ∃ D, gu ws (cs.map It.dat) = D := ⟨_, rfl⟩
  have HG1 : Hid (∀ W, Below w.heap.size w W → Calls Try.prog 44 #[.slice A n c, .slice A2 n2 c2] W fun e w' => e = .returned (.int .i64 D1) ∧ Below W.heap.size W w') := Lib.hid fun W hW => by rw [← hD1]; exact iGreat W B A n c its (hi.below (hW.mono hB)) (Nat.le_trans hB hW.size) hn B2 A2 n2 c2 ws (h2.below (hW.mono hB2)) (Nat.le_trans hB2 hW.size) hn2
  have HG2 : Hid (∀ W, Below w.heap.size w W → Calls Try.prog 44 #[.slice A' n' c', .slice A2 n2 c2] W fun e w' => e = .returned (.int .i64 D2) ∧ Below W.heap.size W w') := Lib.hid fun W hW => by rw [← hD2]; exact iGreat W B A' n' c' cs (hi'.below (hW.mono hB)) (Nat.le_trans hB hW.size) hn' B2 A2 n2 c2 ws (h2.below (hW.mono hB2)) (Nat.le_trans hB2 hW.size) hn2
  obtain ⟨K, hK⟩ : ∃ K, keptF (its.map It.dat) (cs.map It.dat) ws = K := ⟨_, rfl⟩
  rw [hK]
  have HK : Hid (K = if D1 = 0 then ⟨1, 1⟩ else ⟨D2, D1⟩) := Lib.hid (by rw [← hK, ← hD1, ← hD2]; rfl)
  clear hi hi' h2 hD1 hD2 hK
  obtain ⟨w0, hw0⟩ : ∃ w0, w.alloc (.cells #[.int .i64 0, .int .i64 0] 63) = w0 := ⟨_, rfl⟩
  have HB0 : Hid (Below w.heap.size w w0) := Lib.hid (by subst hw0; exact (Below.refl _ w).alloc (Nat.le_refl _) _)
  have HF0 : Hid (FrB w0 w.heap.size ⟨0, 0⟩) := Lib.hid (by subst hw0; exact FrB.new w ⟨0, 0⟩)
  go_enter Try.func76, Try.ntmps76
  go_upto_region 1 with (fail)
  try rw [hw0]
  clear hw0
  go_wp2_with fail
  refine (HG1.out _ HB0.out).mono ?_
  rintro e w1 ⟨rfl, hb1⟩
  have HB1 := Lib.hid (below_on HB0.out hb1)
  have HF1 := Lib.hid (HF0.out.below hb1)
  clear hb1 HB0 HF0
  by_cases h0 : D1 = 0
  · have hk : K = ⟨1, 1⟩ := by rw [HK.out, if_pos h0]
    subst hk
    subst h0
    obtain ⟨c0, c1, z0, z1⟩ := HF1.out.cells
    go_wp2
    refine bodyPost_ret_by (results_cell_row rfl _ _ w.heap.size 63 _ (0, 0) _ rfl (HF1.out.set 1 1) Try.underlying63 rfl (by kernel_rfl)) rfl ?_
    exact ⟨rfl, (HB1.out.setCell (Nat.le_refl _) _).setCell (Nat.le_refl _) _⟩
  · have hk : K = ⟨D2, D1⟩ := by rw [HK.out, if_neg h0]
    subst hk
    have hd : (D1 == 0) = false := by simpa using h0
    go_wp2_with fail
    refine (HG2.out _ HB1.out).mono ?_
    rintro e w2 ⟨rfl, hb2⟩
    have HB2 := Lib.hid (below_on HB1.out hb2)
    have HF2 := Lib.hid (HF1.out.below hb2)
    clear hb2 HB1 HF1
    obtain ⟨c0, c1, z0, z1⟩ := HF2.out.cells
    go_wp2
    refine bodyPost_ret_by (results_cell_row rfl _ _ w.heap.size 63 _ (0, 0) _ rfl (HF2.out.set D2 D1) Try.underlying63 rfl (by kernel_rfl)) rfl ?_
    exact ⟨rfl, (HB2.out.setCell (Nat.le_refl _) _).setCell (Nat.le_refl _) _⟩
theorem results_tmp_rowF {P : Program} {fn : Func} {u p : Tmp} {ty : TypeId} (h : fn.results = #[.tmp u, .cell p ty]) (tmps : Array Value) (w : World) (g : Nat) (t : TypeId) (cs : Array Value) (fr : Nat × Nat) (d : TypeDesc)
    (hp : tmps.getD p undef = .pointer (some ⟨g, 0, none⟩)) (hg : w.heap[g]? = some (.cells cs t fr))
    (hu : P.underlying ty = some d) (hd : (match d with | .struct _ | .array _ _ => true | _ => false) = true) (hi : (P.info? ty).map (·.size) = some cs.size) :
    (results fn tmps).run P w = .ok (.tuple #[tmps.getD u undef, .agg cs]) w := by
  have hp' : tmps[p]?.getD undef = .pointer (some ⟨g, 0, none⟩) := by simpa using hp
  simp only [results, h]
  simp [Sem.run_bind, hp', asAddr, Result.andThen, run_loadVar_row w g t ty cs fr d hg hu hd hi]
theorem results_rowsF {P : Program} {fn : Func} {p1 p2 : Tmp} {ty1 ty2 : TypeId} (h : fn.results = #[.cell p1 ty1, .cell p2 ty2]) (tmps : Array Value) (w : World)
    (g1 g2 : Nat) (t1 t2 : TypeId) (c1 c2 : Array Value) (f1 f2 : Nat × Nat) (d1 d2 : TypeDesc)
    (hp1 : tmps.getD p1 undef = .pointer (some ⟨g1, 0, none⟩)) (hp2 : tmps.getD p2 undef = .pointer (some ⟨g2, 0, none⟩))
    (hg1 : w.heap[g1]? = some (.cells c1 t1 f1)) (hg2 : w.heap[g2]? = some (.cells c2 t2 f2))
    (hu1 : P.underlying ty1 = some d1) (hd1 : (match d1 with | .struct _ | .array _ _ => true | _ => false) = true) (hi1 : (P.info? ty1).map (·.size) = some c1.size)
    (hu2 : P.underlying ty2 = some d2) (hd2 : (match d2 with | .struct _ | .array _ _ => true | _ => false) = true) (hi2 : (P.info? ty2).map (·.size) = some c2.size) :
    (results fn tmps).run P w = .ok (.tuple #[.agg c1, .agg c2]) w := by
  have hp1' : tmps[p1]?.getD undef = .pointer (some ⟨g1, 0, none⟩) := by simpa using hp1
  have hp2' : tmps[p2]?.getD undef = .pointer (some ⟨g2, 0, none⟩) := by simpa using hp2
  simp only [results, h]
  simp [Sem.run_bind, hp1', hp2', asAddr, Result.andThen, run_loadVar_row w g1 t1 ty1 c1 f1 d1 hg1 hu1 hd1 hi1, run_loadVar_row w g2 t2 ty2 c2 f2 d2 hg2 hu2 hd2 hi2]
end Go.Proofs.Ytceiocdemhkcdaa.num
