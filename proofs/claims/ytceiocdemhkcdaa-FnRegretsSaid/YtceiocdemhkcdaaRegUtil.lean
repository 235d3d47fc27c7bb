/-
  Weights and utilities: the program's and the model's functions.
-/
import Derived.Test.YtceiocdemhkcdaaFnInts
import Derived.Test.YtceiocdemhkcdaaRegMath
import Derived.Test.YtceiocdemhkcdaaItemImpl
namespace Go.Proofs.Ytceiocdemhkcdaa.num
set_option maxRecDepth 20000
open Go.RowKit
set_option linter.unusedVariables false
set_option linter.unusedSimpArgs false

theorem hb_cell {w w' : World} {g o : Nat} {v : Value} (h : Below w.heap.size w w') (hg : g < w.heap.size) (hc : w.cell? ⟨g, o, none⟩ = some v) : w'.cell? ⟨g, o, none⟩ = some v := (h.cell (p := ⟨g, o, none⟩) hg).trans hc
/-- An item in a box. -/
def BoxI (w : World) (g : Nat) (t : It) : Prop := g < w.heap.size ∧ w.cell? ⟨g, 0, none⟩ = some (.int .i64 t.id) ∧ w.cell? ⟨g, 1, none⟩ = some (.slice t.A t.n t.c)
theorem BoxI.below {w w' : World} {g : Nat} {t : It} (h : BoxI w g t) (hb : Below w.heap.size w w') : BoxI w' g t :=
  ⟨Nat.lt_of_lt_of_le h.1 hb.size, (hb.cell (p := ⟨g, 0, none⟩) h.1).trans h.2.1, (hb.cell (p := ⟨g, 1, none⟩) h.1).trans h.2.2⟩
theorem BoxI.new (w : World) (t : It) (T : TypeId) : BoxI (w.alloc (.cells #[.int .i64 t.id, .slice t.A t.n t.c] T)) w.heap.size t :=
  ⟨by simp, by rw [World.cell?_alloc_at _ _ _ _ rfl]; rfl, by rw [World.cell?_alloc_at _ _ _ _ rfl]; rfl⟩

theorem beyond_c (x : Int) (b : Bool) (hb : b = true ↔ ¬ (0 ≤ x ∧ x ≤ 3)) (w : World) :
    Calls Try.prog 91 #[.int .i64 x] w fun e w' => e = .returned (.bool b) ∧ Below w.heap.size w w' := by
  obtain rfl : b = (decide (x < 0) || decide (x > 3)) := by rw [Bool.eq_iff_iff, hb]; simp; omega
  clear hb
  by_cases h1 : x < 0
  · go_enter Try.func91, Try.ntmps91
    go_wp2
    go_ret
    exact ⟨by simp [h1], Below.refl _ _⟩
  · go_enter Try.func91, Try.ntmps91
    go_wp2
    go_ret
    exact ⟨by simp [h1]; omega, Below.refl _ _⟩
set_option maxRecDepth 20000 in
theorem iWeights (w : World) (B : Nat) (A : Option Addr) (n c : Nat) (xs : List Int) (hi : Ints w B A n xs) (hB : B ≤ w.heap.size) (hn : n ≤ 1048576) (b : Bool) (hb : b = true ↔ WtP xs) :
    Calls Try.prog 64 #[.slice A n c] w fun e w' => e = .returned (.bool b) ∧ Below w.heap.size w w' := by
  by_cases h3 : n = 3
  · subst h3
    obtain ⟨q, hq⟩ := bool_of (∃ x ∈ xs, (!(decide (0 ≤ x) && decide (x ≤ 3))) = true)
    have hc := Lib.hid (conInts w B A 3 c xs hi hB (by decide) 91 #[] (fun x => !(decide (0 ≤ x) && decide (x ≤ 3))) (Go.Proofs.enters_of Try.func91 (by kernel_rfl) rfl) (fun W _ x _ => beyond_c x _ (by simp; omega) W) q hq)
    have e : b = !q := by
      cases q
      · have hn : ¬ ∃ x ∈ xs, (!(decide (0 ≤ x) && decide (x ≤ 3))) = true := fun h => by have := hq.2 h; cases this
        exact hb.2 ⟨hi.1, fun v hv => by
          by_cases hc : 0 ≤ v ∧ v ≤ 3
          · exact hc
          · exact absurd ⟨v, hv, by simp; omega⟩ hn⟩
      · obtain ⟨x, hx, h⟩ := hq.1 rfl
        cases b
        · rfl
        · have := (hb.1 rfl).2 x hx
          simp at h
          omega
    subst e
    clear hi hb hq
    go_enter Try.func64, Try.ntmps64
    go_wp2_with fail
    refine hc.out.mono ?_
    rintro e w2 ⟨rfl, hb2⟩
    have HB := Lib.hid hb2
    clear hb2 hc
    go_wp2
    go_ret
    exact ⟨rfl, HB.out⟩
  · obtain rfl : b = false := by
      cases b
      · rfl
      · exact absurd (by rw [← hi.1]; exact (hb.1 rfl).1) h3
    clear hi hb
    have hd : ((n : Int) == 3) = false := by simp; omega
    go_enter Try.func64, Try.ntmps64
    go_wp2
    go_ret
    exact ⟨rfl, Below.refl _ _⟩
set_option maxRecDepth 20000 in
theorem sWeights (w : World) (B : Nat) (A : Option Addr) (n c : Nat) (xs : List Int) (hi : Ints w B A n xs) (hB : B ≤ w.heap.size) (hn : n ≤ 1048576) (b : Bool) (hb : b = true ↔ WtP xs) :
    Calls Try.prog 65 #[.slice A n c] w fun e w' => e = .returned (.bool b) ∧ w = w' := by
  have HX := Lib.hid hi
  have HBo := Lib.hid hb
  clear hi hb
  go_enter Try.func65, Try.ntmps65
  go_wp2
  go_loopw [3] (fun i wr => ∃ k : Nat, k ≤ n ∧ i = .int .i64 k ∧ (∀ v ∈ xs.take k, 0 ≤ v ∧ v ≤ 3) ∧ wr = w) (fun i _ => n - (intOf i).toNat)
  case atStart => exact ⟨0, Nat.zero_le _, rfl, by simp, rfl⟩
  case round =>
    obtain ⟨k, hk, rfl, hall, rfl⟩ := hrel
    have HA := Lib.hid hall
    clear hall
    by_cases hlt : k < n
    · obtain ⟨b1, off, v, rfl, hb1, hat, hc⟩ := HX.out.at k hlt
      have HT := Lib.hid hat
      have hlt' : (k : Int) < (n : Int) := by omega
      obtain ⟨q, hq⟩ := bool_of (0 ≤ v ∧ v ≤ 3)
      have HQ := Lib.hid hq
      clear hat hq
      go_wp2_with fail
      refine (in_of v 0 3 q HQ.out _).mono ?_
      rintro e w1 ⟨rfl, rfl⟩
      cases q
      · obtain rfl : b = false := by
          cases b
          · rfl
          · exact absurd (HQ.out.2 ((HBo.out.1 rfl).2 v (mem_of_at HT.out))) (by decide)
        go_wp2
        go_ret
        exact ⟨rfl, rfl⟩
      · have HD := Lib.hid (HQ.out.1 rfl)
        go_wp2
        go_roundw
        case rel =>
          refine ⟨k + 1, by omega, by go_num, ?_, by first | rfl | trivial⟩
          rw [take_at HT.out]
          intro u hu
          rcases List.mem_append.1 hu with h | h
          · exact HA.out u h
          · obtain rfl := List.mem_singleton.1 h
            exact HD.out
        case measure => simp [intOf]; omega
    · obtain rfl : k = n := by omega
      have hx := HA.out
      rw [take_all HX.out.1] at hx
      by_cases h3 : k = 3
      · subst h3
        obtain rfl : b = true := HBo.out.2 ⟨HX.out.1, hx⟩
        clear hx
        go_wp2
        go_ret
        exact ⟨rfl, rfl⟩
      · obtain rfl : b = false := by
          cases b
          · rfl
          · exact absurd (by rw [← HX.out.1]; exact (HBo.out.1 rfl).1) h3
        have hd : ((k : Int) == 3) = false := by simp; omega
        clear hx
        go_wp2
        go_ret
        exact ⟨rfl, rfl⟩
/-- The sum behind k terms. -/
def sum3 (x y z a b c : Int) (k : Nat) : Int := (if 0 < k then x * a else 0) + (if 1 < k then y * b else 0) + (if 2 < k then z * c else 0)
theorem three_read {w : World} {B : Nat} {A : Option Addr} {n : Nat} {a b c : Int} (h : Ints w B A n [a, b, c]) : ∃ g off, n = 3 ∧ A = some ⟨g, off, none⟩ ∧ g < B ∧ w.cell? ⟨g, off, none⟩ = some (.int .i64 a) ∧ w.cell? ⟨g, off + 1, none⟩ = some (.int .i64 b) ∧ w.cell? ⟨g, off + 2, none⟩ = some (.int .i64 c) := by
  obtain rfl : n = 3 := h.1.symm
  obtain ⟨b0, off, rfl, hb0, hc0⟩ := h.2 0 (by decide)
  obtain ⟨b1, off1, he1, _, hc1⟩ := h.2 1 (by decide)
  obtain ⟨b2, off2, he2, _, hc2⟩ := h.2 2 (by decide)
  injection he1 with he1; injection he1 with e1 e2; subst e1 e2
  injection he2 with he2; injection he2 with e1 e2; subst e1 e2
  exact ⟨b0, off, rfl, rfl, hb0, hc0, hc1, hc2⟩
set_option maxRecDepth 20000 in
set_option maxHeartbeats 1600000 in
theorem iUtil (w : World) (B : Nat) (t : It) (hi : Ints w B t.A t.n t.xs) (hB : B ≤ w.heap.size) (A : Option Addr) (n c : Nat) (ws : List Int) (hw : Ints w B A n ws) (hn : n ≤ 1048576) :
    Calls Try.prog 23 #[t.val, .slice A n c] w fun e w' => e = .returned (.int .i64 (utD ws t.dat)) ∧ Below w.heap.size w w' := by
  obtain ⟨q1, hq1⟩ := bool_of (IsP t.dat)
  obtain ⟨q2, hq2⟩ := bool_of (WtP ws)
  have hval : t.val = .agg #[.int .i64 t.id, .slice t.A t.n t.c] := rfl
  rw [hval]
  obtain ⟨u, hu⟩ : ∃ u, utD ws t.dat = u := ⟨_, rfl⟩
  rw [hu]
  have HU := Lib.hid hu
  clear hu
  have X0 := Lib.hid (BoxI.new w t 43)
  have HB0 : Hid (Below w.heap.size w (w.alloc (.cells #[.int .i64 t.id, .slice t.A t.n t.c] 43))) := Lib.hid ((Below.refl _ w).alloc (Nat.le_refl _) _)
  have HIs : Hid (∀ w1, Below w.heap.size w w1 → Calls Try.prog 63 #[.agg #[.int .i64 t.id, .slice t.A t.n t.c]] w1 fun e w' => e = .returned (.bool q1) ∧ Below w1.heap.size w1 w') := Lib.hid fun w1 h => iIsItem w1 B t (hi.below (h.mono hB)) (Nat.le_trans hB h.size) q1 hq1
  have HWe : Hid (∀ w1, Below w.heap.size w w1 → Calls Try.prog 64 #[.slice A n c] w1 fun e w' => e = .returned (.bool q2) ∧ Below w1.heap.size w1 w') := Lib.hid fun w1 h => iWeights w1 B A n c ws (hw.below (h.mono hB)) (Nat.le_trans hB h.size) hn q2 hq2
  have HQ1 := Lib.hid hq1
  have HQ2 := Lib.hid hq2
  have HX := Lib.hid hi
  have HW := Lib.hid hw
  clear hval hi hw hq1 hq2
  obtain ⟨x_g, x_0, x_1⟩ := X0.out
  go_enter Try.func23, Try.ntmps23
  go_wp2_with fail
  refine (HIs.out _ HB0.out).mono ?_
  rintro e w1 ⟨rfl, hb1⟩
  have HB1 := Lib.hid (below_on HB0.out hb1)
  have X1 := Lib.hid (X0.out.below hb1)
  clear x_g x_0 x_1 hb1 X0 HB0
  cases q1
  · have e0 : u = 0 := HU.out.symm.trans (utD_no fun h => by have := HQ1.out.2 h.1; cases this)
    subst e0
    go_wp2
    go_ret
    exact ⟨rfl, HB1.out⟩
  · have HT1 := Lib.hid (HQ1.out.1 rfl)
    go_wp2_with fail
    refine (HWe.out _ HB1.out).mono ?_
    rintro e w2 ⟨rfl, hb2⟩
    have HB2 := Lib.hid (below_on HB1.out hb2)
    have X2 := Lib.hid (X1.out.below hb2)
    clear hb2 X1 HB1
    cases q2
    · have e0 : u = 0 := HU.out.symm.trans (utD_no fun h => by have := HQ2.out.2 h.2; cases this)
      subst e0
      go_wp2
      go_ret
      exact ⟨rfl, HB2.out⟩
    · have hp := HT1.out
      have hq := HQ2.out.1 rfl
      have hu := HU.out
      rw [utD_yes hp hq] at hu
      obtain ⟨id, TA, tn, tc, txs⟩ := t
      obtain ⟨h1, _, h3⟩ := hp
      obtain ⟨h3', h2⟩ := hq
      simp only [It.dat] at h1 h3 X2 HX hu
      obtain ⟨a, b, d, rfl⟩ := three_list h3
      obtain ⟨x, y, z, rfl⟩ := three_list h3'
      simp only [List.mem_cons, List.not_mem_nil, or_false, forall_eq_or_imp, forall_eq] at h1 h2
      have p1 := mul_small h2.1.1 h2.1.2 h1.1.1 h1.1.2
      have p2 := mul_small h2.2.1.1 h2.2.1.2 h1.2.1.1 h1.2.1.2
      have p3 := mul_small h2.2.2.1 h2.2.2.2 h1.2.2.1 h1.2.2.2
      have HP := Lib.hid (And.intro p1 (And.intro p2 p3))
      obtain ⟨g1, o1, rfl, rfl, hg1, c0, c1, c2⟩ := three_read HX.out
      obtain ⟨g2, o2, rfl, rfl, hg2, d0, d1, d2⟩ := three_read HW.out
      have HC := Lib.hid (And.intro (hb_cell HB2.out (Nat.lt_of_lt_of_le hg1 hB) c0) (And.intro (hb_cell HB2.out (Nat.lt_of_lt_of_le hg1 hB) c1) (hb_cell HB2.out (Nat.lt_of_lt_of_le hg1 hB) c2)))
      have HD := Lib.hid (And.intro (hb_cell HB2.out (Nat.lt_of_lt_of_le hg2 hB) d0) (And.intro (hb_cell HB2.out (Nat.lt_of_lt_of_le hg2 hB) d1) (hb_cell HB2.out (Nat.lt_of_lt_of_le hg2 hB) d2)))
      have e0 : dot [x, y, z] [a, b, d] = sum3 a b d x y z 3 := by simp only [dot, sum3]; rw [Int.mul_comm a, Int.mul_comm b, Int.mul_comm d]; simp; omega
      rw [e0] at hu
      have HV := Lib.hid hu
      clear HU hu e0 h1 h2 h3 h3' p1 p2 p3 c0 c1 c2 d0 d1 d2 HX HW HIs HWe
      obtain ⟨x_g, x_0, x_1⟩ := X2.out
      go_wp2
      clear x_g x_0 x_1
      go_loopw [5, 19] (fun s i wr => ∃ k : Nat, k ≤ 3 ∧ i = .int .i64 k ∧ s = .int .i64 (sum3 a b d x y z k) ∧ wr = w2) (fun _ i _ => 3 - (intOf i).toNat)
      case atStart => exact ⟨0, by decide, rfl, by simp [sum3], rfl⟩
      case round =>
        obtain ⟨k, hk, rfl, rfl, rfl⟩ := hrel
        obtain ⟨c0, c1, c2⟩ := HC.out
        obtain ⟨d0, d1, d2⟩ := HD.out
        obtain ⟨p1, p2, p3⟩ := HP.out
        rw [Int.mul_comm x a] at p1
        rw [Int.mul_comm y b] at p2
        rw [Int.mul_comm z d] at p3
        rcases (show k = 0 ∨ k = 1 ∨ k = 2 ∨ k = 3 by omega) with rfl | rfl | rfl | rfl
        · have e : sum3 a b d x y z 0 = 0 := by simp [sum3]
          rw [e]
          go_wp2
          go_roundw
          case rel => exact ⟨1, by decide, rfl, by simp [sum3], by first | rfl | trivial⟩
          case measure => simp [intOf]
        · have e : sum3 a b d x y z 1 = a * x := by simp [sum3]
          rw [e]
          go_wp2
          go_roundw
          case rel => exact ⟨2, by decide, rfl, by simp [sum3], by first | rfl | trivial⟩
          case measure => simp [intOf]
        · have e : sum3 a b d x y z 2 = a * x + b * y := by simp [sum3]
          rw [e]
          go_wp2
          go_roundw
          case rel => exact ⟨3, by decide, rfl, by simp [sum3], by first | rfl | trivial⟩
          case measure => simp [intOf]
        · rw [HV.out]
          go_wp2
          go_ret
          exact ⟨rfl, HB2.out⟩
set_option maxRecDepth 20000 in
set_option maxHeartbeats 1600000 in
theorem sUtil (w : World) (B : Nat) (t : It) (hi : Ints w B t.A t.n t.xs) (hN : t.n ≤ 1048576) (hB : B ≤ w.heap.size) (A : Option Addr) (n c : Nat) (ws : List Int) (hw : Ints w B A n ws) (hn : n ≤ 1048576) :
    Calls Try.prog 24 #[t.val, .slice A n c] w fun e w' => e = .returned (.int .i64 (utD ws t.dat)) ∧ Below w.heap.size w w' := by
  obtain ⟨q1, hq1⟩ := bool_of (IsP t.dat)
  obtain ⟨q2, hq2⟩ := bool_of (WtP ws)
  have hval : t.val = .agg #[.int .i64 t.id, .slice t.A t.n t.c] := rfl
  rw [hval]
  obtain ⟨u, hu⟩ : ∃ u, utD ws t.dat = u := ⟨_, rfl⟩
  rw [hu]
  have HU := Lib.hid hu
  clear hu
  have X0 := Lib.hid (BoxI.new w t 43)
  have HB0 : Hid (Below w.heap.size w (w.alloc (.cells #[.int .i64 t.id, .slice t.A t.n t.c] 43))) := Lib.hid ((Below.refl _ w).alloc (Nat.le_refl _) _)
  have HIs : Hid (∀ w1, Below w.heap.size w w1 → Calls Try.prog 42 #[.agg #[.int .i64 t.id, .slice t.A t.n t.c]] w1 fun e w' => e = .returned (.bool q1) ∧ Below w1.heap.size w1 w') := Lib.hid fun w1 h => sIsItem w1 B t (hi.below (h.mono hB)) (Nat.le_trans hB h.size) hN q1 hq1
  have HWe : Hid (∀ w1, Below w.heap.size w w1 → Calls Try.prog 65 #[.slice A n c] w1 fun e w' => e = .returned (.bool q2) ∧ Below w1.heap.size w1 w') := Lib.hid fun w1 h => (sWeights w1 B A n c ws (hw.below (h.mono hB)) (Nat.le_trans hB h.size) hn q2 hq2).mono fun _ _ ⟨he, hw⟩ => ⟨he, by subst hw; exact Below.refl _ _⟩
  have HQ1 := Lib.hid hq1
  have HQ2 := Lib.hid hq2
  have HX := Lib.hid hi
  have HW := Lib.hid hw
  clear hval hi hw hq1 hq2
  obtain ⟨x_g, x_0, x_1⟩ := X0.out
  go_enter Try.func24, Try.ntmps24
  go_wp2_with fail
  refine (HIs.out _ HB0.out).mono ?_
  rintro e w1 ⟨rfl, hb1⟩
  have HB1 := Lib.hid (below_on HB0.out hb1)
  have X1 := Lib.hid (X0.out.below hb1)
  clear x_g x_0 x_1 hb1 X0 HB0
  cases q1
  · have e0 : u = 0 := HU.out.symm.trans (utD_no fun h => by have := HQ1.out.2 h.1; cases this)
    subst e0
    go_wp2
    go_ret
    exact ⟨rfl, HB1.out⟩
  · have HT1 := Lib.hid (HQ1.out.1 rfl)
    go_wp2_with fail
    refine (HWe.out _ HB1.out).mono ?_
    rintro e w2 ⟨rfl, hb2⟩
    have HB2 := Lib.hid (below_on HB1.out hb2)
    have X2 := Lib.hid (X1.out.below hb2)
    clear hb2 X1 HB1
    cases q2
    · have e0 : u = 0 := HU.out.symm.trans (utD_no fun h => by have := HQ2.out.2 h.2; cases this)
      subst e0
      go_wp2
      go_ret
      exact ⟨rfl, HB2.out⟩
    · have hp := HT1.out
      have hq := HQ2.out.1 rfl
      have hu := HU.out
      rw [utD_yes hp hq] at hu
      obtain ⟨id, TA, tn, tc, txs⟩ := t
      obtain ⟨h1, _, h3⟩ := hp
      obtain ⟨h3', h2⟩ := hq
      simp only [It.dat] at h1 h3 X2 HX hu
      obtain ⟨a, b, d, rfl⟩ := three_list h3
      obtain ⟨x, y, z, rfl⟩ := three_list h3'
      simp only [List.mem_cons, List.not_mem_nil, or_false, forall_eq_or_imp, forall_eq] at h1 h2
      have p1 := mul_small h2.1.1 h2.1.2 h1.1.1 h1.1.2
      have p2 := mul_small h2.2.1.1 h2.2.1.2 h1.2.1.1 h1.2.1.2
      have p3 := mul_small h2.2.2.1 h2.2.2.2 h1.2.2.1 h1.2.2.2
      have HP := Lib.hid (And.intro p1 (And.intro p2 p3))
      obtain ⟨g1, o1, rfl, rfl, hg1, c0, c1, c2⟩ := three_read HX.out
      obtain ⟨g2, o2, rfl, rfl, hg2, d0, d1, d2⟩ := three_read HW.out
      have HC := Lib.hid (And.intro (hb_cell HB2.out (Nat.lt_of_lt_of_le hg1 hB) c0) (And.intro (hb_cell HB2.out (Nat.lt_of_lt_of_le hg1 hB) c1) (hb_cell HB2.out (Nat.lt_of_lt_of_le hg1 hB) c2)))
      have HD := Lib.hid (And.intro (hb_cell HB2.out (Nat.lt_of_lt_of_le hg2 hB) d0) (And.intro (hb_cell HB2.out (Nat.lt_of_lt_of_le hg2 hB) d1) (hb_cell HB2.out (Nat.lt_of_lt_of_le hg2 hB) d2)))
      have e0 : dot [x, y, z] [a, b, d] = sum3 x y z a b d 3 := by simp only [dot, sum3]; simp; omega
      rw [e0] at hu
      have HV := Lib.hid hu
      clear HU hu e0 h1 h2 h3 h3' p1 p2 p3 c0 c1 c2 d0 d1 d2 HX HW HIs HWe
      obtain ⟨x_g, x_0, x_1⟩ := X2.out
      go_wp2
      clear x_g x_0 x_1
      go_loopw [5, 6] (fun s i wr => ∃ k : Nat, k ≤ 3 ∧ i = .int .i64 k ∧ s = .int .i64 (sum3 x y z a b d k) ∧ ∃ m, wr = w2.drewN m) (fun _ i _ => 3 - (intOf i).toNat)
      case atStart => exact ⟨0, by decide, rfl, by simp [sum3], 0, rfl⟩
      case round =>
        obtain ⟨k, hk, rfl, rfl, m, rfl⟩ := hrel
        obtain ⟨c0, c1, c2⟩ := HC.out
        obtain ⟨d0, d1, d2⟩ := HD.out
        obtain ⟨p1, p2, p3⟩ := HP.out
        obtain ⟨x_g, x_0, x_1⟩ := X2.out
        rcases (show k = 0 ∨ k = 1 ∨ k = 2 ∨ k = 3 by omega) with rfl | rfl | rfl | rfl
        · have e : sum3 x y z a b d 0 = 0 := by simp [sum3]
          rw [e]
          go_wp2
          go_quiet (fail)
          go_wp2
          go_roundw
          case rel => exact ⟨1, by decide, rfl, by simp [sum3], _, rfl⟩
          case measure => simp [intOf]
        · have e : sum3 x y z a b d 1 = x * a := by simp [sum3]
          rw [e]
          go_wp2
          go_quiet (fail)
          go_wp2
          go_roundw
          case rel => exact ⟨2, by decide, rfl, by simp [sum3], _, rfl⟩
          case measure => simp [intOf]
        · have e : sum3 x y z a b d 2 = x * a + y * b := by simp [sum3]
          rw [e]
          go_wp2
          go_quiet (fail)
          go_wp2
          go_roundw
          case rel => exact ⟨3, by decide, rfl, by simp [sum3], _, rfl⟩
          case measure => simp [intOf]
        · rw [HV.out]
          go_wp2
          go_ret
          exact ⟨rfl, below_drewN HB2.out _⟩
theorem iUtilD (w : World) (B : Nat) (t : It) (hi : Ints w B t.A t.n t.xs) (hB : B ≤ w.heap.size) (A : Option Addr) (n c : Nat) (ws : List Int) (hw : Ints w B A n ws) (hn : n ≤ 1048576) (D : Int) (hD : utD ws t.dat = D) :
    Calls Try.prog 23 #[t.val, .slice A n c] w fun e w' => e = .returned (.int .i64 D) ∧ Below w.heap.size w w' := by subst hD; exact iUtil w B t hi hB A n c ws hw hn
theorem sUtilD (w : World) (B : Nat) (t : It) (hi : Ints w B t.A t.n t.xs) (hN : t.n ≤ 1048576) (hB : B ≤ w.heap.size) (A : Option Addr) (n c : Nat) (ws : List Int) (hw : Ints w B A n ws) (hn : n ≤ 1048576) (D : Int) (hD : utD ws t.dat = D) :
    Calls Try.prog 24 #[t.val, .slice A n c] w fun e w' => e = .returned (.int .i64 D) ∧ Below w.heap.size w w' := by subst hD; exact sUtil w B t hi hN hB A n c ws hw hn
end Go.Proofs.Ytceiocdemhkcdaa.num
