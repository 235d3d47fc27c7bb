/-
  EqualItems, the program's: contract.
-/
import Derived.Test.YtldccopockaneaaItemEqs
import Derived.Test.YtldccopockaneaaItemImpl
namespace Go.Proofs.Ytldccopockaneaa.num
open Go.RowKit

theorem record_any (w : World) (B : Nat) (t : It) (hi : Ints w B t.A t.n t.xs) (hB : B ≤ w.heap.size) (ok : Bool) (hok : ok = true ↔ t.n = 3) :
    Calls Try.prog 31 #[t.val] w fun e w' => (∃ i a b c, e = .returned (.tuple #[.agg #[.int .i64 i, .int .i64 a, .int .i64 b, .int .i64 c], .bool ok]) ∧ (ok = true → i = t.id ∧ t.xs = [a, b, c])) ∧ Below w.heap.size w w' := by
  cases ok
  · exact (record_no w t (fun h => by have := hok.2 h; cases this)).mono fun _ _ ⟨he, hb⟩ => ⟨⟨0, 0, 0, 0, he, fun h => by cases h⟩, hb⟩
  · obtain ⟨a, b, c, habc⟩ := three_of (hi.1.trans (hok.1 rfl))
    exact (record_yes w B t hi hB a b c habc).mono fun _ _ ⟨he, hb⟩ => ⟨⟨t.id, a, b, c, he, fun _ => ⟨rfl, habc⟩⟩, hb⟩

/-- Two cells of a box. -/
def Box2 (w : World) (g : Nat) (u v : Value) : Prop := g < w.heap.size ∧ w.cell? ⟨g, 0, none⟩ = some u ∧ w.cell? ⟨g, 1, none⟩ = some v
theorem Box2.below {w w' : World} {g : Nat} {u v : Value} (h : Box2 w g u v) (hb : Below w.heap.size w w') : Box2 w' g u v :=
  ⟨Nat.lt_of_lt_of_le h.1 hb.size, (hb.cell (p := ⟨g, 0, none⟩) h.1).trans h.2.1, (hb.cell (p := ⟨g, 1, none⟩) h.1).trans h.2.2⟩
def Box4 (w : World) (g : Nat) (a b c d : Value) : Prop := g < w.heap.size ∧ w.cell? ⟨g, 0, none⟩ = some a ∧ w.cell? ⟨g, 1, none⟩ = some b ∧ w.cell? ⟨g, 2, none⟩ = some c ∧ w.cell? ⟨g, 3, none⟩ = some d
theorem Box4.below {w w' : World} {g : Nat} {a b c d : Value} (h : Box4 w g a b c d) (hb : Below w.heap.size w w') : Box4 w' g a b c d :=
  ⟨Nat.lt_of_lt_of_le h.1 hb.size, (hb.cell (p := ⟨g, 0, none⟩) h.1).trans h.2.1, (hb.cell (p := ⟨g, 1, none⟩) h.1).trans h.2.2.1, (hb.cell (p := ⟨g, 2, none⟩) h.1).trans h.2.2.2.1, (hb.cell (p := ⟨g, 3, none⟩) h.1).trans h.2.2.2.2⟩
theorem Box2.at {w : World} {g : Nat} {u v : Value} {t : TypeId} (h : w.heap[g]? = some (.cells #[u, v] t (0, 0))) : Box2 w g u v :=
  ⟨lt_of_block h, cell_of_row w _ 0 _ _ (0, 0) h, cell_of_row w _ 1 _ _ (0, 0) h⟩
theorem Box4.at {w : World} {g : Nat} {a b c d : Value} {t : TypeId} (h : w.heap[g]? = some (.cells #[a, b, c, d] t (0, 0))) : Box4 w g a b c d :=
  ⟨lt_of_block h, cell_of_row w _ 0 _ _ (0, 0) h, cell_of_row w _ 1 _ _ (0, 0) h, cell_of_row w _ 2 _ _ (0, 0) h, cell_of_row w _ 3 _ _ (0, 0) h⟩

theorem same_c (w : World) (B : Nat) (t t' : It) (h1 : Ints w B t.A t.n t.xs) (h2 : Ints w B t'.A t'.n t'.xs) (hB : B ≤ w.heap.size) (hn : t.n ≤ 1048576) (q : Bool) (hq : q = true ↔ t.dat = t'.dat) :
    Calls Try.prog 36 #[t.val, t'.val] w fun e w' => e = .returned (.bool q) ∧ Below w.heap.size w w' := by
  obtain ⟨id, A, n, c, xs⟩ := t
  obtain ⟨id', A', n', c', xs'⟩ := t'
  unfold It.val
  simp only [It.dat, Prod.mk.injEq] at h1 h2 hn hq ⊢
  have H1 := Lib.hid h1
  have H2 := Lib.hid h2
  have HQ := Lib.hid hq
  clear h1 h2 hq
  obtain ⟨o1, ho1⟩ := bool_of (n = 3)
  obtain ⟨o2, ho2⟩ := bool_of (n' = 3)
  have HO1 := Lib.hid ho1
  have HO2 := Lib.hid ho2
  clear ho1 ho2
  go_enter Try.func36, Try.ntmps36
  go_wp2_with fail
  refine (record_any _ B ⟨id, A, n, c, xs⟩ (H1.out.below (((Below.refl B w).alloc hB _).alloc (by simp; omega) _)) (by simp; omega) o1 HO1.out).mono ?_
  rintro e w1 ⟨⟨i1, a1, b1, c1, rfl, hv1⟩, hb1⟩
  have HV1 := Lib.hid hv1
  have hx0 := (Below.refl w.heap.size w).alloc (Nat.le_refl _) (.cells #[.int .i64 id, .slice A n c] 27)
  have hx1 := hx0.alloc hx0.size (.cells #[.int .i64 id', .slice A' n' c'] 27)
  have HB1 := Lib.hid (hx1.trans (hb1.mono hx1.size))
  have X1 : Hid (Box2 w1 w.heap.size (.int .i64 id) (.slice A n c)) := Lib.hid ((Box2.at (by rw [Below.heap_alloc _ _ _ (by simp)]; exact heap_alloc_new w _)).below hb1)
  have X2 : Hid (Box2 w1 (w.heap.size + 1) (.int .i64 id') (.slice A' n' c')) := Lib.hid ((Box2.at (heap_alloc2_new w _ _)).below hb1)
  have y0 := X2.out.2.1
  have y1 := X2.out.2.2
  have y2 := X2.out.1
  have y3 := X1.out.1
  clear hv1 hb1 hx0 hx1
  go_wp2_with fail
  refine (record_any _ B ⟨id', A', n', c', xs'⟩ (H2.out.below ((HB1.out.mono hB).alloc (Nat.le_trans hB HB1.out.size) _)) (by have := HB1.out.size; simp; omega) o2 HO2.out).mono ?_
  rintro e w2 ⟨⟨i2, a2, b2, c2, rfl, hv2⟩, hb2⟩
  have HV2 := Lib.hid hv2
  have hx := (Below.refl w1.heap.size w1).alloc (Nat.le_refl _) (.cells #[.int .i64 i1, .int .i64 a1, .int .i64 b1, .int .i64 c1] 48)
  have hb2' := hx.trans (hb2.mono hx.size)
  have HB2 := Lib.hid (HB1.out.trans (hb2'.mono HB1.out.size))
  have Y1 := Lib.hid (X1.out.below hb2')
  have Y2 := Lib.hid (X2.out.below hb2')
  have P1 : Hid (Box4 w2 w1.heap.size (.int .i64 i1) (.int .i64 a1) (.int .i64 b1) (.int .i64 c1)) := Lib.hid ((Box4.at (heap_alloc_new w1 _)).below hb2)
  clear hv2 hb2 hx hb2' y0 y1 y2 y3 X1 X2
  have p0 := P1.out.2.1
  have p1 := P1.out.2.2.1
  have p2 := P1.out.2.2.2.1
  have p3 := P1.out.2.2.2.2
  have z0 := Y1.out.2.1
  have z1 := Y1.out.2.2
  have z2 := Y2.out.2.1
  have z3 := Y2.out.2.2
  have hg1 := P1.out.1
  have hg2 := Y1.out.1
  have hg3 := Y2.out.1
  have HA : Hid (Below w.heap.size w (w2.alloc (.cells #[.int .i64 i2, .int .i64 a2, .int .i64 b2, .int .i64 c2] 48))) := Lib.hid (HB2.out.alloc HB2.out.size _)
  by_cases hoo : o1 = true ∧ o2 = true
  · obtain ⟨rfl, rfl⟩ := hoo
    obtain ⟨rfl, rfl⟩ := HV1.out rfl
    obtain ⟨rfl, rfl⟩ := HV2.out rfl
    have hreq := fun w => rec_eq w i1 a1 b1 c1 i2 a2 b2 c2
    have HE : Hid ((i1 == i2 && (a1 == a2 && (b1 == b2 && c1 == c2))) = q) := by
      show _ = _
      rw [Bool.eq_iff_iff, HQ.out]
      simp
    generalize (i1 == i2 && (a1 == a2 && (b1 == b2 && c1 == c2))) = q3 at hreq HE
    go_wp2
    go_ret
    exact ⟨by rw [← HE.out]; rfl, HA.out⟩
  · have HF : Hid ((o1 && o2) = false) := Lib.hid (by cases o1 <;> cases o2 <;> simp_all)
    clear hoo
    have HJ1 := Lib.hid (H1.out.below (HA.out.mono hB))
    have HJ2 := Lib.hid (H2.out.below (HA.out.mono hB))
    by_cases he : id = id'
    · subst he
      have hq2 : Hid (q = true ↔ xs = xs') := Lib.hid (by rw [HQ.out]; simp)
      cases o1 <;> cases o2
      case true.true => cases HF.out
      all_goals
        go_wp2_with fail
        refine (slEqual _ B A A' n n' c c' xs xs' HJ1.out HJ2.out hn q hq2.out).mono ?_
        rintro e w3 ⟨rfl, m, rfl⟩
        go_wp2
        go_ret
        exact ⟨rfl, below_drewN HA.out m⟩
    · have hne : (id == id') = false := by simpa using he
      obtain rfl : q = false := by
        cases q
        · rfl
        · exact absurd (HQ.out.1 rfl).1 he
      clear he
      cases o1 <;> cases o2
      case true.true => cases HF.out
      all_goals
        go_wp2
        go_ret
        exact ⟨rfl, HA.out⟩

theorem efunc (w : World) (B : Nat) (A A' : Option Addr) (n n' c c' : Nat) (its its' : List It) (h1 : Items w B A n its) (h2 : Items w B A' n' its') (hB : B ≤ w.heap.size) (hn : n ≤ 1048576) (hN : ∀ t ∈ its, t.n ≤ 1048576)
    (b : Bool) (hb : b = true ↔ its.map It.dat = its'.map It.dat) :
    Calls Try.prog 35 #[.slice A n c, .slice A' n' c', .func (.func 36) #[] #[]] w fun e w' => e = .returned (.bool b) ∧ Below w.heap.size w w' := by
  have HX := Lib.hid h1
  have HY := Lib.hid h2
  have HN := Lib.hid hN
  by_cases hl : n = n'
  · subst hl
    have HBo := Lib.hid hb
    clear h1 h2 hN hb
    go_enter Try.func35, Try.ntmps35
    go_wp2
    go_loopw [17] (fun i wr => ∃ k : Nat, k ≤ n ∧ i = .int .i64 k ∧ (its.take k).map It.dat = (its'.take k).map It.dat ∧ Below w.heap.size w wr) (fun i _ => n - (intOf i).toNat)
    case atStart => exact ⟨0, Nat.zero_le _, rfl, rfl, Below.refl _ _⟩
    case round =>
      obtain ⟨k, hk, rfl, htake, hbel⟩ := hrel
      have HT := Lib.hid htake
      have HB := Lib.hid hbel
      clear htake
      by_cases hlt : k < n
      · obtain ⟨b1, off1, t1, rfl, hb1, hat1, hc1, hd1, hx1⟩ := HX.out.at k hlt
        obtain ⟨b2, off2, t2, rfl, hb2, hat2, hc2, hd2, hx2⟩ := HY.out.at k hlt
        have f1 := (hbel.cell (p := ⟨b1, off1 + k * 2, none⟩) (by exact Nat.lt_of_lt_of_le hb1 hB)).trans hc1
        have f2 := (hbel.cell (p := ⟨b1, off1 + k * 2 + 1, none⟩) (by exact Nat.lt_of_lt_of_le hb1 hB)).trans hd1
        have f3 := (hbel.cell (p := ⟨b2, off2 + k * 2, none⟩) (by exact Nat.lt_of_lt_of_le hb2 hB)).trans hc2
        have f4 := (hbel.cell (p := ⟨b2, off2 + k * 2 + 1, none⟩) (by exact Nat.lt_of_lt_of_le hb2 hB)).trans hd2
        have HI1 := Lib.hid hx1
        have HI2 := Lib.hid hx2
        have HA1 := Lib.hid hat1
        have HA2 := Lib.hid hat2
        have htn := Lib.hid (HN.out t1 (mem_of_at hat1))
        have hsz := Lib.hid hbel.size
        have hl1 : b1 < wr.heap.size := by have := hbel.size; omega
        have hl2 : b2 < wr.heap.size := by have := hbel.size; omega
        obtain ⟨q, hq⟩ : ∃ q : Bool, q = true ↔ t1.dat = t2.dat := bool_of _
        have HQ := Lib.hid hq
        have hA0 := HB.out.alloc hsz.out (.cells #[.int .i64 t1.id, .slice t1.A t1.n t1.c] 27)
        have HA := Lib.hid (hA0.alloc hA0.size (.cells #[.int .i64 t2.id, .slice t2.A t2.n t2.c] 27))
        clear hc1 hd1 hc2 hd2 hx1 hx2 hat1 hat2 hbel hq hA0
        go_wp2_with fail
        refine (same_c _ B t1 t2 (HI1.out.below (HA.out.mono hB)) (HI2.out.below (HA.out.mono hB)) (Nat.le_trans hB HA.out.size) htn.out q HQ.out).mono ?_
        rintro e w3 ⟨rfl, hb3⟩
        have HB3 := Lib.hid (HA.out.trans (hb3.mono HA.out.size))
        clear hb3 f1 f2 f3 f4
        cases q
        · have HF := Lib.hid (ne_dat HA1.out HA2.out (fun e => by have := HQ.out.2 e; cases this))
          obtain rfl : b = false := by
            cases b
            · rfl
            · exact absurd (HBo.out.1 rfl) HF.out
          go_wp2
          go_ret
          exact ⟨rfl, HB3.out⟩
        · have HD := Lib.hid (HQ.out.1 rfl)
          go_wp2
          go_roundw
          case rel => exact ⟨k + 1, by omega, by go_num, by rw [take_at HA1.out, take_at HA2.out, List.map_append, List.map_append, HT.out, List.map_singleton, List.map_singleton, HD.out], HB3.out⟩
          case measure => simp [intOf]; omega
      · obtain rfl : k = n := by omega
        obtain rfl : b = true := HBo.out.2 (by have := HT.out; rwa [take_all HX.out.1, take_all HY.out.1] at this)
        clear hbel
        go_wp2
        go_ret
        exact ⟨rfl, HB.out⟩
  · obtain rfl : b = false := by
      cases b
      · rfl
      · exact absurd (hb.1 rfl) (ne_len (by rw [h1.1, h2.1]; exact hl))
    clear h1 h2 hb
    go_enter Try.func35, Try.ntmps35
    go_wp2
    go_ret
    exact ⟨rfl, Below.refl _ _⟩

theorem iEq (w : World) (B : Nat) (A A' : Option Addr) (n n' c c' : Nat) (its its' : List It) (h1 : Items w B A n its) (h2 : Items w B A' n' its') (hB : B ≤ w.heap.size) (hn : n ≤ 1048576) (hN : ∀ t ∈ its, t.n ≤ 1048576)
    (b : Bool) (hb : b = true ↔ its.map It.dat = its'.map It.dat) :
    Calls Try.prog 27 #[.slice A n c, .slice A' n' c'] w fun e w' => e = .returned (.bool b) ∧ Below w.heap.size w w' := by
  have H1 := Lib.hid h1
  have H2 := Lib.hid h2
  have H3 := Lib.hid hN
  have H4 := Lib.hid hb
  clear h1 h2 hN hb
  go_enter Try.func27, Try.ntmps27
  go_wp2_with fail
  refine (efunc w B A A' n n' c c' its its' H1.out H2.out hB hn H3.out b H4.out).mono ?_
  rintro e w1 ⟨rfl, hb1⟩
  go_wp2
  go_ret
  exact ⟨rfl, hb1⟩
end Go.Proofs.Ytldccopockaneaa.num
