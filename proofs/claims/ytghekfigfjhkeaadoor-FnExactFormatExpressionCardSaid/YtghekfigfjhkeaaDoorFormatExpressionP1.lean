/- What the law FnExactFormatExpression leans on, part 1: contracts of the functions that it calls. -/
import Derived.Test.YtghekfigfjhkeaaDoorPairSets
import Derived.Test.YtghekfigfjhkeaaDoorPairSpecD
import Derived.Test.YtghekfigfjhkeaaDoorPairText
import Derived.Test.YtghekfigfjhkeaaDoorRegion
import Derived.Test.YtghekfigfjhkeaaDoorWishText
import Derived.Test.YtghekfigfjhkeaaDoorWishSpecB
import Derived.Test.YtghekfigfjhkeaaDoorExpOw
import Derived.Test.YtghekfigfjhkeaaDoorExpSpec
import Derived.Test.YtghekfigfjhkeaaDoorWishSpec
import Derived.Test.YtghekfigfjhkeaaDoorProg
import Derived.WalkKit
import Derived.Test.YtghekfigfjhkeaaDoorParseMath
import Derived.Test.YtghekfigfjhkeaaDoorItoa
import Derived.Lib.OthersKept
import Derived.Lib.DecodeN
import Derived.WalkSpells
import Derived.Test.YtghekfigfjhkeaaDoorPieceMath
import Derived.Test.YtghekfigfjhkeaaDoorWishLaw
import Derived.Test.YtghekfigfjhkeaaDoorItemEq
import Derived.Test.YtghekfigfjhkeaaDoorPairEq
import Derived.BigRegion
namespace Go.Proofs.YtghekfigfjhkeaaDoor.num
open Go.RowKit Go.Maps
set_option linter.unusedVariables false

theorem lt_cell {w : World} {b o : Nat} {v : Value} (h : w.cell? ⟨b, o, none⟩ = some v) : b < w.heap.size := by
  rcases Nat.lt_or_ge b w.heap.size with h' | h'
  · exact h'
  · simp [World.cell?, Array.getElem?_eq_none h'] at h
theorem isValue_of (v : Int) (q : Bool) (hq : q = true ↔ InR v) (w : World) :
    Calls Tryd.prog 89 #[.int .i64 v] w fun e w' => e = .returned (.bool q) ∧ w = w' := by
  obtain rfl : q = (decide (0 ≤ v) && decide (v ≤ 9)) := by rw [Bool.eq_iff_iff, hq]; simp [InR]
  clear hq
  by_cases h1 : 0 ≤ v
  · go_enter Tryd.func89, Tryd.ntmps89
    go_wp2
    go_ret
    exact ⟨by simp [h1], rfl⟩
  · go_enter Tryd.func89, Tryd.ntmps89
    go_wp2
    go_ret
    exact ⟨by simp; omega, rfl⟩

/-- aboveSets under way: behind k pairs. -/
def AboveRel (ps : List (Int × Int)) (B b : Nat) (w : World) (k : Nat) (wr : World) : Prop :=
  Good (ps.take k) ∧ (∃ (n : Nat) (M : Int → Option Nat), n + 3 ≤ 3 * 2 ^ k ∧ SetsR wr B b n M (rb (ps.take k))) ∧ Below B w wr ∧ b < wr.heap.size
/-- What aboveSets answers. -/
def AboveP (ps : List (Int × Int)) (B : Nat) (q : Bool) (o : Option Nat) (w : World) : Prop :=
  (q = false → o = none) ∧ (q = true → ∃ (b n : Nat) (M : Int → Option Nat), o = some b ∧ n ≤ 765 ∧ SetsR w B b n M (rb ps))
theorem AboveP.below {ps : List (Int × Int)} {B : Nat} {q : Bool} {o : Option Nat} {w w' : World} (h : AboveP ps B q o w) (hb : Below w.heap.size w w') : AboveP ps B q o w' :=
  ⟨h.1, fun hq => by obtain ⟨b, n, M, h1, h2, h3⟩ := h.2 hq; exact ⟨b, n, M, h1, h2, h3.below hb⟩⟩
theorem rb_step (ps : List (Int × Int)) (k : Nat) (p : Int × Int) (h : ps[k]? = some p) : rb (ps.take (k + 1)) = stepR (rb (ps.take k)) p := by
  rw [ptake_at h]
  unfold rb
  rw [List.foldl_append]
  rfl
set_option maxHeartbeats 800000 in
theorem above_of (w : World) (B : Nat) (A : Option Addr) (n c : Nat) (ps : List (Int × Int)) (hi : Pairs w B A n ps) (hB : B ≤ w.heap.size) (hn : n ≤ 1048576) (q : Bool) (hq : q = true ↔ OkP ps) :
    Calls Tryd.prog 77 #[.slice A n c] w fun e w' => (∃ o, e = .returned (.tuple #[.map o, .bool q]) ∧ AboveP ps w.heap.size q o w') ∧ Below w.heap.size w w' := by
  have HX := Lib.hid hi
  have HQ := Lib.hid hq
  clear hi hq
  by_cases h8 : (n : Int) ≤ 8
  · have hmm := @run_makeMap Tryd.prog
    go_enter Tryd.func77, Tryd.ntmps77
    go_wp2
    clear hmm
    go_loopw [13] (fun i wr => ∃ k : Nat, k ≤ n ∧ i = .int .i64 k ∧ AboveRel ps w.heap.size w.heap.size w k wr) (fun i _ => n - (intOf i).toNat)
    case atStart =>
      refine ⟨0, Nat.zero_le _, rfl, Good.nil, ⟨0, fun _ => none, by decide, ?_⟩, (Below.refl _ _).alloc (Nat.le_refl _) _, by simp⟩
      exact ⟨OutAt.made w, Nat.le_refl _, (fun v a h => by cases h), (fun v x h => by cases h), (fun v x h => by cases h), (fun v v' x h => by cases h)⟩
    case round =>
      obtain ⟨k, hk, rfl, hgood, ⟨m, M, hm, hsets⟩, hbel, hbs⟩ := hrel
      have HG := Lib.hid hgood
      have HS := Lib.hid hsets
      have HB := Lib.hid hbel
      have HM := Lib.hid hm
      clear hgood hsets hm
      by_cases hlt : k < n
      · obtain ⟨b1, off, x, y, rfl, hb1, hat, hc1, hc2⟩ := HX.out.at k hlt
        have f1 := (hbel.cell (p := ⟨b1, off + k * 2, none⟩) (by exact Nat.lt_of_lt_of_le hb1 hB)).trans hc1
        have f2 := (hbel.cell (p := ⟨b1, off + k * 2 + 1, none⟩) (by exact Nat.lt_of_lt_of_le hb1 hB)).trans hc2
        have HT := Lib.hid hat
        obtain ⟨q1, hq1⟩ := bool_of (InR x)
        obtain ⟨q2, hq2⟩ := bool_of (InR y)
        have HQ1 := Lib.hid hq1
        have HQ2 := Lib.hid hq2
        have hbad : ¬ Good (ps.take (k + 1)) → q = false := fun h => by
          cases q
          · rfl
          · exact absurd (good_take (HQ.out.1 rfl).1 _) h
        have HBad := Lib.hid hbad
        have hgs := good_snoc (ps := ps.take k) (p := (x, y))
        rw [← ptake_at hat] at hgs
        have HGS := Lib.hid hgs
        clear hat hq1 hq2 hbad hgs hc1 hc2 hbel
        go_wp2_with fail
        refine (isValue_of x q1 HQ1.out _).mono ?_
        rintro e w1 ⟨rfl, hw1⟩
        have hb1' : Below wr.heap.size wr w1 := by
          rw [← hw1]
          exact (Below.refl _ wr).alloc (Nat.le_refl _) _
        have hcell : w1.cell? ⟨wr.heap.size, 0, none⟩ = some (.int .i64 x) ∧ w1.cell? ⟨wr.heap.size, 1, none⟩ = some (.int .i64 y) := by
          rw [← hw1]
          constructor <;> (rw [World.cell?_alloc_at _ _ _ _ rfl]; rfl)
        obtain ⟨g1, g2⟩ := hcell
        have HW := Lib.hid hb1'
        have HS1 := Lib.hid (HS.out.below hb1')
        clear f1 f2 hb1' hw1 HS
        cases q1
        · obtain rfl : q = false := HBad.out fun h => by
            have := HQ1.out.2 (HGS.out.1 h).2.1
            cases this
          go_wp2
          go_ret2
          exact ⟨⟨_, rfl, (fun _ => rfl), fun h => by cases h⟩, HB.out.trans (HW.out.mono HB.out.size)⟩
        · go_wp2_with fail
          refine (isValue_of y q2 HQ2.out _).mono ?_
          rintro e w2 ⟨rfl, rfl⟩
          cases q2
          · obtain rfl : q = false := HBad.out fun h => by
              have := HQ2.out.2 (HGS.out.1 h).2.2.1
              cases this
            go_wp2
            go_ret2
            exact ⟨⟨_, rfl, (fun _ => rfl), fun h => by cases h⟩, HB.out.trans (HW.out.mono HB.out.size)⟩
          · have HIX := Lib.hid (HQ1.out.1 (by first | rfl | trivial))
            have HIY := Lib.hid (HQ2.out.1 (by first | rfl | trivial))
            obtain ⟨q3, hq3⟩ := bool_of (x = y ∨ rb (ps.take k) y x = true)
            have HQ3 := Lib.hid hq3
            clear hq3
            go_wp2_with fail
            refine (closes_of w1 w.heap.size w.heap.size m M _ HS1.out x y HIX.out HIY.out q3 HQ3.out).mono ?_
            rintro e w2 ⟨rfl, hb2⟩
            have HW2 := Lib.hid (HW.out.trans (hb2.mono HW.out.size))
            have HS2 := Lib.hid (HS1.out.below hb2)
            have g3 := (hb2.cell (p := ⟨wr.heap.size, 0, none⟩) (by have := g1; exact lt_cell g1)).trans g1
            have g4 := (hb2.cell (p := ⟨wr.heap.size, 1, none⟩) (by exact lt_cell g1)).trans g2
            clear hb2 g1 g2 HS1 HW
            cases q3
            · have hne : x ≠ y := fun e => by have := HQ3.out.2 (.inl e); cases this
              have hrf : rb (ps.take k) y x = false := by
                cases e : rb (ps.take k) y x
                · rfl
                · have := HQ3.out.2 (.inr e); cases this
              have HNE := Lib.hid hne
              have HRF := Lib.hid hrf
              have hm1 : m ≤ 100000 := by
                have h1 := HM.out
                have h2 : 2 ^ k ≤ 2 ^ 8 := Nat.pow_le_pow_right (by decide) (by omega)
                omega
              clear hne hrf
              go_wp2_with fail
              refine (add_of w2 w.heap.size w.heap.size m M _ HS2.out (Nat.le_trans HB.out.size HW2.out.size) hm1 x y HIX.out HIY.out HNE.out HRF.out).mono ?_
              rintro e w3 ⟨rfl, hset, hb3⟩
              have HB3 := Lib.hid ((HB.out.trans (HW2.out.mono HB.out.size)).trans hb3)
              have HSet := Lib.hid hset
              clear hset hb3 g3 g4 HS2
              go_wp2
              go_roundw
              case rel =>
                obtain ⟨M', hM'⟩ := HSet.out
                refine ⟨k + 1, by omega, by go_num, HGS.out.2 ⟨HG.out, HIX.out, HIY.out, HNE.out, HRF.out⟩, ⟨2 * m + 3, M', ?_, ?_⟩, HB3.out, MapAt.lt hM'.out⟩
                · have h1 := HM.out
                  rw [Nat.pow_succ]; omega
                · rw [rb_step ps k (x, y) HT.out]; exact hM'
              case measure => simp [intOf]; omega
            · obtain rfl : q = false := HBad.out fun h => by
                have h1 := (HGS.out.1 h).2.2.2
                rcases HQ3.out.1 (by first | rfl | trivial) with e | e
                · exact h1.1 e
                · rw [h1.2] at e; cases e
              go_wp2
              go_ret2
              exact ⟨⟨_, rfl, (fun _ => rfl), fun h => by cases h⟩, HB.out.trans (HW2.out.mono HB.out.size)⟩
      · obtain rfl : k = n := by omega
        have hg := HG.out
        have hs := HS.out
        rw [ptake_all HX.out.1] at hg hs
        have hok : OkP ps := ⟨hg, by rw [HX.out.1]; omega⟩
        obtain rfl : q = true := HQ.out.2 hok
        have hm1 : m ≤ 765 := by
          have h1 := HM.out
          have h2 : 2 ^ k ≤ 2 ^ 8 := Nat.pow_le_pow_right (by decide) (by omega)
          omega
        have HSF := Lib.hid hs
        clear hg hs hok hbel
        go_wp2
        go_ret2
        exact ⟨⟨_, rfl, (fun h => by cases h), fun _ => ⟨_, m, M, rfl, hm1, HSF.out⟩⟩, HB.out⟩
  · obtain rfl : q = false := by
      cases q
      · rfl
      · have := (HQ.out.1 rfl).2
        rw [HX.out.1] at this
        omega
    go_enter Tryd.func77, Tryd.ntmps77
    go_wp2
    go_ret2
    exact ⟨⟨_, rfl, (fun _ => rfl), fun h => by cases h⟩, Below.refl _ _⟩
end Go.Proofs.YtghekfigfjhkeaaDoor.num
namespace Go.Proofs.YtghekfigfjhkeaaDoor.num
open Go.RowKit Go.Maps
set_option linter.unusedVariables false

/-- Two lookups, one behind the other, in what aboveSets answered. -/
theorem AboveP.look {ps : List (Int × Int)} {B : Nat} {q : Bool} {o : Option Nat} {w : World} (h : AboveP ps B q o w) {v a : Int} (hv : (Lit.int .i64 v).wf = true) (ha : (Lit.int .i64 a).wf = true) :
    ∃ o2, (Instr.lookup 109 (.map o) (.int .i64 v) false).run Tryd.prog w = .ok (.map o2) w ∧ (Instr.lookup 143 (.map o2) (.int .i64 a) false).run Tryd.prog w = .ok (.bool (q && rb ps a v)) w := by
  cases q
  · obtain rfl := h.1 rfl
    exact ⟨none, nil_out w v hv, by simpa using nil_look w a ha⟩
  · obtain ⟨b, n, M, rfl, _, hs⟩ := h.2 rfl
    refine ⟨M v, ?_, ?_⟩
    · have := OutAt.look hs.out v hv
      rw [elt_some] at this
      exact this
    · simpa using (hs.opt v).look a ha
theorem iArePairs (w : World) (B : Nat) (A : Option Addr) (n c : Nat) (ps : List (Int × Int)) (hi : Pairs w B A n ps) (hB : B ≤ w.heap.size) (hn : n ≤ 1048576) (q : Bool) (hq : q = true ↔ OkP ps) :
    Calls Tryd.prog 53 #[.slice A n c] w fun e w' => e = .returned (.bool q) ∧ Below w.heap.size w w' := by
  go_enter Tryd.func53, Tryd.ntmps53
  go_wp2_with fail
  refine (above_of w B A n c ps hi hB hn q hq).mono ?_
  rintro e w1 ⟨⟨o, rfl, _⟩, hb1⟩
  go_wp2
  go_ret
  exact ⟨rfl, hb1⟩
/-- The closure's first part, if there is one. -/
def cq (ps : List (Int × Int)) (q : Bool) (k : Nat) : List (Int × Int) := if q then clo ps k else []
theorem cq_zero (ps : List (Int × Int)) (q : Bool) : cq ps q 0 = [] := by cases q <;> rfl
theorem cq_succ (ps : List (Int × Int)) (q : Bool) {a b : Nat} (ha : a < 10) (hb : b < 10) : cq ps q (a * 10 + (b + 1)) = if (q && rb ps a b) = true then cq ps q (a * 10 + b) ++ [((a : Int), (b : Int))] else cq ps q (a * 10 + b) := by
  cases q
  · rfl
  · exact clo_succ ps ha hb
theorem cq_len (ps : List (Int × Int)) (q : Bool) (k : Nat) : (cq ps q k).length ≤ 100 := by
  cases q
  · simp [cq]
  · exact clo_len ps k
theorem nat_wf {k : Nat} (h : k ≤ 10) : (Lit.int .i64 (k : Int)).wf = true := WalkArith.wf_i64 (by omega)
theorem OwnP.low {w : World} {B B' : Nat} {v : Value} {l : List (Int × Int)} (h : OwnP w B v l) (hB : B' ≤ B) : OwnP w B' v l :=
  ⟨h.1, h.2.imp id fun ⟨g, cap, cur, h1, h2, h3⟩ => ⟨g, cap, cur, h1, Nat.le_trans hB h2, h3⟩⟩
end Go.Proofs.YtghekfigfjhkeaaDoor.num
namespace Go.Proofs.YtghekfigfjhkeaaDoor.num
open Go.RowKit Go.Maps
set_option linter.unusedVariables false
set_option linter.unusedSimpArgs false

theorem pair_bytes (x y : Int) : fmtB x ++ ⟨#[62]⟩ ++ fmtB y = ⟨(pairT (x, y)).toArray⟩ := by
  apply bytes_ext
  simp [pairT, fmtB, ByteArray.data_append]
theorem fmt_R {n : Int} (h : InR n) : (fmtB n).size ≤ 2 := fmt_small n (inR2 h).1 (inR2 h).2
set_option maxRecDepth 20000 in
set_option maxHeartbeats 1600000 in
theorem iFmtPair (w : World) (x y : Int) (hx : InR x) (hy : InR y) (hpow : Pow w) :
    Calls Tryd.prog 55 #[.agg #[.int .i64 x, .int .i64 y]] w fun e w' => e = .returned (.string ⟨(pairT (x, y)).toArray⟩) ∧ Below w.heap.size w w' := by
  have HPw := Lib.hid hpow
  have hfx := fmt_R hx
  have hfy := fmt_R hy
  have hx0 := inR2 hx
  have hy0 := inR2 hy
  have hcat1 : ¬ (9223372036854775807 < (fmtB x).size + 1) := by omega
  have hcat2 : ¬ (9223372036854775807 < (fmtB x).size + 1 + (fmtB y).size) := by omega
  clear hpow hx hy
  go_enter Tryd.func55, Tryd.ntmps55
  go_wp2
  obtain ⟨wg, hwg⟩ : ∃ wg, wg = w.alloc (.cells #[.int .i64 x, .int .i64 y] 82) := ⟨_, rfl⟩
  rw [← hwg]
  have HB1 : Hid (Below w.heap.size w wg) := Lib.hid (by rw [hwg]; exact (Below.refl _ w).alloc (Nat.le_refl _) _)
  have hg : w.heap.size < wg.heap.size := by rw [hwg]; simp
  have q0 : wg.cell? ⟨w.heap.size, 0, none⟩ = some (.int .i64 x) := by rw [hwg]; exact World.cell?_alloc_at _ _ _ _ rfl
  have q1 : wg.cell? ⟨w.heap.size, 1, none⟩ = some (.int .i64 y) := by rw [hwg]; exact World.cell?_alloc_at _ _ _ _ rfl
  clear hwg
  have hs0 : Below wg.heap.size wg wg.drew ∧ wg.drew.cell? ⟨w.heap.size, 0, none⟩ = some (.int .i64 x) ∧ wg.drew.cell? ⟨w.heap.size, 1, none⟩ = some (.int .i64 y) := ⟨(Below.refl _ _).drew, q0, q1⟩
  refine wp_region_held (S := fun w' => Below wg.heap.size wg w' ∧ w'.cell? ⟨w.heap.size, 0, none⟩ = some (.int .i64 x) ∧ w'.cell? ⟨w.heap.size, 1, none⟩ = some (.int .i64 y)) (by kernel_rfl) ?_
  change wpAnyH _ _ _ _ _ _ _ _ (World.drew _)
  refine takeY 3 (i := 0) (v := ?v0a) rfl rfl (by kernel_rfl) (by kernel_rfl) (by kernel_rfl) (fun _ _ _ h => h) (by kernel_rfl) ?y0a hs0 ?_
  case y0a =>
    intro w' hw'; (try dsimp only at hw'); obtain ⟨e0, e1, e2⟩ := hw'; go_simp; try with_reducible rfl
  simp only [Act.put, List.setIfInBounds_toArray, List.set_cons_zero, List.set_cons_succ]
  refine takeY 4 (i := 1) (v := ?v1a) rfl rfl (by kernel_rfl) (by kernel_rfl) (by kernel_rfl) (fun _ _ _ h => h) (by kernel_rfl) ?y1a hs0 ?_
  case y1a =>
    intro w' hw'; (try dsimp only at hw'); obtain ⟨e0, e1, e2⟩ := hw'; go_simp; try with_reducible rfl
  simp only [Act.put, List.setIfInBounds_toArray, List.set_cons_zero, List.set_cons_succ]
  refine takeY 7 (i := 4) (v := ?v4a) rfl rfl (by kernel_rfl) (by kernel_rfl) (by kernel_rfl) (fun _ _ _ h => h) (by kernel_rfl) ?y4a hs0 ?_
  case y4a =>
    intro w' hw'; (try dsimp only at hw'); obtain ⟨e0, e1, e2⟩ := hw'; go_simp; try with_reducible rfl
  simp only [Act.put, List.setIfInBounds_toArray, List.set_cons_zero, List.set_cons_succ]
  refine takeY 8 (i := 5) (v := ?v5a) rfl rfl (by kernel_rfl) (by kernel_rfl) (by kernel_rfl) (fun _ _ _ h => h) (by kernel_rfl) ?y5a hs0 ?_
  case y5a =>
    intro w' hw'; (try dsimp only at hw'); obtain ⟨e0, e1, e2⟩ := hw'; go_simp; try with_reducible rfl
  simp only [Act.put, List.setIfInBounds_toArray, List.set_cons_zero, List.set_cons_succ]
  refine wpAnyH_ready (rs := [2]) (by kernel_rfl) (by simp) ?_
  refine AllReadyH.cons rfl (fun K hK => ?_) AllReadyH.nil
  go_simp; go_at_call 41; refine (iFormat x (by omega) (by omega) _ (HPw.out.below HB1.out.drew)).mono ?_; rintro e w3 ⟨rfl, h3⟩; replace h3 := (Below.refl wg.heap.size wg).drew.trans (h3.mono (Nat.le_refl _))
  refine hK.out _ _ ⟨h3, (h3.cell (p := ⟨w.heap.size, 0, none⟩) hg).trans q0, (h3.cell (p := ⟨w.heap.size, 1, none⟩) hg).trans q1⟩ (fun hS1 => ?_)
  clear hK K
  try simp only [Act.put, List.setIfInBounds_toArray, List.set_cons_zero, List.set_cons_succ]
  refine takeY 6 (i := 3) (v := ?v3a) rfl rfl (by kernel_rfl) (by kernel_rfl) (by kernel_rfl) (fun _ _ _ h => h) (by kernel_rfl) ?y3a hS1 ?_
  case y3a =>
    intro w' hw'; (try dsimp only at hw'); obtain ⟨e0, e1, e2⟩ := hw'; go_simp; try with_reducible rfl
  simp only [Act.put, List.setIfInBounds_toArray, List.set_cons_zero, List.set_cons_succ]
  refine wpAnyH_ready (rs := [6]) (by kernel_rfl) (by simp) ?_
  refine AllReadyH.cons rfl (fun K hK => ?_) AllReadyH.nil
  go_simp; go_at_call 41; refine (iFormat y (by omega) (by omega) _ (HPw.out.below (HB1.out.trans (h3.mono HB1.out.size)))).mono ?_; rintro e w4 ⟨rfl, h4⟩; replace h4 := h3.trans (h4.mono h3.size)
  refine hK.out _ _ ⟨h4, (h4.cell (p := ⟨w.heap.size, 0, none⟩) hg).trans q0, (h4.cell (p := ⟨w.heap.size, 1, none⟩) hg).trans q1⟩ (fun hS2 => ?_)
  clear hK K
  try simp only [Act.put, List.setIfInBounds_toArray, List.set_cons_zero, List.set_cons_succ]
  refine takeY 10 (i := 7) (v := ?v7a) rfl rfl (by kernel_rfl) (by kernel_rfl) (by kernel_rfl) (fun _ _ _ h => h) (by kernel_rfl) ?y7a hS2 ?_
  case y7a =>
    intro w' hw'; (try dsimp only at hw'); obtain ⟨e0, e1, e2⟩ := hw'; go_simp; try with_reducible rfl
  simp only [Act.put, List.setIfInBounds_toArray, List.set_cons_zero, List.set_cons_succ]
  refine takeY 2 (i := 8) (v := ?v8a) rfl rfl (by kernel_rfl) (by kernel_rfl) (by kernel_rfl) (fun _ _ _ h => h) (by kernel_rfl) ?y8a hS2 ?_
  case y8a =>
    intro w' hw'; (try dsimp only at hw'); obtain ⟨e0, e1, e2⟩ := hw'; go_simp; try with_reducible rfl
  simp only [Act.put, List.setIfInBounds_toArray, List.set_cons_zero, List.set_cons_succ]
  refine wpAnyH_done (by kernel_rfl) ?_ _
  clear hcat1 hcat2 hfx hfy
  go_wp2
  go_ret
  exact ⟨by rw [← pair_bytes]; rfl, HB1.out.trans (h4.mono HB1.out.size)⟩

def wordP (ps : List (Int × Int)) (j : Nat) : ByteArray := ⟨(pairT (ps.getD j (0, 0))).toArray⟩
theorem wordP_at {ps : List (Int × Int)} {k : Nat} {p : Int × Int} (h : ps[k]? = some p) : wordP ps k = ⟨(pairT p).toArray⟩ := by
  unfold wordP
  rw [List.getD_eq_getElem?_getD, h]; rfl
set_option maxHeartbeats 1600000 in
theorem iJoinP (w : World) (B : Nat) (A : Option Addr) (n cc : Nat) (ps : List (Int × Int)) (hi : Pairs w B A n ps) (hB : B ≤ w.heap.size) (h8 : n ≤ 8) (h : ∀ p, p ∈ ps → InR p.1 ∧ InR p.2) (hpow : Pow w) :
    Calls Tryd.prog 54 #[.slice A n cc, .string ⟨#[44]⟩, .func (.func 55) #[] #[]] w fun e w' => e = .returned (.string ⟨(Lib.join (ps.map pairT) [44]).toArray⟩) ∧ Below w.heap.size w w' := by
  have hmk := run_make_row' (P := Tryd.prog) 71 9 (.string ⟨#[]⟩) 16 Tryd.underlying71 info_string rfl .i64 .i64 n (by omega) (by omega)
  have HX := Lib.hid hi
  have HP := Lib.hid hpow
  have HR0 := Lib.hid h
  clear hi hpow h
  go_enter Tryd.func54, Tryd.ntmps54
  go_wp2
  clear hmk
  go_loopw [15] (fun i wr => ∃ k : Nat, k ≤ n ∧ i = .int .i64 k ∧ wr.rowIs w.heap.size 9 n (fun j => if j < k then .string (wordP ps j) else .string ⟨#[]⟩) ∧ Below w.heap.size w wr) (fun i _ => n - (intOf i).toNat)
  case atStart =>
    exact ⟨0, Nat.zero_le _, rfl, by simpa using World.rowIs_made w (.string ⟨#[]⟩) n 9, (Below.refl _ _).alloc (Nat.le_refl _) _⟩
  case round =>
    obtain ⟨k, hk, rfl, hrow, hbel⟩ := hrel
    have HR := Lib.hid hrow
    have HB := Lib.hid hbel
    by_cases hlt : k < n
    · obtain ⟨b1, off, x, y, rfl, hb1, hat, hc1, hc2⟩ := HX.out.at k hlt
      have f1 := (hbel.cell (p := ⟨b1, off + k * 2, none⟩) (by exact Nat.lt_of_lt_of_le hb1 hB)).trans hc1
      have f2 := (hbel.cell (p := ⟨b1, off + k * 2 + 1, none⟩) (by exact Nat.lt_of_lt_of_le hb1 hB)).trans hc2
      have HT := Lib.hid hat
      have HRng := Lib.hid (HR0.out (x, y) (List.mem_of_getElem? hat))
      have hx1 := hbel.alloc hbel.size (.cells #[.int .i64 x, .int .i64 y] 82)
      have hx2 := (Below.refl wr.heap.size wr).alloc (Nat.le_refl _) (.cells #[.int .i64 x, .int .i64 y] 82)
      have HX1 := Lib.hid hx1
      have HX2 := Lib.hid hx2
      have hlt' : (k : Int) < (n : Int) := by omega
      clear hrow hbel hc1 hc2 hat hx1 hx2
      go_wp2_with fail
      refine (iFmtPair _ x y HRng.out.1 HRng.out.2 (HP.out.below HX1.out)).mono ?_
      rintro e w1 ⟨rfl, hb⟩
      have HB2 := Lib.hid (HX2.out.trans (hb.mono HX2.out.size))
      have hrow1 := rowIs_below HR.out HB2.out (World.rowIs.lt HR.out)
      have g1 : w1.cell? ⟨w.heap.size, k, none⟩ = some (.string ⟨#[]⟩) := by rw [World.rowIs.cell hrow1 hlt, if_neg (by omega)]
      have g2 := World.rowIs.frozen hrow1 k
      have HR1 := Lib.hid hrow1
      have HB1 := Lib.hid (HX1.out.trans (hb.mono HX1.out.size))
      clear hb hrow1 f1 f2
      go_wp2
      go_roundw
      case rel =>
        refine ⟨k + 1, by omega, by go_num, (World.rowIs.set HR1.out k (.string ⟨(pairT (x, y)).toArray⟩)).congr (fun j _ => ?_), HB1.out.setCell (Nat.le_refl _) _⟩
        by_cases h1 : j = k
        · subst h1; rw [if_pos rfl, if_pos (by omega), wordP_at HT.out]
        · by_cases h2 : j < k
          · rw [if_neg h1, if_pos h2, if_pos (by omega)]
          · rw [if_neg h1, if_neg h2, if_neg (by omega)]
      case measure => simp [intOf]; omega
    · obtain rfl : k = n := by omega
      obtain ⟨xs, hxs⟩ : ∃ xs : List ByteArray, xs = ps.map fun p => ⟨(pairT p).toArray⟩ := ⟨_, rfl⟩
      have hxl : xs.length = k := by rw [hxs, List.length_map]; exact HX.out.1
      have hmap : xs.map (·.data.toList) = ps.map pairT := by rw [hxs, List.map_map]; rfl
      have hcells : ∀ (j : Nat) x, xs[j]? = some x → wr.cell? ⟨w.heap.size, 0 + j, none⟩ = some (.string x) := by
        intro j x hx
        have hj : j < k := by
          rcases Nat.lt_or_ge j xs.length with h' | h'
          · omega
          · rw [List.getElem?_eq_none h'] at hx; cases hx
        rw [hxs, List.getElem?_map] at hx
        obtain ⟨p, hp, rfl⟩ := Option.map_eq_some_iff.1 hx
        rw [Nat.zero_add, World.rowIs.cell hrow hj, if_pos hj, wordP_at hp]
      have hsz : (Lib.join (xs.map (·.data.toList)) (⟨#[44]⟩ : ByteArray).data.toList).length ≤ 140737488355328 := by
        rw [hmap]
        have := join_le (m := 5) 44 (ps.map pairT) fun x hx => by
          obtain ⟨p, hp, rfl⟩ := List.mem_map.1 hx
          exact pairT_len (HR0.out p hp)
        rw [List.length_map, HX.out.1] at this
        show (Lib.join (ps.map pairT) [44]).length ≤ _
        omega
      have hJ := Tryd.strings_Join w.heap.size 0 k xs ⟨#[44]⟩ wr hcells (World.rowIs.lt hrow) (by omega) (by omega) hsz
      rw [hxl, hmap] at hJ
      have HJ := Lib.hid hJ
      clear hrow hbel hcells hJ hsz hmap hxl hxs
      go_wp2_with fail
      refine HJ.out.mono ?_
      rintro e w1 ⟨rfl, hb⟩
      have HB1 := Lib.hid (HB.out.trans (hb.mono HB.out.size))
      clear hb
      go_wp2
      go_ret
      exact ⟨rfl, HB1.out⟩

theorem OkP.n8 {w : World} {B : Nat} {A : Option Addr} {n : Nat} {ps : List (Int × Int)} (h : OkP ps) (hi : Pairs w B A n ps) : n ≤ 8 := by have := h.2; have := hi.1; omega
set_option maxHeartbeats 1600000 in
theorem iFmtP (w : World) (B : Nat) (A : Option Addr) (n c : Nat) (ps : List (Int × Int)) (hi : Pairs w B A n ps) (hB : B ≤ w.heap.size) (hn : n ≤ 1048576) (q : Bool) (hq : q = true ↔ OkP ps) (hpow : Pow w) :
    Calls Tryd.prog 24 #[.slice A n c] w fun e w' => e = .returned (.string (fmtP ps q)) ∧ Below w.heap.size w w' := by
  have HX := Lib.hid hi
  have HQ := Lib.hid hq
  have HP := Lib.hid hpow
  clear hi hq hpow
  go_enter Tryd.func24, Tryd.ntmps24
  go_wp2_with fail
  refine (iArePairs w B A n c ps HX.out hB hn q HQ.out).mono ?_
  rintro e w1 ⟨rfl, hb1⟩
  have HB1 := Lib.hid hb1
  clear hb1
  cases q
  · go_wp2
    go_ret
    exact ⟨rfl, HB1.out⟩
  · have hok := HQ.out.1 (by first | rfl | trivial)
    have h8 := hok.n8 HX.out
    have HOk := Lib.hid hok
    clear hok
    by_cases h0 : n = 0
    · have hps : Hid (ps = []) := Lib.hid (List.eq_nil_of_length_eq_zero (HX.out.1.trans h0))
      subst h0
      go_wp2
      go_ret
      exact ⟨by rw [hps.out]; rfl, HB1.out⟩
    · have hps : Hid (ps ≠ []) := Lib.hid fun e => h0 (by rw [← HX.out.1, e]; rfl)
      have hne : ((n : Int) == 0) = false := by simpa using h0
      go_wp2_with fail
      refine (iJoinP w1 B A n c ps (HX.out.below (HB1.out.mono hB)) (Nat.le_trans hB HB1.out.size) h8 HOk.out.1.rng (HP.out.below HB1.out)).mono ?_
      rintro e w2 ⟨rfl, hb2⟩
      have HB2 := Lib.hid (HB1.out.trans (hb2.mono HB1.out.size))
      clear hb2
      go_wp2
      go_ret
      exact ⟨by unfold fmtP pairsT; rw [if_pos rfl, if_neg hps.out]; rfl, HB2.out⟩

set_option maxRecDepth 20000 in
set_option maxHeartbeats 3200000 in
theorem sFmtP (w : World) (B : Nat) (A : Option Addr) (n c : Nat) (ps : List (Int × Int)) (hi : Pairs w B A n ps) (hB : B ≤ w.heap.size) (hn : n ≤ 1048576) (q : Bool) (hq : q = true ↔ OkP ps) :
    Calls Tryd.prog 22 #[.slice A n c] w fun e w' => e = .returned (.string (fmtP ps q)) ∧ Below w.heap.size w w' := by
  have HX := Lib.hid hi
  have HQ := Lib.hid hq
  clear hi hq
  go_enter Tryd.func22, Tryd.ntmps22
  go_wp2_with fail
  refine (sArePairs w B A n c ps HX.out hB hn q HQ.out).mono ?_
  rintro e w1 ⟨rfl, hb1⟩
  have HB1 := Lib.hid hb1
  clear hb1
  cases q
  · go_wp2
    go_ret
    exact ⟨rfl, HB1.out⟩
  · have hok := HQ.out.1 (by first | rfl | trivial)
    have h8 := hok.n8 HX.out
    have HOk := Lib.hid hok
    clear hok
    go_wp2
    go_loopw [3, 4] (fun s i wr => ∃ k : Nat, k ≤ n ∧ i = .int .i64 k ∧ s = .string (preP ps k) ∧ Below w.heap.size w wr) (fun _ i _ => n - (intOf i).toNat)
    case atStart => exact ⟨0, Nat.zero_le _, rfl, rfl, HB1.out⟩
    case round =>
      clear HB1
      obtain ⟨k, hk, rfl, rfl, hbel⟩ := hrel
      have HB := Lib.hid hbel
      have hpre := preP_small HOk.out.1.rng k
      by_cases hlt : k < n
      · obtain ⟨b1, off, x, y, rfl, hb1, hat, hc1, hc2⟩ := HX.out.at k hlt
        have f1 := (hbel.cell (p := ⟨b1, off + k * 2, none⟩) (by exact Nat.lt_of_lt_of_le hb1 hB)).trans hc1
        have f2 := (hbel.cell (p := ⟨b1, off + k * 2 + 1, none⟩) (by exact Nat.lt_of_lt_of_le hb1 hB)).trans hc2
        have hl1 : b1 < wr.heap.size := Nat.lt_of_lt_of_le hb1 (Nat.le_trans hB hbel.size)
        have hrng := HOk.out.1.rng (x, y) (List.mem_of_getElem? hat)
        have hfx := fmt_R hrng.1
        have hfy := fmt_R hrng.2
        obtain ⟨hx0, hx1⟩ := inR2 hrng.1
        obtain ⟨hy0, hy1⟩ := inR2 hrng.2
        have hlt' : (k : Int) < (n : Int) := by omega
        dsimp only at hfx hfy hx0 hx1 hy0 hy1
        by_cases hk0 : k = 0
        · have hstep : preP ps k ++ fmtB x ++ ⟨#[62]⟩ ++ fmtB y = preP ps (k + 1) := by
            subst hk0
            rw [preP_zero]
            exact preP_one hat
          obtain ⟨sb, hsb⟩ : ∃ sb : ByteArray, sb = preP ps k := ⟨_, rfl⟩
          rw [← hsb] at hstep hpre ⊢
          have HStep := Lib.hid hstep
          have hsz : sb.size ≤ 50 := by omega
          have hkn : ¬ ((0 : Int) < (k : Int)) := by omega
          clear hsb hat hrng hc1 hc2 hbel hpre hstep hk0
          go_wp2
          clear hkn
          have hc1 : ¬ (9223372036854775807 < sb.size + (fmtB x).size) := by omega
          have hc2 : ¬ (9223372036854775807 < sb.size + (fmtB x).size + 1) := by omega
          have hc3 : ¬ (9223372036854775807 < sb.size + (fmtB x).size + 1 + (fmtB y).size) := by omega
          have hs0 : Below wr.heap.size wr wr.drew ∧ wr.drew.cell? ⟨b1, off + k * 2, none⟩ = some (.int .i64 x) ∧ wr.drew.cell? ⟨b1, off + k * 2 + 1, none⟩ = some (.int .i64 y) := ⟨(Below.refl _ _).drew, f1, f2⟩
          refine wp_region_held (S := fun w' => Below wr.heap.size wr w' ∧ w'.cell? ⟨b1, off + k * 2, none⟩ = some (.int .i64 x) ∧ w'.cell? ⟨b1, off + k * 2 + 1, none⟩ = some (.int .i64 y)) (by kernel_rfl) ?_
          change wpAnyH _ _ _ _ _ _ _ _ (World.drew _)
          refine takeY 18 (i := 0) (v := ?v0b) rfl rfl (by kernel_rfl) (by kernel_rfl) (by kernel_rfl) (fun _ _ _ h => h) (by kernel_rfl) ?y0b hs0 ?_
          case y0b =>
            intro w' hw'; (try dsimp only at hw'); obtain ⟨e0, e1, e2⟩ := hw'; go_simp; try with_reducible rfl
          simp only [Act.put, List.setIfInBounds_toArray, List.set_cons_zero, List.set_cons_succ]
          refine takeY 19 (i := 1) (v := ?v1b) rfl rfl (by kernel_rfl) (by kernel_rfl) (by kernel_rfl) (fun _ _ _ h => h) (by kernel_rfl) ?y1b hs0 ?_
          case y1b =>
            intro w' hw'; (try dsimp only at hw'); obtain ⟨e0, e1, e2⟩ := hw'; go_simp; try with_reducible rfl
          simp only [Act.put, List.setIfInBounds_toArray, List.set_cons_zero, List.set_cons_succ]
          refine takeY 20 (i := 2) (v := ?v2b) rfl rfl (by kernel_rfl) (by kernel_rfl) (by kernel_rfl) (fun _ _ _ h => h) (by kernel_rfl) ?y2b hs0 ?_
          case y2b =>
            intro w' hw'; (try dsimp only at hw'); obtain ⟨e0, e1, e2⟩ := hw'; go_simp; try with_reducible rfl
          simp only [Act.put, List.setIfInBounds_toArray, List.set_cons_zero, List.set_cons_succ]
          refine takeY 21 (i := 3) (v := ?v3b) rfl rfl (by kernel_rfl) (by kernel_rfl) (by kernel_rfl) (fun _ _ _ h => h) (by kernel_rfl) ?y3b hs0 ?_
          case y3b =>
            intro w' hw'; (try dsimp only at hw'); obtain ⟨e0, e1, e2⟩ := hw'; go_simp; try with_reducible rfl
          simp only [Act.put, List.setIfInBounds_toArray, List.set_cons_zero, List.set_cons_succ]
          refine takeY 22 (i := 4) (v := ?v4b) rfl rfl (by kernel_rfl) (by kernel_rfl) (by kernel_rfl) (fun _ _ _ h => h) (by kernel_rfl) ?y4b hs0 ?_
          case y4b =>
            intro w' hw'; (try dsimp only at hw'); obtain ⟨e0, e1, e2⟩ := hw'; go_simp; try with_reducible rfl
          simp only [Act.put, List.setIfInBounds_toArray, List.set_cons_zero, List.set_cons_succ]
          refine takeY 23 (i := 5) (v := ?v5b) rfl rfl (by kernel_rfl) (by kernel_rfl) (by kernel_rfl) (fun _ _ _ h => h) (by kernel_rfl) ?y5b hs0 ?_
          case y5b =>
            intro w' hw'; (try dsimp only at hw'); obtain ⟨e0, e1, e2⟩ := hw'; go_simp; try with_reducible rfl
          simp only [Act.put, List.setIfInBounds_toArray, List.set_cons_zero, List.set_cons_succ]
          refine takeY 27 (i := 9) (v := ?v9b) rfl rfl (by kernel_rfl) (by kernel_rfl) (by kernel_rfl) (fun _ _ _ h => h) (by kernel_rfl) ?y9b hs0 ?_
          case y9b =>
            intro w' hw'; (try dsimp only at hw'); obtain ⟨e0, e1, e2⟩ := hw'; go_simp; try with_reducible rfl
          simp only [Act.put, List.setIfInBounds_toArray, List.set_cons_zero, List.set_cons_succ]
          refine takeY 28 (i := 10) (v := ?v10b) rfl rfl (by kernel_rfl) (by kernel_rfl) (by kernel_rfl) (fun _ _ _ h => h) (by kernel_rfl) ?y10b hs0 ?_
          case y10b =>
            intro w' hw'; (try dsimp only at hw'); obtain ⟨e0, e1, e2⟩ := hw'; go_simp; try with_reducible rfl
          simp only [Act.put, List.setIfInBounds_toArray, List.set_cons_zero, List.set_cons_succ]
          refine takeY 29 (i := 11) (v := ?v11b) rfl rfl (by kernel_rfl) (by kernel_rfl) (by kernel_rfl) (fun _ _ _ h => h) (by kernel_rfl) ?y11b hs0 ?_
          case y11b =>
            intro w' hw'; (try dsimp only at hw'); obtain ⟨e0, e1, e2⟩ := hw'; go_simp; try with_reducible rfl
          simp only [Act.put, List.setIfInBounds_toArray, List.set_cons_zero, List.set_cons_succ]
          refine takeY 30 (i := 12) (v := ?v12b) rfl rfl (by kernel_rfl) (by kernel_rfl) (by kernel_rfl) (fun _ _ _ h => h) (by kernel_rfl) ?y12b hs0 ?_
          case y12b =>
            intro w' hw'; (try dsimp only at hw'); obtain ⟨e0, e1, e2⟩ := hw'; go_simp; try with_reducible rfl
          simp only [Act.put, List.setIfInBounds_toArray, List.set_cons_zero, List.set_cons_succ]
          refine takeY 31 (i := 13) (v := ?v13b) rfl rfl (by kernel_rfl) (by kernel_rfl) (by kernel_rfl) (fun _ _ _ h => h) (by kernel_rfl) ?y13b hs0 ?_
          case y13b =>
            intro w' hw'; (try dsimp only at hw'); obtain ⟨e0, e1, e2⟩ := hw'; go_simp; try with_reducible rfl
          simp only [Act.put, List.setIfInBounds_toArray, List.set_cons_zero, List.set_cons_succ]
          refine wpAnyH_ready (rs := [6]) (by kernel_rfl) (by simp) ?_
          refine AllReadyH.cons rfl (fun K hK => ?_) AllReadyH.nil
          go_simp; go_at_call 37; refine (sFormat x (by omega) (by omega) _).mono ?_; rintro e w3 ⟨rfl, h3⟩; replace h3 := (Below.refl wr.heap.size wr).drew.trans (h3.mono (Nat.le_refl _))
          refine hK.out _ _ ⟨h3, (h3.cell (p := ⟨b1, off + k * 2, none⟩) hl1).trans f1, (h3.cell (p := ⟨b1, off + k * 2 + 1, none⟩) hl1).trans f2⟩ (fun hS1 => ?_)
          clear hK K
          try simp only [Act.put, List.setIfInBounds_toArray, List.set_cons_zero, List.set_cons_succ]
          refine takeY 25 (i := 7) (v := ?v7b) rfl rfl (by kernel_rfl) (by kernel_rfl) (by kernel_rfl) (fun _ _ _ h => h) (by kernel_rfl) ?y7b hS1 ?_
          case y7b =>
            intro w' hw'; (try dsimp only at hw'); obtain ⟨e0, e1, e2⟩ := hw'; go_simp; try with_reducible rfl
          simp only [Act.put, List.setIfInBounds_toArray, List.set_cons_zero, List.set_cons_succ]
          refine takeY 26 (i := 8) (v := ?v8b) rfl rfl (by kernel_rfl) (by kernel_rfl) (by kernel_rfl) (fun _ _ _ h => h) (by kernel_rfl) ?y8b hS1 ?_
          case y8b =>
            intro w' hw'; (try dsimp only at hw'); obtain ⟨e0, e1, e2⟩ := hw'; go_simp; try with_reducible rfl
          simp only [Act.put, List.setIfInBounds_toArray, List.set_cons_zero, List.set_cons_succ]
          refine wpAnyH_ready (rs := [14]) (by kernel_rfl) (by simp) ?_
          refine AllReadyH.cons rfl (fun K hK => ?_) AllReadyH.nil
          go_simp; go_at_call 37; refine (sFormat y (by omega) (by omega) _).mono ?_; rintro e w4 ⟨rfl, h4⟩; replace h4 := h3.trans (h4.mono h3.size)
          refine hK.out _ _ ⟨h4, (h4.cell (p := ⟨b1, off + k * 2, none⟩) hl1).trans f1, (h4.cell (p := ⟨b1, off + k * 2 + 1, none⟩) hl1).trans f2⟩ (fun hS2 => ?_)
          clear hK K
          try simp only [Act.put, List.setIfInBounds_toArray, List.set_cons_zero, List.set_cons_succ]
          refine takeY 33 (i := 15) (v := ?v15b) rfl rfl (by kernel_rfl) (by kernel_rfl) (by kernel_rfl) (fun _ _ _ h => h) (by kernel_rfl) ?y15b hS2 ?_
          case y15b =>
            intro w' hw'; (try dsimp only at hw'); obtain ⟨e0, e1, e2⟩ := hw'; go_simp; try with_reducible rfl
          simp only [Act.put, List.setIfInBounds_toArray, List.set_cons_zero, List.set_cons_succ]
          refine takeY 3 (i := 16) (v := ?v16b) rfl rfl (by kernel_rfl) (by kernel_rfl) (by kernel_rfl) (fun _ _ _ h => h) (by kernel_rfl) ?y16b hS2 ?_
          case y16b =>
            intro w' hw'; (try dsimp only at hw'); obtain ⟨e0, e1, e2⟩ := hw'; go_simp; try with_reducible rfl
          simp only [Act.put, List.setIfInBounds_toArray, List.set_cons_zero, List.set_cons_succ]
          refine wpAnyH_done (by kernel_rfl) ?_ _
          have HB' := Lib.hid (HB.out.trans (h4.mono HB.out.size))
          clear hc1 hc2 hc3 hs0 hS1 hS2 h3 h4 f1 f2 HB
          go_wp2
          go_roundw
          case rel => exact ⟨k + 1, by omega, by go_num, by rw [← HStep.out], HB'.out⟩
          case measure => simp [intOf]; omega
        · have HStep := Lib.hid (preP_step (by omega) hat)
          have hkp : (0 : Int) < (k : Int) := by omega
          have hc0 : ¬ (9223372036854775807 < (preP ps k).size + 1) := by omega
          obtain ⟨sb, hsb⟩ : ∃ sb : ByteArray, sb = preP ps k ++ ⟨#[44]⟩ := ⟨_, rfl⟩
          have hsz : sb.size ≤ 50 := by
            rw [hsb, ByteArray.size_append]
            have : (⟨#[44]⟩ : ByteArray).size = 1 := rfl
            omega
          rw [← hsb] at HStep
          clear hat hrng hc1 hc2 hbel hpre
          go_wp2
          rw [← hsb]
          clear hsb hc0
          have hc1 : ¬ (9223372036854775807 < sb.size + (fmtB x).size) := by omega
          have hc2 : ¬ (9223372036854775807 < sb.size + (fmtB x).size + 1) := by omega
          have hc3 : ¬ (9223372036854775807 < sb.size + (fmtB x).size + 1 + (fmtB y).size) := by omega
          have hs0 : Below wr.heap.size wr wr.drew ∧ wr.drew.cell? ⟨b1, off + k * 2, none⟩ = some (.int .i64 x) ∧ wr.drew.cell? ⟨b1, off + k * 2 + 1, none⟩ = some (.int .i64 y) := ⟨(Below.refl _ _).drew, f1, f2⟩
          refine wp_region_held (S := fun w' => Below wr.heap.size wr w' ∧ w'.cell? ⟨b1, off + k * 2, none⟩ = some (.int .i64 x) ∧ w'.cell? ⟨b1, off + k * 2 + 1, none⟩ = some (.int .i64 y)) (by kernel_rfl) ?_
          change wpAnyH _ _ _ _ _ _ _ _ (World.drew _)
          refine takeY 18 (i := 0) (v := ?v0c) rfl rfl (by kernel_rfl) (by kernel_rfl) (by kernel_rfl) (fun _ _ _ h => h) (by kernel_rfl) ?y0c hs0 ?_
          case y0c =>
            intro w' hw'; (try dsimp only at hw'); obtain ⟨e0, e1, e2⟩ := hw'; go_simp; try with_reducible rfl
          simp only [Act.put, List.setIfInBounds_toArray, List.set_cons_zero, List.set_cons_succ]
          refine takeY 19 (i := 1) (v := ?v1c) rfl rfl (by kernel_rfl) (by kernel_rfl) (by kernel_rfl) (fun _ _ _ h => h) (by kernel_rfl) ?y1c hs0 ?_
          case y1c =>
            intro w' hw'; (try dsimp only at hw'); obtain ⟨e0, e1, e2⟩ := hw'; go_simp; try with_reducible rfl
          simp only [Act.put, List.setIfInBounds_toArray, List.set_cons_zero, List.set_cons_succ]
          refine takeY 20 (i := 2) (v := ?v2c) rfl rfl (by kernel_rfl) (by kernel_rfl) (by kernel_rfl) (fun _ _ _ h => h) (by kernel_rfl) ?y2c hs0 ?_
          case y2c =>
            intro w' hw'; (try dsimp only at hw'); obtain ⟨e0, e1, e2⟩ := hw'; go_simp; try with_reducible rfl
          simp only [Act.put, List.setIfInBounds_toArray, List.set_cons_zero, List.set_cons_succ]
          refine takeY 21 (i := 3) (v := ?v3c) rfl rfl (by kernel_rfl) (by kernel_rfl) (by kernel_rfl) (fun _ _ _ h => h) (by kernel_rfl) ?y3c hs0 ?_
          case y3c =>
            intro w' hw'; (try dsimp only at hw'); obtain ⟨e0, e1, e2⟩ := hw'; go_simp; try with_reducible rfl
          simp only [Act.put, List.setIfInBounds_toArray, List.set_cons_zero, List.set_cons_succ]
          refine takeY 22 (i := 4) (v := ?v4c) rfl rfl (by kernel_rfl) (by kernel_rfl) (by kernel_rfl) (fun _ _ _ h => h) (by kernel_rfl) ?y4c hs0 ?_
          case y4c =>
            intro w' hw'; (try dsimp only at hw'); obtain ⟨e0, e1, e2⟩ := hw'; go_simp; try with_reducible rfl
          simp only [Act.put, List.setIfInBounds_toArray, List.set_cons_zero, List.set_cons_succ]
          refine takeY 23 (i := 5) (v := ?v5c) rfl rfl (by kernel_rfl) (by kernel_rfl) (by kernel_rfl) (fun _ _ _ h => h) (by kernel_rfl) ?y5c hs0 ?_
          case y5c =>
            intro w' hw'; (try dsimp only at hw'); obtain ⟨e0, e1, e2⟩ := hw'; go_simp; try with_reducible rfl
          simp only [Act.put, List.setIfInBounds_toArray, List.set_cons_zero, List.set_cons_succ]
          refine takeY 27 (i := 9) (v := ?v9c) rfl rfl (by kernel_rfl) (by kernel_rfl) (by kernel_rfl) (fun _ _ _ h => h) (by kernel_rfl) ?y9c hs0 ?_
          case y9c =>
            intro w' hw'; (try dsimp only at hw'); obtain ⟨e0, e1, e2⟩ := hw'; go_simp; try with_reducible rfl
          simp only [Act.put, List.setIfInBounds_toArray, List.set_cons_zero, List.set_cons_succ]
          refine takeY 28 (i := 10) (v := ?v10c) rfl rfl (by kernel_rfl) (by kernel_rfl) (by kernel_rfl) (fun _ _ _ h => h) (by kernel_rfl) ?y10c hs0 ?_
          case y10c =>
            intro w' hw'; (try dsimp only at hw'); obtain ⟨e0, e1, e2⟩ := hw'; go_simp; try with_reducible rfl
          simp only [Act.put, List.setIfInBounds_toArray, List.set_cons_zero, List.set_cons_succ]
          refine takeY 29 (i := 11) (v := ?v11c) rfl rfl (by kernel_rfl) (by kernel_rfl) (by kernel_rfl) (fun _ _ _ h => h) (by kernel_rfl) ?y11c hs0 ?_
          case y11c =>
            intro w' hw'; (try dsimp only at hw'); obtain ⟨e0, e1, e2⟩ := hw'; go_simp; try with_reducible rfl
          simp only [Act.put, List.setIfInBounds_toArray, List.set_cons_zero, List.set_cons_succ]
          refine takeY 30 (i := 12) (v := ?v12c) rfl rfl (by kernel_rfl) (by kernel_rfl) (by kernel_rfl) (fun _ _ _ h => h) (by kernel_rfl) ?y12c hs0 ?_
          case y12c =>
            intro w' hw'; (try dsimp only at hw'); obtain ⟨e0, e1, e2⟩ := hw'; go_simp; try with_reducible rfl
          simp only [Act.put, List.setIfInBounds_toArray, List.set_cons_zero, List.set_cons_succ]
          refine takeY 31 (i := 13) (v := ?v13c) rfl rfl (by kernel_rfl) (by kernel_rfl) (by kernel_rfl) (fun _ _ _ h => h) (by kernel_rfl) ?y13c hs0 ?_
          case y13c =>
            intro w' hw'; (try dsimp only at hw'); obtain ⟨e0, e1, e2⟩ := hw'; go_simp; try with_reducible rfl
          simp only [Act.put, List.setIfInBounds_toArray, List.set_cons_zero, List.set_cons_succ]
          refine wpAnyH_ready (rs := [6]) (by kernel_rfl) (by simp) ?_
          refine AllReadyH.cons rfl (fun K hK => ?_) AllReadyH.nil
          go_simp; go_at_call 37; refine (sFormat x (by omega) (by omega) _).mono ?_; rintro e w3 ⟨rfl, h3⟩; replace h3 := (Below.refl wr.heap.size wr).drew.trans (h3.mono (Nat.le_refl _))
          refine hK.out _ _ ⟨h3, (h3.cell (p := ⟨b1, off + k * 2, none⟩) hl1).trans f1, (h3.cell (p := ⟨b1, off + k * 2 + 1, none⟩) hl1).trans f2⟩ (fun hS1 => ?_)
          clear hK K
          try simp only [Act.put, List.setIfInBounds_toArray, List.set_cons_zero, List.set_cons_succ]
          refine takeY 25 (i := 7) (v := ?v7c) rfl rfl (by kernel_rfl) (by kernel_rfl) (by kernel_rfl) (fun _ _ _ h => h) (by kernel_rfl) ?y7c hS1 ?_
          case y7c =>
            intro w' hw'; (try dsimp only at hw'); obtain ⟨e0, e1, e2⟩ := hw'; go_simp; try with_reducible rfl
          simp only [Act.put, List.setIfInBounds_toArray, List.set_cons_zero, List.set_cons_succ]
          refine takeY 26 (i := 8) (v := ?v8c) rfl rfl (by kernel_rfl) (by kernel_rfl) (by kernel_rfl) (fun _ _ _ h => h) (by kernel_rfl) ?y8c hS1 ?_
          case y8c =>
            intro w' hw'; (try dsimp only at hw'); obtain ⟨e0, e1, e2⟩ := hw'; go_simp; try with_reducible rfl
          simp only [Act.put, List.setIfInBounds_toArray, List.set_cons_zero, List.set_cons_succ]
          refine wpAnyH_ready (rs := [14]) (by kernel_rfl) (by simp) ?_
          refine AllReadyH.cons rfl (fun K hK => ?_) AllReadyH.nil
          go_simp; go_at_call 37; refine (sFormat y (by omega) (by omega) _).mono ?_; rintro e w4 ⟨rfl, h4⟩; replace h4 := h3.trans (h4.mono h3.size)
          refine hK.out _ _ ⟨h4, (h4.cell (p := ⟨b1, off + k * 2, none⟩) hl1).trans f1, (h4.cell (p := ⟨b1, off + k * 2 + 1, none⟩) hl1).trans f2⟩ (fun hS2 => ?_)
          clear hK K
          try simp only [Act.put, List.setIfInBounds_toArray, List.set_cons_zero, List.set_cons_succ]
          refine takeY 33 (i := 15) (v := ?v15c) rfl rfl (by kernel_rfl) (by kernel_rfl) (by kernel_rfl) (fun _ _ _ h => h) (by kernel_rfl) ?y15c hS2 ?_
          case y15c =>
            intro w' hw'; (try dsimp only at hw'); obtain ⟨e0, e1, e2⟩ := hw'; go_simp; try with_reducible rfl
          simp only [Act.put, List.setIfInBounds_toArray, List.set_cons_zero, List.set_cons_succ]
          refine takeY 3 (i := 16) (v := ?v16c) rfl rfl (by kernel_rfl) (by kernel_rfl) (by kernel_rfl) (fun _ _ _ h => h) (by kernel_rfl) ?y16c hS2 ?_
          case y16c =>
            intro w' hw'; (try dsimp only at hw'); obtain ⟨e0, e1, e2⟩ := hw'; go_simp; try with_reducible rfl
          simp only [Act.put, List.setIfInBounds_toArray, List.set_cons_zero, List.set_cons_succ]
          refine wpAnyH_done (by kernel_rfl) ?_ _
          have HB' := Lib.hid (HB.out.trans (h4.mono HB.out.size))
          clear hc1 hc2 hc3 hs0 hS1 hS2 h3 h4 f1 f2 HB
          go_wp2
          go_roundw
          case rel => exact ⟨k + 1, by omega, by go_num, by rw [← HStep.out], HB'.out⟩
          case measure => simp [intOf]; omega
      · obtain rfl : k = n := by omega
        clear hbel hpre
        by_cases h0 : k = 0
        · have hps : Hid (ps = []) := Lib.hid (List.eq_nil_of_length_eq_zero (HX.out.1.trans h0))
          subst h0
          rw [preP_zero]
          go_wp2
          go_ret
          exact ⟨by rw [hps.out]; rfl, HB.out⟩
        · have hps : ps ≠ [] := fun e => h0 (by rw [← HX.out.1, e]; rfl)
          obtain ⟨h1, h2, h3⟩ := preP_all HX.out.1 hps
          rw [h1]
          obtain ⟨sb, hsb⟩ : ∃ sb : ByteArray, sb = fmtP ps true := ⟨_, rfl⟩
          rw [← hsb] at h2 h3 ⊢
          have HSb := Lib.hid hsb
          clear hsb h1 hps
          go_wp2
          go_ret
          exact ⟨by rw [← HSb.out]; rfl, HB.out⟩
end Go.Proofs.YtghekfigfjhkeaaDoor.num
namespace Go.Proofs.YtghekfigfjhkeaaDoor.num
open Go.RowKit
set_option linter.unusedVariables false

theorem fmt_R' {n : Int} (h : InR n) : (fmtB n).size ≤ 2 := fmt_small n (inR2 h).1 (inR2 h).2
set_option maxHeartbeats 1600000 in
theorem sInts (w : World) (B : Nat) (A : Option Addr) (n c : Nat) (l : List Int) (hi : Ints w B A n l) (hB : B ≤ w.heap.size) (hn : n ≤ 1048576) (h : ∀ v ∈ l, InR v) :
    Calls Tryd.prog 38 #[.slice A n c] w fun e w' => e = .returned (.string ⟨(intsT l).toArray⟩) ∧ Below w.heap.size w w' := by
  have HX := Lib.hid hi
  have HR := Lib.hid h
  clear hi h
  go_enter Tryd.func38, Tryd.ntmps38
  go_wp2
  go_loopw [3, 4] (fun s i wr => ∃ k : Nat, k ≤ n ∧ i = .int .i64 k ∧ s = .string (preI l k) ∧ Below w.heap.size w wr) (fun _ i _ => n - (intOf i).toNat)
  case atStart => exact ⟨0, Nat.zero_le _, rfl, rfl, Below.refl _ _⟩
  case round =>
    obtain ⟨k, hk, rfl, rfl, hbel⟩ := hrel
    have HB := Lib.hid hbel
    have hpre := preI_small HR.out k
    by_cases hlt : k < n
    · obtain ⟨b1, off, x, rfl, hb1, hat, hc1⟩ := HX.out.at k hlt
      have f1 := (hbel.cell (p := ⟨b1, off + k, none⟩) (by exact Nat.lt_of_lt_of_le hb1 hB)).trans hc1
      have hrng := HR.out x (List.mem_of_getElem? hat)
      have hfx := fmt_R' hrng
      obtain ⟨hx0, hx1⟩ := inR2 hrng
      have hlt' : (k : Int) < (n : Int) := by omega
      by_cases hk0 : k = 0
      · have hstep : preI l k ++ fmtB x = preI l (k + 1) := by
          subst hk0
          rw [preI_zero]
          exact preI_one hat
        obtain ⟨sb, hsb⟩ : ∃ sb : ByteArray, sb = preI l k := ⟨_, rfl⟩
        rw [← hsb] at hstep hpre ⊢
        have HStep := Lib.hid hstep
        have hsz : sb.size ≤ 3145728 := by omega
        have hkn : ¬ ((0 : Int) < (k : Int)) := by omega
        clear hsb hat hrng hc1 hbel hpre hstep hk0
        go_wp2_with fail
        refine (sFormat x (by omega) (by omega) _).mono ?_
        rintro e w1 ⟨rfl, hb⟩
        have HB1 := Lib.hid (HB.out.trans (hb.mono HB.out.size))
        have hc1 : ¬ (9223372036854775807 < sb.size + (fmtB x).size) := by omega
        clear hb f1 hkn
        go_wp2
        go_roundw
        case rel => exact ⟨k + 1, by omega, by go_num, by rw [HStep.out], HB1.out⟩
        case measure => simp [intOf]; omega
      · have hstep : preI l k ++ ⟨#[44]⟩ ++ fmtB x = preI l (k + 1) := preI_step (by omega) hat
        obtain ⟨sb, hsb⟩ : ∃ sb : ByteArray, sb = preI l k := ⟨_, rfl⟩
        rw [← hsb] at hstep hpre ⊢
        have HStep := Lib.hid hstep
        have hsz : sb.size ≤ 3145728 := by omega
        have hkn : (0 : Int) < (k : Int) := by omega
        have hc0 : ¬ (9223372036854775807 < sb.size + 1) := by omega
        have hc1 : ¬ (9223372036854775807 < sb.size + 1 + (fmtB x).size) := by omega
        clear hsb hat hrng hbel hpre hstep hk0
        go_wp2_with fail
        refine (sFormat x (by omega) (by omega) _).mono ?_
        rintro e w1 ⟨rfl, hb⟩
        have HB1 := Lib.hid (HB.out.trans (hb.mono HB.out.size))
        clear hb f1 hkn
        go_wp2
        go_roundw
        case rel => exact ⟨k + 1, by omega, by go_num, by rw [HStep.out], HB1.out⟩
        case measure => simp [intOf]; omega
    · obtain rfl : k = n := by omega
      clear hbel hpre
      go_wp2
      go_ret
      exact ⟨by unfold preI; rw [ptake_all HX.out.1]; rfl, HB.out⟩

def wordI (l : List Int) (j : Nat) : ByteArray := fmtB (l.getD j 0)
theorem wordI_at {l : List Int} {k : Nat} {x : Int} (h : l[k]? = some x) : wordI l k = fmtB x := by
  unfold wordI
  rw [List.getD_eq_getElem?_getD, h]; rfl
set_option maxHeartbeats 1600000 in
theorem iInts (w : World) (B : Nat) (A : Option Addr) (n cc : Nat) (l : List Int) (hi : Ints w B A n l) (hB : B ≤ w.heap.size) (hn : n ≤ 1048576) (h : ∀ v ∈ l, InR v) (hpow : Pow w) :
    Calls Tryd.prog 42 #[.slice A n cc, .string ⟨#[44]⟩, .func (.func 41) #[] #[]] w fun e w' => e = .returned (.string ⟨(intsT l).toArray⟩) ∧ Below w.heap.size w w' := by
  have hmk := run_make_row' (P := Tryd.prog) 71 9 (.string ⟨#[]⟩) 16 Tryd.underlying71 info_string rfl .i64 .i64 n (by omega) (by omega)
  have HX := Lib.hid hi
  have HP := Lib.hid hpow
  have HR0 := Lib.hid h
  clear hi hpow h
  go_enter Tryd.func42, Tryd.ntmps42
  go_wp2
  clear hmk
  go_loopw [15] (fun i wr => ∃ k : Nat, k ≤ n ∧ i = .int .i64 k ∧ wr.rowIs w.heap.size 9 n (fun j => if j < k then .string (wordI l j) else .string ⟨#[]⟩) ∧ Below w.heap.size w wr) (fun i _ => n - (intOf i).toNat)
  case atStart =>
    exact ⟨0, Nat.zero_le _, rfl, by simpa using World.rowIs_made w (.string ⟨#[]⟩) n 9, (Below.refl _ _).alloc (Nat.le_refl _) _⟩
  case round =>
    obtain ⟨k, hk, rfl, hrow, hbel⟩ := hrel
    have HR := Lib.hid hrow
    have HB := Lib.hid hbel
    by_cases hlt : k < n
    · obtain ⟨b1, off, x, rfl, hb1, hat, hc1⟩ := HX.out.at k hlt
      have f1 := (hbel.cell (p := ⟨b1, off + k, none⟩) (by exact Nat.lt_of_lt_of_le hb1 hB)).trans hc1
      have HT := Lib.hid hat
      have hrng := HR0.out x (List.mem_of_getElem? hat)
      obtain ⟨hx0, hx1⟩ := inR2 hrng
      have hlt' : (k : Int) < (n : Int) := by omega
      clear hrow hbel hc1 hat hrng
      go_wp2_with fail
      refine (iFormat x (by omega) (by omega) _ (HP.out.below HB.out)).mono ?_
      rintro e w1 ⟨rfl, hb⟩
      have HB2 := Lib.hid hb
      have hrow1 := rowIs_below HR.out HB2.out (World.rowIs.lt HR.out)
      have g1 : w1.cell? ⟨w.heap.size, k, none⟩ = some (.string ⟨#[]⟩) := by rw [World.rowIs.cell hrow1 hlt, if_neg (by omega)]
      have g2 := World.rowIs.frozen hrow1 k
      have HR1 := Lib.hid hrow1
      have HB1 := Lib.hid (HB.out.trans (hb.mono HB.out.size))
      clear hb hrow1 f1
      go_wp2
      go_roundw
      case rel =>
        refine ⟨k + 1, by omega, by go_num, (World.rowIs.set HR1.out k (.string (fmtB x))).congr (fun j _ => ?_), HB1.out.setCell (Nat.le_refl _) _⟩
        by_cases h1 : j = k
        · subst h1; rw [if_pos rfl, if_pos (by omega), wordI_at HT.out]
        · by_cases h2 : j < k
          · rw [if_neg h1, if_pos h2, if_pos (by omega)]
          · rw [if_neg h1, if_neg h2, if_neg (by omega)]
      case measure => simp [intOf]; omega
    · obtain rfl : k = n := by omega
      obtain ⟨xs, hxs⟩ : ∃ xs : List ByteArray, xs = l.map fmtB := ⟨_, rfl⟩
      have hxl : xs.length = k := by rw [hxs, List.length_map]; exact HX.out.1
      have hmap : xs.map (·.data.toList) = l.map Lib.itoa := by rw [hxs, List.map_map]; rfl
      have hcells : ∀ (j : Nat) x, xs[j]? = some x → wr.cell? ⟨w.heap.size, 0 + j, none⟩ = some (.string x) := by
        intro j x hx
        have hj : j < k := by
          rcases Nat.lt_or_ge j xs.length with h' | h'
          · omega
          · rw [List.getElem?_eq_none h'] at hx; cases hx
        rw [hxs, List.getElem?_map] at hx
        obtain ⟨p, hp, rfl⟩ := Option.map_eq_some_iff.1 hx
        rw [Nat.zero_add, World.rowIs.cell hrow hj, if_pos hj, wordI_at hp]
      have hsz : (Lib.join (xs.map (·.data.toList)) (⟨#[44]⟩ : ByteArray).data.toList).length ≤ 140737488355328 := by
        rw [hmap]
        have := intsT_len HR0.out
        rw [HX.out.1] at this
        show (intsT l).length ≤ _
        omega
      have hJ : Calls Tryd.prog 62 #[.slice (some ⟨w.heap.size, 0, none⟩) k k, .string ⟨#[44]⟩] wr fun e w' => e = .returned (.string ⟨(intsT l).toArray⟩) ∧ Below wr.heap.size wr w' := by
        have h0 := Tryd.strings_Join w.heap.size 0 k xs ⟨#[44]⟩ wr hcells (World.rowIs.lt hrow) (by omega) (by omega) hsz
        rw [hxl, hmap] at h0
        exact h0
      have HJ := Lib.hid hJ
      clear hrow hbel hcells hJ hsz hmap hxl hxs
      go_wp2_with fail
      refine HJ.out.mono ?_
      rintro e w1 ⟨rfl, hb⟩
      have HB1 := Lib.hid (HB.out.trans (hb.mono HB.out.size))
      clear hb
      go_wp2
      go_ret
      exact ⟨rfl, HB1.out⟩
end Go.Proofs.YtghekfigfjhkeaaDoor.num
namespace Go.Proofs.YtghekfigfjhkeaaDoor.num
open Go.RowKit
set_option linter.unusedVariables false

/-- The cells of a box of five that the call laid, behind calls. -/
theorem box5 {w w' : World} {v0 v1 v2 v3 v4 : Value} {T : TypeId} (hb : Below (w.alloc (.cells #[v0, v1, v2, v3, v4] T)).heap.size (w.alloc (.cells #[v0, v1, v2, v3, v4] T)) w') :
    w'.cell? ⟨w.heap.size, 0, none⟩ = some v0 ∧ w'.cell? ⟨w.heap.size, 1, none⟩ = some v1 ∧ w'.cell? ⟨w.heap.size, 2, none⟩ = some v2 ∧ w'.cell? ⟨w.heap.size, 3, none⟩ = some v3 ∧ w'.cell? ⟨w.heap.size, 4, none⟩ = some v4 ∧ w.heap.size < w'.heap.size := by
  have hc : ∀ j v, #[v0, v1, v2, v3, v4][j]? = some v → w'.cell? ⟨w.heap.size, j, none⟩ = some v := fun j v h => (hb.cell (p := ⟨w.heap.size, j, none⟩) (by simp)).trans (by rw [World.cell?_alloc_at _ _ _ _ rfl]; exact h)
  exact ⟨hc 0 _ rfl, hc 1 _ rfl, hc 2 _ rfl, hc 3 _ rfl, hc 4 _ rfl, by have := hb.size; simp at this; omega⟩

theorem IsW.val2 {d : WD} (h : IsW d) (hk : d.kind = 2) : InR d.value := by have := h.v; rwa [if_pos hk] at this
theorem rankW3 {f x v : Int} {ls : List Int} {ps : List (Int × Int)} : rankW ⟨3, f, x, ls, ps⟩ v = if v ∈ ls then 0 else 1 := rfl
theorem rankW2 {f x v : Int} {ls : List Int} {ps : List (Int × Int)} : rankW ⟨2, f, x, ls, ps⟩ v = if v < x then x - v else v - x := rfl
theorem rankW_le {d : WD} (hw : IsW d) (h4 : d.kind ≠ 4) {x : Int} (hx : InR x) : 0 ≤ rankW d x ∧ rankW d x ≤ 9 := by
  have hv := fun hk => hw.val2 hk
  have hk := hw.k
  obtain ⟨x0, x9⟩ := hx
  unfold rankW
  split
  · omega
  · split
    · omega
    · split
      · rename_i h
        obtain ⟨v0, v9⟩ := hv h
        split <;> omega
      · split <;> omega
end Go.Proofs.YtghekfigfjhkeaaDoor.num
namespace Go.Proofs.YtghekfigfjhkeaaDoor.num
open Go.RowKit
set_option linter.unusedVariables false
set_option linter.unusedSimpArgs false

theorem fmtW_ext {d : WD} {b : ByteArray} (h : b.data.toList = wishT d) : b = fmtW d true := by
  apply bytes_ext
  rw [h]
  simp [fmtW]
theorem wishT0 {f v : Int} {ls : List Int} {ps : List (Int × Int)} : wishT ⟨0, f, v, ls, ps⟩ = [108, 111, 119] ++ 32 :: 102 :: Lib.itoa f := by
  show [108, 111, 119] ++ 32 :: 102 :: (Lib.itoa f ++ []) = _
  rw [List.append_nil]
theorem wishT1 {f v : Int} {ls : List Int} {ps : List (Int × Int)} : wishT ⟨1, f, v, ls, ps⟩ = [104, 105, 103, 104] ++ 32 :: 102 :: Lib.itoa f := by
  show [104, 105, 103, 104] ++ 32 :: 102 :: (Lib.itoa f ++ []) = _
  rw [List.append_nil]
theorem wishT2 {f v : Int} {ls : List Int} {ps : List (Int × Int)} : wishT ⟨2, f, v, ls, ps⟩ = [110, 101, 97, 114] ++ 32 :: 102 :: (Lib.itoa f ++ 32 :: Lib.itoa v) := rfl
theorem wishT3 {f v : Int} {ls : List Int} {ps : List (Int × Int)} : wishT ⟨3, f, v, ls, ps⟩ = [97, 109, 111, 110, 103] ++ 32 :: 102 :: (Lib.itoa f ++ 32 :: intsT ls) := rfl
theorem wishT4 {f v : Int} {ls : List Int} {ps : List (Int × Int)} : wishT ⟨4, f, v, ls, ps⟩ = [111, 114, 100, 101, 114] ++ 32 :: 102 :: (Lib.itoa f ++ 32 :: pairsT ps) := rfl
theorem pairsT_len {ps : List (Int × Int)} (h : OkP ps) : (pairsT ps).length ≤ 60 := by
  unfold pairsT
  split
  · decide
  · have := join_le (m := 5) 44 (ps.map pairT) fun x hx => by
      obtain ⟨p, hp, rfl⟩ := List.mem_map.1 hx
      exact pairT_len (h.1.rng p hp)
    rw [List.length_map] at this
    have := h.2
    omega
theorem IsW.asc {d : WD} (h : IsW d) (hk : d.kind = 3) : Asc d.ls := by have := h.l; rwa [if_pos hk] at this
theorem IsW.okp {d : WD} (h : IsW d) (hk : d.kind = 4) : OkP d.ps := by have := h.p; rwa [if_pos hk] at this
set_option maxRecDepth 20000 in
set_option maxHeartbeats 1600000 in
theorem sFmtW (w : World) (B : Nat) (t : Wi) (hi : WiIn w B t) (hB : B ≤ w.heap.size) (hn : t.Short) (q : Bool) (hq : q = true ↔ IsW t.dat) :
    Calls Tryd.prog 28 #[t.val] w fun e w' => e = .returned (.string (fmtW t.dat q)) ∧ Below w.heap.size w w' := by
  have HI := Lib.hid hi
  have HQ := Lib.hid hq
  have HB1 : Hid (∀ o : Obj, Below B w (w.alloc o)) := Lib.hid fun o => (Below.refl B w).alloc hB _
  have HW1 : Hid (∀ o : Obj, Below w.heap.size w (w.alloc o)) := Lib.hid fun o => (Below.refl _ w).alloc (Nat.le_refl _) _
  have HS : Hid (∀ w1 : World, WiIn w1 B t → B ≤ w1.heap.size → Calls Tryd.prog 58 #[t.val] w1 fun e w' => e = .returned (.bool q) ∧ Below w1.heap.size w1 w') := Lib.hid fun w1 h1 h2 => sIsWish w1 B t h1 h2 hn q hq
  have HN := Lib.hid hn
  clear hi hq hn
  obtain ⟨k, f, v, LA, Ln, Lc, ls, PA, Pn, Pc, ps⟩ := t
  unfold Wi.val at HS ⊢
  simp only [Wi.dat] at HQ ⊢
  have CALL := HS
  cases q
  · go_enter Tryd.func28, Tryd.ntmps28
    go_wp2_with fail
    refine (HS.out _ (HI.out.below (HB1.out _)) (by simp; omega)).mono ?_
    rintro e w1 ⟨rfl, hb1⟩
    have HBB := Lib.hid ((HW1.out _).trans (hb1.mono (by simp)))
    clear hb1
    go_wp2
    go_ret
    exact ⟨rfl, HBB.out⟩
  · have HW := Lib.hid (HQ.out.1 rfl)
    have hk := HW.out.k
    have hf := HW.out.f
    have hv : k = 2 → InR v := fun h => HW.out.val2 h
    have ha : k = 3 → Asc ls := fun h => HW.out.asc h
    have ho : k = 4 → OkP ps := fun h => HW.out.okp h
    have HP : Hid (Pairs w B PA Pn ps) := Lib.hid HI.out.p
    have HL : Hid (Ints w B LA Ln ls) := Lib.hid HI.out.l
    have HNN : Hid (Ln ≤ 1048576 ∧ Pn ≤ 1048576) := Lib.hid HN.out
    have hff : (fmtB f).size ≤ 2 := fmt_R' ⟨hf.1, by have := hf.2; dsimp only at this; omega⟩
    have hf1 : -9223372036854775808 ≤ f := by have := hf.1; dsimp only at this; omega
    have hf2 : f ≤ 9223372036854775807 := by have := hf.2; dsimp only at this; omega
    dsimp only at hk
    clear hf HQ CALL HN
    rcases (show k = 0 ∨ k = 1 ∨ k = 2 ∨ k = 3 ∨ k = 4 by omega) with rfl | rfl | rfl | rfl | rfl
    · clear hk hv ha ho
      go_enter Tryd.func28, Tryd.ntmps28
      go_wp2_with fail
      refine (HS.out _ (HI.out.below (HB1.out _)) (by simp; omega)).mono ?_
      rintro e w1 ⟨rfl, hb1⟩
      obtain ⟨c0, c1, c2, c3, c4, hg⟩ := box5 hb1
      have HBB := Lib.hid (And.intro ((HW1.out _).trans (hb1.mono (by simp))) ((HB1.out _).trans (hb1.mono (by simp; omega))))
      clear hb1
      go_wp2_with fail
      refine (sFormat f hf1 hf2 _).mono ?_
      rintro e w2 ⟨rfl, hb2⟩
      have d0 := (hb2.cell (p := ⟨w.heap.size, 0, none⟩) hg).trans c0
      have d2 := (hb2.cell (p := ⟨w.heap.size, 2, none⟩) hg).trans c2
      have d3 := (hb2.cell (p := ⟨w.heap.size, 3, none⟩) hg).trans c3
      have d4 := (hb2.cell (p := ⟨w.heap.size, 4, none⟩) hg).trans c4
      have HB2 := Lib.hid (And.intro (HBB.out.1.trans (hb2.mono HBB.out.1.size)) (HBB.out.2.trans (hb2.mono (Nat.le_trans hB HBB.out.1.size))))
      clear hb2 c0 c1 c2 c3 c4
      go_wp2
      go_ret
      refine ⟨congrArg (fun x => Ending.returned (.string x)) (fmtW_ext ?_), HB2.out.1⟩
      rw [wishT0]
      simp [fmtB, ByteArray.data_append]
    · clear hk hv ha ho
      go_enter Tryd.func28, Tryd.ntmps28
      go_wp2_with fail
      refine (HS.out _ (HI.out.below (HB1.out _)) (by simp; omega)).mono ?_
      rintro e w1 ⟨rfl, hb1⟩
      obtain ⟨c0, c1, c2, c3, c4, hg⟩ := box5 hb1
      have HBB := Lib.hid (And.intro ((HW1.out _).trans (hb1.mono (by simp))) ((HB1.out _).trans (hb1.mono (by simp; omega))))
      clear hb1
      go_wp2_with fail
      refine (sFormat f hf1 hf2 _).mono ?_
      rintro e w2 ⟨rfl, hb2⟩
      have d0 := (hb2.cell (p := ⟨w.heap.size, 0, none⟩) hg).trans c0
      have d2 := (hb2.cell (p := ⟨w.heap.size, 2, none⟩) hg).trans c2
      have d3 := (hb2.cell (p := ⟨w.heap.size, 3, none⟩) hg).trans c3
      have d4 := (hb2.cell (p := ⟨w.heap.size, 4, none⟩) hg).trans c4
      have HB2 := Lib.hid (And.intro (HBB.out.1.trans (hb2.mono HBB.out.1.size)) (HBB.out.2.trans (hb2.mono (Nat.le_trans hB HBB.out.1.size))))
      clear hb2 c0 c1 c2 c3 c4
      go_wp2
      go_ret
      refine ⟨congrArg (fun x => Ending.returned (.string x)) (fmtW_ext ?_), HB2.out.1⟩
      rw [wishT1]
      simp [fmtB, ByteArray.data_append]
    · obtain ⟨v0, v9⟩ := hv rfl
      clear hk hv ha ho
      have hfv : (fmtB v).size ≤ 2 := fmt_R' ⟨v0, v9⟩
      go_enter Tryd.func28, Tryd.ntmps28
      go_wp2_with fail
      refine (HS.out _ (HI.out.below (HB1.out _)) (by simp; omega)).mono ?_
      rintro e w1 ⟨rfl, hb1⟩
      obtain ⟨c0, c1, c2, c3, c4, hg⟩ := box5 hb1
      have HBB := Lib.hid (And.intro ((HW1.out _).trans (hb1.mono (by simp))) ((HB1.out _).trans (hb1.mono (by simp; omega))))
      clear hb1
      go_wp2_with fail
      refine (sFormat f hf1 hf2 _).mono ?_
      rintro e w2 ⟨rfl, hb2⟩
      have d0 := (hb2.cell (p := ⟨w.heap.size, 0, none⟩) hg).trans c0
      have d2 := (hb2.cell (p := ⟨w.heap.size, 2, none⟩) hg).trans c2
      have d3 := (hb2.cell (p := ⟨w.heap.size, 3, none⟩) hg).trans c3
      have d4 := (hb2.cell (p := ⟨w.heap.size, 4, none⟩) hg).trans c4
      have HB2 := Lib.hid (And.intro (HBB.out.1.trans (hb2.mono HBB.out.1.size)) (HBB.out.2.trans (hb2.mono (Nat.le_trans hB HBB.out.1.size))))
      clear hb2 c0 c1 c2 c3 c4
      go_wp2_with fail
      refine (sFormat v (by omega) (by omega) _).mono ?_
      rintro e w3 ⟨rfl, hb3⟩
      have HB3 := Lib.hid (HB2.out.1.trans (hb3.mono HB2.out.1.size))
      clear hb3 d0 d2 d3 d4
      go_wp2
      go_ret
      refine ⟨congrArg (fun x => Ending.returned (.string x)) (fmtW_ext ?_), HB3.out⟩
      rw [wishT2]
      simp [fmtB, fmtP, ByteArray.data_append]
    · have hasc := ha rfl
      have HA := Lib.hid hasc.2.1
      have hln := HNN.out.1
      have hlen := HL.out.1
      have hT := intsT_len HA.out
      clear hk hv ha ho hasc
      go_enter Tryd.func28, Tryd.ntmps28
      go_wp2_with fail
      refine (HS.out _ (HI.out.below (HB1.out _)) (by simp; omega)).mono ?_
      rintro e w1 ⟨rfl, hb1⟩
      obtain ⟨c0, c1, c2, c3, c4, hg⟩ := box5 hb1
      have HBB := Lib.hid (And.intro ((HW1.out _).trans (hb1.mono (by simp))) ((HB1.out _).trans (hb1.mono (by simp; omega))))
      clear hb1
      go_wp2_with fail
      refine (sFormat f hf1 hf2 _).mono ?_
      rintro e w2 ⟨rfl, hb2⟩
      have d0 := (hb2.cell (p := ⟨w.heap.size, 0, none⟩) hg).trans c0
      have d2 := (hb2.cell (p := ⟨w.heap.size, 2, none⟩) hg).trans c2
      have d3 := (hb2.cell (p := ⟨w.heap.size, 3, none⟩) hg).trans c3
      have d4 := (hb2.cell (p := ⟨w.heap.size, 4, none⟩) hg).trans c4
      have HB2 := Lib.hid (And.intro (HBB.out.1.trans (hb2.mono HBB.out.1.size)) (HBB.out.2.trans (hb2.mono (Nat.le_trans hB HBB.out.1.size))))
      clear hb2 c0 c1 c2 c3 c4
      go_wp2_with fail
      refine (sInts _ B LA Ln Lc ls (HL.out.below HB2.out.2) (Nat.le_trans hB HB2.out.1.size) HNN.out.1 HA.out).mono ?_
      rintro e w3 ⟨rfl, hb3⟩
      have HB3 := Lib.hid (HB2.out.1.trans (hb3.mono HB2.out.1.size))
      clear hb3 d0 d2 d3 d4
      have hsz : (⟨(intsT ls).toArray⟩ : ByteArray).size ≤ 3145728 := by
        show (intsT ls).toArray.size ≤ _
        rw [List.size_toArray]
        omega
      go_wp2
      go_ret
      refine ⟨congrArg (fun x => Ending.returned (.string x)) (fmtW_ext ?_), HB3.out⟩
      rw [wishT3]
      simp [fmtB, fmtP, ByteArray.data_append]
    · have hok := ho rfl
      have HOk := Lib.hid hok
      have hT := pairsT_len hok
      clear hk hv ha ho hok
      go_enter Tryd.func28, Tryd.ntmps28
      go_wp2_with fail
      refine (HS.out _ (HI.out.below (HB1.out _)) (by simp; omega)).mono ?_
      rintro e w1 ⟨rfl, hb1⟩
      obtain ⟨c0, c1, c2, c3, c4, hg⟩ := box5 hb1
      have HBB := Lib.hid (And.intro ((HW1.out _).trans (hb1.mono (by simp))) ((HB1.out _).trans (hb1.mono (by simp; omega))))
      clear hb1
      go_wp2_with fail
      refine (sFormat f hf1 hf2 _).mono ?_
      rintro e w2 ⟨rfl, hb2⟩
      have d0 := (hb2.cell (p := ⟨w.heap.size, 0, none⟩) hg).trans c0
      have d2 := (hb2.cell (p := ⟨w.heap.size, 2, none⟩) hg).trans c2
      have d3 := (hb2.cell (p := ⟨w.heap.size, 3, none⟩) hg).trans c3
      have d4 := (hb2.cell (p := ⟨w.heap.size, 4, none⟩) hg).trans c4
      have HB2 := Lib.hid (And.intro (HBB.out.1.trans (hb2.mono HBB.out.1.size)) (HBB.out.2.trans (hb2.mono (Nat.le_trans hB HBB.out.1.size))))
      clear hb2 c0 c1 c2 c3 c4
      go_wp2_with fail
      refine (sFmtP _ B PA Pn Pc ps (HP.out.below HB2.out.2) (Nat.le_trans hB HB2.out.1.size) HNN.out.2 true ⟨fun _ => HOk.out, fun _ => rfl⟩).mono ?_
      rintro e w3 ⟨rfl, hb3⟩
      have HB3 := Lib.hid (HB2.out.1.trans (hb3.mono HB2.out.1.size))
      clear hb3 d0 d2 d3 d4
      have hsz : (fmtP ps true).size ≤ 60 := by
        show (pairsT ps).toArray.size ≤ _
        rw [List.size_toArray]
        omega
      go_wp2
      go_ret
      refine ⟨congrArg (fun x => Ending.returned (.string x)) (fmtW_ext ?_), HB3.out⟩
      rw [wishT4]
      simp [fmtB, fmtP, ByteArray.data_append]
end Go.Proofs.YtghekfigfjhkeaaDoor.num
namespace Go.Proofs.YtghekfigfjhkeaaDoor.num
open Go.RowKit
set_option linter.unusedVariables false

theorem joinS_snoc (a s : List UInt8) (l : List (List UInt8)) (h : l ≠ []) : Lib.join (l ++ [a]) s = Lib.join l s ++ s ++ a := by
  cases l with
  | nil => exact absurd rfl h
  | cons b r =>
    rw [List.cons_append, Lib.join_cons, Lib.join_cons]
    unfold Lib.joinTail
    rw [List.map_append, List.flatten_append]
    simp [List.append_assoc]
theorem joinS_le {m : Nat} (s : List UInt8) (l : List (List UInt8)) (h : ∀ x, x ∈ l → x.length ≤ m) : (Lib.join l s).length ≤ (m + s.length) * l.length := by
  cases l with
  | nil => simp [Lib.join_nil]
  | cons b r =>
    rw [Lib.join_cons]
    have h1 := h b (by simp)
    have h2 : ∀ r : List (List UInt8), (∀ x, x ∈ r → x.length ≤ m) → (Lib.joinTail s r).length ≤ (m + s.length) * r.length := fun r hr => by
      induction r with
      | nil => simp [Lib.joinTail]
      | cons c r ih =>
        have h3 := ih fun x hx => hr x (List.mem_cons_of_mem _ hx)
        have h4 := hr c (by simp)
        unfold Lib.joinTail at h3 ⊢
        rw [List.map_cons, List.flatten_cons, List.length_append, List.length_append, List.length_cons, Nat.mul_add, Nat.mul_one]
        omega
    have h3 := h2 r fun x hx => h x (List.mem_cons_of_mem _ hx)
    rw [List.length_append, List.length_cons, Nat.mul_add, Nat.mul_one]
    omega
/-- The text of a node. -/
def nodeT (nd : ND) : List UInt8 := if nd.op = 0 then wishT nd.w else owT.getD nd.op.toNat []
/-- The text of an expression. -/
def exprT (nds : List ND) : List UInt8 := Lib.join (nds.map nodeT) [59, 32]
def preE (nds : List ND) (k : Nat) : ByteArray := ⟨(exprT (nds.take k)).toArray⟩
theorem preE_list (nds : List ND) (k : Nat) : (preE nds k).data.toList = exprT (nds.take k) := rfl
theorem preE_zero (nds : List ND) : preE nds 0 = ⟨#[]⟩ := rfl
def nodeB (nd : ND) : ByteArray := ⟨(nodeT nd).toArray⟩
theorem preE_one {nds : List ND} {x : ND} (h : nds[0]? = some x) : (⟨#[]⟩ : ByteArray) ++ nodeB x = preE nds 1 := by
  apply bytes_ext
  rw [preE_list, ptake_at (k := 0) h]
  simp [exprT, Lib.join_one, nodeB, ByteArray.data_append]
theorem preE_step {nds : List ND} {k : Nat} {x : ND} (hk : 0 < k) (h : nds[k]? = some x) : preE nds k ++ ⟨#[59, 32]⟩ ++ nodeB x = preE nds (k + 1) := by
  have hlt : k < nds.length := (List.getElem?_eq_some_iff.1 h).1
  apply bytes_ext
  rw [preE_list, ptake_at h]
  unfold exprT
  rw [List.map_append, List.map_cons, List.map_nil, joinS_snoc _ _ _ (by
    intro e
    have := congrArg List.length e
    rw [List.length_map, List.length_take, List.length_nil] at this
    omega)]
  simp [preE, exprT, nodeB, ByteArray.data_append]
/-- What FormatExpression answers. -/
def fmtE (nds : List ND) (q : Bool) : ByteArray := if q then ⟨(exprT nds).toArray⟩ else ⟨#[]⟩
theorem IsE.node {nds : List ND} (h : IsE nds) {k : Nat} {nd : ND} (hk : nds[k]? = some nd) : (nd.op = 0 ∧ IsW nd.w) ∨ ((nd.op = 1 ∨ nd.op = 2 ∨ nd.op = 3 ∨ nd.op = 4) ∧ NoW nd.w) := by
  obtain ⟨_, t, ht⟩ := h
  have h1 := post_stk.1 ht
  rw [← List.take_append_drop (k + 1) nds] at h1
  obtain ⟨s, hs⟩ := h1.pre
  rw [ptake_at hk] at hs
  rcases hs.inv with ⟨h0, hw, _⟩ | ⟨h3, hw, _⟩ | ⟨hb, hw, _⟩
  · exact .inl ⟨h0, hw⟩
  · exact .inr ⟨.inr (.inr (.inl h3)), hw⟩
  · refine .inr ⟨?_, hw⟩
    unfold Bin at hb
    omega
theorem nodeT_len {nd : ND} (h : (nd.op = 0 ∧ IsW nd.w) ∨ ((nd.op = 1 ∨ nd.op = 2 ∨ nd.op = 3 ∨ nd.op = 4) ∧ NoW nd.w)) (hl : nd.w.ls.length ≤ 1048576) : (nodeT nd).length ≤ 3200000 := by
  unfold nodeT
  rcases h with ⟨h0, hw⟩ | ⟨h0, _⟩
  · rw [if_pos h0]
    unfold wishT
    have h1 : (kwT.getD nd.w.kind.toNat []).length ≤ 5 := by
      have hk := hw.k
      rcases (show nd.w.kind = 0 ∨ nd.w.kind = 1 ∨ nd.w.kind = 2 ∨ nd.w.kind = 3 ∨ nd.w.kind = 4 by omega) with e | e | e | e | e <;> rw [e] <;> decide
    have h2 : (Lib.itoa nd.w.field).length ≤ 2 := itoa_small (by have := hw.f; unfold InR; omega)
    have h3 : (restT nd.w).length ≤ 3145729 := by
      unfold restT
      split
      · next e =>
        have hv := hw.v
        rw [if_pos e] at hv
        have := itoa_small hv
        rw [List.length_cons]
        omega
      · split
        · next e =>
          have := intsT_len (hw.asc e).2.1
          rw [List.length_cons]
          omega
        · split
          · next e =>
            have := pairsT_len (hw.okp e)
            rw [List.length_cons]
            omega
          · simp
    rw [List.length_append, List.length_cons, List.length_cons, List.length_append]
    omega
  · rcases h0 with e | e | e | e <;> rw [e, if_neg (by decide)] <;> decide
theorem exprT_len {nds : List ND} (h : IsE nds) (hl : ∀ nd ∈ nds, nd.w.ls.length ≤ 1048576) (k : Nat) : (exprT (nds.take k)).length ≤ 28800018 := by
  have h1 := joinS_le (m := 3200000) [59, 32] ((nds.take k).map nodeT) fun x hx => by
    obtain ⟨nd, hnd, rfl⟩ := List.mem_map.1 hx
    have hm := List.mem_of_mem_take hnd
    obtain ⟨i, hi, rfl⟩ := List.getElem_of_mem hm
    exact nodeT_len (h.node (List.getElem?_eq_getElem hi)) (hl _ hm)
  have h2 : ((nds.take k).map nodeT).length ≤ 9 := by rw [List.length_map, List.length_take]; have := h.1; omega
  have h3 := Nat.mul_le_mul_left (3200000 + [59, 32].length) h2
  unfold exprT
  exact Nat.le_trans h1 (Nat.le_trans h3 (by decide))
theorem preE_size {nds : List ND} (h : IsE nds) (hl : ∀ nd ∈ nds, nd.w.ls.length ≤ 1048576) (k : Nat) : (preE nds k).size ≤ 28800018 := by
  have := exprT_len h hl k
  show (exprT (nds.take k)).toArray.size ≤ _
  rwa [List.size_toArray]
theorem fmtW_node {nd : ND} (h : nd.op = 0) : fmtW nd.w true = nodeB nd := by
  unfold fmtW nodeB nodeT
  rw [if_pos rfl, if_pos h]
theorem owB_node {nd : ND} (h : nd.op ≠ 0) : owB nd.op.toNat = nodeB nd := by
  unfold owB nodeB nodeT
  rw [if_neg h]
theorem nodeB_size {nd : ND} (h : (nd.op = 0 ∧ IsW nd.w) ∨ ((nd.op = 1 ∨ nd.op = 2 ∨ nd.op = 3 ∨ nd.op = 4) ∧ NoW nd.w)) (hl : nd.w.ls.length ≤ 1048576) : (nodeB nd).size ≤ 3200000 := by
  have := nodeT_len h hl
  show (nodeT nd).toArray.size ≤ _
  rwa [List.size_toArray]
theorem lens_dat {w : World} {B : Nat} {A : Option Addr} {n : Nat} {ns : List Nd} (h : Nodes w B A n ns) (hN : ShortN ns) : ∀ nd ∈ datN ns, nd.w.ls.length ≤ 1048576 := fun nd hnd => by
  unfold datN at hnd
  obtain ⟨x, hx, rfl⟩ := List.mem_map.1 hnd
  have h1 := (h.x x hx).2.l.1
  show x.t.ls.length ≤ _
  rw [h1]
  exact (hN x hx).1
end Go.Proofs.YtghekfigfjhkeaaDoor.num
namespace Go.Proofs.YtghekfigfjhkeaaDoor.num
open Go.RowKit Go.Maps
set_option linter.unusedVariables false


set_option maxRecDepth 20000 in
theorem iList (w : World) (B : Nat) (A : Option Addr) (n c : Nat) (xs : List Int) (hi : Ints w B A n xs) (hn : n ≤ 1048576) (b : Bool) (hb : b = true ↔ Asc xs) :
    Calls Tryd.prog 107 #[.slice A n c] w fun e w' => e = .returned (.bool b) ∧ w' = w := by
  have HX := Lib.hid hi
  have HB := Lib.hid hb
  clear hi hb
  have HNo : Hid (¬ AscUp xs → b = false) := Lib.hid fun h => by
    cases b
    · rfl
    · exact absurd (HB.out.1 rfl).2 h
  go_enter Tryd.func107, Tryd.ntmps107
  go_wp2
  go_loopw [7] (fun i wr => ∃ k : Nat, k ≤ n ∧ i = .int .i64 k ∧ AscUp (xs.take k) ∧ wr = w) (fun i _ => n - (intOf i).toNat)
  case atStart => exact ⟨0, Nat.zero_le _, rfl, by rw [List.take_zero]; exact AscUp.nil, rfl⟩
  case round =>
    obtain ⟨k, hk, rfl, hasc, rfl⟩ := hrel
    have HA := Lib.hid hasc
    clear hasc
    by_cases hlt : k < n
    · obtain ⟨b1, off, x, hA1, hb1, hat, hc⟩ := HX.out.at k hlt
      have HT := Lib.hid hat
      have hlt' : (k : Int) < (n : Int) := by omega
      obtain ⟨q, hq⟩ := bool_of (InR x)
      have HQ := Lib.hid hq
      clear hat hq
      cases q
      · obtain rfl : b = false := HNo.out fun h => by have := HQ.out.2 (h.1 x (List.mem_of_getElem? HT.out)); cases this
        subst hA1
        go_wp2_with fail
        refine (isValue_of x false HQ.out _).mono ?_
        rintro e w1 ⟨rfl, rfl⟩
        go_wp2
        go_ret
        exact ⟨rfl, rfl⟩
      · have HD := Lib.hid (HQ.out.1 rfl)
        rcases Nat.eq_zero_or_pos k with h0 | h0
        · have HK := Lib.hid h0
          subst hA1
          clear h0
          have hk0 : decide (0 < k) = false := decide_eq_false (by have := HK.out; omega)
          go_wp2_with fail
          refine (isValue_of x true ⟨fun _ => HD.out, fun _ => rfl⟩ _).mono ?_
          rintro e w1 ⟨rfl, rfl⟩
          go_wp2
          clear hk0
          go_roundw
          case rel => exact ⟨k + 1, by omega, by go_num, ascUp_snoc HA.out HT.out HD.out (fun j u hj _ => by have := HK.out; omega), by first | rfl | trivial⟩
          case measure => simp [intOf]; omega
        · obtain ⟨j, hj⟩ : ∃ j, j + 1 = k := ⟨k - 1, by omega⟩
          obtain ⟨b2, off2, y, hA2, hb2, hat2, hc2⟩ := HX.out.at j (by omega)
          obtain ⟨rfl, rfl⟩ : b1 = b2 ∧ off = off2 := by rw [hA1] at hA2; injection hA2 with h; injection h with h1 h2; exact ⟨h1, h2⟩
          have HT0 := Lib.hid hat2
          have HJ := Lib.hid hj
          have HK0 : Hid ((0 : Int) < (k : Int)) := by show _ < _; omega
          have hkj : (k : Int) - 1 = (j : Int) := by omega
          have hkw : IntKind.i64.wrap ((k : Int) - 1) = (j : Int) := by rw [hkj]; exact IntWalk.i64_in _ ⟨by omega, by omega⟩
          have hjw : IntKind.i64.wrap (j : Int) = (j : Int) := IntWalk.i64_in _ ⟨by omega, by omega⟩
          have hjn : (j : Int) < (n : Int) := by omega
          have hjn' : j < n := by omega
          have hk0 : decide (0 < k) = true := decide_eq_true (by have := HK0.out; omega)
          subst hA1
          clear h0 hj hat2 hA2
          by_cases hle : x ≤ y
          · obtain rfl : b = false := HNo.out (asc_bad (by rw [HJ.out]; exact HT.out) HT0.out hle)
            go_wp2_with fail
            refine (isValue_of x true ⟨fun _ => HD.out, fun _ => rfl⟩ _).mono ?_
            rintro e w1 ⟨rfl, rfl⟩
            go_wp2
            go_ret
            exact ⟨rfl, rfl⟩
          · have HLe : Hid (y < x) := by show _ < _; omega
            go_wp2_with fail
            refine (isValue_of x true ⟨fun _ => HD.out, fun _ => rfl⟩ _).mono ?_
            rintro e w1 ⟨rfl, rfl⟩
            go_wp2
            clear hk0
            go_roundw
            case rel => exact ⟨k + 1, by omega, by go_num, ascUp_snoc HA.out HT.out HD.out (asc_next HJ.out HT0.out HLe.out), by first | rfl | trivial⟩
            case measure => simp [intOf]; omega
    · obtain rfl : k = n := by omega
      have h := HA.out
      rw [ptake_all HX.out.1] at h
      have HH := Lib.hid h
      clear h
      by_cases h0 : (0 : Int) < (k : Int)
      · have hd : decide (0 < k) = true := by simp; omega
        obtain rfl : b = true := HB.out.2 ⟨fun e => by have := HX.out.1; rw [e] at this; simp at this; omega, HH.out⟩
        go_wp2
        go_ret
        exact ⟨by simp, rfl⟩
      · obtain rfl : b = false := by
          cases b
          · rfl
          · exact absurd (List.length_eq_zero_iff.1 (by rw [HX.out.1]; omega)) (HB.out.1 rfl).1
        go_wp2
        go_ret
        exact ⟨by simp; omega, rfl⟩

set_option maxRecDepth 20000 in
theorem iOther (w : World) (t : Wi) (hl : t.Ln ≤ 1048576) (hp : t.Pn ≤ 1048576) (q : Bool) (hq : q = true ↔ (t.kind ≠ 2 ∧ t.value ≠ 0) ∨ (t.kind ≠ 3 ∧ t.Ln ≠ 0) ∨ (t.kind ≠ 4 ∧ t.Pn ≠ 0)) :
    Calls Tryd.prog 106 #[t.val] w fun e w' => e = .returned (.bool q) ∧ Below w.heap.size w w' := by
  obtain ⟨k, f, v, LA, Ln, Lc, ls, PA, Pn, Pc, ps⟩ := t
  unfold Wi.val
  simp only [] at hl hp hq ⊢
  have HW1 : Hid (∀ o : Obj, Below w.heap.size w (w.alloc o)) := Lib.hid fun o => (Below.refl _ w).alloc (Nat.le_refl _) _
  by_cases k2 : k = 2
  · subst k2
    by_cases hL : Ln = 0
    · have hL' : decide (0 < Ln) = false := by simp [hL]
      have hL2 : ¬ ((0 : Int) < (Ln : Int)) := by omega
      by_cases hP : Pn = 0
      · have hP' : decide (0 < Pn) = false := by simp [hP]
        have hP2 : ¬ ((0 : Int) < (Pn : Int)) := by omega
        obtain rfl : q = false := by
          cases q
          · rfl
          · exact absurd (hq.1 rfl) (by omega)
        clear hq hL hP
        go_enter Tryd.func106, Tryd.ntmps106
        go_wp2
        go_ret
        exact ⟨by first | rfl | simp, HW1.out _⟩
      · have hP' : decide (0 < Pn) = true := by simp; omega
        have hP2 : (0 : Int) < (Pn : Int) := by omega
        obtain rfl : q = true := hq.2 (by omega)
        clear hq hL hP
        go_enter Tryd.func106, Tryd.ntmps106
        go_wp2
        go_ret
        exact ⟨by first | rfl | simp, HW1.out _⟩
    · have hL' : decide (0 < Ln) = true := by simp; omega
      have hL2 : (0 : Int) < (Ln : Int) := by omega
      obtain rfl : q = true := hq.2 (by omega)
      clear hq hL
      go_enter Tryd.func106, Tryd.ntmps106
      go_wp2
      go_ret
      exact ⟨by first | rfl | simp, HW1.out _⟩
  · by_cases k3 : k = 3
    · subst k3
      clear k2
      by_cases hv : v = 0
      · have hv' : (v != 0) = false := by simp [hv]
        by_cases hP : Pn = 0
        · have hP' : decide (0 < Pn) = false := by simp [hP]
          have hP2 : ¬ ((0 : Int) < (Pn : Int)) := by omega
          obtain rfl : q = false := by
            cases q
            · rfl
            · exact absurd (hq.1 rfl) (by omega)
          clear hq hv hP
          go_enter Tryd.func106, Tryd.ntmps106
          go_wp2
          go_ret
          exact ⟨by first | rfl | simp, HW1.out _⟩
        · have hP' : decide (0 < Pn) = true := by simp; omega
          have hP2 : (0 : Int) < (Pn : Int) := by omega
          obtain rfl : q = true := hq.2 (by omega)
          clear hq hv hP
          go_enter Tryd.func106, Tryd.ntmps106
          go_wp2
          go_ret
          exact ⟨by first | rfl | simp, HW1.out _⟩
      · have hv' : (v != 0) = true := by simp [hv]
        obtain rfl : q = true := hq.2 (by omega)
        clear hq hv
        go_enter Tryd.func106, Tryd.ntmps106
        go_wp2
        go_ret
        exact ⟨by first | rfl | simp, HW1.out _⟩
    · by_cases k4 : k = 4
      · subst k4
        clear k2 k3
        by_cases hv : v = 0
        · have hv' : (v != 0) = false := by simp [hv]
          by_cases hL : Ln = 0
          · have hL' : decide (0 < Ln) = false := by simp [hL]
            have hL2 : ¬ ((0 : Int) < (Ln : Int)) := by omega
            obtain rfl : q = false := by
              cases q
              · rfl
              · exact absurd (hq.1 rfl) (by omega)
            clear hq hv hL
            go_enter Tryd.func106, Tryd.ntmps106
            go_wp2
            go_ret
            exact ⟨by first | rfl | simp, HW1.out _⟩
          · have hL' : decide (0 < Ln) = true := by simp; omega
            have hL2 : (0 : Int) < (Ln : Int) := by omega
            obtain rfl : q = true := hq.2 (by omega)
            clear hq hv hL
            go_enter Tryd.func106, Tryd.ntmps106
            go_wp2
            go_ret
            exact ⟨by first | rfl | simp, HW1.out _⟩
        · have hv' : (v != 0) = true := by simp [hv]
          obtain rfl : q = true := hq.2 (by omega)
          clear hq hv
          go_enter Tryd.func106, Tryd.ntmps106
          go_wp2
          go_ret
          exact ⟨by first | rfl | simp, HW1.out _⟩
      · have f2 : (k != 2) = true := by simpa using k2
        have f3 : (k != 3) = true := by simpa using k3
        have f4 : (k != 4) = true := by simpa using k4
        by_cases hv : v = 0
        · have hv' : (v != 0) = false := by simp [hv]
          by_cases hL : Ln = 0
          · have hL' : decide (0 < Ln) = false := by simp [hL]
            have hL2 : ¬ ((0 : Int) < (Ln : Int)) := by omega
            by_cases hP : Pn = 0
            · have hP' : decide (0 < Pn) = false := by simp [hP]
              have hP2 : ¬ ((0 : Int) < (Pn : Int)) := by omega
              obtain rfl : q = false := by
                cases q
                · rfl
                · exact absurd (hq.1 rfl) (by omega)
              clear hq k2 k3 k4 hv hL hP
              go_enter Tryd.func106, Tryd.ntmps106
              go_wp2
              go_ret
              exact ⟨by first | rfl | simp, HW1.out _⟩
            · have hP' : decide (0 < Pn) = true := by simp; omega
              have hP2 : (0 : Int) < (Pn : Int) := by omega
              obtain rfl : q = true := hq.2 (by omega)
              clear hq k2 k3 k4 hv hL hP
              go_enter Tryd.func106, Tryd.ntmps106
              go_wp2
              go_ret
              exact ⟨by first | rfl | simp, HW1.out _⟩
          · have hL' : decide (0 < Ln) = true := by simp; omega
            have hL2 : (0 : Int) < (Ln : Int) := by omega
            obtain rfl : q = true := hq.2 (by omega)
            clear hq k2 k3 k4 hv hL
            go_enter Tryd.func106, Tryd.ntmps106
            go_wp2
            go_ret
            exact ⟨by first | rfl | simp, HW1.out _⟩
        · have hv' : (v != 0) = true := by simp [hv]
          obtain rfl : q = true := hq.2 (by omega)
          clear hq k2 k3 k4 hv
          go_enter Tryd.func106, Tryd.ntmps106
          go_wp2
          go_ret
          exact ⟨by first | rfl | simp, HW1.out _⟩
end Go.Proofs.YtghekfigfjhkeaaDoor.num
namespace Go.Proofs.YtghekfigfjhkeaaDoor.num
open Go.RowKit

def nearI (b : Int) : Value := .iface 146 (.agg #[.int .i64 b])
def amongI (A : Option Addr) (n c : Nat) : Value := .iface 148 (.agg #[.slice A n c])
def orderI (o : Option Nat) : Value := .iface 150 (.agg #[.map o])
end Go.Proofs.YtghekfigfjhkeaaDoor.num
namespace Go.Proofs.YtghekfigfjhkeaaDoor.num
open Go.RowKit Go.Maps
set_option linter.unusedVariables false

/-- v is the taste of the valid wish t. -/
def TasteAt (w : World) (t : Wi) (v : Value) : Prop :=
  (t.kind ≠ 4 ∧ ∃ b, InR b ∧ v = nearI b ∧ ∀ x, InR x → rankW t.dat x = if x < b then b - x else x - b) ∨
  (t.kind ≠ 4 ∧ v = amongI t.LA t.Ln t.Lc ∧ ∀ x, rankW t.dat x = if x ∈ t.ls then 0 else 1) ∨
  (t.kind = 4 ∧ ∃ o B, v = orderI o ∧ AboveP t.ps B true o w)
theorem TasteAt.below {w w' : World} {t : Wi} {v : Value} (h : TasteAt w t v) (hb : Below w.heap.size w w') : TasteAt w' t v := by
  rcases h with h | h | ⟨h, o, B, e, a⟩
  · exact .inl h
  · exact .inr (.inl h)
  · exact .inr (.inr ⟨h, o, B, e, a.below hb⟩)
theorem value_same (v : Int) (q : Bool) (hq : q = true ↔ InR v) (w : World) :
    Calls Tryd.prog 89 #[.int .i64 v] w fun e w' => e = .returned (.bool q) ∧ w' = w :=
  (isValue_of v q hq w).mono fun _ _ h => ⟨h.1, h.2.symm⟩

/-- .. and what it holds lies from block lo on. -/
def TasteFrom (w : World) (lo : Nat) (t : Wi) (v : Value) : Prop :=
  (t.kind ≠ 4 ∧ ∃ b, InR b ∧ v = nearI b ∧ ∀ x, InR x → rankW t.dat x = if x < b then b - x else x - b) ∨
  (t.kind ≠ 4 ∧ v = amongI t.LA t.Ln t.Lc ∧ ∀ x, rankW t.dat x = if x ∈ t.ls then 0 else 1) ∨
  (t.kind = 4 ∧ ∃ o B, lo ≤ B ∧ v = orderI o ∧ AboveP t.ps B true o w)
theorem TasteFrom.at' {w : World} {lo : Nat} {t : Wi} {v : Value} (h : TasteFrom w lo t v) : TasteAt w t v := by
  rcases h with h | h | ⟨h, o, B, _, e, a⟩
  · exact .inl h
  · exact .inr (.inl h)
  · exact .inr (.inr ⟨h, o, B, e, a⟩)
theorem TasteFrom.low {w : World} {lo lo' : Nat} {t : Wi} {v : Value} (h : TasteFrom w lo t v) (hl : lo' ≤ lo) : TasteFrom w lo' t v := by
  rcases h with h | h | ⟨h, o, B, hB, e, a⟩
  · exact .inl h
  · exact .inr (.inl h)
  · exact .inr (.inr ⟨h, o, B, Nat.le_trans hl hB, e, a⟩)
theorem AboveP.kept {ps : List (Int × Int)} {B : Nat} {q : Bool} {o : Option Nat} {w w' : World} (h : AboveP ps B q o w) (hb : ∀ k, B ≤ k → k < w.heap.size → w'.heap[k]? = w.heap[k]?) : AboveP ps B q o w' :=
  ⟨h.1, fun hq => by
    obtain ⟨b, n, M, h1, h2, h3⟩ := h.2 hq
    exact ⟨b, n, M, h1, h2, MapAt.block h3.out (hb _ h3.low (MapAt.lt h3.out)), h3.low, h3.has, h3.rng, fun v x hx => by
      obtain ⟨g1, g2, g3⟩ := h3.sets v x hx
      exact ⟨g1, g2, MapAt.block g3 (hb _ g1 (MapAt.lt g3))⟩, h3.inj⟩⟩
theorem TasteFrom.kept {w w' : World} {lo : Nat} {t : Wi} {v : Value} (h : TasteFrom w lo t v) (hb : ∀ k, lo ≤ k → k < w.heap.size → w'.heap[k]? = w.heap[k]?) : TasteFrom w' lo t v := by
  rcases h with h | h | ⟨h, o, B, hB, e, a⟩
  · exact .inl h
  · exact .inr (.inl h)
  · exact .inr (.inr ⟨h, o, B, hB, e, a.kept fun k hk => hb k (Nat.le_trans hB hk)⟩)
/-- An interface's value. -/
def IfV (v : Value) : Prop := v = .nilIface ∨ ∃ T x, v = .iface T x
set_option maxRecDepth 20000 in
set_option maxHeartbeats 1600000 in
theorem taste_ofV (w : World) (B : Nat) (t : Wi) (hi : WiIn w B t) (hB : B ≤ w.heap.size) (hn : t.Short) (q : Bool) (hq : q = true ↔ IsW t.dat) :
    Calls Tryd.prog 92 #[t.val] w fun e w' => (∃ v, e = .returned (.tuple #[v, .bool q]) ∧ (q = true → TasteFrom w' w.heap.size t v) ∧ IfV v) ∧ Below w.heap.size w w' := by
  have HO : Hid (∀ (w1 : World) (p : Bool), (p = true ↔ (t.kind ≠ 2 ∧ t.value ≠ 0) ∨ (t.kind ≠ 3 ∧ t.Ln ≠ 0) ∨ (t.kind ≠ 4 ∧ t.Pn ≠ 0)) → Calls Tryd.prog 106 #[t.val] w1 fun e w' => e = .returned (.bool p) ∧ Below w1.heap.size w1 w') := Lib.hid fun w1 p hp => iOther w1 t hn.1 hn.2 p hp
  obtain ⟨k, f, v, LA, Ln, Lc, ls, PA, Pn, Pc, ps⟩ := t
  obtain ⟨-, -, -, hl, hp⟩ := hi
  unfold Wi.val at HO ⊢
  simp only [Wi.dat, Wi.Short] at hl hp hn hq HO ⊢
  have HL := Lib.hid hl
  have HP := Lib.hid hp
  have HQ := Lib.hid hq
  have HN := Lib.hid hn
  have HB1 : Hid (∀ o : Obj, Below B w (w.alloc o)) := Lib.hid fun o => (Below.refl B w).alloc hB _
  have HW1 : Hid (∀ o : Obj, Below w.heap.size w (w.alloc o)) := Lib.hid fun o => (Below.refl _ w).alloc (Nat.le_refl _) _
  have HLn : Hid (ls = [] ↔ Ln = 0) := by
    show _ ↔ _
    rw [← hl.1, List.length_eq_zero_iff]
  have HPn : Hid (ps = [] ↔ Pn = 0) := by
    show _ ↔ _
    rw [← hp.1, List.length_eq_zero_iff]
  clear hl hp hq hn
  have HNo : Hid (¬ IsW ⟨k, f, v, ls, ps⟩ → q = false) := Lib.hid fun h => by
    cases q
    · rfl
    · exact absurd (HQ.out.1 rfl) h
  by_cases f0 : f < 0
  · obtain rfl := HNo.out fun h => by have := h.f.1; dsimp only at this; omega
    go_enter Tryd.func92, Tryd.ntmps92
    go_wp2
    go_ret2
    first | exact ⟨⟨_, rfl, fun h => (by cases h), .inl rfl⟩, HW1.out _⟩ | exact ⟨⟨_, rfl, .inl rfl⟩, HW1.out _⟩
  by_cases f3 : 3 ≤ f
  · obtain rfl := HNo.out fun h => by have := h.f.2; dsimp only at this; omega
    go_enter Tryd.func92, Tryd.ntmps92
    go_wp2
    go_ret2
    first | exact ⟨⟨_, rfl, fun h => (by cases h), .inl rfl⟩, HW1.out _⟩ | exact ⟨⟨_, rfl, .inl rfl⟩, HW1.out _⟩
  have HF : Hid (0 ≤ f ∧ f ≤ 2) := Lib.hid ⟨by omega, by omega⟩
  obtain ⟨p, hp⟩ := bool_of ((k ≠ 2 ∧ v ≠ 0) ∨ (k ≠ 3 ∧ Ln ≠ 0) ∨ (k ≠ 4 ∧ Pn ≠ 0))
  have HPp := Lib.hid hp
  clear hp
  cases p
  · have HK2 : Hid (k ≠ 2 → v = 0) := Lib.hid fun h => by
      by_cases hv : v = 0
      · exact hv
      · have := HPp.out.2 (.inl ⟨h, hv⟩); cases this
    have HK3 : Hid (k ≠ 3 → ls = []) := Lib.hid fun h => by
      by_cases hv : Ln = 0
      · exact HLn.out.2 hv
      · have := HPp.out.2 (.inr (.inl ⟨h, hv⟩)); cases this
    have HK4 : Hid (k ≠ 4 → ps = []) := Lib.hid fun h => by
      by_cases hv : Pn = 0
      · exact HPn.out.2 hv
      · have := HPp.out.2 (.inr (.inr ⟨h, hv⟩)); cases this
    by_cases k0 : k = 0
    · subst k0
      obtain rfl := HQ.out.2 ((isW01 (.inl rfl) HF.out).2 ⟨HK2.out (by decide), HK3.out (by decide), HK4.out (by decide)⟩)
      have HT : Hid (∀ w', TasteFrom w' w.heap.size ⟨0, f, v, LA, Ln, Lc, ls, PA, Pn, Pc, ps⟩ (nearI 0)) := Lib.hid fun w' => .inl ⟨by show (0 : Int) ≠ 4; decide, 0, ⟨by decide, by decide⟩, rfl, fun x hx => by
        have h0 := hx.1
        have h9 := hx.2
        have e : rankW (Wi.dat ⟨0, f, v, LA, Ln, Lc, ls, PA, Pn, Pc, ps⟩) x = x := rfl
        rw [e]
        split <;> omega⟩
      go_enter Tryd.func92, Tryd.ntmps92
      go_wp2_with fail
      refine (HO.out _ false HPp.out).mono ?_
      rintro e w1 ⟨rfl, hb1⟩
      obtain ⟨c0, c1, c2, c3, c4, hg⟩ := box5 hb1
      have HBB := Lib.hid (And.intro ((HW1.out _).trans (hb1.mono (by simp))) ((HB1.out _).trans (hb1.mono (by simp; omega))))
      clear hb1
      go_wp2
      go_ret2
      exact ⟨⟨_, rfl, fun _ => HT.out _, by first | exact .inl rfl | exact .inr ⟨_, _, rfl⟩⟩, HBB.out.1⟩
    · by_cases k1 : k = 1
      · subst k1
        clear k0
        obtain rfl := HQ.out.2 ((isW01 (.inr rfl) HF.out).2 ⟨HK2.out (by decide), HK3.out (by decide), HK4.out (by decide)⟩)
        have HT : Hid (∀ w', TasteFrom w' w.heap.size ⟨1, f, v, LA, Ln, Lc, ls, PA, Pn, Pc, ps⟩ (nearI 9)) := Lib.hid fun w' => .inl ⟨by show (1 : Int) ≠ 4; decide, 9, ⟨by decide, by decide⟩, rfl, fun x hx => by
          have h0 := hx.1
          have h9 := hx.2
          have e : rankW (Wi.dat ⟨1, f, v, LA, Ln, Lc, ls, PA, Pn, Pc, ps⟩) x = 9 - x := rfl
          rw [e]
          split <;> omega⟩
        go_enter Tryd.func92, Tryd.ntmps92
        go_wp2_with fail
        refine (HO.out _ false HPp.out).mono ?_
        rintro e w1 ⟨rfl, hb1⟩
        obtain ⟨c0, c1, c2, c3, c4, hg⟩ := box5 hb1
        have HBB := Lib.hid (And.intro ((HW1.out _).trans (hb1.mono (by simp))) ((HB1.out _).trans (hb1.mono (by simp; omega))))
        clear hb1
        go_wp2
        go_ret2
        exact ⟨⟨_, rfl, fun _ => HT.out _, by first | exact .inl rfl | exact .inr ⟨_, _, rfl⟩⟩, HBB.out.1⟩
      · by_cases k2 : k = 2
        · subst k2
          clear k0 k1
          obtain ⟨qv, hqv⟩ := bool_of (InR v)
          obtain rfl : qv = q := by
            rw [Bool.eq_iff_iff, HQ.out, hqv, isW2 HF.out]
            exact ⟨fun h => ⟨h, HK3.out (by decide), HK4.out (by decide)⟩, fun h => h.1⟩
          have HV := Lib.hid hqv
          clear hqv
          go_enter Tryd.func92, Tryd.ntmps92
          go_wp2_with fail
          refine (HO.out _ false HPp.out).mono ?_
          rintro e w1 ⟨rfl, hb1⟩
          obtain ⟨c0, c1, c2, c3, c4, hg⟩ := box5 hb1
          have HBB := Lib.hid (And.intro ((HW1.out _).trans (hb1.mono (by simp))) ((HB1.out _).trans (hb1.mono (by simp; omega))))
          clear hb1
          go_wp2
          go_quiet ((go_at_call 89; refine Calls.quiet_of_same (value_same v qv HV.out _)))
          go_wp2
          go_ret2
          refine ⟨⟨_, rfl, fun h => .inl ⟨by show (2 : Int) ≠ 4; decide, v, HV.out.1 (by first | exact h | trivial), rfl, fun x hx => rfl⟩, by first | exact .inl rfl | exact .inr ⟨_, _, rfl⟩⟩, below_drewN HBB.out.1 _⟩
        · by_cases k3 : k = 3
          · subst k3
            clear k0 k1 k2
            obtain ⟨ql, hql⟩ := bool_of (Asc ls)
            obtain rfl : ql = q := by
              rw [Bool.eq_iff_iff, HQ.out, hql, isW3 HF.out]
              exact ⟨fun h => ⟨HK2.out (by decide), h, HK4.out (by decide)⟩, fun h => h.2.1⟩
            have HV := Lib.hid hql
            clear hql
            go_enter Tryd.func92, Tryd.ntmps92
            go_wp2_with fail
            refine (HO.out _ false HPp.out).mono ?_
            rintro e w1 ⟨rfl, hb1⟩
            obtain ⟨c0, c1, c2, c3, c4, hg⟩ := box5 hb1
            have HBB := Lib.hid (And.intro ((HW1.out _).trans (hb1.mono (by simp))) ((HB1.out _).trans (hb1.mono (by simp; omega))))
            clear hb1
            go_wp2
            go_quiet ((go_at_call 107; refine Calls.quiet_of_same (iList _ B LA Ln Lc ls (HL.out.below (below_drewN HBB.out.2 _)) HN.out.1 ql HV.out)))
            go_wp2
            go_ret2
            exact ⟨⟨_, rfl, fun h => .inr (.inl ⟨by show (3 : Int) ≠ 4; decide, rfl, fun x => rfl⟩), by first | exact .inl rfl | exact .inr ⟨_, _, rfl⟩⟩, below_drewN HBB.out.1 _⟩
          · by_cases k4 : k = 4
            · subst k4
              clear k0 k1 k2 k3
              have HV : Hid (q = true ↔ OkP ps) := Lib.hid (by
                rw [HQ.out, isW4 HF.out]
                exact ⟨fun h => h.2.2, fun h => ⟨HK2.out (by decide), HK3.out (by decide), h⟩⟩)
              go_enter Tryd.func92, Tryd.ntmps92
              go_wp2_with fail
              refine (HO.out _ false HPp.out).mono ?_
              rintro e w1 ⟨rfl, hb1⟩
              obtain ⟨c0, c1, c2, c3, c4, hg⟩ := box5 hb1
              have HBB := Lib.hid (And.intro ((HW1.out _).trans (hb1.mono (by simp))) ((HB1.out _).trans (hb1.mono (by simp; omega))))
              clear hb1
              go_wp2_with fail
              refine (above_of _ B PA Pn Pc ps (HP.out.below HBB.out.2) (by omega) HN.out.2 q HV.out).mono ?_
              rintro e w2 ⟨⟨o, rfl, hab⟩, hb2⟩
              have HAB := Lib.hid hab
              have HSz := Lib.hid HBB.out.1.size
              have HBC := Lib.hid (HBB.out.1.trans (hb2.mono HBB.out.1.size))
              clear hb2 hab c0 c1 c2 c3 c4
              go_wp2
              go_ret2
              exact ⟨⟨_, rfl, fun h => .inr (.inr ⟨rfl, o, _, HSz.out, rfl, h ▸ HAB.out⟩), by first | exact .inl rfl | exact .inr ⟨_, _, rfl⟩⟩, HBC.out⟩
            · have f0 : (k == 0) = false := by simpa using k0
              have f1 : (k == 1) = false := by simpa using k1
              have f2 : (k == 2) = false := by simpa using k2
              have f3 : (k == 3) = false := by simpa using k3
              have f4 : (k == 4) = false := by simpa using k4
              obtain rfl := HNo.out fun h => by have := h.k; dsimp only at this; omega
              clear k0 k1 k2 k3 k4
              go_enter Tryd.func92, Tryd.ntmps92
              go_wp2_with fail
              refine (HO.out _ false HPp.out).mono ?_
              rintro e w1 ⟨rfl, hb1⟩
              obtain ⟨c0, c1, c2, c3, c4, hg⟩ := box5 hb1
              have HBB := Lib.hid (And.intro ((HW1.out _).trans (hb1.mono (by simp))) ((HB1.out _).trans (hb1.mono (by simp; omega))))
              clear hb1
              go_wp2
              go_ret2
              first | exact ⟨⟨_, rfl, fun h => (by cases h), .inl rfl⟩, HBB.out.1⟩ | exact ⟨⟨_, rfl, .inl rfl⟩, HBB.out.1⟩
  · obtain rfl := HNo.out fun h => by
      have hv := h.v
      have hl := h.l
      have hp := h.p
      dsimp only at hv hl hp
      rcases HPp.out.1 rfl with ⟨h1, h2⟩ | ⟨h1, h2⟩ | ⟨h1, h2⟩
      · rw [if_neg h1] at hv; exact h2 hv
      · rw [if_neg h1] at hl; exact h2 (HLn.out.1 hl)
      · rw [if_neg h1] at hp; exact h2 (HPn.out.1 hp)
    have HPt := Lib.hid (HPp.out.1 rfl)
    clear HPp
    go_enter Tryd.func92, Tryd.ntmps92
    go_wp2_with fail
    refine (HO.out _ true ⟨fun _ => HPt.out, fun _ => rfl⟩).mono ?_
    rintro e w1 ⟨rfl, hb1⟩
    have HBB := Lib.hid ((HW1.out _).trans (hb1.mono (by simp)))
    clear hb1
    go_wp2
    go_ret2
    first | exact ⟨⟨_, rfl, fun h => (by cases h), .inl rfl⟩, HBB.out⟩ | exact ⟨⟨_, rfl, .inl rfl⟩, HBB.out⟩
theorem taste_of (w : World) (B : Nat) (t : Wi) (hi : WiIn w B t) (hB : B ≤ w.heap.size) (hn : t.Short) (q : Bool) (hq : q = true ↔ IsW t.dat) :
    Calls Tryd.prog 92 #[t.val] w fun e w' => (∃ v, e = .returned (.tuple #[v, .bool q]) ∧ (q = true → TasteAt w' t v)) ∧ Below w.heap.size w w' :=
  (taste_ofV w B t hi hB hn q hq).mono fun _ _ ⟨⟨v, h1, h2, _⟩, h3⟩ => ⟨⟨v, h1, fun h => (h2 h).at'⟩, h3⟩
end Go.Proofs.YtghekfigfjhkeaaDoor.num
namespace Go.Proofs.YtghekfigfjhkeaaDoor.num
open Go.RowKit Go.Maps
set_option linter.unusedVariables false

set_option maxRecDepth 20000 in
theorem iIsWish (w : World) (B : Nat) (t : Wi) (hi : WiIn w B t) (hB : B ≤ w.heap.size) (hn : t.Short) (q : Bool) (hq : q = true ↔ IsW t.dat) :
    Calls Tryd.prog 83 #[t.val] w fun e w' => e = .returned (.bool q) ∧ Below w.heap.size w w' := by
  have HI := Lib.hid hi
  have HS := Lib.hid (fun (w1 : World) h1 h2 => taste_of w1 B t h1 h2 hn q hq)
  clear hi hq
  obtain ⟨k, f, v, LA, Ln, Lc, ls, PA, Pn, Pc, ps⟩ := t
  unfold Wi.val at HS ⊢
  go_enter Tryd.func83, Tryd.ntmps83
  go_wp2_with fail
  first
    | refine (HS.out _ HI.out hB).mono ?_
    | refine (HS.out _ (HI.out.below ((Below.refl B w).alloc hB _)) (by simp; omega)).mono ?_
  rintro e w1 ⟨⟨tv, rfl, -⟩, hb1⟩
  go_wp2
  go_ret
  first
    | exact ⟨rfl, hb1⟩
    | exact ⟨rfl, ((Below.refl _ w).alloc (Nat.le_refl _) _).trans (hb1.mono (by simp))⟩

end Go.Proofs.YtghekfigfjhkeaaDoor.num
namespace Go.Proofs.YtghekfigfjhkeaaDoor.num
open Go.RowKit

theorem digit_of (r : Int) (b : Bool) (hb : b = true ↔ 48 ≤ r ∧ r ≤ 57) (w : World) :
    Calls Tryd.prog 73 #[.int .i32 r] w fun e w' => e = .returned (.bool b) ∧ w = w' := by
  obtain rfl : b = (decide (48 ≤ r) && decide (r ≤ 57)) := by rw [Bool.eq_iff_iff]; simpa using hb
  clear hb
  by_cases h1 : 48 ≤ r
  · go_enter Tryd.func73, Tryd.ntmps73
    go_wp2
    go_ret
    exact ⟨by simp [h1], rfl⟩
  · go_enter Tryd.func73, Tryd.ntmps73
    go_wp2
    go_ret
    exact ⟨by simp; omega, rfl⟩
theorem cut_dash (s : ByteArray) (w : World) :
    Calls Tryd.prog 72 #[.string s, .string ⟨#[45]⟩] w fun e w' => e = .returned (.tuple #[.string ⟨(dgs s.data.toList).toArray⟩, .bool (dash s.data.toList)]) ∧ w = w' :=
  (Tryd.strings_CutPrefix s ⟨#[45]⟩ w).mono fun e w' ⟨he, hw⟩ => by
    refine ⟨?_, hw.symm⟩
    rw [he]
    show Ending.returned (.tuple #[.string ⟨(Lib.trimPrefix s.data.toList [45]).toArray⟩, .bool (Lib.hasPrefix s.data.toList [45])]) = _
    rw [hasDash, trimDash]
theorem decode_hi (s : ByteArray) (pos : Nat) (h : pos < s.size) (hb : 128 ≤ (s[pos]).toNat) : 128 ≤ (Utf8.decode s pos).1 := by
  have e : s.get! pos = s[pos]'h := by simp [ByteArray.get!, getElem!_pos, h]; rfl
  rw [Lib.decode_at, e]
  unfold Lib.decodeN
  rw [if_neg (by omega)]
  repeat' split
  all_goals first | assumption | (simp only; omega) | decide
theorem isD_at (t : ByteArray) (pos : Nat) (h : pos < t.size) (hb : isD t[pos] = false) (l : List UInt8) (hl : t.data.toList = l) : ¬ l.all isD = true := by
  subst hl
  intro ha
  have hm : t[pos] ∈ t.data.toList := by simp; exact Array.getElem_mem (xs := t.data) h
  have := List.all_eq_true.1 ha _ hm
  rw [hb] at this; cases this
theorem eq_text (m : Int) (s : ByteArray) (b : Bool) (hb : b = true ↔ Lib.itoa m = s.data.toList) : ((fmtB m).toList == s.toList) = b := by
  rw [ByteArray.toList_eq, ByteArray.toList_eq, Bool.eq_iff_iff, beq_iff_eq, hb]; rfl

set_option maxRecDepth 20000 in
set_option maxHeartbeats 400000 in
theorem iParse (s : ByteArray) (_hs : s.size ≤ 1048576) (w : World) (hpow : Pow w) :
    Calls Tryd.prog 47 #[.string s] w fun e w' => e = .returned (.tuple #[.int .i64 (pVal s.data.toList), .bool (pOk s.data.toList)]) ∧ Below w.heap.size w w' := by
  have HP := Lib.hid hpow
  clear hpow
  go_enter Tryd.func47, Tryd.ntmps47
  go_wp2_with fail
  refine (cut_dash s _).mono ?_
  rintro e w1 ⟨rfl, rfl⟩
  generalize ht : (⟨(dgs s.data.toList).toArray⟩ : ByteArray) = t
  have HT : Hid (t.data.toList = dgs s.data.toList) := by subst ht; show _ = _; rfl
  clear ht
  by_cases hlen : t.size ≤ 9
  · generalize hd : dash s.data.toList = d
    have HD := Lib.hid hd
    clear hd
    go_wp2
    go_loopw [6] (fun v wr => ∃ pos m : Nat, pos ≤ t.size ∧ v = .int .i64 m ∧ m ≤ 999999999 ∧ Hid (m = scanV (t.data.toList.take pos)) ∧ Hid ((t.data.toList.take pos).all isD = true) ∧ wr.heap[w.heap.size]? = some (.stringIter t pos) ∧ Below w.heap.size w wr) (fun _ wr => t.size - wr.iterPos w.heap.size)
    case atStart => exact ⟨0, 0, Nat.zero_le _, rfl, by omega, rfl, rfl, World.iter_heap w t 0, (Below.refl _ _).alloc (Nat.le_refl _) _⟩
    case round =>
      obtain ⟨pos, m, hp, rfl, hm, HM, HA, hit, hbel⟩ := hrel
      have HI := Lib.hid hit
      by_cases hlt : pos < t.size
      · by_cases hlow : (t[pos]).toNat < 128
        · have hnext := fun ty => Lib.run_next_ascii_at (P := Tryd.prog) wr w.heap.size t pos ty hit hlt hlow
          clear hit
          have hbel1 := Lib.below_iterAt hbel (Nat.le_refl _) t (pos + 1)
          cases hx : isD t[pos]
          · have HU := Lib.hid (pOk_p1 s.data.toList (fun h => isD_at t pos hlt hx _ HT.out h.2))
            have hnd : ¬ (48 ≤ t[pos].toNat ∧ t[pos].toNat ≤ 57) := of_decide_eq_false hx
            have HX := Lib.hid hx
            clear hx hbel
            go_wp2_with fail
            refine (digit_of _ false (by simp; omega) _).mono ?_
            rintro e wa ⟨rfl, rfl⟩
            go_wp2
            go_ret2
            refine ⟨?_, hbel1⟩
            rw [HU.out.1, HU.out.2]; rfl
          · have hdi : 48 ≤ t[pos].toNat ∧ t[pos].toNat ≤ 57 := of_decide_eq_true hx
            obtain ⟨hd1, hd2⟩ := hdi
            have hstep : scanV (t.data.toList.take (pos + 1)) = 10 * m + (t[pos].toNat - 48) := by
              rw [take_snoc t pos hlt, scanV_snoc, ← HM.out, dstep, hx]; rfl
            have hle := scanV_le9 (t.data.toList.take (pos + 1)) (by have := List.length_take_le (pos + 1) t.data.toList; omega)
            have hm2 : 10 * m + (t[pos].toNat - 48) ≤ 999999999 := by rw [← hstep]; exact hle
            have HS := Lib.hid hstep
            have hall : (t.data.toList.take (pos + 1)).all isD = true := by rw [take_snoc t pos hlt, List.all_append, HA.out]; simp [hx]
            have HA2 := Lib.hid hall
            have HX := Lib.hid hx
            have HPos : Hid (wr.iterPos w.heap.size = pos) := by show _ = _; simp [World.iterPos, HI.out]
            have HT1 := Lib.hid (Lib.iterAt_heap wr _ _ pos (pos + 1) HI.out)
            clear hx hbel hstep hle hall
            go_wp2_with fail
            refine (digit_of _ true (by simp; omega) _).mono ?_
            rintro e wa ⟨rfl, rfl⟩
            go_wp2
            go_roundw
            case rel => exact ⟨pos + 1, 10 * m + (t[pos].toNat - 48), by omega, by go_num, hm2, HS.out.symm, HA2.out, HT1.out, hbel1⟩
            case measure =>
              have h2 := HPos.out
              have h3 : (wr.iterAt w.heap.size t (pos + 1)).iterPos w.heap.size = pos + 1 := by simp [World.iterPos, HT1.out]
              omega
        · have hnext := fun ty => Lib.run_next_any_at (P := Tryd.prog) wr w.heap.size t pos ty hit hlt
          have hd := decode_hi t pos hlt (by omega)
          have HU := Lib.hid (pOk_p1 s.data.toList (fun h => isD_at t pos hlt (by simp [isD]; omega) _ HT.out h.2))
          have hbel1 := Lib.below_iterAt hbel (Nat.le_refl _) t (pos + (Utf8.decode t pos).2)
          clear hit hbel
          go_wp2_with fail
          refine (digit_of _ false (by simp; omega) _).mono ?_
          rintro e wa ⟨rfl, rfl⟩
          go_wp2
          go_ret2
          refine ⟨?_, hbel1⟩
          rw [HU.out.1, HU.out.2]; rfl
      · have hnext := fun ty => Lib.run_next_end_at (P := Tryd.prog) wr w.heap.size t pos ty hit hlt
        clear hit
        obtain rfl : pos = t.size := by omega
        have hfull : t.data.toList.take t.size = t.data.toList := List.take_of_length_le (by rw [Array.length_toList]; exact Nat.le_refl _)
        have HM2 : Hid (m = scanV (dgs s.data.toList)) := by show _ = _; rw [HM.out, hfull, HT.out]
        have HA2 : Hid ((dgs s.data.toList).all isD = true) := by have := HA.out; rw [hfull, HT.out] at this; exact this
        have HL2 : Hid ((dgs s.data.toList).length ≤ 9) := by show _ ≤ _; rw [← HT.out, Array.length_toList]; exact hlen
        clear hfull
        cases d
        · have hsg : signed s.data.toList (scanV (dgs s.data.toList)) = (m : Int) := by unfold signed; rw [HD.out, ← HM2.out]; rfl
          by_cases hb : Lib.itoa ((m : Int)) = s.data.toList
          · have hq := eq_text ((m : Int)) s true (by simp [hb])
            have HU := Lib.hid (pOk_p2 s.data.toList HL2.out HA2.out true (by rw [hsg]; simp [hb]))
            have HG := Lib.hid hsg
            clear hb hsg
            go_wp2_with fail
            refine (iFormat ((m : Int)) (by omega) (by omega) _ (HP.out.below hbel)).mono ?_
            rintro e wb ⟨rfl, hb1⟩
            go_wp2
            go_ret2
            refine ⟨?_, hbel.trans (hb1.mono hbel.size)⟩
            rw [HU.out.1, HU.out.2, HG.out]; rfl
          · have hq := eq_text ((m : Int)) s false (by simp [hb])
            have HU := Lib.hid (pOk_p2 s.data.toList HL2.out HA2.out false (by rw [hsg]; simp [hb]))
            have HG := Lib.hid hsg
            clear hb hsg
            go_wp2_with fail
            refine (iFormat ((m : Int)) (by omega) (by omega) _ (HP.out.below hbel)).mono ?_
            rintro e wb ⟨rfl, hb1⟩
            go_wp2
            go_ret2
            refine ⟨?_, hbel.trans (hb1.mono hbel.size)⟩
            rw [HU.out.1, HU.out.2]; rfl
        · have hsg : signed s.data.toList (scanV (dgs s.data.toList)) = -(m : Int) := by unfold signed; rw [HD.out, ← HM2.out]; rfl
          by_cases hb : Lib.itoa (-(m : Int)) = s.data.toList
          · have hq := eq_text (-(m : Int)) s true (by simp [hb])
            have HU := Lib.hid (pOk_p2 s.data.toList HL2.out HA2.out true (by rw [hsg]; simp [hb]))
            have HG := Lib.hid hsg
            clear hb hsg
            go_wp2_with fail
            refine (iFormat (-(m : Int)) (by omega) (by omega) _ (HP.out.below hbel)).mono ?_
            rintro e wb ⟨rfl, hb1⟩
            go_wp2
            go_ret2
            refine ⟨?_, hbel.trans (hb1.mono hbel.size)⟩
            rw [HU.out.1, HU.out.2, HG.out]; rfl
          · have hq := eq_text (-(m : Int)) s false (by simp [hb])
            have HU := Lib.hid (pOk_p2 s.data.toList HL2.out HA2.out false (by rw [hsg]; simp [hb]))
            have HG := Lib.hid hsg
            clear hb hsg
            go_wp2_with fail
            refine (iFormat (-(m : Int)) (by omega) (by omega) _ (HP.out.below hbel)).mono ?_
            rintro e wb ⟨rfl, hb1⟩
            go_wp2
            go_ret2
            refine ⟨?_, hbel.trans (hb1.mono hbel.size)⟩
            rw [HU.out.1, HU.out.2]; rfl
  · have HU := Lib.hid (pOk_p1 s.data.toList (fun h => hlen (by have := h.1; rw [← HT.out, Array.length_toList] at this; exact this)))
    go_wp2
    go_ret2
    refine ⟨?_, Below.refl _ _⟩
    rw [HU.out.1, HU.out.2]; rfl
end Go.Proofs.YtghekfigfjhkeaaDoor.num
namespace Go.Proofs.YtghekfigfjhkeaaDoor.num
open Go.RowKit

theorem dash_at (s : ByteArray) (h : 0 < s.size) : ((s[0].toNat : Int) == 45) = dash s.data.toList := by
  obtain ⟨⟨l⟩⟩ := s
  cases l with
  | nil => exact absurd h (by show ¬ 0 < 0; omega)
  | cons b l =>
    show (((b.toNat : Int)) == 45) = (some b == some 45)
    by_cases hb : b = 45
    · subst hb; rfl
    · have h1 : ((b.toNat : Int) == 45) = false := by
        rw [beq_eq_false_iff_ne]
        intro e
        exact hb (UInt8.toNat_inj.1 (by show b.toNat = 45; omega))
      have h2 : (some b == some (45 : UInt8)) = false := by
        rw [beq_eq_false_iff_ne]
        intro e
        injection e with e
        exact hb e
      rw [h1, h2]
theorem dash_nil (s : ByteArray) (h : s.size = 0) : dash s.data.toList = false := by
  have : s.data.toList = [] := List.eq_nil_of_length_eq_zero (by rw [Array.length_toList]; exact h)
  rw [this]; rfl
theorem len_le (s : ByteArray) (h : s.size ≤ 10) : s.data.toList.length ≤ 10 := by rw [Array.length_toList]; exact h

set_option maxRecDepth 20000 in
set_option maxHeartbeats 800000 in
theorem sParse (s : ByteArray) (hs : s.size ≤ 1048576) (w : World) :
    Calls Tryd.prog 70 #[.string s] w fun e w' => e = .returned (.tuple #[.int .i64 (pVal s.data.toList), .bool (pOk s.data.toList)]) ∧ Below w.heap.size w w' := by
  go_enter Tryd.func70, Tryd.ntmps70
  go_wp2
  go_loop [4, 5, 6] (fun v cn i => ∃ k m c : Nat, k ≤ 11 ∧ k ≤ s.size ∧ i = .int .i64 k ∧ v = .int .i64 m ∧ cn = .int .i64 c ∧ m ≤ 99999999999 ∧ c ≤ 11 ∧ Hid (m = scanV (s.data.toList.take k)) ∧ Hid (c = scanK (s.data.toList.take k))) (fun _ _ i => 11 - (intOf i).toNat)
  case atStart => exact ⟨0, 0, 0, Nat.zero_le _, Nat.zero_le _, rfl, rfl, rfl, by omega, by omega, rfl, rfl⟩
  case round =>
    obtain ⟨k, m, c, hk11, hks, rfl, rfl, rfl, hm, hc, HM, HC⟩ := hrel
    by_cases hlt : k < 11 ∧ k < s.size
    · obtain ⟨hk, hl⟩ := hlt
      have hd : decide ((k : Int) < 11) = true := by simp; omega
      have hl1 := List.length_take_le (k + 1) s.data.toList
      have hs1 := scanV_le12 (s.data.toList.take (k + 1)) (by omega)
      have hs2 := scanK_le (s.data.toList.take (k + 1))
      have hc2 : scanK (s.data.toList.take (k + 1)) ≤ 11 := by omega
      have e1 := scanV_snoc (s.data.toList.take k) s[k]
      have e2 := scanK_snoc (s.data.toList.take k) s[k]
      rw [← take_snoc s k hl, ← HM.out] at e1
      rw [← take_snoc s k hl, ← HC.out] at e2
      rw [e1] at hs1
      rw [e2] at hc2
      cases hx : isD s[k]
      · have HX : Hid (dstep m s[k] = m) := by show _ = _; rw [dstep, hx]; rfl
        have hnd : ¬ (48 ≤ s[k].toNat ∧ s[k].toNat ≤ 57) := of_decide_eq_false hx
        have E1 := Lib.hid e1
        have E2 : Hid (scanK (s.data.toList.take (k + 1)) = c) := by show _ = _; rw [e2, hx]; rfl
        clear e1 e2 hx hs1 hc2 hs2 hl1
        by_cases h48 : 48 ≤ s[k].toNat
        · have h57 : 57 < s[k].toNat := by omega
          clear hnd
          go_wp2
          go_round
          case rel => exact ⟨k + 1, m, c, by omega, by omega, by go_num, rfl, rfl, hm, hc, by show _ = _; rw [E1.out, HX.out], E2.out.symm⟩
          case measure => simp [intOf]; omega
        · clear hnd
          go_wp2
          go_round
          case rel => exact ⟨k + 1, m, c, by omega, by omega, by go_num, rfl, rfl, hm, hc, by show _ = _; rw [E1.out, HX.out], E2.out.symm⟩
          case measure => simp [intOf]; omega
      · have hdi : 48 ≤ s[k].toNat ∧ s[k].toNat ≤ 57 := of_decide_eq_true hx
        obtain ⟨hd1, hd2⟩ := hdi
        have e3 : dstep m s[k] = 10 * m + (s[k].toNat - 48) := by rw [dstep, hx]; rfl
        rw [e3] at hs1 e1
        have E1 := Lib.hid e1
        have e4 : scanK (s.data.toList.take (k + 1)) = c + 1 := by rw [e2, hx]; rfl
        have hcc : c + 1 ≤ 11 := by rw [← e4]; omega
        have E2 := Lib.hid e4
        clear e1 e2 e3 e4 hx hc2 hs2 hl1
        go_wp2
        go_round
        case rel => exact ⟨k + 1, 10 * m + (s[k].toNat - 48), c + 1, by omega, by omega, by go_num, by go_num, by go_num, hs1, hcc, E1.out.symm, E2.out.symm⟩
        case measure => simp [intOf]; omega
    · by_cases hbig : 10 < s.size
      · have HU := Lib.hid (pOk_long s.data.toList (by rw [Array.length_toList]; exact hbig))
        have hpos : 0 < s.size := by omega
        have h45 := dash_at s hpos
        generalize dash s.data.toList = d at h45
        by_cases hc9 : 9 < c
        · cases d
          all_goals
            go_wp2
            all_goals
              go_ret2
              refine ⟨?_, Below.refl _ _⟩
              rw [HU.out.1, HU.out.2]; rfl
        · cases d
          all_goals
            go_wp2
            all_goals
              go_ret2
              refine ⟨?_, Below.refl _ _⟩
              rw [HU.out.1, HU.out.2]; rfl
      · obtain rfl : k = s.size := by omega
        have hfull : s.data.toList.take s.size = s.data.toList := List.take_of_length_le (by rw [Array.length_toList]; exact Nat.le_refl _)
        have HM2 : Hid (m = scanV s.data.toList) := by show _ = _; rw [HM.out, hfull]
        have HC2 : Hid (c = scanK s.data.toList) := by show _ = _; rw [HC.out, hfull]
        clear hfull HM HC
        by_cases hc9 : 9 < c
        · have HU := Lib.hid (pOk_no s.data.toList (fun h => by have := h.2.1; rw [← HC2.out] at this; omega))
          by_cases hz : s.size = 0
          · have hz' : ¬ 0 < s.size := by omega
            clear hz
            go_wp2
            go_ret2
            refine ⟨?_, Below.refl _ _⟩
            rw [HU.out.1, HU.out.2]; rfl
          · have hpos : 0 < s.size := by omega
            have h45 := dash_at s hpos
            generalize dash s.data.toList = d at h45
            clear hz
            cases d
            all_goals
              go_wp2
              go_ret2
              refine ⟨?_, Below.refl _ _⟩
              rw [HU.out.1, HU.out.2]; rfl
        · by_cases hz : s.size = 0
          · have hz' : ¬ 0 < s.size := by omega
            have HD := Lib.hid (dash_nil s hz)
            clear hz
            have hsg : signed s.data.toList (scanV s.data.toList) = (m : Int) := by unfold signed; rw [HD.out, ← HM2.out]; rfl
            by_cases hb : Lib.itoa ((m : Int)) = s.data.toList
            · have hq := eq_text ((m : Int)) s true (by simp [hb])
              have HU := Lib.hid (pOk_model s.data.toList (by rw [← HC2.out]; omega) (by rw [hsg]; exact hb))
              have HG := Lib.hid hsg
              clear hb hsg
              go_wp2_with fail
              refine (sFormat ((m : Int)) (by omega) (by omega) _).mono ?_
              rintro e wb ⟨rfl, hb1⟩
              go_wp2
              go_ret2
              refine ⟨?_, hb1⟩
              rw [HU.out.1, HU.out.2, HG.out]; rfl
            · have hq := eq_text ((m : Int)) s false (by simp [hb])
              have HU := Lib.hid (pOk_no s.data.toList (fun h => hb (by have := h.2.2; rw [hsg] at this; exact this)))
              have HG := Lib.hid hsg
              clear hb hsg
              go_wp2_with fail
              refine (sFormat ((m : Int)) (by omega) (by omega) _).mono ?_
              rintro e wb ⟨rfl, hb1⟩
              go_wp2
              go_ret2
              refine ⟨?_, hb1⟩
              rw [HU.out.1, HU.out.2]; rfl
          · have hpos : 0 < s.size := by omega
            have h45 := dash_at s hpos
            clear hz
            cases hd : dash s.data.toList
            · rw [hd] at h45
              have HD := Lib.hid hd
              clear hd
              have hsg : signed s.data.toList (scanV s.data.toList) = (m : Int) := by unfold signed; rw [HD.out, ← HM2.out]; rfl
              by_cases hb : Lib.itoa ((m : Int)) = s.data.toList
              · have hq := eq_text ((m : Int)) s true (by simp [hb])
                have HU := Lib.hid (pOk_model s.data.toList (by rw [← HC2.out]; omega) (by rw [hsg]; exact hb))
                have HG := Lib.hid hsg
                clear hb hsg
                go_wp2_with fail
                refine (sFormat ((m : Int)) (by omega) (by omega) _).mono ?_
                rintro e wb ⟨rfl, hb1⟩
                go_wp2
                go_ret2
                refine ⟨?_, hb1⟩
                rw [HU.out.1, HU.out.2, HG.out]; rfl
              · have hq := eq_text ((m : Int)) s false (by simp [hb])
                have HU := Lib.hid (pOk_no s.data.toList (fun h => hb (by have := h.2.2; rw [hsg] at this; exact this)))
                have HG := Lib.hid hsg
                clear hb hsg
                go_wp2_with fail
                refine (sFormat ((m : Int)) (by omega) (by omega) _).mono ?_
                rintro e wb ⟨rfl, hb1⟩
                go_wp2
                go_ret2
                refine ⟨?_, hb1⟩
                rw [HU.out.1, HU.out.2]; rfl
            · rw [hd] at h45
              have HD := Lib.hid hd
              clear hd
              have hsg : signed s.data.toList (scanV s.data.toList) = -(m : Int) := by unfold signed; rw [HD.out, ← HM2.out]; rfl
              by_cases hb : Lib.itoa (-(m : Int)) = s.data.toList
              · have hq := eq_text (-(m : Int)) s true (by simp [hb])
                have HU := Lib.hid (pOk_model s.data.toList (by rw [← HC2.out]; omega) (by rw [hsg]; exact hb))
                have HG := Lib.hid hsg
                clear hb hsg
                go_wp2_with fail
                refine (sFormat (-(m : Int)) (by omega) (by omega) _).mono ?_
                rintro e wb ⟨rfl, hb1⟩
                go_wp2
                go_ret2
                refine ⟨?_, hb1⟩
                rw [HU.out.1, HU.out.2, HG.out]; rfl
              · have hq := eq_text (-(m : Int)) s false (by simp [hb])
                have HU := Lib.hid (pOk_no s.data.toList (fun h => hb (by have := h.2.2; rw [hsg] at this; exact this)))
                have HG := Lib.hid hsg
                clear hb hsg
                go_wp2_with fail
                refine (sFormat (-(m : Int)) (by omega) (by omega) _).mono ?_
                rintro e wb ⟨rfl, hb1⟩
                go_wp2
                go_ret2
                refine ⟨?_, hb1⟩
                rw [HU.out.1, HU.out.2]; rfl
end Go.Proofs.YtghekfigfjhkeaaDoor.num
namespace Go.Proofs.YtghekfigfjhkeaaDoor.num
open Go.RowKit
set_option linter.unusedVariables false

/-- A slice of strings of the call's own. -/
def OwnS (w : World) (B : Nat) (v : Value) (l : List ByteArray) : Prop := w.ownsRow B 9 1 v l.length (l.map Value.string)
theorem OwnS.empty (w : World) (B : Nat) (hB : B ≤ w.heap.size) : OwnS (w.alloc (.cells #[] 9)) B (.slice (some ⟨w.heap.size, 0, none⟩) 0 0) [] :=
  World.ownsRow_made w #[] 0 hB (Nat.zero_le _) (by simp)
/-- A slice of strings that reads as l, below block B. -/
def Strs (w : World) (Lo B : Nat) (A : Option Addr) (n : Nat) (l : List ByteArray) : Prop := l.length = n ∧ ∀ k p, l[k]? = some p → ∃ b off : Nat, A = some ⟨b, off, none⟩ ∧ Lo ≤ b ∧ b < B ∧ w.cell? ⟨b, off + k, none⟩ = some (.string p)
theorem Strs.below {w w' : World} {Lo B : Nat} {A : Option Addr} {n : Nat} {l : List ByteArray} (h : Strs w Lo B A n l) (hb : Below B w w') : Strs w' Lo B A n l :=
  ⟨h.1, fun k p hk => by
    obtain ⟨b, off, ha, hL, hB, hc⟩ := h.2 k p hk
    exact ⟨b, off, ha, hL, hB, (hb.cell (p := ⟨b, off + k, none⟩) hB).trans hc⟩⟩
theorem OwnS.strs {w : World} {B : Nat} {v : Value} {l : List ByteArray} (h : OwnS w B v l) : ∃ A n c, v = .slice A n c ∧ Strs w B w.heap.size A n l := by
  have h0 := h
  rcases h.2 with ⟨rfl, hl⟩ | ⟨g, cap, cur, rfl, hgB, hg, _⟩
  · obtain rfl : l = [] := List.eq_nil_of_length_eq_zero hl
    exact ⟨none, 0, 0, rfl, rfl, fun k p hk => by simp at hk⟩
  · refine ⟨some ⟨g, 0, none⟩, l.length, cap, rfl, rfl, fun k p hk => ⟨g, 0, rfl, hgB, lt_of_block hg, ?_⟩⟩
    have hlt : k < l.length := by
      rcases Nat.lt_or_ge k l.length with h' | h'
      · exact h'
      · rw [List.getElem?_eq_none h'] at hk; cases hk
    rw [Nat.zero_add, World.ownsRow.cellAt h0 k (by omega), List.getElem?_map, hk]; rfl
theorem wp_appS {ops : Array Oper} {rest : List Oper} {o : Oper} {a : Act} {Q : Exit → Act → World → Prop} (w : World) (hgd : o.guard = none) (s x : Operand)
    (ho : o.op = .call { callee := .builtin .append, args := #[s, x], argTypes := #[71, 71] })
    (B : Nat) (v : Value) (l : List ByteArray) (hs : a.eval s = v) (hown : OwnS w B v l) (cs : Array Value) (new : List ByteArray) (hcs : cs = (new.map Value.string).toArray) (n c : Nat) (hn : n = new.length)
    (hx : a.eval x = .slice (some ⟨w.heap.size, 0, none⟩) n c) (hlen : (l.length + new.length) * 16 ≤ 140737488355328) (hB : B ≤ w.heap.size)
    (h : ∀ v' w', OwnS w' B v' (l ++ new) → Below B w w' → wpList Tryd.prog ops Q rest (a.put o.dst v') w') :
    wpList Tryd.prog ops Q (o :: rest) a (w.alloc (.cells cs 9)) := by
  obtain ⟨i0, hi, hz0, hz1, hz2⟩ := info_parts info_string
  subst hcs hn
  refine wpList_append_own _ hgd s x 71 ho B 9 i0 (.string ⟨#[]⟩) 1 16 Tryd.underlying71 hi hz0 hz1 hz2 rfl (by decide) v l.length (l.map Value.string) hs (World.ownsRow.alloc hown _) ⟨w.heap.size, 0, none⟩ new.length c (new.map Value.string) hx (by simp) ?_ ?_ (by unfold maxLen; omega) (by omega) (by simp; omega) ?_
  · intro j u hj
    have e : (⟨w.heap.size, 0, none⟩ : Addr).add j = ⟨w.heap.size, j, none⟩ := by unfold Addr.add; split <;> simp_all
    rw [e, World.cell?_alloc_at _ _ _ _ rfl]
    simpa using hj
  · intro u hu
    obtain ⟨b, _, rfl⟩ := List.mem_map.1 hu
    rfl
  · intro v' w' hown' hg _
    refine h v' w' ?_ (((Below.refl B w).alloc hB _).grown hg (by simp; omega) (fun k hk => ?_))
    · have e : (l ++ new).length = l.length + new.length := by simp
      unfold OwnS
      rw [e, List.map_append]
      exact hown'
    · exact (World.ownsRow.lt hown k hk).1

theorem list_len (s : ByteArray) : s.data.toList.length = s.size := by rw [Array.length_toList]; rfl
theorem one_extract (s : ByteArray) (k : Nat) (h : k < s.size) : (s.extract k (k + 1)).data.toList = [s[k]] := by
  rw [Lib.extract_data]
  have h1 := take_snoc s k h
  have e : s.data.toList[k]? = some s[k] := by
    have : k < s.data.toList.length := by rw [list_len]; exact h
    rw [List.getElem?_eq_getElem this]; simp; rfl
  have h2 : k < s.data.toList.length := by rw [list_len]; exact h
  have e2 : s.data.toList[k] = s[k] := by rw [List.getElem?_eq_getElem h2] at e; exact Option.some.inj e
  first
    | (rw [show k + 1 - k = 1 by omega, List.drop_eq_getElem_cons h2, e2]; rfl)
    | (simp [List.drop_eq_getElem_cons h2, e2])
    | (rw [List.drop_take, show k + 1 - k = 1 by omega, List.drop_eq_getElem_cons h2, e2]; rfl)

set_option maxRecDepth 20000 in
theorem sCut2 (s : ByteArray) (hs : s.size ≤ 1048576) (c : UInt8) (w : World) :
    Calls Tryd.prog 44 #[.string s, .int .u8 (c.toNat : Int)] w fun e w' => (∃ A n cc l, e = .returned (.slice A n cc) ∧ Strs w' w.heap.size w'.heap.size A n l ∧ l.map (·.data.toList) = pieces c s.data.toList) ∧ Below w.heap.size w w' := by
  go_enter Tryd.func44, Tryd.ntmps44
  go_wp2
  go_loopw [5, 6, 7] (fun v p i wr => ∃ (k : Nat) (ps : List ByteArray) (part : ByteArray), k ≤ s.size ∧ i = .int .i64 k ∧ OwnS wr w.heap.size v ps ∧ p = .string part ∧ pieces c (s.data.toList.take k) = ps.map (·.data.toList) ++ [part.data.toList] ∧ Below w.heap.size w wr) (fun _ _ i _ => s.size - (intOf i).toNat)
  case atStart => exact ⟨0, [], ⟨#[]⟩, Nat.zero_le _, rfl, OwnS.empty w _ (Nat.le_refl _), rfl, rfl, (Below.refl _ _).alloc (Nat.le_refl _) _⟩
  case round =>
    obtain ⟨k, ps, part, hk, rfl, hown, rfl, hpc, hbel⟩ := hrel
    have HO := Lib.hid hown
    have HPc := Lib.hid hpc
    have HB := Lib.hid hbel
    have hbnd := pieces_len c (s.data.toList.take k)
    rw [hpc] at hbnd
    simp only [List.map_append, List.map_cons, List.map_nil, List.sum_append, List.sum_cons, List.sum_nil, List.length_append, List.length_cons, List.length_nil, List.length_map] at hbnd
    have htk := List.length_take_le k s.data.toList
    have hpart : part.size ≤ 1048576 := by rw [← list_len part]; omega
    have H4 : Hid ((ps.length + [part].length) * 16 ≤ 140737488355328) := Lib.hid (by simp only [List.length_cons, List.length_nil]; omega)
    clear hown hpc hbnd htk
    by_cases hlt : k < s.size
    · by_cases he : s[k] = c
      · have hq : ((s[k].toNat : Int) == (c.toNat : Int)) = true := by rw [he]; simp
        have HE := Lib.hid he
        clear he hbel
        go_wp2_with (at_builtin; refine wp_appS wr (by rfl) (.tmp 20) (.tmp 22) (by rfl) w.heap.size _ _ (by rfl) HO.out _ [part] (by rfl) 1 1 rfl (by rfl) H4.out HB.out.size ?_)
        intro v1 w2 hown2 hb2
        have HO2 := Lib.hid hown2
        have HB2 := Lib.hid (HB.out.trans hb2)
        clear hown2 hb2
        go_wp2
        go_roundw
        case rel =>
          refine ⟨k + 1, ps ++ [part], ⟨#[]⟩, by omega, by go_num, HO2.out, rfl, ?_, HB2.out⟩
          rw [take_snoc s k hlt, pieces_snoc c _ _ _ _ HPc.out, if_pos HE.out]
          simp
        case measure => simp [intOf]; omega
      · have hq : ((s[k].toNat : Int) == (c.toNat : Int)) = false := by
          rw [beq_eq_false_iff_ne]
          intro h
          exact he (UInt8.toNat_inj.1 (by omega))
        have HE := Lib.hid he
        clear he hbel
        go_wp2
        go_roundw
        case rel =>
          refine ⟨k + 1, ps, part ++ s.extract k (k + 1), by omega, by go_num, HO.out, by first | rfl | go_num, ?_, HB.out⟩
          rw [take_snoc s k hlt, pieces_snoc c _ _ _ _ HPc.out, if_neg HE.out, ← one_extract s k hlt]
          simp
        case measure => simp [intOf]; omega
    · obtain rfl : k = s.size := by omega
      have HPc' : Hid (pieces c s.data.toList = ps.map (·.data.toList) ++ [part.data.toList]) := Lib.hid (by have := HPc.out; rwa [take_all (list_len s)] at this)
      clear hbel
      go_wp2_with (at_builtin; refine wp_appS wr (by rfl) (.tmp 31) (.tmp 33) (by rfl) w.heap.size _ _ (by rfl) HO.out _ [part] (by rfl) 1 1 rfl (by rfl) H4.out HB.out.size ?_)
      intro v1 w2 hown2 hb2
      obtain ⟨A, n, cc, rfl, hst⟩ := hown2.strs
      have HS := Lib.hid hst
      have HB2 := Lib.hid (HB.out.trans hb2)
      clear hown2 hb2 hst
      go_wp2
      go_ret
      exact ⟨⟨A, n, cc, ps ++ [part], rfl, HS.out, by rw [HPc'.out]; simp⟩, HB2.out⟩

theorem sNum (s : ByteArray) (hs : s.size ≤ 1048576) (w : World) :
    Calls Tryd.prog 45 #[.string s] w fun e w' => e = .returned (.int .i64 (numS s.data.toList)) ∧ Below w.heap.size w w' := by
  generalize hv : pVal s.data.toList = v
  generalize ho : pOk s.data.toList = ok
  have HV := Lib.hid hv
  have HO := Lib.hid ho
  have HN : Hid (numS s.data.toList = if ok then v else -100000) := Lib.hid (by unfold numS; rw [ho, hv])
  clear hv ho
  go_enter Tryd.func45, Tryd.ntmps45
  go_wp2_with fail
  refine (sParse s hs w).mono ?_
  rintro e w1 ⟨rfl, hb⟩
  rw [HV.out, HO.out]
  cases ok
  · go_wp2
    go_ret
    exact ⟨by rw [HN.out]; rfl, hb⟩
  · go_wp2
    go_ret
    exact ⟨by rw [HN.out]; rfl, hb⟩
end Go.Proofs.YtghekfigfjhkeaaDoor.num
namespace Go.Proofs.YtghekfigfjhkeaaDoor.num
open Go.RowKit Go.Maps
set_option linter.unusedVariables false
set_option linter.unusedSimpArgs false

theorem OwnS.two (w : World) (B : Nat) (hB : B ≤ w.heap.size) (a b : ByteArray) : OwnS (w.alloc (.cells #[.string a, .string b] 9)) B (.slice (some ⟨w.heap.size, 0, none⟩) 2 2) [a, b] :=
  ⟨rfl, .inr ⟨w.heap.size, 2, _, rfl, hB, heap_alloc_new w _, Nat.le_refl _, by decide, rfl, rfl⟩⟩
theorem OwnS.below {w w' : World} {B : Nat} {v : Value} {l : List ByteArray} (h : OwnS w B v l) (hb : Below w.heap.size w w') : OwnS w' B v l :=
  ⟨h.1, h.2.imp id fun ⟨g, cap, cur, h1, h2, h3, h4⟩ => ⟨g, cap, cur, h1, h2, (hb.block g (lt_of_block h3)).trans h3, h4⟩⟩
/-- Strings of the call's own, joined. -/
theorem join_own (w : World) (B : Nat) (v : Value) (l : List ByteArray) (sep : ByteArray) (h : OwnS w B v l) (hne : l ≠ []) (hl : l.length ≤ 10) (hj : (Lib.join (l.map (·.data.toList)) sep.data.toList).length ≤ 140737488355328) :
    Calls Tryd.prog 62 #[v, .string sep] w fun e w' => e = .returned (.string ⟨(Lib.join (l.map (·.data.toList)) sep.data.toList).toArray⟩) ∧ Below w.heap.size w w' := by
  have h0 := h
  rcases h.2 with ⟨rfl, hl0⟩ | ⟨g, cap, cur, rfl, hgB, hg, hcap, _⟩
  · exact absurd (List.eq_nil_of_length_eq_zero hl0) hne
  · refine Tryd.strings_Join g 0 cap l sep w (fun j x hx => ?_) (lt_of_block hg) (by omega) hcap hj
    have hlt : j < l.length := (List.getElem?_eq_some_iff.1 hx).1
    rw [Nat.zero_add, World.ownsRow.cellAt h0 j (by omega), List.getElem?_map, hx]; rfl
theorem kwB_size (i : Nat) : (kwB i).size ≤ 5 := by
  unfold kwB
  show (kwT.getD i []).toArray.size ≤ 5
  rw [List.size_toArray]
  rcases (show i = 0 ∨ i = 1 ∨ i = 2 ∨ i = 3 ∨ i = 4 ∨ 5 ≤ i by omega) with rfl | rfl | rfl | rfl | rfl | h
  · decide
  · decide
  · decide
  · decide
  · decide
  · rw [List.getD_eq_getElem?_getD, List.getElem?_eq_none (by simpa [kwT] using h)]
    decide
theorem join2 (a b : List UInt8) (c : UInt8) : Lib.join [a, b] [c] = a ++ c :: b := by rw [join_cons2, Lib.join_one]
theorem join3 (a b d : List UInt8) (c : UInt8) : Lib.join [a, b, d] [c] = a ++ c :: (b ++ c :: d) := by rw [join_cons2, join_cons2, Lib.join_one]
theorem fldB_list (f : Int) : (⟨#[102]⟩ ++ fmtB f : ByteArray).data.toList = 102 :: Lib.itoa f := by simp [fmtB, ByteArray.data_append]
theorem words2 {k : Nat} {f v : Int} {ls : List Int} {ps : List (Int × Int)} (hr : restT ⟨k, f, v, ls, ps⟩ = []) : (⟨(Lib.join ([kwB k, (⟨#[102]⟩ ++ fmtB f : ByteArray)].map (·.data.toList)) (⟨#[32]⟩ : ByteArray).data.toList).toArray⟩ : ByteArray) = fmtW ⟨k, f, v, ls, ps⟩ true := by
  apply fmtW_ext
  show Lib.join [(kwB k).data.toList, (⟨#[102]⟩ ++ fmtB f : ByteArray).data.toList] [32] = _
  rw [join2, fldB_list]
  unfold wishT
  rw [hr, List.append_nil]
  rfl
theorem words3 {k : Nat} {f v : Int} {ls : List Int} {ps : List (Int × Int)} {x : ByteArray} (hr : restT ⟨k, f, v, ls, ps⟩ = 32 :: x.data.toList) : (⟨(Lib.join ([kwB k, (⟨#[102]⟩ ++ fmtB f : ByteArray), x].map (·.data.toList)) (⟨#[32]⟩ : ByteArray).data.toList).toArray⟩ : ByteArray) = fmtW ⟨k, f, v, ls, ps⟩ true := by
  apply fmtW_ext
  show Lib.join [(kwB k).data.toList, (⟨#[102]⟩ ++ fmtB f : ByteArray).data.toList, x.data.toList] [32] = _
  rw [join3, fldB_list]
  unfold wishT
  rw [hr]
  simp [kwB]
theorem words_len (l : List ByteArray) (m : Nat) (hm : ∀ x ∈ l, x.size ≤ m) (hl : l.length ≤ 3) (h : m ≤ 4194304) : (Lib.join (l.map (·.data.toList)) (⟨#[32]⟩ : ByteArray).data.toList).length ≤ 140737488355328 := by
  have := join_le (m := m) 32 (l.map (·.data.toList)) fun x hx => by
    obtain ⟨b, hb, rfl⟩ := List.mem_map.1 hx
    rw [list_len]
    exact hm b hb
  rw [List.length_map] at this
  show (Lib.join (l.map (·.data.toList)) [32]).length ≤ _
  have h3 : (m + 1) * l.length ≤ (m + 1) * 3 := Nat.mul_le_mul_left _ hl
  omega

set_option maxRecDepth 20000 in
set_option maxHeartbeats 3200000 in
theorem iFmtW (w : World) (B : Nat) (t : Wi) (hi : WiIn w B t) (hB : B ≤ w.heap.size) (hn : t.Short) (q : Bool) (hq : q = true ↔ IsW t.dat) (hpow : Pow w) (hkw : Kw w) :
    Calls Tryd.prog 63 #[t.val] w fun e w' => e = .returned (.string (fmtW t.dat q)) ∧ Below w.heap.size w w' := by
  have HI := Lib.hid hi
  have HQ := Lib.hid hq
  have HPw := Lib.hid hpow
  have HKw := Lib.hid hkw
  have HB1 : Hid (∀ o : Obj, Below B w (w.alloc o)) := Lib.hid fun o => (Below.refl B w).alloc hB _
  have HW1 : Hid (∀ o : Obj, Below w.heap.size w (w.alloc o)) := Lib.hid fun o => (Below.refl _ w).alloc (Nat.le_refl _) _
  have HS : Hid (∀ w1 : World, WiIn w1 B t → B ≤ w1.heap.size → Calls Tryd.prog 83 #[t.val] w1 fun e w' => e = .returned (.bool q) ∧ Below w1.heap.size w1 w') := Lib.hid fun w1 h1 h2 => iIsWish w1 B t h1 h2 hn q hq
  have HN := Lib.hid hn
  clear hi hq hn hpow hkw
  obtain ⟨k, f, v, LA, Ln, Lc, ls, PA, Pn, Pc, ps⟩ := t
  unfold Wi.val at HS ⊢
  simp only [Wi.dat] at HQ ⊢
  cases q
  · go_enter Tryd.func63, Tryd.ntmps63
    go_wp2_with fail
    refine (HS.out _ (HI.out.below (HB1.out _)) (by simp; omega)).mono ?_
    rintro e w1 ⟨rfl, hb1⟩
    have HBB := Lib.hid ((HW1.out _).trans (hb1.mono (by simp)))
    clear hb1
    go_wp2
    go_ret
    exact ⟨rfl, HBB.out⟩
  · have HW := Lib.hid (HQ.out.1 rfl)
    have hk := HW.out.k
    have hf := HW.out.f
    have hv : k = 2 → InR v := fun h => HW.out.val2 h
    have ha : k = 3 → Asc ls := fun h => HW.out.asc h
    have ho : k = 4 → OkP ps := fun h => HW.out.okp h
    have HP : Hid (Pairs w B PA Pn ps) := Lib.hid HI.out.p
    have HL : Hid (Ints w B LA Ln ls) := Lib.hid HI.out.l
    have HNN : Hid (Ln ≤ 1048576 ∧ Pn ≤ 1048576) := Lib.hid HN.out
    have hff : (fmtB f).size ≤ 2 := fmt_R' ⟨hf.1, by have := hf.2; dsimp only at this; omega⟩
    have hf1 : -9223372036854775808 ≤ f := by have := hf.1; dsimp only at this; omega
    have hf2 : f ≤ 9223372036854775807 := by have := hf.2; dsimp only at this; omega
    have hfs : (⟨#[102]⟩ ++ fmtB f : ByteArray).size ≤ 3 := by
      have : (⟨#[102]⟩ ++ fmtB f : ByteArray).size = 1 + (fmtB f).size := by rw [ByteArray.size_append]; rfl
      omega
    dsimp only at hk
    clear hf HQ HN
    rcases (show k = 0 ∨ k = 1 ∨ k = 2 ∨ k = 3 ∨ k = 4 by omega) with rfl | rfl | rfl | rfl | rfl
    · clear hk hv ha ho
      have hwl : ∀ x ∈ [kwB 0, (⟨#[102]⟩ ++ fmtB f : ByteArray)], x.size ≤ 5 := by
        intro x hx
        simp only [List.mem_cons, List.not_mem_nil, or_false] at hx
        rcases hx with rfl | rfl
        · have := kwB_size 0; omega
        · omega
      go_enter Tryd.func63, Tryd.ntmps63
      go_wp2_with fail
      refine (HS.out _ (HI.out.below (HB1.out _)) (by simp; omega)).mono ?_
      rintro e w1 ⟨rfl, hb1⟩
      obtain ⟨c0, c1, c2, c3, c4, hg⟩ := box5 hb1
      have HBB := Lib.hid (And.intro ((HW1.out _).trans (hb1.mono (by simp))) ((HB1.out _).trans (hb1.mono (by simp; omega))))
      clear hb1
      obtain ⟨kb, ko, kc, k0, kg, kh, kk⟩ := HKw.out.below HBB.out.1
      have k1 : w1.cell? ⟨kb, ko, none⟩ = some (.string (kwB 0)) := kk 0 (by decide)
      clear kk
      have hc8 : ¬ (9223372036854775807 < 1 + (fmtB f).size) := by omega
      go_wp2
      have hs0 : (fun w' => Below w1.heap.size w1 w' ∧ w'.cell? ⟨w.heap.size, 0, none⟩ = some (.int .i64 0) ∧ w'.cell? ⟨w.heap.size, 1, none⟩ = some (.int .i64 f) ∧ w'.cell? ⟨w.heap.size, 2, none⟩ = some (.int .i64 v) ∧ w'.cell? ⟨w.heap.size, 3, none⟩ = some (.slice LA Ln Lc) ∧ w'.cell? ⟨w.heap.size, 4, none⟩ = some (.slice PA Pn Pc) ∧ w'.cell? ⟨1, 0, none⟩ = some (.slice (some ⟨kb, ko, none⟩) 5 kc) ∧ w'.cell? ⟨kb, ko, none⟩ = some (.string (kwB 0))) w1.drew := ⟨(Below.refl _ _).drew, c0, c1, c2, c3, c4, k0, k1⟩
      refine wp_region_held (S := fun w' => Below w1.heap.size w1 w' ∧ w'.cell? ⟨w.heap.size, 0, none⟩ = some (.int .i64 0) ∧ w'.cell? ⟨w.heap.size, 1, none⟩ = some (.int .i64 f) ∧ w'.cell? ⟨w.heap.size, 2, none⟩ = some (.int .i64 v) ∧ w'.cell? ⟨w.heap.size, 3, none⟩ = some (.slice LA Ln Lc) ∧ w'.cell? ⟨w.heap.size, 4, none⟩ = some (.slice PA Pn Pc) ∧ w'.cell? ⟨1, 0, none⟩ = some (.slice (some ⟨kb, ko, none⟩) 5 kc) ∧ w'.cell? ⟨kb, ko, none⟩ = some (.string (kwB 0))) (by kernel_rfl) ?_
      change wpAnyH _ _ _ _ _ _ _ _ (World.drew _)
      refine takeY 7 (i := 0) (v := ?v0d) rfl rfl (by kernel_rfl) (by kernel_rfl) (by kernel_rfl) (fun _ _ _ h => h) (by kernel_rfl) ?y0d hs0 ?_
      case y0d =>
        intro w' hw'; (try dsimp only at hw'); obtain ⟨e0, e1, e2, e3, e4, e5, e6, e7⟩ := hw'; go_simp; try with_reducible rfl
      simp only [Act.put, List.setIfInBounds_toArray, List.set_cons_zero, List.set_cons_succ]
      refine takeY 8 (i := 1) (v := ?v1d) rfl rfl (by kernel_rfl) (by kernel_rfl) (by kernel_rfl) (fun _ _ _ h => h) (by kernel_rfl) ?y1d hs0 ?_
      case y1d =>
        intro w' hw'; (try dsimp only at hw'); obtain ⟨e0, e1, e2, e3, e4, e5, e6, e7⟩ := hw'; go_simp; try with_reducible rfl
      simp only [Act.put, List.setIfInBounds_toArray, List.set_cons_zero, List.set_cons_succ]
      refine takeY 9 (i := 2) (v := ?v2d) rfl rfl (by kernel_rfl) (by kernel_rfl) (by kernel_rfl) (fun _ _ _ h => h) (by kernel_rfl) ?y2d hs0 ?_
      case y2d =>
        intro w' hw'; (try dsimp only at hw'); obtain ⟨e0, e1, e2, e3, e4, e5, e6, e7⟩ := hw'; go_simp; try with_reducible rfl
      simp only [Act.put, List.setIfInBounds_toArray, List.set_cons_zero, List.set_cons_succ]
      refine takeY 10 (i := 3) (v := ?v3d) rfl rfl (by kernel_rfl) (by kernel_rfl) (by kernel_rfl) (fun _ _ _ h => h) (by kernel_rfl) ?y3d hs0 ?_
      case y3d =>
        intro w' hw'; (try dsimp only at hw'); obtain ⟨e0, e1, e2, e3, e4, e5, e6, e7⟩ := hw'; go_simp; try with_reducible rfl
      simp only [Act.put, List.setIfInBounds_toArray, List.set_cons_zero, List.set_cons_succ]
      refine takeY 11 (i := 4) (v := ?v4d) rfl rfl (by kernel_rfl) (by kernel_rfl) (by kernel_rfl) (fun _ _ _ h => h) (by kernel_rfl) ?y4d hs0 ?_
      case y4d =>
        intro w' hw'; (try dsimp only at hw'); obtain ⟨e0, e1, e2, e3, e4, e5, e6, e7⟩ := hw'; go_simp; try with_reducible rfl
      simp only [Act.put, List.setIfInBounds_toArray, List.set_cons_zero, List.set_cons_succ]
      refine takeY 12 (i := 5) (v := ?v5d) rfl rfl (by kernel_rfl) (by kernel_rfl) (by kernel_rfl) (fun _ _ _ h => h) (by kernel_rfl) ?y5d hs0 ?_
      case y5d =>
        intro w' hw'; (try dsimp only at hw'); obtain ⟨e0, e1, e2, e3, e4, e5, e6, e7⟩ := hw'; go_simp; try with_reducible rfl
      simp only [Act.put, List.setIfInBounds_toArray, List.set_cons_zero, List.set_cons_succ]
      refine takeY 13 (i := 6) (v := ?v6d) rfl rfl (by kernel_rfl) (by kernel_rfl) (by kernel_rfl) (fun _ _ _ h => h) (by kernel_rfl) ?y6d hs0 ?_
      case y6d =>
        intro w' hw'; (try dsimp only at hw'); obtain ⟨e0, e1, e2, e3, e4, e5, e6, e7⟩ := hw'; go_simp; try with_reducible rfl
      simp only [Act.put, List.setIfInBounds_toArray, List.set_cons_zero, List.set_cons_succ]
      refine wpAnyH_ready (rs := [7]) (by kernel_rfl) (by simp) ?_
      refine AllReadyH.cons rfl (fun K hK => ?_) AllReadyH.nil
      go_simp; go_at_call 41; refine (iFormat f hf1 hf2 _ (HPw.out.below HBB.out.1.drew)).mono ?_; rintro e w2 ⟨rfl, hz⟩; replace hz := (Below.refl w1.heap.size w1).drew.trans (hz.mono (Nat.le_refl _))
      refine hK.out _ _ ⟨hz, (hz.cell (p := ⟨w.heap.size, 0, none⟩) hg).trans c0, (hz.cell (p := ⟨w.heap.size, 1, none⟩) hg).trans c1, (hz.cell (p := ⟨w.heap.size, 2, none⟩) hg).trans c2, (hz.cell (p := ⟨w.heap.size, 3, none⟩) hg).trans c3, (hz.cell (p := ⟨w.heap.size, 4, none⟩) hg).trans c4, (hz.cell (p := ⟨1, 0, none⟩) kg).trans k0, (hz.cell (p := ⟨kb, ko, none⟩) kh).trans k1⟩ (fun hS1 => ?_)
      clear hK K
      try simp only [Act.put, List.setIfInBounds_toArray, List.set_cons_zero, List.set_cons_succ]
      refine takeY 15 (i := 8) (v := ?v8d) rfl rfl (by kernel_rfl) (by kernel_rfl) (by kernel_rfl) (fun _ _ _ h => h) (by kernel_rfl) ?y8d hS1 ?_
      case y8d =>
        intro w' hw'; (try dsimp only at hw'); obtain ⟨e0, e1, e2, e3, e4, e5, e6, e7⟩ := hw'; go_simp; try with_reducible rfl
      simp only [Act.put, List.setIfInBounds_toArray, List.set_cons_zero, List.set_cons_succ]
      refine wpAnyH_ready (rs := [9]) (by kernel_rfl) (by simp) ?_
      refine AllReadyH.cons rfl (fun K hK => ?_) AllReadyH.nil
      go_simp
      refine hK.out _ _ ⟨(hz.alloc hz.size _), ((hz.alloc hz.size _).cell (p := ⟨w.heap.size, 0, none⟩) hg).trans c0, ((hz.alloc hz.size _).cell (p := ⟨w.heap.size, 1, none⟩) hg).trans c1, ((hz.alloc hz.size _).cell (p := ⟨w.heap.size, 2, none⟩) hg).trans c2, ((hz.alloc hz.size _).cell (p := ⟨w.heap.size, 3, none⟩) hg).trans c3, ((hz.alloc hz.size _).cell (p := ⟨w.heap.size, 4, none⟩) hg).trans c4, ((hz.alloc hz.size _).cell (p := ⟨1, 0, none⟩) kg).trans k0, ((hz.alloc hz.size _).cell (p := ⟨kb, ko, none⟩) kh).trans k1⟩ (fun hS2 => ?_)
      clear hK K
      try simp only [Act.put, List.setIfInBounds_toArray, List.set_cons_zero, List.set_cons_succ]
      refine takeY 3 (i := 10) (v := ?v10d) rfl rfl (by kernel_rfl) (by kernel_rfl) (by kernel_rfl) (fun _ _ _ h => h) (by kernel_rfl) ?y10d hS2 ?_
      case y10d =>
        intro w' hw'; (try dsimp only at hw'); obtain ⟨e0, e1, e2, e3, e4, e5, e6, e7⟩ := hw'; go_simp; try with_reducible rfl
      simp only [Act.put, List.setIfInBounds_toArray, List.set_cons_zero, List.set_cons_succ]
      refine wpAnyH_done (by kernel_rfl) ?_ _
      have HZ := Lib.hid (below_on HBB.out.1 hz)
      have HZs := Lib.hid hz.size
      have HZ2 := Lib.hid (HBB.out.2.trans (hz.mono (Nat.le_trans hB HBB.out.1.size)))
      have hz5 := hz.alloc hz.size (.cells #[.string (kwB 0), .string (⟨#[102]⟩ ++ fmtB f : ByteArray)] 9)
      have d0 := (hz5.cell (p := ⟨w.heap.size, 0, none⟩) hg).trans c0
      have d2 := (hz5.cell (p := ⟨w.heap.size, 2, none⟩) hg).trans c2
      have d3 := (hz5.cell (p := ⟨w.heap.size, 3, none⟩) hg).trans c3
      have d4 := (hz5.cell (p := ⟨w.heap.size, 4, none⟩) hg).trans c4
      have HO := Lib.hid (OwnS.two w2 w1.heap.size hz.size (kwB 0) (⟨#[102]⟩ ++ fmtB f : ByteArray))
      have HY : Hid (Below w.heap.size w (w2.alloc (.cells #[.string (kwB 0), .string (⟨#[102]⟩ ++ fmtB f : ByteArray)] 9))) := Lib.hid (HZ.out.alloc HZ.out.size _)
      have HY2 : Hid (Below B w (w2.alloc (.cells #[.string (kwB 0), .string (⟨#[102]⟩ ++ fmtB f : ByteArray)] 9))) := Lib.hid (HZ2.out.alloc (Nat.le_trans hB HZ.out.size) _)
      clear hz hz5 hs0 hS1 c0 c1 c2 c3 c4 k0 k1 kg kh
      go_wp2_with fail
      refine (join_own _ w1.heap.size _ _ ⟨#[32]⟩ HO.out (by simp) (by simp) (words_len _ 5 hwl (by simp) (by decide))).mono ?_
      rintro e w3 ⟨rfl, hb3⟩
      have HB3 := Lib.hid (below_on HY.out hb3)
      clear hb3 d0 d2 d3 d4 hwl
      rw [words2 (k := 0) (v := v) (ls := ls) (ps := ps) rfl]
      go_wp2
      go_ret
      exact ⟨rfl, HB3.out⟩
    · clear hk hv ha ho
      have hwl : ∀ x ∈ [kwB 1, (⟨#[102]⟩ ++ fmtB f : ByteArray)], x.size ≤ 5 := by
        intro x hx
        simp only [List.mem_cons, List.not_mem_nil, or_false] at hx
        rcases hx with rfl | rfl
        · have := kwB_size 1; omega
        · omega
      go_enter Tryd.func63, Tryd.ntmps63
      go_wp2_with fail
      refine (HS.out _ (HI.out.below (HB1.out _)) (by simp; omega)).mono ?_
      rintro e w1 ⟨rfl, hb1⟩
      obtain ⟨c0, c1, c2, c3, c4, hg⟩ := box5 hb1
      have HBB := Lib.hid (And.intro ((HW1.out _).trans (hb1.mono (by simp))) ((HB1.out _).trans (hb1.mono (by simp; omega))))
      clear hb1
      obtain ⟨kb, ko, kc, k0, kg, kh, kk⟩ := HKw.out.below HBB.out.1
      have k1 : w1.cell? ⟨kb, ko + 1, none⟩ = some (.string (kwB 1)) := kk 1 (by decide)
      clear kk
      have hc8 : ¬ (9223372036854775807 < 1 + (fmtB f).size) := by omega
      go_wp2
      have hs0 : (fun w' => Below w1.heap.size w1 w' ∧ w'.cell? ⟨w.heap.size, 0, none⟩ = some (.int .i64 1) ∧ w'.cell? ⟨w.heap.size, 1, none⟩ = some (.int .i64 f) ∧ w'.cell? ⟨w.heap.size, 2, none⟩ = some (.int .i64 v) ∧ w'.cell? ⟨w.heap.size, 3, none⟩ = some (.slice LA Ln Lc) ∧ w'.cell? ⟨w.heap.size, 4, none⟩ = some (.slice PA Pn Pc) ∧ w'.cell? ⟨1, 0, none⟩ = some (.slice (some ⟨kb, ko, none⟩) 5 kc) ∧ w'.cell? ⟨kb, ko + 1, none⟩ = some (.string (kwB 1))) w1.drew := ⟨(Below.refl _ _).drew, c0, c1, c2, c3, c4, k0, k1⟩
      refine wp_region_held (S := fun w' => Below w1.heap.size w1 w' ∧ w'.cell? ⟨w.heap.size, 0, none⟩ = some (.int .i64 1) ∧ w'.cell? ⟨w.heap.size, 1, none⟩ = some (.int .i64 f) ∧ w'.cell? ⟨w.heap.size, 2, none⟩ = some (.int .i64 v) ∧ w'.cell? ⟨w.heap.size, 3, none⟩ = some (.slice LA Ln Lc) ∧ w'.cell? ⟨w.heap.size, 4, none⟩ = some (.slice PA Pn Pc) ∧ w'.cell? ⟨1, 0, none⟩ = some (.slice (some ⟨kb, ko, none⟩) 5 kc) ∧ w'.cell? ⟨kb, ko + 1, none⟩ = some (.string (kwB 1))) (by kernel_rfl) ?_
      change wpAnyH _ _ _ _ _ _ _ _ (World.drew _)
      refine takeY 7 (i := 0) (v := ?v0e) rfl rfl (by kernel_rfl) (by kernel_rfl) (by kernel_rfl) (fun _ _ _ h => h) (by kernel_rfl) ?y0e hs0 ?_
      case y0e =>
        intro w' hw'; (try dsimp only at hw'); obtain ⟨e0, e1, e2, e3, e4, e5, e6, e7⟩ := hw'; go_simp; try with_reducible rfl
      simp only [Act.put, List.setIfInBounds_toArray, List.set_cons_zero, List.set_cons_succ]
      refine takeY 8 (i := 1) (v := ?v1e) rfl rfl (by kernel_rfl) (by kernel_rfl) (by kernel_rfl) (fun _ _ _ h => h) (by kernel_rfl) ?y1e hs0 ?_
      case y1e =>
        intro w' hw'; (try dsimp only at hw'); obtain ⟨e0, e1, e2, e3, e4, e5, e6, e7⟩ := hw'; go_simp; try with_reducible rfl
      simp only [Act.put, List.setIfInBounds_toArray, List.set_cons_zero, List.set_cons_succ]
      refine takeY 9 (i := 2) (v := ?v2e) rfl rfl (by kernel_rfl) (by kernel_rfl) (by kernel_rfl) (fun _ _ _ h => h) (by kernel_rfl) ?y2e hs0 ?_
      case y2e =>
        intro w' hw'; (try dsimp only at hw'); obtain ⟨e0, e1, e2, e3, e4, e5, e6, e7⟩ := hw'; go_simp; try with_reducible rfl
      simp only [Act.put, List.setIfInBounds_toArray, List.set_cons_zero, List.set_cons_succ]
      refine takeY 10 (i := 3) (v := ?v3e) rfl rfl (by kernel_rfl) (by kernel_rfl) (by kernel_rfl) (fun _ _ _ h => h) (by kernel_rfl) ?y3e hs0 ?_
      case y3e =>
        intro w' hw'; (try dsimp only at hw'); obtain ⟨e0, e1, e2, e3, e4, e5, e6, e7⟩ := hw'; go_simp; try with_reducible rfl
      simp only [Act.put, List.setIfInBounds_toArray, List.set_cons_zero, List.set_cons_succ]
      refine takeY 11 (i := 4) (v := ?v4e) rfl rfl (by kernel_rfl) (by kernel_rfl) (by kernel_rfl) (fun _ _ _ h => h) (by kernel_rfl) ?y4e hs0 ?_
      case y4e =>
        intro w' hw'; (try dsimp only at hw'); obtain ⟨e0, e1, e2, e3, e4, e5, e6, e7⟩ := hw'; go_simp; try with_reducible rfl
      simp only [Act.put, List.setIfInBounds_toArray, List.set_cons_zero, List.set_cons_succ]
      refine takeY 12 (i := 5) (v := ?v5e) rfl rfl (by kernel_rfl) (by kernel_rfl) (by kernel_rfl) (fun _ _ _ h => h) (by kernel_rfl) ?y5e hs0 ?_
      case y5e =>
        intro w' hw'; (try dsimp only at hw'); obtain ⟨e0, e1, e2, e3, e4, e5, e6, e7⟩ := hw'; go_simp; try with_reducible rfl
      simp only [Act.put, List.setIfInBounds_toArray, List.set_cons_zero, List.set_cons_succ]
      refine takeY 13 (i := 6) (v := ?v6e) rfl rfl (by kernel_rfl) (by kernel_rfl) (by kernel_rfl) (fun _ _ _ h => h) (by kernel_rfl) ?y6e hs0 ?_
      case y6e =>
        intro w' hw'; (try dsimp only at hw'); obtain ⟨e0, e1, e2, e3, e4, e5, e6, e7⟩ := hw'; go_simp; try with_reducible rfl
      simp only [Act.put, List.setIfInBounds_toArray, List.set_cons_zero, List.set_cons_succ]
      refine wpAnyH_ready (rs := [7]) (by kernel_rfl) (by simp) ?_
      refine AllReadyH.cons rfl (fun K hK => ?_) AllReadyH.nil
      go_simp; go_at_call 41; refine (iFormat f hf1 hf2 _ (HPw.out.below HBB.out.1.drew)).mono ?_; rintro e w2 ⟨rfl, hz⟩; replace hz := (Below.refl w1.heap.size w1).drew.trans (hz.mono (Nat.le_refl _))
      refine hK.out _ _ ⟨hz, (hz.cell (p := ⟨w.heap.size, 0, none⟩) hg).trans c0, (hz.cell (p := ⟨w.heap.size, 1, none⟩) hg).trans c1, (hz.cell (p := ⟨w.heap.size, 2, none⟩) hg).trans c2, (hz.cell (p := ⟨w.heap.size, 3, none⟩) hg).trans c3, (hz.cell (p := ⟨w.heap.size, 4, none⟩) hg).trans c4, (hz.cell (p := ⟨1, 0, none⟩) kg).trans k0, (hz.cell (p := ⟨kb, ko + 1, none⟩) kh).trans k1⟩ (fun hS1 => ?_)
      clear hK K
      try simp only [Act.put, List.setIfInBounds_toArray, List.set_cons_zero, List.set_cons_succ]
      refine takeY 15 (i := 8) (v := ?v8e) rfl rfl (by kernel_rfl) (by kernel_rfl) (by kernel_rfl) (fun _ _ _ h => h) (by kernel_rfl) ?y8e hS1 ?_
      case y8e =>
        intro w' hw'; (try dsimp only at hw'); obtain ⟨e0, e1, e2, e3, e4, e5, e6, e7⟩ := hw'; go_simp; try with_reducible rfl
      simp only [Act.put, List.setIfInBounds_toArray, List.set_cons_zero, List.set_cons_succ]
      refine wpAnyH_ready (rs := [9]) (by kernel_rfl) (by simp) ?_
      refine AllReadyH.cons rfl (fun K hK => ?_) AllReadyH.nil
      go_simp
      refine hK.out _ _ ⟨(hz.alloc hz.size _), ((hz.alloc hz.size _).cell (p := ⟨w.heap.size, 0, none⟩) hg).trans c0, ((hz.alloc hz.size _).cell (p := ⟨w.heap.size, 1, none⟩) hg).trans c1, ((hz.alloc hz.size _).cell (p := ⟨w.heap.size, 2, none⟩) hg).trans c2, ((hz.alloc hz.size _).cell (p := ⟨w.heap.size, 3, none⟩) hg).trans c3, ((hz.alloc hz.size _).cell (p := ⟨w.heap.size, 4, none⟩) hg).trans c4, ((hz.alloc hz.size _).cell (p := ⟨1, 0, none⟩) kg).trans k0, ((hz.alloc hz.size _).cell (p := ⟨kb, ko + 1, none⟩) kh).trans k1⟩ (fun hS2 => ?_)
      clear hK K
      try simp only [Act.put, List.setIfInBounds_toArray, List.set_cons_zero, List.set_cons_succ]
      refine takeY 3 (i := 10) (v := ?v10e) rfl rfl (by kernel_rfl) (by kernel_rfl) (by kernel_rfl) (fun _ _ _ h => h) (by kernel_rfl) ?y10e hS2 ?_
      case y10e =>
        intro w' hw'; (try dsimp only at hw'); obtain ⟨e0, e1, e2, e3, e4, e5, e6, e7⟩ := hw'; go_simp; try with_reducible rfl
      simp only [Act.put, List.setIfInBounds_toArray, List.set_cons_zero, List.set_cons_succ]
      refine wpAnyH_done (by kernel_rfl) ?_ _
      have HZ := Lib.hid (below_on HBB.out.1 hz)
      have HZs := Lib.hid hz.size
      have HZ2 := Lib.hid (HBB.out.2.trans (hz.mono (Nat.le_trans hB HBB.out.1.size)))
      have hz5 := hz.alloc hz.size (.cells #[.string (kwB 1), .string (⟨#[102]⟩ ++ fmtB f : ByteArray)] 9)
      have d0 := (hz5.cell (p := ⟨w.heap.size, 0, none⟩) hg).trans c0
      have d2 := (hz5.cell (p := ⟨w.heap.size, 2, none⟩) hg).trans c2
      have d3 := (hz5.cell (p := ⟨w.heap.size, 3, none⟩) hg).trans c3
      have d4 := (hz5.cell (p := ⟨w.heap.size, 4, none⟩) hg).trans c4
      have HO := Lib.hid (OwnS.two w2 w1.heap.size hz.size (kwB 1) (⟨#[102]⟩ ++ fmtB f : ByteArray))
      have HY : Hid (Below w.heap.size w (w2.alloc (.cells #[.string (kwB 1), .string (⟨#[102]⟩ ++ fmtB f : ByteArray)] 9))) := Lib.hid (HZ.out.alloc HZ.out.size _)
      have HY2 : Hid (Below B w (w2.alloc (.cells #[.string (kwB 1), .string (⟨#[102]⟩ ++ fmtB f : ByteArray)] 9))) := Lib.hid (HZ2.out.alloc (Nat.le_trans hB HZ.out.size) _)
      clear hz hz5 hs0 hS1 c0 c1 c2 c3 c4 k0 k1 kg kh
      go_wp2_with fail
      refine (join_own _ w1.heap.size _ _ ⟨#[32]⟩ HO.out (by simp) (by simp) (words_len _ 5 hwl (by simp) (by decide))).mono ?_
      rintro e w3 ⟨rfl, hb3⟩
      have HB3 := Lib.hid (below_on HY.out hb3)
      clear hb3 d0 d2 d3 d4 hwl
      rw [words2 (k := 1) (v := v) (ls := ls) (ps := ps) rfl]
      go_wp2
      go_ret
      exact ⟨rfl, HB3.out⟩
    · obtain ⟨v0, v9⟩ := hv rfl
      clear hk hv ha ho
      have hfv : (fmtB v).size ≤ 2 := fmt_R' ⟨v0, v9⟩
      have hwl : ∀ x ∈ [kwB 2, (⟨#[102]⟩ ++ fmtB f : ByteArray), fmtB v], x.size ≤ 5 := by
        intro x hx
        simp only [List.mem_cons, List.not_mem_nil, or_false] at hx
        rcases hx with rfl | rfl | rfl
        · have := kwB_size 2; omega
        · omega
        · omega
      go_enter Tryd.func63, Tryd.ntmps63
      go_wp2_with fail
      refine (HS.out _ (HI.out.below (HB1.out _)) (by simp; omega)).mono ?_
      rintro e w1 ⟨rfl, hb1⟩
      obtain ⟨c0, c1, c2, c3, c4, hg⟩ := box5 hb1
      have HBB := Lib.hid (And.intro ((HW1.out _).trans (hb1.mono (by simp))) ((HB1.out _).trans (hb1.mono (by simp; omega))))
      clear hb1
      obtain ⟨kb, ko, kc, k0, kg, kh, kk⟩ := HKw.out.below HBB.out.1
      have k1 : w1.cell? ⟨kb, ko + 2, none⟩ = some (.string (kwB 2)) := kk 2 (by decide)
      clear kk
      have hc8 : ¬ (9223372036854775807 < 1 + (fmtB f).size) := by omega
      go_wp2
      have hs0 : (fun w' => Below w1.heap.size w1 w' ∧ w'.cell? ⟨w.heap.size, 0, none⟩ = some (.int .i64 2) ∧ w'.cell? ⟨w.heap.size, 1, none⟩ = some (.int .i64 f) ∧ w'.cell? ⟨w.heap.size, 2, none⟩ = some (.int .i64 v) ∧ w'.cell? ⟨w.heap.size, 3, none⟩ = some (.slice LA Ln Lc) ∧ w'.cell? ⟨w.heap.size, 4, none⟩ = some (.slice PA Pn Pc) ∧ w'.cell? ⟨1, 0, none⟩ = some (.slice (some ⟨kb, ko, none⟩) 5 kc) ∧ w'.cell? ⟨kb, ko + 2, none⟩ = some (.string (kwB 2))) w1.drew := ⟨(Below.refl _ _).drew, c0, c1, c2, c3, c4, k0, k1⟩
      refine wp_region_held (S := fun w' => Below w1.heap.size w1 w' ∧ w'.cell? ⟨w.heap.size, 0, none⟩ = some (.int .i64 2) ∧ w'.cell? ⟨w.heap.size, 1, none⟩ = some (.int .i64 f) ∧ w'.cell? ⟨w.heap.size, 2, none⟩ = some (.int .i64 v) ∧ w'.cell? ⟨w.heap.size, 3, none⟩ = some (.slice LA Ln Lc) ∧ w'.cell? ⟨w.heap.size, 4, none⟩ = some (.slice PA Pn Pc) ∧ w'.cell? ⟨1, 0, none⟩ = some (.slice (some ⟨kb, ko, none⟩) 5 kc) ∧ w'.cell? ⟨kb, ko + 2, none⟩ = some (.string (kwB 2))) (by kernel_rfl) ?_
      change wpAnyH _ _ _ _ _ _ _ _ (World.drew _)
      refine takeY 7 (i := 0) (v := ?v0a) rfl rfl (by kernel_rfl) (by kernel_rfl) (by kernel_rfl) (fun _ _ _ h => h) (by kernel_rfl) ?y0a hs0 ?_
      case y0a =>
        intro w' hw'; (try dsimp only at hw'); obtain ⟨e0, e1, e2, e3, e4, e5, e6, e7⟩ := hw'; go_simp; try with_reducible rfl
      simp only [Act.put, List.setIfInBounds_toArray, List.set_cons_zero, List.set_cons_succ]
      refine takeY 8 (i := 1) (v := ?v1a) rfl rfl (by kernel_rfl) (by kernel_rfl) (by kernel_rfl) (fun _ _ _ h => h) (by kernel_rfl) ?y1a hs0 ?_
      case y1a =>
        intro w' hw'; (try dsimp only at hw'); obtain ⟨e0, e1, e2, e3, e4, e5, e6, e7⟩ := hw'; go_simp; try with_reducible rfl
      simp only [Act.put, List.setIfInBounds_toArray, List.set_cons_zero, List.set_cons_succ]
      refine takeY 9 (i := 2) (v := ?v2a) rfl rfl (by kernel_rfl) (by kernel_rfl) (by kernel_rfl) (fun _ _ _ h => h) (by kernel_rfl) ?y2a hs0 ?_
      case y2a =>
        intro w' hw'; (try dsimp only at hw'); obtain ⟨e0, e1, e2, e3, e4, e5, e6, e7⟩ := hw'; go_simp; try with_reducible rfl
      simp only [Act.put, List.setIfInBounds_toArray, List.set_cons_zero, List.set_cons_succ]
      refine takeY 10 (i := 3) (v := ?v3a) rfl rfl (by kernel_rfl) (by kernel_rfl) (by kernel_rfl) (fun _ _ _ h => h) (by kernel_rfl) ?y3a hs0 ?_
      case y3a =>
        intro w' hw'; (try dsimp only at hw'); obtain ⟨e0, e1, e2, e3, e4, e5, e6, e7⟩ := hw'; go_simp; try with_reducible rfl
      simp only [Act.put, List.setIfInBounds_toArray, List.set_cons_zero, List.set_cons_succ]
      refine takeY 11 (i := 4) (v := ?v4a) rfl rfl (by kernel_rfl) (by kernel_rfl) (by kernel_rfl) (fun _ _ _ h => h) (by kernel_rfl) ?y4a hs0 ?_
      case y4a =>
        intro w' hw'; (try dsimp only at hw'); obtain ⟨e0, e1, e2, e3, e4, e5, e6, e7⟩ := hw'; go_simp; try with_reducible rfl
      simp only [Act.put, List.setIfInBounds_toArray, List.set_cons_zero, List.set_cons_succ]
      refine takeY 12 (i := 5) (v := ?v5a) rfl rfl (by kernel_rfl) (by kernel_rfl) (by kernel_rfl) (fun _ _ _ h => h) (by kernel_rfl) ?y5a hs0 ?_
      case y5a =>
        intro w' hw'; (try dsimp only at hw'); obtain ⟨e0, e1, e2, e3, e4, e5, e6, e7⟩ := hw'; go_simp; try with_reducible rfl
      simp only [Act.put, List.setIfInBounds_toArray, List.set_cons_zero, List.set_cons_succ]
      refine takeY 13 (i := 6) (v := ?v6a) rfl rfl (by kernel_rfl) (by kernel_rfl) (by kernel_rfl) (fun _ _ _ h => h) (by kernel_rfl) ?y6a hs0 ?_
      case y6a =>
        intro w' hw'; (try dsimp only at hw'); obtain ⟨e0, e1, e2, e3, e4, e5, e6, e7⟩ := hw'; go_simp; try with_reducible rfl
      simp only [Act.put, List.setIfInBounds_toArray, List.set_cons_zero, List.set_cons_succ]
      refine wpAnyH_ready (rs := [7]) (by kernel_rfl) (by simp) ?_
      refine AllReadyH.cons rfl (fun K hK => ?_) AllReadyH.nil
      go_simp; go_at_call 41; refine (iFormat f hf1 hf2 _ (HPw.out.below HBB.out.1.drew)).mono ?_; rintro e w2 ⟨rfl, hz⟩; replace hz := (Below.refl w1.heap.size w1).drew.trans (hz.mono (Nat.le_refl _))
      refine hK.out _ _ ⟨hz, (hz.cell (p := ⟨w.heap.size, 0, none⟩) hg).trans c0, (hz.cell (p := ⟨w.heap.size, 1, none⟩) hg).trans c1, (hz.cell (p := ⟨w.heap.size, 2, none⟩) hg).trans c2, (hz.cell (p := ⟨w.heap.size, 3, none⟩) hg).trans c3, (hz.cell (p := ⟨w.heap.size, 4, none⟩) hg).trans c4, (hz.cell (p := ⟨1, 0, none⟩) kg).trans k0, (hz.cell (p := ⟨kb, ko + 2, none⟩) kh).trans k1⟩ (fun hS1 => ?_)
      clear hK K
      try simp only [Act.put, List.setIfInBounds_toArray, List.set_cons_zero, List.set_cons_succ]
      refine takeY 15 (i := 8) (v := ?v8a) rfl rfl (by kernel_rfl) (by kernel_rfl) (by kernel_rfl) (fun _ _ _ h => h) (by kernel_rfl) ?y8a hS1 ?_
      case y8a =>
        intro w' hw'; (try dsimp only at hw'); obtain ⟨e0, e1, e2, e3, e4, e5, e6, e7⟩ := hw'; go_simp; try with_reducible rfl
      simp only [Act.put, List.setIfInBounds_toArray, List.set_cons_zero, List.set_cons_succ]
      refine wpAnyH_ready (rs := [9]) (by kernel_rfl) (by simp) ?_
      refine AllReadyH.cons rfl (fun K hK => ?_) AllReadyH.nil
      go_simp
      refine hK.out _ _ ⟨(hz.alloc hz.size _), ((hz.alloc hz.size _).cell (p := ⟨w.heap.size, 0, none⟩) hg).trans c0, ((hz.alloc hz.size _).cell (p := ⟨w.heap.size, 1, none⟩) hg).trans c1, ((hz.alloc hz.size _).cell (p := ⟨w.heap.size, 2, none⟩) hg).trans c2, ((hz.alloc hz.size _).cell (p := ⟨w.heap.size, 3, none⟩) hg).trans c3, ((hz.alloc hz.size _).cell (p := ⟨w.heap.size, 4, none⟩) hg).trans c4, ((hz.alloc hz.size _).cell (p := ⟨1, 0, none⟩) kg).trans k0, ((hz.alloc hz.size _).cell (p := ⟨kb, ko + 2, none⟩) kh).trans k1⟩ (fun hS2 => ?_)
      clear hK K
      try simp only [Act.put, List.setIfInBounds_toArray, List.set_cons_zero, List.set_cons_succ]
      refine takeY 3 (i := 10) (v := ?v10a) rfl rfl (by kernel_rfl) (by kernel_rfl) (by kernel_rfl) (fun _ _ _ h => h) (by kernel_rfl) ?y10a hS2 ?_
      case y10a =>
        intro w' hw'; (try dsimp only at hw'); obtain ⟨e0, e1, e2, e3, e4, e5, e6, e7⟩ := hw'; go_simp; try with_reducible rfl
      simp only [Act.put, List.setIfInBounds_toArray, List.set_cons_zero, List.set_cons_succ]
      refine wpAnyH_done (by kernel_rfl) ?_ _
      have HZ := Lib.hid (below_on HBB.out.1 hz)
      have HZs := Lib.hid hz.size
      have HZ2 := Lib.hid (HBB.out.2.trans (hz.mono (Nat.le_trans hB HBB.out.1.size)))
      have hz5 := hz.alloc hz.size (.cells #[.string (kwB 2), .string (⟨#[102]⟩ ++ fmtB f : ByteArray)] 9)
      have d0 := (hz5.cell (p := ⟨w.heap.size, 0, none⟩) hg).trans c0
      have d2 := (hz5.cell (p := ⟨w.heap.size, 2, none⟩) hg).trans c2
      have d3 := (hz5.cell (p := ⟨w.heap.size, 3, none⟩) hg).trans c3
      have d4 := (hz5.cell (p := ⟨w.heap.size, 4, none⟩) hg).trans c4
      have HO := Lib.hid (OwnS.two w2 w1.heap.size hz.size (kwB 2) (⟨#[102]⟩ ++ fmtB f : ByteArray))
      have HY : Hid (Below w.heap.size w (w2.alloc (.cells #[.string (kwB 2), .string (⟨#[102]⟩ ++ fmtB f : ByteArray)] 9))) := Lib.hid (HZ.out.alloc HZ.out.size _)
      have HY2 : Hid (Below B w (w2.alloc (.cells #[.string (kwB 2), .string (⟨#[102]⟩ ++ fmtB f : ByteArray)] 9))) := Lib.hid (HZ2.out.alloc (Nat.le_trans hB HZ.out.size) _)
      clear hz hz5 hs0 hS1 c0 c1 c2 c3 c4 k0 k1 kg kh
      go_wp2_with fail
      refine (iFormat v (by omega) (by omega) _ (HPw.out.below HY.out)).mono ?_
      rintro e w3 ⟨rfl, hb3⟩
      have HO3 := Lib.hid (OwnS.below HO.out hb3)
      have HB3 := Lib.hid (below_on HY.out hb3)
      have HS3 : Hid (w1.heap.size ≤ w3.heap.size) := Lib.hid (by have h1 := HZs.out; have h2 := hb3.size; simp at h2; omega)
      clear hb3 d0 d2 d3 d4
      go_wp2_with (at_builtin; refine wp_appS w3 (by rfl) (.tmp 21) (.tmp 25) (by rfl) w1.heap.size _ _ (by rfl) HO3.out _ [fmtB v] (by rfl) 1 1 rfl (by rfl) (by simp) HS3.out ?_)
      intro v1 w4 hown hb4
      have HO4 := Lib.hid hown
      have HB4 := Lib.hid (HB3.out.trans (hb4.mono HBB.out.1.size))
      clear hown hb4
      go_wp2_with fail
      refine (join_own w4 w1.heap.size _ _ ⟨#[32]⟩ HO4.out (by simp) (by simp) (words_len _ 5 hwl (by simp) (by decide))).mono ?_
      rintro e w5 ⟨rfl, hb5⟩
      have HB5 := Lib.hid (below_on HB4.out hb5)
      clear hb5 hwl
      rw [words3 (k := 2) (f := f) (v := v) (ls := ls) (ps := ps) (x := fmtB v) (by simp [restT, fmtB])]
      go_wp2
      go_ret
      exact ⟨rfl, HB5.out⟩
    · have hasc := ha rfl
      have HA := Lib.hid hasc.2.1
      have hln := HNN.out.1
      have hlen := HL.out.1
      have hT := intsT_len HA.out
      clear hk hv ha ho hasc
      have hsx : (⟨(intsT ls).toArray⟩ : ByteArray).size ≤ 3145728 := by
        show (intsT ls).toArray.size ≤ _
        rw [List.size_toArray]
        omega
      have hwl : ∀ x ∈ [kwB 3, (⟨#[102]⟩ ++ fmtB f : ByteArray), ⟨(intsT ls).toArray⟩], x.size ≤ 3145728 := by
        intro x hx
        simp only [List.mem_cons, List.not_mem_nil, or_false] at hx
        rcases hx with rfl | rfl | rfl
        · have := kwB_size 3; omega
        · omega
        · exact hsx
      go_enter Tryd.func63, Tryd.ntmps63
      go_wp2_with fail
      refine (HS.out _ (HI.out.below (HB1.out _)) (by simp; omega)).mono ?_
      rintro e w1 ⟨rfl, hb1⟩
      obtain ⟨c0, c1, c2, c3, c4, hg⟩ := box5 hb1
      have HBB := Lib.hid (And.intro ((HW1.out _).trans (hb1.mono (by simp))) ((HB1.out _).trans (hb1.mono (by simp; omega))))
      clear hb1
      obtain ⟨kb, ko, kc, k0, kg, kh, kk⟩ := HKw.out.below HBB.out.1
      have k1 : w1.cell? ⟨kb, ko + 3, none⟩ = some (.string (kwB 3)) := kk 3 (by decide)
      clear kk
      have hc8 : ¬ (9223372036854775807 < 1 + (fmtB f).size) := by omega
      go_wp2
      have hs0 : (fun w' => Below w1.heap.size w1 w' ∧ w'.cell? ⟨w.heap.size, 0, none⟩ = some (.int .i64 3) ∧ w'.cell? ⟨w.heap.size, 1, none⟩ = some (.int .i64 f) ∧ w'.cell? ⟨w.heap.size, 2, none⟩ = some (.int .i64 v) ∧ w'.cell? ⟨w.heap.size, 3, none⟩ = some (.slice LA Ln Lc) ∧ w'.cell? ⟨w.heap.size, 4, none⟩ = some (.slice PA Pn Pc) ∧ w'.cell? ⟨1, 0, none⟩ = some (.slice (some ⟨kb, ko, none⟩) 5 kc) ∧ w'.cell? ⟨kb, ko + 3, none⟩ = some (.string (kwB 3))) w1.drew := ⟨(Below.refl _ _).drew, c0, c1, c2, c3, c4, k0, k1⟩
      refine wp_region_held (S := fun w' => Below w1.heap.size w1 w' ∧ w'.cell? ⟨w.heap.size, 0, none⟩ = some (.int .i64 3) ∧ w'.cell? ⟨w.heap.size, 1, none⟩ = some (.int .i64 f) ∧ w'.cell? ⟨w.heap.size, 2, none⟩ = some (.int .i64 v) ∧ w'.cell? ⟨w.heap.size, 3, none⟩ = some (.slice LA Ln Lc) ∧ w'.cell? ⟨w.heap.size, 4, none⟩ = some (.slice PA Pn Pc) ∧ w'.cell? ⟨1, 0, none⟩ = some (.slice (some ⟨kb, ko, none⟩) 5 kc) ∧ w'.cell? ⟨kb, ko + 3, none⟩ = some (.string (kwB 3))) (by kernel_rfl) ?_
      change wpAnyH _ _ _ _ _ _ _ _ (World.drew _)
      refine takeY 7 (i := 0) (v := ?v0b) rfl rfl (by kernel_rfl) (by kernel_rfl) (by kernel_rfl) (fun _ _ _ h => h) (by kernel_rfl) ?y0b hs0 ?_
      case y0b =>
        intro w' hw'; (try dsimp only at hw'); obtain ⟨e0, e1, e2, e3, e4, e5, e6, e7⟩ := hw'; go_simp; try with_reducible rfl
      simp only [Act.put, List.setIfInBounds_toArray, List.set_cons_zero, List.set_cons_succ]
      refine takeY 8 (i := 1) (v := ?v1b) rfl rfl (by kernel_rfl) (by kernel_rfl) (by kernel_rfl) (fun _ _ _ h => h) (by kernel_rfl) ?y1b hs0 ?_
      case y1b =>
        intro w' hw'; (try dsimp only at hw'); obtain ⟨e0, e1, e2, e3, e4, e5, e6, e7⟩ := hw'; go_simp; try with_reducible rfl
      simp only [Act.put, List.setIfInBounds_toArray, List.set_cons_zero, List.set_cons_succ]
      refine takeY 9 (i := 2) (v := ?v2b) rfl rfl (by kernel_rfl) (by kernel_rfl) (by kernel_rfl) (fun _ _ _ h => h) (by kernel_rfl) ?y2b hs0 ?_
      case y2b =>
        intro w' hw'; (try dsimp only at hw'); obtain ⟨e0, e1, e2, e3, e4, e5, e6, e7⟩ := hw'; go_simp; try with_reducible rfl
      simp only [Act.put, List.setIfInBounds_toArray, List.set_cons_zero, List.set_cons_succ]
      refine takeY 10 (i := 3) (v := ?v3b) rfl rfl (by kernel_rfl) (by kernel_rfl) (by kernel_rfl) (fun _ _ _ h => h) (by kernel_rfl) ?y3b hs0 ?_
      case y3b =>
        intro w' hw'; (try dsimp only at hw'); obtain ⟨e0, e1, e2, e3, e4, e5, e6, e7⟩ := hw'; go_simp; try with_reducible rfl
      simp only [Act.put, List.setIfInBounds_toArray, List.set_cons_zero, List.set_cons_succ]
      refine takeY 11 (i := 4) (v := ?v4b) rfl rfl (by kernel_rfl) (by kernel_rfl) (by kernel_rfl) (fun _ _ _ h => h) (by kernel_rfl) ?y4b hs0 ?_
      case y4b =>
        intro w' hw'; (try dsimp only at hw'); obtain ⟨e0, e1, e2, e3, e4, e5, e6, e7⟩ := hw'; go_simp; try with_reducible rfl
      simp only [Act.put, List.setIfInBounds_toArray, List.set_cons_zero, List.set_cons_succ]
      refine takeY 12 (i := 5) (v := ?v5b) rfl rfl (by kernel_rfl) (by kernel_rfl) (by kernel_rfl) (fun _ _ _ h => h) (by kernel_rfl) ?y5b hs0 ?_
      case y5b =>
        intro w' hw'; (try dsimp only at hw'); obtain ⟨e0, e1, e2, e3, e4, e5, e6, e7⟩ := hw'; go_simp; try with_reducible rfl
      simp only [Act.put, List.setIfInBounds_toArray, List.set_cons_zero, List.set_cons_succ]
      refine takeY 13 (i := 6) (v := ?v6b) rfl rfl (by kernel_rfl) (by kernel_rfl) (by kernel_rfl) (fun _ _ _ h => h) (by kernel_rfl) ?y6b hs0 ?_
      case y6b =>
        intro w' hw'; (try dsimp only at hw'); obtain ⟨e0, e1, e2, e3, e4, e5, e6, e7⟩ := hw'; go_simp; try with_reducible rfl
      simp only [Act.put, List.setIfInBounds_toArray, List.set_cons_zero, List.set_cons_succ]
      refine wpAnyH_ready (rs := [7]) (by kernel_rfl) (by simp) ?_
      refine AllReadyH.cons rfl (fun K hK => ?_) AllReadyH.nil
      go_simp; go_at_call 41; refine (iFormat f hf1 hf2 _ (HPw.out.below HBB.out.1.drew)).mono ?_; rintro e w2 ⟨rfl, hz⟩; replace hz := (Below.refl w1.heap.size w1).drew.trans (hz.mono (Nat.le_refl _))
      refine hK.out _ _ ⟨hz, (hz.cell (p := ⟨w.heap.size, 0, none⟩) hg).trans c0, (hz.cell (p := ⟨w.heap.size, 1, none⟩) hg).trans c1, (hz.cell (p := ⟨w.heap.size, 2, none⟩) hg).trans c2, (hz.cell (p := ⟨w.heap.size, 3, none⟩) hg).trans c3, (hz.cell (p := ⟨w.heap.size, 4, none⟩) hg).trans c4, (hz.cell (p := ⟨1, 0, none⟩) kg).trans k0, (hz.cell (p := ⟨kb, ko + 3, none⟩) kh).trans k1⟩ (fun hS1 => ?_)
      clear hK K
      try simp only [Act.put, List.setIfInBounds_toArray, List.set_cons_zero, List.set_cons_succ]
      refine takeY 15 (i := 8) (v := ?v8b) rfl rfl (by kernel_rfl) (by kernel_rfl) (by kernel_rfl) (fun _ _ _ h => h) (by kernel_rfl) ?y8b hS1 ?_
      case y8b =>
        intro w' hw'; (try dsimp only at hw'); obtain ⟨e0, e1, e2, e3, e4, e5, e6, e7⟩ := hw'; go_simp; try with_reducible rfl
      simp only [Act.put, List.setIfInBounds_toArray, List.set_cons_zero, List.set_cons_succ]
      refine wpAnyH_ready (rs := [9]) (by kernel_rfl) (by simp) ?_
      refine AllReadyH.cons rfl (fun K hK => ?_) AllReadyH.nil
      go_simp
      refine hK.out _ _ ⟨(hz.alloc hz.size _), ((hz.alloc hz.size _).cell (p := ⟨w.heap.size, 0, none⟩) hg).trans c0, ((hz.alloc hz.size _).cell (p := ⟨w.heap.size, 1, none⟩) hg).trans c1, ((hz.alloc hz.size _).cell (p := ⟨w.heap.size, 2, none⟩) hg).trans c2, ((hz.alloc hz.size _).cell (p := ⟨w.heap.size, 3, none⟩) hg).trans c3, ((hz.alloc hz.size _).cell (p := ⟨w.heap.size, 4, none⟩) hg).trans c4, ((hz.alloc hz.size _).cell (p := ⟨1, 0, none⟩) kg).trans k0, ((hz.alloc hz.size _).cell (p := ⟨kb, ko + 3, none⟩) kh).trans k1⟩ (fun hS2 => ?_)
      clear hK K
      try simp only [Act.put, List.setIfInBounds_toArray, List.set_cons_zero, List.set_cons_succ]
      refine takeY 3 (i := 10) (v := ?v10b) rfl rfl (by kernel_rfl) (by kernel_rfl) (by kernel_rfl) (fun _ _ _ h => h) (by kernel_rfl) ?y10b hS2 ?_
      case y10b =>
        intro w' hw'; (try dsimp only at hw'); obtain ⟨e0, e1, e2, e3, e4, e5, e6, e7⟩ := hw'; go_simp; try with_reducible rfl
      simp only [Act.put, List.setIfInBounds_toArray, List.set_cons_zero, List.set_cons_succ]
      refine wpAnyH_done (by kernel_rfl) ?_ _
      have HZ := Lib.hid (below_on HBB.out.1 hz)
      have HZs := Lib.hid hz.size
      have HZ2 := Lib.hid (HBB.out.2.trans (hz.mono (Nat.le_trans hB HBB.out.1.size)))
      have hz5 := hz.alloc hz.size (.cells #[.string (kwB 3), .string (⟨#[102]⟩ ++ fmtB f : ByteArray)] 9)
      have d0 := (hz5.cell (p := ⟨w.heap.size, 0, none⟩) hg).trans c0
      have d2 := (hz5.cell (p := ⟨w.heap.size, 2, none⟩) hg).trans c2
      have d3 := (hz5.cell (p := ⟨w.heap.size, 3, none⟩) hg).trans c3
      have d4 := (hz5.cell (p := ⟨w.heap.size, 4, none⟩) hg).trans c4
      have HO := Lib.hid (OwnS.two w2 w1.heap.size hz.size (kwB 3) (⟨#[102]⟩ ++ fmtB f : ByteArray))
      have HY : Hid (Below w.heap.size w (w2.alloc (.cells #[.string (kwB 3), .string (⟨#[102]⟩ ++ fmtB f : ByteArray)] 9))) := Lib.hid (HZ.out.alloc HZ.out.size _)
      have HY2 : Hid (Below B w (w2.alloc (.cells #[.string (kwB 3), .string (⟨#[102]⟩ ++ fmtB f : ByteArray)] 9))) := Lib.hid (HZ2.out.alloc (Nat.le_trans hB HZ.out.size) _)
      clear hz hz5 hs0 hS1 c0 c1 c2 c3 c4 k0 k1 kg kh
      go_wp2_with fail
      refine (iInts _ B LA Ln Lc ls (HL.out.below HY2.out) (Nat.le_trans hB HY.out.size) HNN.out.1 HA.out (HPw.out.below HY.out)).mono ?_
      rintro e w3 ⟨rfl, hb3⟩
      have HO3 := Lib.hid (OwnS.below HO.out hb3)
      have HB3 := Lib.hid (below_on HY.out hb3)
      have HS3 : Hid (w1.heap.size ≤ w3.heap.size) := Lib.hid (by have h1 := HZs.out; have h2 := hb3.size; simp at h2; omega)
      clear hb3 d0 d2 d3 d4
      go_wp2_with (at_builtin; refine wp_appS w3 (by rfl) (.tmp 29) (.tmp 33) (by rfl) w1.heap.size _ _ (by rfl) HO3.out _ [⟨(intsT ls).toArray⟩] (by rfl) 1 1 rfl (by rfl) (by simp) HS3.out ?_)
      intro v1 w4 hown hb4
      have HO4 := Lib.hid hown
      have HB4 := Lib.hid (HB3.out.trans (hb4.mono HBB.out.1.size))
      clear hown hb4
      go_wp2_with fail
      refine (join_own w4 w1.heap.size _ _ ⟨#[32]⟩ HO4.out (by simp) (by simp) (words_len _ 3145728 hwl (by simp) (by decide))).mono ?_
      rintro e w5 ⟨rfl, hb5⟩
      have HB5 := Lib.hid (below_on HB4.out hb5)
      clear hb5 hwl
      rw [words3 (k := 3) (f := f) (v := v) (ls := ls) (ps := ps) (x := ⟨(intsT ls).toArray⟩) (by simp [restT])]
      go_wp2
      go_ret
      exact ⟨rfl, HB5.out⟩
    · have hok := ho rfl
      have HOk := Lib.hid hok
      have hT := pairsT_len hok
      clear hk hv ha ho hok
      have hsx : (fmtP ps true).size ≤ 60 := by
        show (pairsT ps).toArray.size ≤ _
        rw [List.size_toArray]
        omega
      have hwl : ∀ x ∈ [kwB 4, (⟨#[102]⟩ ++ fmtB f : ByteArray), fmtP ps true], x.size ≤ 60 := by
        intro x hx
        simp only [List.mem_cons, List.not_mem_nil, or_false] at hx
        rcases hx with rfl | rfl | rfl
        · have := kwB_size 4; omega
        · omega
        · exact hsx
      go_enter Tryd.func63, Tryd.ntmps63
      go_wp2_with fail
      refine (HS.out _ (HI.out.below (HB1.out _)) (by simp; omega)).mono ?_
      rintro e w1 ⟨rfl, hb1⟩
      obtain ⟨c0, c1, c2, c3, c4, hg⟩ := box5 hb1
      have HBB := Lib.hid (And.intro ((HW1.out _).trans (hb1.mono (by simp))) ((HB1.out _).trans (hb1.mono (by simp; omega))))
      clear hb1
      obtain ⟨kb, ko, kc, k0, kg, kh, kk⟩ := HKw.out.below HBB.out.1
      have k1 : w1.cell? ⟨kb, ko + 4, none⟩ = some (.string (kwB 4)) := kk 4 (by decide)
      clear kk
      have hc8 : ¬ (9223372036854775807 < 1 + (fmtB f).size) := by omega
      go_wp2
      have hs0 : (fun w' => Below w1.heap.size w1 w' ∧ w'.cell? ⟨w.heap.size, 0, none⟩ = some (.int .i64 4) ∧ w'.cell? ⟨w.heap.size, 1, none⟩ = some (.int .i64 f) ∧ w'.cell? ⟨w.heap.size, 2, none⟩ = some (.int .i64 v) ∧ w'.cell? ⟨w.heap.size, 3, none⟩ = some (.slice LA Ln Lc) ∧ w'.cell? ⟨w.heap.size, 4, none⟩ = some (.slice PA Pn Pc) ∧ w'.cell? ⟨1, 0, none⟩ = some (.slice (some ⟨kb, ko, none⟩) 5 kc) ∧ w'.cell? ⟨kb, ko + 4, none⟩ = some (.string (kwB 4))) w1.drew := ⟨(Below.refl _ _).drew, c0, c1, c2, c3, c4, k0, k1⟩
      refine wp_region_held (S := fun w' => Below w1.heap.size w1 w' ∧ w'.cell? ⟨w.heap.size, 0, none⟩ = some (.int .i64 4) ∧ w'.cell? ⟨w.heap.size, 1, none⟩ = some (.int .i64 f) ∧ w'.cell? ⟨w.heap.size, 2, none⟩ = some (.int .i64 v) ∧ w'.cell? ⟨w.heap.size, 3, none⟩ = some (.slice LA Ln Lc) ∧ w'.cell? ⟨w.heap.size, 4, none⟩ = some (.slice PA Pn Pc) ∧ w'.cell? ⟨1, 0, none⟩ = some (.slice (some ⟨kb, ko, none⟩) 5 kc) ∧ w'.cell? ⟨kb, ko + 4, none⟩ = some (.string (kwB 4))) (by kernel_rfl) ?_
      change wpAnyH _ _ _ _ _ _ _ _ (World.drew _)
      refine takeY 7 (i := 0) (v := ?v0c) rfl rfl (by kernel_rfl) (by kernel_rfl) (by kernel_rfl) (fun _ _ _ h => h) (by kernel_rfl) ?y0c hs0 ?_
      case y0c =>
        intro w' hw'; (try dsimp only at hw'); obtain ⟨e0, e1, e2, e3, e4, e5, e6, e7⟩ := hw'; go_simp; try with_reducible rfl
      simp only [Act.put, List.setIfInBounds_toArray, List.set_cons_zero, List.set_cons_succ]
      refine takeY 8 (i := 1) (v := ?v1c) rfl rfl (by kernel_rfl) (by kernel_rfl) (by kernel_rfl) (fun _ _ _ h => h) (by kernel_rfl) ?y1c hs0 ?_
      case y1c =>
        intro w' hw'; (try dsimp only at hw'); obtain ⟨e0, e1, e2, e3, e4, e5, e6, e7⟩ := hw'; go_simp; try with_reducible rfl
      simp only [Act.put, List.setIfInBounds_toArray, List.set_cons_zero, List.set_cons_succ]
      refine takeY 9 (i := 2) (v := ?v2c) rfl rfl (by kernel_rfl) (by kernel_rfl) (by kernel_rfl) (fun _ _ _ h => h) (by kernel_rfl) ?y2c hs0 ?_
      case y2c =>
        intro w' hw'; (try dsimp only at hw'); obtain ⟨e0, e1, e2, e3, e4, e5, e6, e7⟩ := hw'; go_simp; try with_reducible rfl
      simp only [Act.put, List.setIfInBounds_toArray, List.set_cons_zero, List.set_cons_succ]
      refine takeY 10 (i := 3) (v := ?v3c) rfl rfl (by kernel_rfl) (by kernel_rfl) (by kernel_rfl) (fun _ _ _ h => h) (by kernel_rfl) ?y3c hs0 ?_
      case y3c =>
        intro w' hw'; (try dsimp only at hw'); obtain ⟨e0, e1, e2, e3, e4, e5, e6, e7⟩ := hw'; go_simp; try with_reducible rfl
      simp only [Act.put, List.setIfInBounds_toArray, List.set_cons_zero, List.set_cons_succ]
      refine takeY 11 (i := 4) (v := ?v4c) rfl rfl (by kernel_rfl) (by kernel_rfl) (by kernel_rfl) (fun _ _ _ h => h) (by kernel_rfl) ?y4c hs0 ?_
      case y4c =>
        intro w' hw'; (try dsimp only at hw'); obtain ⟨e0, e1, e2, e3, e4, e5, e6, e7⟩ := hw'; go_simp; try with_reducible rfl
      simp only [Act.put, List.setIfInBounds_toArray, List.set_cons_zero, List.set_cons_succ]
      refine takeY 12 (i := 5) (v := ?v5c) rfl rfl (by kernel_rfl) (by kernel_rfl) (by kernel_rfl) (fun _ _ _ h => h) (by kernel_rfl) ?y5c hs0 ?_
      case y5c =>
        intro w' hw'; (try dsimp only at hw'); obtain ⟨e0, e1, e2, e3, e4, e5, e6, e7⟩ := hw'; go_simp; try with_reducible rfl
      simp only [Act.put, List.setIfInBounds_toArray, List.set_cons_zero, List.set_cons_succ]
      refine takeY 13 (i := 6) (v := ?v6c) rfl rfl (by kernel_rfl) (by kernel_rfl) (by kernel_rfl) (fun _ _ _ h => h) (by kernel_rfl) ?y6c hs0 ?_
      case y6c =>
        intro w' hw'; (try dsimp only at hw'); obtain ⟨e0, e1, e2, e3, e4, e5, e6, e7⟩ := hw'; go_simp; try with_reducible rfl
      simp only [Act.put, List.setIfInBounds_toArray, List.set_cons_zero, List.set_cons_succ]
      refine wpAnyH_ready (rs := [7]) (by kernel_rfl) (by simp) ?_
      refine AllReadyH.cons rfl (fun K hK => ?_) AllReadyH.nil
      go_simp; go_at_call 41; refine (iFormat f hf1 hf2 _ (HPw.out.below HBB.out.1.drew)).mono ?_; rintro e w2 ⟨rfl, hz⟩; replace hz := (Below.refl w1.heap.size w1).drew.trans (hz.mono (Nat.le_refl _))
      refine hK.out _ _ ⟨hz, (hz.cell (p := ⟨w.heap.size, 0, none⟩) hg).trans c0, (hz.cell (p := ⟨w.heap.size, 1, none⟩) hg).trans c1, (hz.cell (p := ⟨w.heap.size, 2, none⟩) hg).trans c2, (hz.cell (p := ⟨w.heap.size, 3, none⟩) hg).trans c3, (hz.cell (p := ⟨w.heap.size, 4, none⟩) hg).trans c4, (hz.cell (p := ⟨1, 0, none⟩) kg).trans k0, (hz.cell (p := ⟨kb, ko + 4, none⟩) kh).trans k1⟩ (fun hS1 => ?_)
      clear hK K
      try simp only [Act.put, List.setIfInBounds_toArray, List.set_cons_zero, List.set_cons_succ]
      refine takeY 15 (i := 8) (v := ?v8c) rfl rfl (by kernel_rfl) (by kernel_rfl) (by kernel_rfl) (fun _ _ _ h => h) (by kernel_rfl) ?y8c hS1 ?_
      case y8c =>
        intro w' hw'; (try dsimp only at hw'); obtain ⟨e0, e1, e2, e3, e4, e5, e6, e7⟩ := hw'; go_simp; try with_reducible rfl
      simp only [Act.put, List.setIfInBounds_toArray, List.set_cons_zero, List.set_cons_succ]
      refine wpAnyH_ready (rs := [9]) (by kernel_rfl) (by simp) ?_
      refine AllReadyH.cons rfl (fun K hK => ?_) AllReadyH.nil
      go_simp
      refine hK.out _ _ ⟨(hz.alloc hz.size _), ((hz.alloc hz.size _).cell (p := ⟨w.heap.size, 0, none⟩) hg).trans c0, ((hz.alloc hz.size _).cell (p := ⟨w.heap.size, 1, none⟩) hg).trans c1, ((hz.alloc hz.size _).cell (p := ⟨w.heap.size, 2, none⟩) hg).trans c2, ((hz.alloc hz.size _).cell (p := ⟨w.heap.size, 3, none⟩) hg).trans c3, ((hz.alloc hz.size _).cell (p := ⟨w.heap.size, 4, none⟩) hg).trans c4, ((hz.alloc hz.size _).cell (p := ⟨1, 0, none⟩) kg).trans k0, ((hz.alloc hz.size _).cell (p := ⟨kb, ko + 4, none⟩) kh).trans k1⟩ (fun hS2 => ?_)
      clear hK K
      try simp only [Act.put, List.setIfInBounds_toArray, List.set_cons_zero, List.set_cons_succ]
      refine takeY 3 (i := 10) (v := ?v10c) rfl rfl (by kernel_rfl) (by kernel_rfl) (by kernel_rfl) (fun _ _ _ h => h) (by kernel_rfl) ?y10c hS2 ?_
      case y10c =>
        intro w' hw'; (try dsimp only at hw'); obtain ⟨e0, e1, e2, e3, e4, e5, e6, e7⟩ := hw'; go_simp; try with_reducible rfl
      simp only [Act.put, List.setIfInBounds_toArray, List.set_cons_zero, List.set_cons_succ]
      refine wpAnyH_done (by kernel_rfl) ?_ _
      have HZ := Lib.hid (below_on HBB.out.1 hz)
      have HZs := Lib.hid hz.size
      have HZ2 := Lib.hid (HBB.out.2.trans (hz.mono (Nat.le_trans hB HBB.out.1.size)))
      have hz5 := hz.alloc hz.size (.cells #[.string (kwB 4), .string (⟨#[102]⟩ ++ fmtB f : ByteArray)] 9)
      have d0 := (hz5.cell (p := ⟨w.heap.size, 0, none⟩) hg).trans c0
      have d2 := (hz5.cell (p := ⟨w.heap.size, 2, none⟩) hg).trans c2
      have d3 := (hz5.cell (p := ⟨w.heap.size, 3, none⟩) hg).trans c3
      have d4 := (hz5.cell (p := ⟨w.heap.size, 4, none⟩) hg).trans c4
      have HO := Lib.hid (OwnS.two w2 w1.heap.size hz.size (kwB 4) (⟨#[102]⟩ ++ fmtB f : ByteArray))
      have HY : Hid (Below w.heap.size w (w2.alloc (.cells #[.string (kwB 4), .string (⟨#[102]⟩ ++ fmtB f : ByteArray)] 9))) := Lib.hid (HZ.out.alloc HZ.out.size _)
      have HY2 : Hid (Below B w (w2.alloc (.cells #[.string (kwB 4), .string (⟨#[102]⟩ ++ fmtB f : ByteArray)] 9))) := Lib.hid (HZ2.out.alloc (Nat.le_trans hB HZ.out.size) _)
      clear hz hz5 hs0 hS1 c0 c1 c2 c3 c4 k0 k1 kg kh
      go_wp2_with fail
      refine (iFmtP _ B PA Pn Pc ps (HP.out.below HY2.out) (Nat.le_trans hB HY.out.size) HNN.out.2 true ⟨fun _ => HOk.out, fun _ => rfl⟩ (HPw.out.below HY.out)).mono ?_
      rintro e w3 ⟨rfl, hb3⟩
      have HO3 := Lib.hid (OwnS.below HO.out hb3)
      have HB3 := Lib.hid (below_on HY.out hb3)
      have HS3 : Hid (w1.heap.size ≤ w3.heap.size) := Lib.hid (by have h1 := HZs.out; have h2 := hb3.size; simp at h2; omega)
      clear hb3 d0 d2 d3 d4
      go_wp2_with (at_builtin; refine wp_appS w3 (by rfl) (.tmp 37) (.tmp 41) (by rfl) w1.heap.size _ _ (by rfl) HO3.out _ [fmtP ps true] (by rfl) 1 1 rfl (by rfl) (by simp) HS3.out ?_)
      intro v1 w4 hown hb4
      have HO4 := Lib.hid hown
      have HB4 := Lib.hid (HB3.out.trans (hb4.mono HBB.out.1.size))
      clear hown hb4
      go_wp2_with fail
      refine (join_own w4 w1.heap.size _ _ ⟨#[32]⟩ HO4.out (by simp) (by simp) (words_len _ 60 hwl (by simp) (by decide))).mono ?_
      rintro e w5 ⟨rfl, hb5⟩
      have HB5 := Lib.hid (below_on HB4.out hb5)
      clear hb5 hwl
      rw [words3 (k := 4) (f := f) (v := v) (ls := ls) (ps := ps) (x := fmtP ps true) (by simp [restT, fmtP])]
      go_wp2
      go_ret
      exact ⟨rfl, HB5.out⟩
end Go.Proofs.YtghekfigfjhkeaaDoor.num
namespace Go.Proofs.YtghekfigfjhkeaaDoor.num
open Go.RowKit
set_option linter.unusedSimpArgs false

theorem slEqual (w : World) (B : Nat) (A A' : Option Addr) (n n' c c' : Nat) (xs ys : List Int) (hx : Ints w B A n xs) (hy : Ints w B A' n' ys) (hn : n ≤ 1048576) (b : Bool) (hb : b = true ↔ xs = ys) :
    Calls Tryd.prog 108 #[.slice A n c, .slice A' n' c'] w fun e w' => e = .returned (.bool b) ∧ ∃ m, w' = w.drewN m := by
  have HX := Lib.hid hx
  have HY := Lib.hid hy
  by_cases hl : n = n'
  · subst hl
    have HB := Lib.hid hb
    clear hx hy hb
    go_enter Tryd.func108, Tryd.ntmps108
    go_wp2
    go_loopw [13] (fun i wr => ∃ k : Nat, k ≤ n ∧ i = .int .i64 k ∧ xs.take k = ys.take k ∧ ∃ m, wr = w.drewN m) (fun i _ => n - (intOf i).toNat)
    case atStart => exact ⟨0, Nat.zero_le _, rfl, rfl, 0, rfl⟩
    case round =>
      obtain ⟨k, hk, rfl, htake, m, rfl⟩ := hrel
      have HT := Lib.hid htake
      clear htake
      by_cases hlt : k < n
      · obtain ⟨b1, off1, rfl, hb1, hc1⟩ := HX.out.2 k hlt
        obtain ⟨b2, off2, rfl, hb2, hc2⟩ := HY.out.2 k hlt
        generalize hv1 : xs.getD k 0 = v1 at *
        generalize hv2 : ys.getD k 0 = v2 at *
        have HV1 := Lib.hid hv1
        have HV2 := Lib.hid hv2
        clear hv1 hv2
        have hlt' : (k : Int) < (n : Int) := by omega
        by_cases he : v1 = v2
        · subst he
          go_wp2
          go_quiet (fail)
          go_wp2
          go_roundw
          case rel => exact ⟨k + 1, by omega, by go_num, by rw [take_snoc_getD HX.out.1 hlt, take_snoc_getD HY.out.1 hlt, HT.out, HV1.out, HV2.out], _, rfl⟩
          case measure => simp [intOf]; omega
        · have hne : (v1 != v2) = true := by simpa using he
          have hxy : xs ≠ ys := ne_at (k := k) (by rw [HV1.out, HV2.out]; exact he)
          obtain rfl : b = false := by
            cases b
            · rfl
            · exact absurd (HB.out.1 rfl) hxy
          have HE := Lib.hid he
          clear he hxy
          go_wp2
          go_quiet (fail)
          go_wp2
          go_ret
          exact ⟨rfl, _, World.drewN_drewN _ _ _⟩
      · obtain rfl : k = n := by omega
        obtain rfl : b = true := HB.out.2 (by
          have h1 := HT.out
          rwa [List.take_of_length_le (by rw [HX.out.1]; exact Nat.le_refl _), List.take_of_length_le (by rw [HY.out.1]; exact Nat.le_refl _)] at h1)
        go_wp2
        go_ret
        exact ⟨rfl, _, rfl⟩
  · obtain rfl : b = false := by
      cases b
      · rfl
      · exact absurd (by rw [← hx.1, hb.1 rfl, hy.1]) hl
    clear hx hy hb
    go_enter Tryd.func108, Tryd.ntmps108
    go_wp2
    go_ret
    exact ⟨rfl, 0, rfl⟩

end Go.Proofs.YtghekfigfjhkeaaDoor.num
namespace Go.Proofs.YtghekfigfjhkeaaDoor.num
open Go.RowKit
set_option linter.unusedVariables false
set_option linter.unusedSimpArgs false

set_option maxRecDepth 20000 in
theorem pair_neq (w : World) (x1 y1 x2 y2 : Int) : (binOp .neq 82 (.agg #[.int .i64 x1, .int .i64 y1]) (.agg #[.int .i64 x2, .int .i64 y2])).run Tryd.prog w = .ok (.bool (!(x1 == x2 && y1 == y2))) w := by
  have hu := Tryd.underlying82
  by_cases h1 : x1 = x2
  · go_simp
    by_cases h2 : y1 = y2 <;> simp [h1, h2]
  · go_simp

set_option maxRecDepth 20000 in
theorem slEqualP (w : World) (B : Nat) (A A' : Option Addr) (n n' c c' : Nat) (ps qs : List (Int × Int)) (h1 : Pairs w B A n ps) (h2 : Pairs w B A' n' qs) (hn : n ≤ 1048576) (b : Bool) (hb : b = true ↔ ps = qs) :
    Calls Tryd.prog 109 #[.slice A n c, .slice A' n' c'] w fun e w' => e = .returned (.bool b) ∧ ∃ m, w' = w.drewN m := by
  have HX := Lib.hid h1
  have HY := Lib.hid h2
  by_cases hl : n = n'
  · subst hl
    have HBo := Lib.hid hb
    clear h1 h2 hb
    go_enter Tryd.func109, Tryd.ntmps109
    go_wp2
    go_loopw [13] (fun i wr => ∃ k : Nat, k ≤ n ∧ i = .int .i64 k ∧ ps.take k = qs.take k ∧ ∃ m, wr = w.drewN m) (fun i _ => n - (intOf i).toNat)
    case atStart => exact ⟨0, Nat.zero_le _, rfl, rfl, 0, rfl⟩
    case round =>
      obtain ⟨k, hk, rfl, htake, m, rfl⟩ := hrel
      have HT := Lib.hid htake
      clear htake
      by_cases hlt : k < n
      · obtain ⟨b1, off1, x1, y1, rfl, hb1, hat1, hc1, hd1⟩ := HX.out.at k hlt
        obtain ⟨b2, off2, x2, y2, rfl, hb2, hat2, hc2, hd2⟩ := HY.out.at k hlt
        have HA1 := Lib.hid hat1
        have HA2 := Lib.hid hat2
        have hlt' : (k : Int) < (n : Int) := by omega
        obtain ⟨q, hq⟩ : ∃ q : Bool, q = true ↔ (x1, y1) = (x2, y2) := bool_of _
        have HQ := Lib.hid hq
        have hne : ∀ w1, (binOp .neq 82 (.agg #[.int .i64 x1, .int .i64 y1]) (.agg #[.int .i64 x2, .int .i64 y2])).run Tryd.prog w1 = .ok (.bool (!q)) w1 := fun w1 => by
          rw [pair_neq]
          congr 2
          cases q
          · have : (x1 == x2 && y1 == y2) = false := by
              cases h : (x1 == x2 && y1 == y2)
              · rfl
              · simp at h; exact absurd (HQ.out.2 (by rw [h.1, h.2])) (by simp)
            rw [this]
          · have h := Prod.mk.inj (HQ.out.1 rfl)
            rw [h.1, h.2]; simp
        clear hat1 hat2 hq
        cases q
        · have HF := Lib.hid (ne_atP HA1.out HA2.out (fun e => by have := HQ.out.2 e; cases this))
          obtain rfl : b = false := by
            cases b
            · rfl
            · exact absurd (HBo.out.1 rfl) HF.out
          go_wp2
          go_quiet (fail)
          go_wp2
          go_ret
          exact ⟨rfl, _, World.drewN_drewN _ _ _⟩
        · have HD := Lib.hid (HQ.out.1 rfl)
          go_wp2
          go_quiet (fail)
          go_wp2
          go_roundw
          case rel => exact ⟨k + 1, by omega, by go_num, by rw [ptake_at HA1.out, ptake_at HA2.out, HT.out, HD.out], _, rfl⟩
          case measure => simp [intOf]; omega
      · obtain rfl : k = n := by omega
        obtain rfl : b = true := HBo.out.2 (by have := HT.out; rwa [ptake_all HX.out.1, ptake_all HY.out.1] at this)
        go_wp2
        go_ret
        exact ⟨rfl, _, rfl⟩
  · obtain rfl : b = false := by
      cases b
      · rfl
      · exact absurd (by rw [← h1.1, hb.1 rfl, h2.1]) hl
    clear h1 h2 hb
    go_enter Tryd.func109, Tryd.ntmps109
    go_wp2
    go_ret
    exact ⟨rfl, 0, rfl⟩

set_option maxRecDepth 20000 in
theorem iSameWish (w : World) (B : Nat) (t t' : Wi) (h1 : WiIn w B t) (h2 : WiIn w B t') (hB : B ≤ w.heap.size) (hn : t.Short) (b : Bool) (hb : b = true ↔ t.dat = t'.dat) :
    Calls Tryd.prog 93 #[t.val, t'.val] w fun e w' => e = .returned (.bool b) ∧ Below w.heap.size w w' := by
  obtain ⟨k, f, v, LA, Ln, Lc, ls, PA, Pn, Pc, ps⟩ := t
  obtain ⟨k', f', v', LA', Ln', Lc', ls', PA', Pn', Pc', ps'⟩ := t'
  obtain ⟨-, -, -, hl, hp⟩ := h1
  obtain ⟨-, -, -, hl', hp'⟩ := h2
  unfold Wi.val
  simp only [Wi.dat, WD.mk.injEq, Wi.Short] at hl hp hl' hp' hn hb ⊢
  have HB2 : Hid (∀ o1 o2 : Obj, Below B w ((w.alloc o1).alloc o2)) := Lib.hid fun o1 o2 => ((Below.refl B w).alloc hB _).alloc (by simp; omega) _
  have HW2 : Hid (∀ o1 o2 : Obj, Below w.heap.size w ((w.alloc o1).alloc o2)) := Lib.hid fun o1 o2 => ((Below.refl _ w).alloc (Nat.le_refl _) _).alloc (by simp) _
  obtain ⟨q1, hq1⟩ := bool_of (ls = ls')
  obtain ⟨q2, hq2⟩ := bool_of (ps = ps')
  have HI : Hid (∀ w1, Below B w w1 → Calls Tryd.prog 108 #[.slice LA Ln Lc, .slice LA' Ln' Lc'] w1 fun e w' => e = .returned (.bool q1) ∧ ∃ m, w' = w1.drewN m) := Lib.hid fun w1 h => slEqual w1 B LA LA' Ln Ln' Lc Lc' ls ls' (hl.below h) (hl'.below h) hn.1 q1 hq1
  have HP : Hid (∀ w1, Below B w w1 → Calls Tryd.prog 109 #[.slice PA Pn Pc, .slice PA' Pn' Pc'] w1 fun e w' => e = .returned (.bool q2) ∧ ∃ m, w' = w1.drewN m) := Lib.hid fun w1 h => slEqualP w1 B PA PA' Pn Pn' Pc Pc' ps ps' (hp.below h) (hp'.below h) hn.2 q2 hq2
  have HNo : Hid (¬ (k = k' ∧ f = f' ∧ v = v' ∧ q1 = true ∧ q2 = true) → b = false) := Lib.hid fun h => by
    cases b
    · rfl
    · obtain ⟨e1, e2, e3, e4, e5⟩ := hb.1 rfl
      exact absurd ⟨e1, e2, e3, hq1.2 e4, hq2.2 e5⟩ h
  have HYes : Hid (k = k' → f = f' → v = v' → q1 = true → q2 = true → b = true) := Lib.hid fun e1 e2 e3 e4 e5 => hb.2 ⟨e1, e2, e3, hq1.1 e4, hq2.1 e5⟩
  clear hl hp hl' hp' hb hq1 hq2 hn
  by_cases e1 : k = k'
  · by_cases e2 : f = f'
    · by_cases e3 : v = v'
      · cases q1
        · obtain rfl := HNo.out fun h => by have := h.2.2.2.1; cases this
          subst e1 e2 e3
          go_enter Tryd.func93, Tryd.ntmps93
          go_wp2_with fail
          refine (HI.out _ (HB2.out _ _)).mono ?_
          rintro e w1 ⟨rfl, m1, rfl⟩
          go_wp2
          go_ret
          exact ⟨rfl, below_drewN (HW2.out _ _) _⟩
        · have HR : Hid (b = q2) := Lib.hid (by
            cases q2
            · exact HNo.out fun h => by have := h.2.2.2.2; cases this
            · exact HYes.out e1 e2 e3 rfl rfl)
          obtain rfl := HR.out
          subst e1 e2 e3
          go_enter Tryd.func93, Tryd.ntmps93
          go_wp2_with fail
          refine (HI.out _ (HB2.out _ _)).mono ?_
          rintro e w1 ⟨rfl, m1, rfl⟩
          go_wp2_with fail
          refine (HP.out _ (below_drewN (HB2.out _ _) _)).mono ?_
          rintro e w1 ⟨rfl, m2, rfl⟩
          go_wp2
          go_ret
          exact ⟨rfl, below_drewN (HW2.out _ _) _⟩
      · obtain rfl := HNo.out fun h => e3 h.2.2.1
        subst e1 e2
        have hne : (v == v') = false := by simpa using e3
        go_enter Tryd.func93, Tryd.ntmps93
        go_wp2
        go_ret
        exact ⟨rfl, HW2.out _ _⟩
    · obtain rfl := HNo.out fun h => e2 h.2.1
      subst e1
      have hne : (f == f') = false := by simpa using e2
      go_enter Tryd.func93, Tryd.ntmps93
      go_wp2
      go_ret
      exact ⟨rfl, HW2.out _ _⟩
  · obtain rfl := HNo.out fun h => e1 h.1
    have hne : (k == k') = false := by simpa using e1
    go_enter Tryd.func93, Tryd.ntmps93
    go_wp2
    go_ret
    exact ⟨rfl, HW2.out _ _⟩

end Go.Proofs.YtghekfigfjhkeaaDoor.num
namespace Go.Proofs.YtghekfigfjhkeaaDoor.num
open Go.RowKit Go.Maps
set_option linter.unusedVariables false
set_option linter.unusedSimpArgs false

/-- The tree t lies at block p, all its own memory from block lo on; its wishes' slices below block B. -/
def PartAt (w : World) (B lo : Nat) : Tr → Nat → Prop
  | .base d, p => lo ≤ p ∧ p < w.heap.size ∧ w.cell? ⟨p, 0, none⟩ = some (.int .i64 0) ∧ ∃ (t : Wi) (v : Value), t.dat = d ∧ t.Short ∧ WiIn w B t ∧ IsW d ∧ w.cell? ⟨p, 2, none⟩ = some (.int .i64 t.field) ∧ w.cell? ⟨p, 6, none⟩ = some v ∧ TasteFrom w lo t v
  | .dual a, p => lo ≤ p ∧ p < w.heap.size ∧ w.cell? ⟨p, 0, none⟩ = some (.int .i64 3) ∧ ∃ q, w.cell? ⟨p, 7, none⟩ = some (.pointer (some ⟨q, 0, none⟩)) ∧ PartAt w B lo a q
  | .bin op a b, p => lo ≤ p ∧ p < w.heap.size ∧ w.cell? ⟨p, 0, none⟩ = some (.int .i64 op) ∧ Bin op ∧ (∃ q, w.cell? ⟨p, 7, none⟩ = some (.pointer (some ⟨q, 0, none⟩)) ∧ PartAt w B lo a q) ∧ ∃ q, w.cell? ⟨p, 8, none⟩ = some (.pointer (some ⟨q, 0, none⟩)) ∧ PartAt w B lo b q
theorem WiIn.blocks {w w' : World} {B : Nat} {t : Wi} (h : WiIn w B t) (hb : ∀ k, k < B → w'.heap[k]? = w.heap[k]?) : WiIn w' B t :=
  ⟨h.k, h.f, h.v, ⟨h.l.1, fun k hk => by
    obtain ⟨b, off, ha, hB, hc⟩ := h.l.2 k hk
    exact ⟨b, off, ha, hB, (World.cell?_of_block (a := ⟨b, off + k, none⟩) (hb b hB)).trans hc⟩⟩, ⟨h.p.1, fun k p hk => by
    obtain ⟨b, off, ha, hB, h1, h2⟩ := h.p.2 k p hk
    exact ⟨b, off, ha, hB, (World.cell?_of_block (a := ⟨b, off + k * 2, none⟩) (hb b hB)).trans h1, (World.cell?_of_block (a := ⟨b, off + k * 2 + 1, none⟩) (hb b hB)).trans h2⟩⟩⟩
theorem PartAt.kept {w w' : World} {B lo : Nat} (hsz : w.heap.size ≤ w'.heap.size) (hb : ∀ k, k < B ∨ (lo ≤ k ∧ k < w.heap.size) → w'.heap[k]? = w.heap[k]?) : ∀ {t : Tr} {p : Nat}, PartAt w B lo t p → PartAt w' B lo t p
  | .base d, p, ⟨h0, h1, h2, t, v, h3, h4, h5, h6, h7, h8, h9⟩ => by
    have e := hb p (.inr ⟨h0, h1⟩)
    exact ⟨h0, Nat.lt_of_lt_of_le h1 hsz, (World.cell?_of_block (a := ⟨p, 0, none⟩) e).trans h2, t, v, h3, h4, h5.blocks fun k hk => hb k (.inl hk), h6, (World.cell?_of_block (a := ⟨p, 2, none⟩) e).trans h7, (World.cell?_of_block (a := ⟨p, 6, none⟩) e).trans h8, h9.kept fun k h1 h2 => hb k (.inr ⟨h1, h2⟩)⟩
  | .dual a, p, ⟨h0, h1, h2, q, h3, h4⟩ => by
    have e := hb p (.inr ⟨h0, h1⟩)
    exact ⟨h0, Nat.lt_of_lt_of_le h1 hsz, (World.cell?_of_block (a := ⟨p, 0, none⟩) e).trans h2, q, (World.cell?_of_block (a := ⟨p, 7, none⟩) e).trans h3, PartAt.kept hsz hb h4⟩
  | .bin op a b, p, ⟨h0, h1, h2, h', ⟨q, h3, h4⟩, ⟨r, h5, h6⟩⟩ => by
    have e := hb p (.inr ⟨h0, h1⟩)
    exact ⟨h0, Nat.lt_of_lt_of_le h1 hsz, (World.cell?_of_block (a := ⟨p, 0, none⟩) e).trans h2, h', ⟨q, (World.cell?_of_block (a := ⟨p, 7, none⟩) e).trans h3, PartAt.kept hsz hb h4⟩, ⟨r, (World.cell?_of_block (a := ⟨p, 8, none⟩) e).trans h5, PartAt.kept hsz hb h6⟩⟩
theorem PartAt.below {w w' : World} {B lo : Nat} (hB : B ≤ w.heap.size) (hb : Below w.heap.size w w') {t : Tr} {p : Nat} (h : PartAt w B lo t p) : PartAt w' B lo t p :=
  h.kept hb.size fun k hk => hb.block k (by rcases hk with hk | hk <;> omega)
theorem PartAt.low {w : World} {B lo lo' : Nat} (hl : lo' ≤ lo) : ∀ {t : Tr} {p : Nat}, PartAt w B lo t p → PartAt w B lo' t p
  | .base d, p, ⟨h0, h1, h2, t, v, h3, h4, h5, h6, h7, h8, h9⟩ => ⟨Nat.le_trans hl h0, h1, h2, t, v, h3, h4, h5, h6, h7, h8, h9.low hl⟩
  | .dual a, p, ⟨h0, h1, h2, q, h3, h4⟩ => ⟨Nat.le_trans hl h0, h1, h2, q, h3, PartAt.low hl h4⟩
  | .bin op a b, p, ⟨h0, h1, h2, h', ⟨q, h3, h4⟩, ⟨r, h5, h6⟩⟩ => ⟨Nat.le_trans hl h0, h1, h2, h', ⟨q, h3, PartAt.low hl h4⟩, ⟨r, h5, PartAt.low hl h6⟩⟩
theorem PartAt.set {w : World} {B lo : Nat} {t : Tr} {p g j : Nat} {v : Value} (h : PartAt w B lo t p) (h1 : B ≤ g) (h2 : g < lo) : PartAt (w.setCell ⟨g, j, none⟩ v) B lo t p :=
  h.kept (by simp) fun k hk => heap_setCell_other _ _ _ _ (by show k ≠ g; rcases hk with hk | hk <;> omega)
/-- What lastPart hands back of the slice (A, cap c) that holds nds. -/
def LastOut (B lo : Nat) (nds : List ND) (A : Option Addr) (c : Nat) (e : Ending) (w' : World) : Prop :=
  (∃ (t : Tr) (k p : Nat), LastP nds (some (t, k)) ∧ e = .returned (.tuple #[.pointer (some ⟨p, 0, none⟩), .slice A k c]) ∧ PartAt w' B lo t p) ∨ (LastP nds none ∧ e = .returned (.tuple #[.pointer none, .slice none 0 0]))
def zeroW : Wi := ⟨0, 0, 0, none, 0, 0, [], none, 0, 0, []⟩
theorem zeroW_in (w : World) (B : Nat) : WiIn w B zeroW := ⟨rfl, rfl, rfl, ⟨rfl, fun k hk => by cases hk⟩, ⟨rfl, fun k p hk => by simp [zeroW] at hk⟩⟩
theorem now_zero (t : Wi) : NoW t.dat ↔ t.dat = zeroW.dat := by
  constructor
  · intro ⟨h1, h2, h3, h4, h5⟩
    unfold Wi.dat zeroW at *
    simp only at h1 h2 h3 h4 h5
    rw [h1, h2, h3, h4, h5]
  · intro h
    rw [h]
    exact ⟨rfl, rfl, rfl, rfl, rfl⟩
theorem heap_set7 {w : World} {g : Nat} {T : TypeId} {v0 v1 v2 v3 v4 v5 v6 v7 v8 : Value} (h : w.heap[g]? = some (.cells #[v0, v1, v2, v3, v4, v5, v6, v7, v8] T (0, 0))) (u : Value) : (w.setCell ⟨g, 7, none⟩ u).heap[g]? = some (.cells #[v0, v1, v2, v3, v4, v5, v6, u, v8] T (0, 0)) := by
  have := heap_setCell_same w g 7 _ _ u h
  simpa using this
theorem heap_set8 {w : World} {g : Nat} {T : TypeId} {v0 v1 v2 v3 v4 v5 v6 v7 v8 : Value} (h : w.heap[g]? = some (.cells #[v0, v1, v2, v3, v4, v5, v6, v7, v8] T (0, 0))) (u : Value) : (w.setCell ⟨g, 8, none⟩ u).heap[g]? = some (.cells #[v0, v1, v2, v3, v4, v5, v6, v7, u] T (0, 0)) := by
  have := heap_setCell_same w g 8 _ _ u h
  simpa using this
theorem heap_set6 {w : World} {g : Nat} {T : TypeId} {v0 v1 v2 v3 v4 v5 v6 v7 v8 : Value} (h : w.heap[g]? = some (.cells #[v0, v1, v2, v3, v4, v5, v6, v7, v8] T (0, 0))) (u : Value) : (w.setCell ⟨g, 6, none⟩ u).heap[g]? = some (.cells #[v0, v1, v2, v3, v4, v5, u, v7, v8] T (0, 0)) := by
  have := heap_setCell_same w g 6 _ _ u h
  simpa using this

theorem iLast0 (B lo : Nat) (A : Option Addr) (c c' : Nat) (A' : Option Addr) (w : World) :
    Calls Tryd.prog 79 #[.slice A 0 c] w fun e w' => e = .returned (.tuple #[.pointer none, .slice none 0 0]) ∧ w' = w := by
  go_enter Tryd.func79, Tryd.ntmps79
  go_wp2
  go_ret2
  exact ⟨rfl, rfl⟩
set_option maxRecDepth 20000 in
set_option maxHeartbeats 3200000 in
theorem iLast (B : Nat) (A : Option Addr) (c : Nat) (hc : c ≤ 9223372036854775807) : ∀ (n : Nat) (w : World) (ns : List Nd), Nodes w B A n ns → B ≤ w.heap.size → n ≤ c → ShortN ns →
    Calls Tryd.prog 79 #[.slice A n c] w fun e w' => LastOut B w.heap.size (datN ns) A c e w' ∧ Below w.heap.size w w' := by
  intro n
  induction n using Nat.strongRecOn with
  | _ n ih =>
    intro w ns hi hB hnc hN
    rcases Nat.eq_zero_or_pos n with h0 | h0
    · subst h0
      obtain rfl : ns = [] := List.eq_nil_of_length_eq_zero hi.len
      clear ih hi
      go_enter Tryd.func79, Tryd.ntmps79
      go_wp2
      go_ret2
      exact ⟨.inr ⟨lastP_nil, rfl⟩, Below.refl _ _⟩
    · obtain ⟨m, rfl⟩ : ∃ m, n = m + 1 := ⟨n - 1, by omega⟩
      obtain ⟨b, off, ⟨op, t⟩, rfl, hb, hat, hwf, g0, g1, g2, g3, g4, g5⟩ := hi.at m (by omega)
      have HIH : Hid (∀ (k : Nat) (w : World) (ns : List Nd), k ≤ m → Nodes w B (some ⟨b, off, none⟩) k ns → B ≤ w.heap.size → ShortN ns → Calls Tryd.prog 79 #[.slice (some ⟨b, off, none⟩) k c] w fun e w' => LastOut B w.heap.size (datN ns) (some ⟨b, off, none⟩) c e w' ∧ Below w.heap.size w w') := Lib.hid fun k w ns h1 h2 h3 h4 => ih k (by omega) w ns h2 h3 (by omega) h4
      have HM : Hid (Nodes w B (some ⟨b, off, none⟩) m (ns.take m)) := Lib.hid (hi.take (by omega))
      have HN : Hid (ShortN (ns.take m)) := Lib.hid fun x hx => hN x (List.mem_of_mem_take hx)
      have HWi := Lib.hid hwf.2
      have hE : datN ns = datN (ns.take m) ++ [⟨op, t.dat⟩] := by
        have h := datN_at hat
        rwa [ptake_all hi.len] at h
      have hL : (datN (ns.take m)).length = m := by unfold datN; rw [List.length_map, List.length_take, hi.len]; omega
      have HE := Lib.hid hE
      have HL := Lib.hid hL
      have HSh : Hid t.Short := Lib.hid (hN _ (List.mem_of_getElem? hat))
      dsimp only at g0 g1 g2 g3 g4 g5
      have hx1 : (m : Int) + 1 - 1 = (m : Int) := by omega
      have hx3 : ((m : Int) + 1 == 0) = false := by simp; omega
      have hm1 : (m : Int) < (m : Int) + 1 := by omega
      have hm2 : (m : Int) ≤ (c : Int) := by omega
      clear ih hi hN hwf hE hL hat
      have HW1 : Hid (∀ o : Obj, Below w.heap.size w (w.alloc o).drew) := Lib.hid fun o => ((Below.refl _ w).alloc (Nat.le_refl _) _).drew
      have hvw : t.val = .agg #[.int .i64 t.kind, .int .i64 t.field, .int .i64 t.value, .slice t.LA t.Ln t.Lc, .slice t.PA t.Pn t.Pc] := rfl
      by_cases e0 : op = 0
      · subst e0
        obtain ⟨q, hq⟩ := bool_of (IsW t.dat)
        have HC : Hid (∀ w1, Below w.heap.size w w1 → w.heap.size + 1 ≤ w1.heap.size → Calls Tryd.prog 92 #[.agg #[.int .i64 t.kind, .int .i64 t.field, .int .i64 t.value, .slice t.LA t.Ln t.Lc, .slice t.PA t.Pn t.Pc]] w1 fun e w' => (∃ v, e = .returned (.tuple #[v, .bool q]) ∧ (q = true → TasteFrom w' (w.heap.size + 1) t v) ∧ IfV v) ∧ Below w1.heap.size w1 w') := Lib.hid fun w1 h h' => by
          rw [← hvw]
          exact (taste_ofV w1 B t (HWi.out.below (h.mono hB)) (Nat.le_trans hB h.size) HSh.out q hq).mono fun _ _ ⟨⟨v, h1, h2, h3⟩, h4⟩ => ⟨⟨v, h1, fun h => (h2 h).low h', h3⟩, h4⟩
        have HQ := Lib.hid hq
        clear hq hvw
        go_enter Tryd.func79, Tryd.ntmps79
        go_wp2
        go_region
        go_wp2_with fail
        refine (HC.out _ (HW1.out _) (by simp)).mono ?_
        rintro e w1 ⟨⟨v, rfl, hv, hif⟩, hb1⟩
        have hp : w1.heap[w.heap.size]? = some (.cells #[.int .i64 0, .int .i64 t.kind, .int .i64 t.field, .int .i64 t.value, .slice t.LA t.Ln t.Lc, .slice t.PA t.Pn t.Pc, .nilIface, .pointer none, .pointer none] 132 (0, 0)) := (hb1.block _ (by simp)).trans (heap_alloc_new w _)
        have HP := Lib.hid hp
        have HB := Lib.hid (below_on (HW1.out _) hb1)
        have HS := Lib.hid (Nat.lt_of_lt_of_le (by simp) hb1.size : w.heap.size < w1.heap.size)
        have HV := Lib.hid hv
        have c6 : w1.cell? ⟨w.heap.size, 6, none⟩ = some (.nilIface) := cell_of_row w1 _ 6 _ _ (0, 0) hp
        have z6 : w1.frozen? ⟨w.heap.size, 6, none⟩ = false := frozen_of_row w1 _ 6 _ _ hp
        clear hp hb1 hv HC
        cases q
        · have HLp : Hid (LastP (datN ns) none) := Lib.hid (by rw [HE.out]; exact (lastP_base rfl).2 fun h => by have := HQ.out.2 h; cases this)
          have HBB : Hid (∀ u, Below w.heap.size w (w1.setCell ⟨w.heap.size, 6, none⟩ u)) := Lib.hid fun u => HB.out.setCell (Nat.le_refl _) u
          rcases hif with rfl | ⟨T, x, rfl⟩
          · go_wp2
            go_ret2
            exact ⟨.inr ⟨HLp.out, rfl⟩, HBB.out _⟩
          · go_wp2
            go_ret2
            exact ⟨.inr ⟨HLp.out, rfl⟩, HBB.out _⟩
        · have HW := Lib.hid (HQ.out.1 rfl)
          have HLp : Hid (LastP (datN ns) (some (.base t.dat, m))) := Lib.hid (by rw [HE.out]; have h := (lastP_base (l := datN (ns.take m)) (nd := ⟨0, t.dat⟩) rfl).1 HW.out; rwa [HL.out] at h)
          have HBB : Hid (∀ u, Below w.heap.size w (w1.setCell ⟨w.heap.size, 6, none⟩ u)) := Lib.hid fun u => HB.out.setCell (Nat.le_refl _) u
          have HF : Hid (PartAt (w1.setCell ⟨w.heap.size, 6, none⟩ v) B w.heap.size (.base t.dat) w.heap.size) := Lib.hid (by
            have hp := heap_set6 HP.out v
            refine ⟨Nat.le_refl _, by have := HS.out; simpa using this, cell_of_row _ _ 0 _ _ (0, 0) hp, t, v, rfl, HSh.out, HWi.out.below ((HBB.out v).mono hB), HW.out, cell_of_row _ _ 2 _ _ (0, 0) hp, cell_of_row _ _ 6 _ _ (0, 0) hp, ?_⟩
            rcases HV.out rfl with h | h | ⟨h, o, X, hX, e, a⟩
            · exact .inl h
            · exact .inr (.inl h)
            · refine .inr (.inr ⟨h, o, X, by omega, e, a.kept fun k h1 h2 => heap_setCell_other _ _ _ _ ?_⟩)
              show k ≠ w.heap.size
              omega)
          rcases hif with rfl | ⟨T, x, rfl⟩
          · go_wp2
            go_ret2
            exact ⟨.inl ⟨_, _, _, HLp.out, rfl, HF.out⟩, HBB.out _⟩
          · go_wp2
            go_ret2
            exact ⟨.inl ⟨_, _, _, HLp.out, rfl, HF.out⟩, HBB.out _⟩
      · by_cases e3 : op = 3
        · subst e3
          clear e0
          have hzw : zeroW.val = .agg #[.int .i64 0, .int .i64 0, .int .i64 0, .slice none 0 0, .slice none 0 0] := rfl
          obtain ⟨q, hq⟩ := bool_of (NoW t.dat)
          have HC : Hid (∀ w1, Below w.heap.size w w1 → Calls Tryd.prog 93 #[.agg #[.int .i64 t.kind, .int .i64 t.field, .int .i64 t.value, .slice t.LA t.Ln t.Lc, .slice t.PA t.Pn t.Pc], .agg #[.int .i64 0, .int .i64 0, .int .i64 0, .slice none 0 0, .slice none 0 0]] w1 fun e w' => e = .returned (.bool q) ∧ Below w1.heap.size w1 w') := Lib.hid fun w1 h => by
            rw [← hvw, ← hzw]
            exact iSameWish w1 B t zeroW (HWi.out.below (h.mono hB)) (zeroW_in _ _) (Nat.le_trans hB h.size) HSh.out q (by rw [hq, now_zero])
          have HQ := Lib.hid hq
          clear hq hvw hzw
          go_enter Tryd.func79, Tryd.ntmps79
          go_wp2
          go_region
          go_wp2_with fail
          refine (HIH.out m _ (ns.take m) (Nat.le_refl _) (HM.out.below ((HW1.out _).mono hB)) (Nat.le_trans hB (HW1.out _).size) HN.out).mono ?_
          rintro e w1 ⟨hout, hb1⟩
          have HPr : Hid (w1.heap[w.heap.size]? = some (.cells #[.int .i64 3, .int .i64 t.kind, .int .i64 t.field, .int .i64 t.value, .slice t.LA t.Ln t.Lc, .slice t.PA t.Pn t.Pc, .nilIface, .pointer none, .pointer none] 132 (0, 0))) := Lib.hid ((hb1.block _ (by simp)).trans (heap_alloc_new w _))
          have HBr := Lib.hid (below_on (HW1.out _) hb1)
          clear hb1
          rcases hout with ⟨ta, k, s, hl, rfl, hpa⟩ | ⟨hl, rfl⟩
          · have HLa := Lib.hid hl
            have HPa := Lib.hid hpa
            clear hl hpa
            have c0 : w1.cell? ⟨w.heap.size, 0, none⟩ = some (.int .i64 3) := cell_of_row w1 _ 0 _ _ (0, 0) HPr.out
            have c1 : w1.cell? ⟨w.heap.size, 1, none⟩ = some (.int .i64 t.kind) := cell_of_row w1 _ 1 _ _ (0, 0) HPr.out
            have c2 : w1.cell? ⟨w.heap.size, 2, none⟩ = some (.int .i64 t.field) := cell_of_row w1 _ 2 _ _ (0, 0) HPr.out
            have c3 : w1.cell? ⟨w.heap.size, 3, none⟩ = some (.int .i64 t.value) := cell_of_row w1 _ 3 _ _ (0, 0) HPr.out
            have c4 : w1.cell? ⟨w.heap.size, 4, none⟩ = some (.slice t.LA t.Ln t.Lc) := cell_of_row w1 _ 4 _ _ (0, 0) HPr.out
            have c5 : w1.cell? ⟨w.heap.size, 5, none⟩ = some (.slice t.PA t.Pn t.Pc) := cell_of_row w1 _ 5 _ _ (0, 0) HPr.out
            have c7 : w1.cell? ⟨w.heap.size, 7, none⟩ = some (.pointer none) := cell_of_row w1 _ 7 _ _ (0, 0) HPr.out
            have z7 : w1.frozen? ⟨w.heap.size, 7, none⟩ = false := frozen_of_row w1 _ 7 _ _ HPr.out
            have HB7 : Hid (∀ u, Below w.heap.size w (w1.setCell ⟨w.heap.size, 7, none⟩ u)) := Lib.hid fun u => HBr.out.setCell (Nat.le_refl _) u
            go_wp2_with fail
            refine (HC.out _ (HB7.out _)).mono ?_
            rintro e w9 ⟨rfl, hb9⟩
            have HB9 := Lib.hid (below_on (HB7.out _) hb9)
            have HD9 := Lib.hid hb9
            clear c0 c1 c2 c3 c4 c5 c7 z7
            clear hb9 HC
            cases q
            · have HLp : Hid (LastP (datN ns) none) := Lib.hid (by rw [HE.out]; exact lastP_now_no (by show (3 : Int) ≠ 0; decide) fun h => by have := HQ.out.2 h; cases this)
              go_wp2
              go_ret2
              exact ⟨.inr ⟨HLp.out, rfl⟩, HB9.out⟩
            · have HW := Lib.hid (HQ.out.1 rfl)
              have HLp : Hid (LastP (datN ns) (some (.dual ta, k))) := Lib.hid (by rw [HE.out]; exact lastP_dual rfl HW.out HLa.out)
              have HF : Hid (PartAt w9 B w.heap.size (.dual ta) w.heap.size) := Lib.hid (by
                have hp := heap_set7 HPr.out (.pointer (some ⟨s, 0, none⟩))
                have hlt := lt_of_block hp
                refine ⟨Nat.le_refl _, Nat.lt_of_lt_of_le hlt HD9.out.size, (HD9.out.cell (p := ⟨w.heap.size, 0, none⟩) hlt).trans (cell_of_row _ _ 0 _ _ (0, 0) hp), s, (HD9.out.cell (p := ⟨w.heap.size, 7, none⟩) hlt).trans (cell_of_row _ _ 7 _ _ (0, 0) hp), ?_⟩
                exact ((HPa.out.set hB (by simp)).below (Nat.le_trans hB (HB7.out _).size) HD9.out).low (by simp))
              go_wp2
              go_ret2
              exact ⟨.inl ⟨_, _, _, HLp.out, rfl, HF.out⟩, HB9.out⟩
          · have HLa := Lib.hid hl
            clear hl
            have c7 : w1.cell? ⟨w.heap.size, 7, none⟩ = some (.pointer none) := cell_of_row w1 _ 7 _ _ (0, 0) HPr.out
            have z7 : w1.frozen? ⟨w.heap.size, 7, none⟩ = false := frozen_of_row w1 _ 7 _ _ HPr.out
            have HLp : Hid (LastP (datN ns) none) := Lib.hid (by rw [HE.out]; exact lastP_dual_no rfl HLa.out)
            have HB7 : Hid (∀ u, Below w.heap.size w (w1.setCell ⟨w.heap.size, 7, none⟩ u)) := Lib.hid fun u => HBr.out.setCell (Nat.le_refl _) u
            go_wp2
            go_ret2
            exact ⟨.inr ⟨HLp.out, rfl⟩, HB7.out _⟩
        · by_cases eb : op = 1 ∨ op = 2 ∨ op = 4
          · have HBin : Hid (Bin op) := Lib.hid eb
            rcases eb with rfl | rfl | rfl
            · have hzw : zeroW.val = .agg #[.int .i64 0, .int .i64 0, .int .i64 0, .slice none 0 0, .slice none 0 0] := rfl
              obtain ⟨q, hq⟩ := bool_of (NoW t.dat)
              have HC : Hid (∀ w1, Below w.heap.size w w1 → Calls Tryd.prog 93 #[.agg #[.int .i64 t.kind, .int .i64 t.field, .int .i64 t.value, .slice t.LA t.Ln t.Lc, .slice t.PA t.Pn t.Pc], .agg #[.int .i64 0, .int .i64 0, .int .i64 0, .slice none 0 0, .slice none 0 0]] w1 fun e w' => e = .returned (.bool q) ∧ Below w1.heap.size w1 w') := Lib.hid fun w1 h => by
                rw [← hvw, ← hzw]
                exact iSameWish w1 B t zeroW (HWi.out.below (h.mono hB)) (zeroW_in _ _) (Nat.le_trans hB h.size) HSh.out q (by rw [hq, now_zero])
              have HQ := Lib.hid hq
              clear hq hvw hzw
              go_enter Tryd.func79, Tryd.ntmps79
              go_wp2
              go_region
              go_wp2_with fail
              refine (HIH.out m _ (ns.take m) (Nat.le_refl _) (HM.out.below ((HW1.out _).mono hB)) (Nat.le_trans hB (HW1.out _).size) HN.out).mono ?_
              rintro e w1 ⟨hout, hb1⟩
              have HPr : Hid (w1.heap[w.heap.size]? = some (.cells #[.int .i64 1, .int .i64 t.kind, .int .i64 t.field, .int .i64 t.value, .slice t.LA t.Ln t.Lc, .slice t.PA t.Pn t.Pc, .nilIface, .pointer none, .pointer none] 132 (0, 0))) := Lib.hid ((hb1.block _ (by simp)).trans (heap_alloc_new w _))
              have HBr := Lib.hid (below_on (HW1.out _) hb1)
              clear hb1
              rcases hout with ⟨tb, k2, r, hl, rfl, hpb⟩ | ⟨hl, rfl⟩
              · have HLb := Lib.hid hl
                have HPb := Lib.hid hpb
                have hk2 : k2 ≤ m := by have := hl.lt; rw [HL.out] at this; omega
                clear hl hpb
                have c8 : w1.cell? ⟨w.heap.size, 8, none⟩ = some (.pointer none) := cell_of_row w1 _ 8 _ _ (0, 0) HPr.out
                have z8 : w1.frozen? ⟨w.heap.size, 8, none⟩ = false := frozen_of_row w1 _ 8 _ _ HPr.out
                have HP8 := Lib.hid (heap_set8 HPr.out (.pointer (some ⟨r, 0, none⟩)))
                have HB8 : Hid (∀ u, Below w.heap.size w (w1.setCell ⟨w.heap.size, 8, none⟩ u)) := Lib.hid fun u => HBr.out.setCell (Nat.le_refl _) u
                have HPb8 : Hid (∀ u, PartAt (w1.setCell ⟨w.heap.size, 8, none⟩ u) B (w.heap.size + 1) tb r) := Lib.hid fun u => by have := HPb.out.set (g := w.heap.size) (j := 8) (v := u) hB (by simp); simpa using this
                clear HPr HBr HPb
                go_wp2_with fail
                refine (HIH.out k2 _ ((ns.take m).take k2) hk2 ((HM.out.take hk2).below ((HB8.out _).mono hB)) (Nat.le_trans hB (HB8.out _).size) (fun x hx => HN.out x (List.mem_of_mem_take hx))).mono ?_
                rintro e w2 ⟨hout, hb2⟩
                have HPr : Hid (w2.heap[w.heap.size]? = some (.cells #[.int .i64 1, .int .i64 t.kind, .int .i64 t.field, .int .i64 t.value, .slice t.LA t.Ln t.Lc, .slice t.PA t.Pn t.Pc, .nilIface, .pointer none, .pointer (some ⟨r, 0, none⟩)] 132 (0, 0))) := Lib.hid ((hb2.block _ (lt_of_block HP8.out)).trans HP8.out)
                have HBr := Lib.hid (below_on (HB8.out _) hb2)
                have HPb2 : Hid (PartAt w2 B (w.heap.size + 1) tb r) := Lib.hid ((HPb8.out _).below (Nat.le_trans hB (HB8.out _).size) hb2)
                have hlo : w.heap.size + 1 ≤ (w1.setCell ⟨w.heap.size, 8, none⟩ (.pointer (some ⟨r, 0, none⟩))).heap.size := lt_of_block HP8.out
                have HLo := Lib.hid hlo
                have HTk : Hid (datN ((ns.take m).take k2) = (datN (ns.take m)).take k2) := Lib.hid (by unfold datN; rw [List.map_take])
                clear hb2 hlo HP8 HB8 HPb8
                clear c8 z8
                rcases hout with ⟨ta, k, s, hl, rfl, hpa⟩ | ⟨hl, rfl⟩
                · have HLa := Lib.hid hl
                  have HPa := Lib.hid (hpa.low HLo.out)
                  clear hl hpa
                  have c0 : w2.cell? ⟨w.heap.size, 0, none⟩ = some (.int .i64 1) := cell_of_row w2 _ 0 _ _ (0, 0) HPr.out
                  have c1 : w2.cell? ⟨w.heap.size, 1, none⟩ = some (.int .i64 t.kind) := cell_of_row w2 _ 1 _ _ (0, 0) HPr.out
                  have c2 : w2.cell? ⟨w.heap.size, 2, none⟩ = some (.int .i64 t.field) := cell_of_row w2 _ 2 _ _ (0, 0) HPr.out
                  have c3 : w2.cell? ⟨w.heap.size, 3, none⟩ = some (.int .i64 t.value) := cell_of_row w2 _ 3 _ _ (0, 0) HPr.out
                  have c4 : w2.cell? ⟨w.heap.size, 4, none⟩ = some (.slice t.LA t.Ln t.Lc) := cell_of_row w2 _ 4 _ _ (0, 0) HPr.out
                  have c5 : w2.cell? ⟨w.heap.size, 5, none⟩ = some (.slice t.PA t.Pn t.Pc) := cell_of_row w2 _ 5 _ _ (0, 0) HPr.out
                  have c7 : w2.cell? ⟨w.heap.size, 7, none⟩ = some (.pointer none) := cell_of_row w2 _ 7 _ _ (0, 0) HPr.out
                  have z7 : w2.frozen? ⟨w.heap.size, 7, none⟩ = false := frozen_of_row w2 _ 7 _ _ HPr.out
                  have HB7 : Hid (∀ u, Below w.heap.size w (w2.setCell ⟨w.heap.size, 7, none⟩ u)) := Lib.hid fun u => HBr.out.setCell (Nat.le_refl _) u
                  go_wp2_with fail
                  refine (HC.out _ (HB7.out _)).mono ?_
                  rintro e w9 ⟨rfl, hb9⟩
                  have HB9 := Lib.hid (below_on (HB7.out _) hb9)
                  have HD9 := Lib.hid hb9
                  clear c0 c1 c2 c3 c4 c5 c7 z7
                  clear hb9 HC
                  cases q
                  · have HLp : Hid (LastP (datN ns) none) := Lib.hid (by rw [HE.out]; exact lastP_now_no (by show (1 : Int) ≠ 0; decide) fun h => by have := HQ.out.2 h; cases this)
                    go_wp2
                    go_ret2
                    exact ⟨.inr ⟨HLp.out, rfl⟩, HB9.out⟩
                  · have HW := Lib.hid (HQ.out.1 rfl)
                    have HLp : Hid (LastP (datN ns) (some (.bin 1 ta tb, k))) := Lib.hid (by rw [HE.out]; exact lastP_bin HBin.out HW.out HLb.out (HTk.out ▸ HLa.out))
                    have HF : Hid (PartAt w9 B w.heap.size (.bin 1 ta tb) w.heap.size) := Lib.hid (by
                      have hp := heap_set7 HPr.out (.pointer (some ⟨s, 0, none⟩))
                      have hlt := lt_of_block hp
                      refine ⟨Nat.le_refl _, Nat.lt_of_lt_of_le hlt HD9.out.size, (HD9.out.cell (p := ⟨w.heap.size, 0, none⟩) hlt).trans (cell_of_row _ _ 0 _ _ (0, 0) hp), HBin.out, ⟨s, (HD9.out.cell (p := ⟨w.heap.size, 7, none⟩) hlt).trans (cell_of_row _ _ 7 _ _ (0, 0) hp), ?_⟩, r, (HD9.out.cell (p := ⟨w.heap.size, 8, none⟩) hlt).trans (cell_of_row _ _ 8 _ _ (0, 0) hp), ?_⟩
                      · exact ((HPa.out.set hB (by omega)).below (Nat.le_trans hB (HB7.out _).size) HD9.out).low (by omega)
                      · exact ((HPb2.out.set hB (by omega)).below (Nat.le_trans hB (HB7.out _).size) HD9.out).low (by omega))
                    go_wp2
                    go_ret2
                    exact ⟨.inl ⟨_, _, _, HLp.out, rfl, HF.out⟩, HB9.out⟩
                · have HLa := Lib.hid hl
                  clear hl
                  have c7 : w2.cell? ⟨w.heap.size, 7, none⟩ = some (.pointer none) := cell_of_row w2 _ 7 _ _ (0, 0) HPr.out
                  have z7 : w2.frozen? ⟨w.heap.size, 7, none⟩ = false := frozen_of_row w2 _ 7 _ _ HPr.out
                  have HLp : Hid (LastP (datN ns) none) := Lib.hid (by rw [HE.out]; exact lastP_bin_no1 HBin.out HLb.out (HTk.out ▸ HLa.out))
                  have HB7 : Hid (∀ u, Below w.heap.size w (w2.setCell ⟨w.heap.size, 7, none⟩ u)) := Lib.hid fun u => HBr.out.setCell (Nat.le_refl _) u
                  go_wp2
                  go_ret2
                  exact ⟨.inr ⟨HLp.out, rfl⟩, HB7.out _⟩
              · have HLa := Lib.hid hl
                clear hl
                have c8 : w1.cell? ⟨w.heap.size, 8, none⟩ = some (.pointer none) := cell_of_row w1 _ 8 _ _ (0, 0) HPr.out
                have z8 : w1.frozen? ⟨w.heap.size, 8, none⟩ = false := frozen_of_row w1 _ 8 _ _ HPr.out
                have HP8 := Lib.hid (heap_set8 HPr.out (.pointer none))
                have HB8 : Hid (∀ u, Below w.heap.size w (w1.setCell ⟨w.heap.size, 8, none⟩ u)) := Lib.hid fun u => HBr.out.setCell (Nat.le_refl _) u
                clear HPr HBr
                go_wp2_with fail
                refine (iLast0 B 0 none 0 0 none _).mono ?_
                rintro e w2 ⟨rfl, hw2⟩
                have HPr : Hid (w2.heap[w.heap.size]? = some (.cells #[.int .i64 1, .int .i64 t.kind, .int .i64 t.field, .int .i64 t.value, .slice t.LA t.Ln t.Lc, .slice t.PA t.Pn t.Pc, .nilIface, .pointer none, .pointer none] 132 (0, 0))) := Lib.hid (by rw [hw2]; exact HP8.out)
                have HBr : Hid (Below w.heap.size w w2) := Lib.hid (by rw [hw2]; exact HB8.out _)
                clear hw2 HP8 HB8
                clear c8 z8
                have c7 : w2.cell? ⟨w.heap.size, 7, none⟩ = some (.pointer none) := cell_of_row w2 _ 7 _ _ (0, 0) HPr.out
                have z7 : w2.frozen? ⟨w.heap.size, 7, none⟩ = false := frozen_of_row w2 _ 7 _ _ HPr.out
                have HLp : Hid (LastP (datN ns) none) := Lib.hid (by rw [HE.out]; exact lastP_bin_no2 HBin.out HLa.out)
                have HB7 : Hid (∀ u, Below w.heap.size w (w2.setCell ⟨w.heap.size, 7, none⟩ u)) := Lib.hid fun u => HBr.out.setCell (Nat.le_refl _) u
                go_wp2
                go_ret2
                exact ⟨.inr ⟨HLp.out, rfl⟩, HB7.out _⟩
            · have hzw : zeroW.val = .agg #[.int .i64 0, .int .i64 0, .int .i64 0, .slice none 0 0, .slice none 0 0] := rfl
              obtain ⟨q, hq⟩ := bool_of (NoW t.dat)
              have HC : Hid (∀ w1, Below w.heap.size w w1 → Calls Tryd.prog 93 #[.agg #[.int .i64 t.kind, .int .i64 t.field, .int .i64 t.value, .slice t.LA t.Ln t.Lc, .slice t.PA t.Pn t.Pc], .agg #[.int .i64 0, .int .i64 0, .int .i64 0, .slice none 0 0, .slice none 0 0]] w1 fun e w' => e = .returned (.bool q) ∧ Below w1.heap.size w1 w') := Lib.hid fun w1 h => by
                rw [← hvw, ← hzw]
                exact iSameWish w1 B t zeroW (HWi.out.below (h.mono hB)) (zeroW_in _ _) (Nat.le_trans hB h.size) HSh.out q (by rw [hq, now_zero])
              have HQ := Lib.hid hq
              clear hq hvw hzw
              go_enter Tryd.func79, Tryd.ntmps79
              go_wp2
              go_region
              go_wp2_with fail
              refine (HIH.out m _ (ns.take m) (Nat.le_refl _) (HM.out.below ((HW1.out _).mono hB)) (Nat.le_trans hB (HW1.out _).size) HN.out).mono ?_
              rintro e w1 ⟨hout, hb1⟩
              have HPr : Hid (w1.heap[w.heap.size]? = some (.cells #[.int .i64 2, .int .i64 t.kind, .int .i64 t.field, .int .i64 t.value, .slice t.LA t.Ln t.Lc, .slice t.PA t.Pn t.Pc, .nilIface, .pointer none, .pointer none] 132 (0, 0))) := Lib.hid ((hb1.block _ (by simp)).trans (heap_alloc_new w _))
              have HBr := Lib.hid (below_on (HW1.out _) hb1)
              clear hb1
              rcases hout with ⟨tb, k2, r, hl, rfl, hpb⟩ | ⟨hl, rfl⟩
              · have HLb := Lib.hid hl
                have HPb := Lib.hid hpb
                have hk2 : k2 ≤ m := by have := hl.lt; rw [HL.out] at this; omega
                clear hl hpb
                have c8 : w1.cell? ⟨w.heap.size, 8, none⟩ = some (.pointer none) := cell_of_row w1 _ 8 _ _ (0, 0) HPr.out
                have z8 : w1.frozen? ⟨w.heap.size, 8, none⟩ = false := frozen_of_row w1 _ 8 _ _ HPr.out
                have HP8 := Lib.hid (heap_set8 HPr.out (.pointer (some ⟨r, 0, none⟩)))
                have HB8 : Hid (∀ u, Below w.heap.size w (w1.setCell ⟨w.heap.size, 8, none⟩ u)) := Lib.hid fun u => HBr.out.setCell (Nat.le_refl _) u
                have HPb8 : Hid (∀ u, PartAt (w1.setCell ⟨w.heap.size, 8, none⟩ u) B (w.heap.size + 1) tb r) := Lib.hid fun u => by have := HPb.out.set (g := w.heap.size) (j := 8) (v := u) hB (by simp); simpa using this
                clear HPr HBr HPb
                go_wp2_with fail
                refine (HIH.out k2 _ ((ns.take m).take k2) hk2 ((HM.out.take hk2).below ((HB8.out _).mono hB)) (Nat.le_trans hB (HB8.out _).size) (fun x hx => HN.out x (List.mem_of_mem_take hx))).mono ?_
                rintro e w2 ⟨hout, hb2⟩
                have HPr : Hid (w2.heap[w.heap.size]? = some (.cells #[.int .i64 2, .int .i64 t.kind, .int .i64 t.field, .int .i64 t.value, .slice t.LA t.Ln t.Lc, .slice t.PA t.Pn t.Pc, .nilIface, .pointer none, .pointer (some ⟨r, 0, none⟩)] 132 (0, 0))) := Lib.hid ((hb2.block _ (lt_of_block HP8.out)).trans HP8.out)
                have HBr := Lib.hid (below_on (HB8.out _) hb2)
                have HPb2 : Hid (PartAt w2 B (w.heap.size + 1) tb r) := Lib.hid ((HPb8.out _).below (Nat.le_trans hB (HB8.out _).size) hb2)
                have hlo : w.heap.size + 1 ≤ (w1.setCell ⟨w.heap.size, 8, none⟩ (.pointer (some ⟨r, 0, none⟩))).heap.size := lt_of_block HP8.out
                have HLo := Lib.hid hlo
                have HTk : Hid (datN ((ns.take m).take k2) = (datN (ns.take m)).take k2) := Lib.hid (by unfold datN; rw [List.map_take])
                clear hb2 hlo HP8 HB8 HPb8
                clear c8 z8
                rcases hout with ⟨ta, k, s, hl, rfl, hpa⟩ | ⟨hl, rfl⟩
                · have HLa := Lib.hid hl
                  have HPa := Lib.hid (hpa.low HLo.out)
                  clear hl hpa
                  have c0 : w2.cell? ⟨w.heap.size, 0, none⟩ = some (.int .i64 2) := cell_of_row w2 _ 0 _ _ (0, 0) HPr.out
                  have c1 : w2.cell? ⟨w.heap.size, 1, none⟩ = some (.int .i64 t.kind) := cell_of_row w2 _ 1 _ _ (0, 0) HPr.out
                  have c2 : w2.cell? ⟨w.heap.size, 2, none⟩ = some (.int .i64 t.field) := cell_of_row w2 _ 2 _ _ (0, 0) HPr.out
                  have c3 : w2.cell? ⟨w.heap.size, 3, none⟩ = some (.int .i64 t.value) := cell_of_row w2 _ 3 _ _ (0, 0) HPr.out
                  have c4 : w2.cell? ⟨w.heap.size, 4, none⟩ = some (.slice t.LA t.Ln t.Lc) := cell_of_row w2 _ 4 _ _ (0, 0) HPr.out
                  have c5 : w2.cell? ⟨w.heap.size, 5, none⟩ = some (.slice t.PA t.Pn t.Pc) := cell_of_row w2 _ 5 _ _ (0, 0) HPr.out
                  have c7 : w2.cell? ⟨w.heap.size, 7, none⟩ = some (.pointer none) := cell_of_row w2 _ 7 _ _ (0, 0) HPr.out
                  have z7 : w2.frozen? ⟨w.heap.size, 7, none⟩ = false := frozen_of_row w2 _ 7 _ _ HPr.out
                  have HB7 : Hid (∀ u, Below w.heap.size w (w2.setCell ⟨w.heap.size, 7, none⟩ u)) := Lib.hid fun u => HBr.out.setCell (Nat.le_refl _) u
                  go_wp2_with fail
                  refine (HC.out _ (HB7.out _)).mono ?_
                  rintro e w9 ⟨rfl, hb9⟩
                  have HB9 := Lib.hid (below_on (HB7.out _) hb9)
                  have HD9 := Lib.hid hb9
                  clear c0 c1 c2 c3 c4 c5 c7 z7
                  clear hb9 HC
                  cases q
                  · have HLp : Hid (LastP (datN ns) none) := Lib.hid (by rw [HE.out]; exact lastP_now_no (by show (2 : Int) ≠ 0; decide) fun h => by have := HQ.out.2 h; cases this)
                    go_wp2
                    go_ret2
                    exact ⟨.inr ⟨HLp.out, rfl⟩, HB9.out⟩
                  · have HW := Lib.hid (HQ.out.1 rfl)
                    have HLp : Hid (LastP (datN ns) (some (.bin 2 ta tb, k))) := Lib.hid (by rw [HE.out]; exact lastP_bin HBin.out HW.out HLb.out (HTk.out ▸ HLa.out))
                    have HF : Hid (PartAt w9 B w.heap.size (.bin 2 ta tb) w.heap.size) := Lib.hid (by
                      have hp := heap_set7 HPr.out (.pointer (some ⟨s, 0, none⟩))
                      have hlt := lt_of_block hp
                      refine ⟨Nat.le_refl _, Nat.lt_of_lt_of_le hlt HD9.out.size, (HD9.out.cell (p := ⟨w.heap.size, 0, none⟩) hlt).trans (cell_of_row _ _ 0 _ _ (0, 0) hp), HBin.out, ⟨s, (HD9.out.cell (p := ⟨w.heap.size, 7, none⟩) hlt).trans (cell_of_row _ _ 7 _ _ (0, 0) hp), ?_⟩, r, (HD9.out.cell (p := ⟨w.heap.size, 8, none⟩) hlt).trans (cell_of_row _ _ 8 _ _ (0, 0) hp), ?_⟩
                      · exact ((HPa.out.set hB (by omega)).below (Nat.le_trans hB (HB7.out _).size) HD9.out).low (by omega)
                      · exact ((HPb2.out.set hB (by omega)).below (Nat.le_trans hB (HB7.out _).size) HD9.out).low (by omega))
                    go_wp2
                    go_ret2
                    exact ⟨.inl ⟨_, _, _, HLp.out, rfl, HF.out⟩, HB9.out⟩
                · have HLa := Lib.hid hl
                  clear hl
                  have c7 : w2.cell? ⟨w.heap.size, 7, none⟩ = some (.pointer none) := cell_of_row w2 _ 7 _ _ (0, 0) HPr.out
                  have z7 : w2.frozen? ⟨w.heap.size, 7, none⟩ = false := frozen_of_row w2 _ 7 _ _ HPr.out
                  have HLp : Hid (LastP (datN ns) none) := Lib.hid (by rw [HE.out]; exact lastP_bin_no1 HBin.out HLb.out (HTk.out ▸ HLa.out))
                  have HB7 : Hid (∀ u, Below w.heap.size w (w2.setCell ⟨w.heap.size, 7, none⟩ u)) := Lib.hid fun u => HBr.out.setCell (Nat.le_refl _) u
                  go_wp2
                  go_ret2
                  exact ⟨.inr ⟨HLp.out, rfl⟩, HB7.out _⟩
              · have HLa := Lib.hid hl
                clear hl
                have c8 : w1.cell? ⟨w.heap.size, 8, none⟩ = some (.pointer none) := cell_of_row w1 _ 8 _ _ (0, 0) HPr.out
                have z8 : w1.frozen? ⟨w.heap.size, 8, none⟩ = false := frozen_of_row w1 _ 8 _ _ HPr.out
                have HP8 := Lib.hid (heap_set8 HPr.out (.pointer none))
                have HB8 : Hid (∀ u, Below w.heap.size w (w1.setCell ⟨w.heap.size, 8, none⟩ u)) := Lib.hid fun u => HBr.out.setCell (Nat.le_refl _) u
                clear HPr HBr
                go_wp2_with fail
                refine (iLast0 B 0 none 0 0 none _).mono ?_
                rintro e w2 ⟨rfl, hw2⟩
                have HPr : Hid (w2.heap[w.heap.size]? = some (.cells #[.int .i64 2, .int .i64 t.kind, .int .i64 t.field, .int .i64 t.value, .slice t.LA t.Ln t.Lc, .slice t.PA t.Pn t.Pc, .nilIface, .pointer none, .pointer none] 132 (0, 0))) := Lib.hid (by rw [hw2]; exact HP8.out)
                have HBr : Hid (Below w.heap.size w w2) := Lib.hid (by rw [hw2]; exact HB8.out _)
                clear hw2 HP8 HB8
                clear c8 z8
                have c7 : w2.cell? ⟨w.heap.size, 7, none⟩ = some (.pointer none) := cell_of_row w2 _ 7 _ _ (0, 0) HPr.out
                have z7 : w2.frozen? ⟨w.heap.size, 7, none⟩ = false := frozen_of_row w2 _ 7 _ _ HPr.out
                have HLp : Hid (LastP (datN ns) none) := Lib.hid (by rw [HE.out]; exact lastP_bin_no2 HBin.out HLa.out)
                have HB7 : Hid (∀ u, Below w.heap.size w (w2.setCell ⟨w.heap.size, 7, none⟩ u)) := Lib.hid fun u => HBr.out.setCell (Nat.le_refl _) u
                go_wp2
                go_ret2
                exact ⟨.inr ⟨HLp.out, rfl⟩, HB7.out _⟩
            · have hzw : zeroW.val = .agg #[.int .i64 0, .int .i64 0, .int .i64 0, .slice none 0 0, .slice none 0 0] := rfl
              obtain ⟨q, hq⟩ := bool_of (NoW t.dat)
              have HC : Hid (∀ w1, Below w.heap.size w w1 → Calls Tryd.prog 93 #[.agg #[.int .i64 t.kind, .int .i64 t.field, .int .i64 t.value, .slice t.LA t.Ln t.Lc, .slice t.PA t.Pn t.Pc], .agg #[.int .i64 0, .int .i64 0, .int .i64 0, .slice none 0 0, .slice none 0 0]] w1 fun e w' => e = .returned (.bool q) ∧ Below w1.heap.size w1 w') := Lib.hid fun w1 h => by
                rw [← hvw, ← hzw]
                exact iSameWish w1 B t zeroW (HWi.out.below (h.mono hB)) (zeroW_in _ _) (Nat.le_trans hB h.size) HSh.out q (by rw [hq, now_zero])
              have HQ := Lib.hid hq
              clear hq hvw hzw
              go_enter Tryd.func79, Tryd.ntmps79
              go_wp2
              go_region
              go_wp2_with fail
              refine (HIH.out m _ (ns.take m) (Nat.le_refl _) (HM.out.below ((HW1.out _).mono hB)) (Nat.le_trans hB (HW1.out _).size) HN.out).mono ?_
              rintro e w1 ⟨hout, hb1⟩
              have HPr : Hid (w1.heap[w.heap.size]? = some (.cells #[.int .i64 4, .int .i64 t.kind, .int .i64 t.field, .int .i64 t.value, .slice t.LA t.Ln t.Lc, .slice t.PA t.Pn t.Pc, .nilIface, .pointer none, .pointer none] 132 (0, 0))) := Lib.hid ((hb1.block _ (by simp)).trans (heap_alloc_new w _))
              have HBr := Lib.hid (below_on (HW1.out _) hb1)
              clear hb1
              rcases hout with ⟨tb, k2, r, hl, rfl, hpb⟩ | ⟨hl, rfl⟩
              · have HLb := Lib.hid hl
                have HPb := Lib.hid hpb
                have hk2 : k2 ≤ m := by have := hl.lt; rw [HL.out] at this; omega
                clear hl hpb
                have c8 : w1.cell? ⟨w.heap.size, 8, none⟩ = some (.pointer none) := cell_of_row w1 _ 8 _ _ (0, 0) HPr.out
                have z8 : w1.frozen? ⟨w.heap.size, 8, none⟩ = false := frozen_of_row w1 _ 8 _ _ HPr.out
                have HP8 := Lib.hid (heap_set8 HPr.out (.pointer (some ⟨r, 0, none⟩)))
                have HB8 : Hid (∀ u, Below w.heap.size w (w1.setCell ⟨w.heap.size, 8, none⟩ u)) := Lib.hid fun u => HBr.out.setCell (Nat.le_refl _) u
                have HPb8 : Hid (∀ u, PartAt (w1.setCell ⟨w.heap.size, 8, none⟩ u) B (w.heap.size + 1) tb r) := Lib.hid fun u => by have := HPb.out.set (g := w.heap.size) (j := 8) (v := u) hB (by simp); simpa using this
                clear HPr HBr HPb
                go_wp2_with fail
                refine (HIH.out k2 _ ((ns.take m).take k2) hk2 ((HM.out.take hk2).below ((HB8.out _).mono hB)) (Nat.le_trans hB (HB8.out _).size) (fun x hx => HN.out x (List.mem_of_mem_take hx))).mono ?_
                rintro e w2 ⟨hout, hb2⟩
                have HPr : Hid (w2.heap[w.heap.size]? = some (.cells #[.int .i64 4, .int .i64 t.kind, .int .i64 t.field, .int .i64 t.value, .slice t.LA t.Ln t.Lc, .slice t.PA t.Pn t.Pc, .nilIface, .pointer none, .pointer (some ⟨r, 0, none⟩)] 132 (0, 0))) := Lib.hid ((hb2.block _ (lt_of_block HP8.out)).trans HP8.out)
                have HBr := Lib.hid (below_on (HB8.out _) hb2)
                have HPb2 : Hid (PartAt w2 B (w.heap.size + 1) tb r) := Lib.hid ((HPb8.out _).below (Nat.le_trans hB (HB8.out _).size) hb2)
                have hlo : w.heap.size + 1 ≤ (w1.setCell ⟨w.heap.size, 8, none⟩ (.pointer (some ⟨r, 0, none⟩))).heap.size := lt_of_block HP8.out
                have HLo := Lib.hid hlo
                have HTk : Hid (datN ((ns.take m).take k2) = (datN (ns.take m)).take k2) := Lib.hid (by unfold datN; rw [List.map_take])
                clear hb2 hlo HP8 HB8 HPb8
                clear c8 z8
                rcases hout with ⟨ta, k, s, hl, rfl, hpa⟩ | ⟨hl, rfl⟩
                · have HLa := Lib.hid hl
                  have HPa := Lib.hid (hpa.low HLo.out)
                  clear hl hpa
                  have c0 : w2.cell? ⟨w.heap.size, 0, none⟩ = some (.int .i64 4) := cell_of_row w2 _ 0 _ _ (0, 0) HPr.out
                  have c1 : w2.cell? ⟨w.heap.size, 1, none⟩ = some (.int .i64 t.kind) := cell_of_row w2 _ 1 _ _ (0, 0) HPr.out
                  have c2 : w2.cell? ⟨w.heap.size, 2, none⟩ = some (.int .i64 t.field) := cell_of_row w2 _ 2 _ _ (0, 0) HPr.out
                  have c3 : w2.cell? ⟨w.heap.size, 3, none⟩ = some (.int .i64 t.value) := cell_of_row w2 _ 3 _ _ (0, 0) HPr.out
                  have c4 : w2.cell? ⟨w.heap.size, 4, none⟩ = some (.slice t.LA t.Ln t.Lc) := cell_of_row w2 _ 4 _ _ (0, 0) HPr.out
                  have c5 : w2.cell? ⟨w.heap.size, 5, none⟩ = some (.slice t.PA t.Pn t.Pc) := cell_of_row w2 _ 5 _ _ (0, 0) HPr.out
                  have c7 : w2.cell? ⟨w.heap.size, 7, none⟩ = some (.pointer none) := cell_of_row w2 _ 7 _ _ (0, 0) HPr.out
                  have z7 : w2.frozen? ⟨w.heap.size, 7, none⟩ = false := frozen_of_row w2 _ 7 _ _ HPr.out
                  have HB7 : Hid (∀ u, Below w.heap.size w (w2.setCell ⟨w.heap.size, 7, none⟩ u)) := Lib.hid fun u => HBr.out.setCell (Nat.le_refl _) u
                  go_wp2_with fail
                  refine (HC.out _ (HB7.out _)).mono ?_
                  rintro e w9 ⟨rfl, hb9⟩
                  have HB9 := Lib.hid (below_on (HB7.out _) hb9)
                  have HD9 := Lib.hid hb9
                  clear c0 c1 c2 c3 c4 c5 c7 z7
                  clear hb9 HC
                  cases q
                  · have HLp : Hid (LastP (datN ns) none) := Lib.hid (by rw [HE.out]; exact lastP_now_no (by show (4 : Int) ≠ 0; decide) fun h => by have := HQ.out.2 h; cases this)
                    go_wp2
                    go_ret2
                    exact ⟨.inr ⟨HLp.out, rfl⟩, HB9.out⟩
                  · have HW := Lib.hid (HQ.out.1 rfl)
                    have HLp : Hid (LastP (datN ns) (some (.bin 4 ta tb, k))) := Lib.hid (by rw [HE.out]; exact lastP_bin HBin.out HW.out HLb.out (HTk.out ▸ HLa.out))
                    have HF : Hid (PartAt w9 B w.heap.size (.bin 4 ta tb) w.heap.size) := Lib.hid (by
                      have hp := heap_set7 HPr.out (.pointer (some ⟨s, 0, none⟩))
                      have hlt := lt_of_block hp
                      refine ⟨Nat.le_refl _, Nat.lt_of_lt_of_le hlt HD9.out.size, (HD9.out.cell (p := ⟨w.heap.size, 0, none⟩) hlt).trans (cell_of_row _ _ 0 _ _ (0, 0) hp), HBin.out, ⟨s, (HD9.out.cell (p := ⟨w.heap.size, 7, none⟩) hlt).trans (cell_of_row _ _ 7 _ _ (0, 0) hp), ?_⟩, r, (HD9.out.cell (p := ⟨w.heap.size, 8, none⟩) hlt).trans (cell_of_row _ _ 8 _ _ (0, 0) hp), ?_⟩
                      · exact ((HPa.out.set hB (by omega)).below (Nat.le_trans hB (HB7.out _).size) HD9.out).low (by omega)
                      · exact ((HPb2.out.set hB (by omega)).below (Nat.le_trans hB (HB7.out _).size) HD9.out).low (by omega))
                    go_wp2
                    go_ret2
                    exact ⟨.inl ⟨_, _, _, HLp.out, rfl, HF.out⟩, HB9.out⟩
                · have HLa := Lib.hid hl
                  clear hl
                  have c7 : w2.cell? ⟨w.heap.size, 7, none⟩ = some (.pointer none) := cell_of_row w2 _ 7 _ _ (0, 0) HPr.out
                  have z7 : w2.frozen? ⟨w.heap.size, 7, none⟩ = false := frozen_of_row w2 _ 7 _ _ HPr.out
                  have HLp : Hid (LastP (datN ns) none) := Lib.hid (by rw [HE.out]; exact lastP_bin_no1 HBin.out HLb.out (HTk.out ▸ HLa.out))
                  have HB7 : Hid (∀ u, Below w.heap.size w (w2.setCell ⟨w.heap.size, 7, none⟩ u)) := Lib.hid fun u => HBr.out.setCell (Nat.le_refl _) u
                  go_wp2
                  go_ret2
                  exact ⟨.inr ⟨HLp.out, rfl⟩, HB7.out _⟩
              · have HLa := Lib.hid hl
                clear hl
                have c8 : w1.cell? ⟨w.heap.size, 8, none⟩ = some (.pointer none) := cell_of_row w1 _ 8 _ _ (0, 0) HPr.out
                have z8 : w1.frozen? ⟨w.heap.size, 8, none⟩ = false := frozen_of_row w1 _ 8 _ _ HPr.out
                have HP8 := Lib.hid (heap_set8 HPr.out (.pointer none))
                have HB8 : Hid (∀ u, Below w.heap.size w (w1.setCell ⟨w.heap.size, 8, none⟩ u)) := Lib.hid fun u => HBr.out.setCell (Nat.le_refl _) u
                clear HPr HBr
                go_wp2_with fail
                refine (iLast0 B 0 none 0 0 none _).mono ?_
                rintro e w2 ⟨rfl, hw2⟩
                have HPr : Hid (w2.heap[w.heap.size]? = some (.cells #[.int .i64 4, .int .i64 t.kind, .int .i64 t.field, .int .i64 t.value, .slice t.LA t.Ln t.Lc, .slice t.PA t.Pn t.Pc, .nilIface, .pointer none, .pointer none] 132 (0, 0))) := Lib.hid (by rw [hw2]; exact HP8.out)
                have HBr : Hid (Below w.heap.size w w2) := Lib.hid (by rw [hw2]; exact HB8.out _)
                clear hw2 HP8 HB8
                clear c8 z8
                have c7 : w2.cell? ⟨w.heap.size, 7, none⟩ = some (.pointer none) := cell_of_row w2 _ 7 _ _ (0, 0) HPr.out
                have z7 : w2.frozen? ⟨w.heap.size, 7, none⟩ = false := frozen_of_row w2 _ 7 _ _ HPr.out
                have HLp : Hid (LastP (datN ns) none) := Lib.hid (by rw [HE.out]; exact lastP_bin_no2 HBin.out HLa.out)
                have HB7 : Hid (∀ u, Below w.heap.size w (w2.setCell ⟨w.heap.size, 7, none⟩ u)) := Lib.hid fun u => HBr.out.setCell (Nat.le_refl _) u
                go_wp2
                go_ret2
                exact ⟨.inr ⟨HLp.out, rfl⟩, HB7.out _⟩
          · have hnb : ¬ Bin op := eb
            have f0 : (op == 0) = false := by simpa using e0
            have f3 : (op == 3) = false := by simpa using e3
            have f1 : (op == 1) = false := by
              have : op ≠ 1 := fun h => eb (.inl h)
              simpa using this
            have f2 : (op == 2) = false := by
              have : op ≠ 2 := fun h => eb (.inr (.inl h))
              simpa using this
            have f4 : (op == 4) = false := by
              have : op ≠ 4 := fun h => eb (.inr (.inr h))
              simpa using this
            have HLp : Hid (LastP (datN ns) none) := Lib.hid (by rw [HE.out]; exact lastP_odd e0 e3 hnb)
            clear hnb e0 e3 eb hvw
            go_enter Tryd.func79, Tryd.ntmps79
            go_wp2
            go_region
            go_wp2
            go_ret2
            exact ⟨.inr ⟨HLp.out, rfl⟩, HW1.out _⟩
end Go.Proofs.YtghekfigfjhkeaaDoor.num
namespace Go.Proofs.YtghekfigfjhkeaaDoor.num
open Go.RowKit Go.Maps
set_option linter.unusedVariables false
set_option linter.unusedSimpArgs false

def TreeOut (B lo : Nat) (nds : List ND) (e : Ending) (w' : World) : Prop :=
  (IsE nds ∧ ∃ t p, Post nds t ∧ e = .returned (.pointer (some ⟨p, 0, none⟩)) ∧ PartAt w' B lo t p) ∨ (¬ IsE nds ∧ e = .returned (.pointer none))
set_option maxRecDepth 20000 in
theorem iTreeOfW (w : World) (B : Nat) (A : Option Addr) (n c : Nat) (ns : List Nd) (hi : Nodes w B A n ns) (hB : B ≤ w.heap.size) (hnc : n ≤ c) (hc : c ≤ 9223372036854775807) (hN : ShortN ns) :
    Calls Tryd.prog 61 #[.slice A n c] w fun e w' => TreeOut B w.heap.size (datN ns) e w' ∧ Below w.heap.size w w' := by
  have HL : Hid ((datN ns).length = n) := Lib.hid (by unfold datN; rw [List.length_map, hi.len])
  have HC := Lib.hid (iLast B A c hc n w ns hi hB hnc hN)
  clear hi hN
  by_cases h9 : n ≤ 9
  · go_enter Tryd.func61, Tryd.ntmps61
    go_wp2_with fail
    refine HC.out.mono ?_
    rintro e w1 ⟨hout, hb1⟩
    have HB := Lib.hid hb1
    clear hb1 HC
    rcases hout with ⟨t, k, p, hl, rfl, hpa⟩ | ⟨hl, rfl⟩
    · have HLp := Lib.hid hl
      have HP := Lib.hid hpa
      have hkn : k ≤ 9223372036854775807 := by have := hl.lt; rw [HL.out] at this; omega
      clear hl hpa
      by_cases hk : k = 0
      · subst hk
        go_wp2
        go_ret
        refine ⟨.inl ⟨(isE_last HLp.out).2 ⟨by rw [HL.out]; exact h9, rfl⟩, t, p, ?_, rfl, HP.out⟩, HB.out⟩
        have := HLp.out
        simpa [LastP] using this
      · have hk' : 0 < k := by omega
        have hd : decide ((k : Int) > 0) = true := by simp; omega
        go_wp2
        go_ret
        exact ⟨.inr ⟨fun h => by have := ((isE_last HLp.out).1 h).2; omega, rfl⟩, HB.out⟩
    · have HLp := Lib.hid hl
      clear hl
      go_wp2
      go_ret
      exact ⟨.inr ⟨isE_none HLp.out, rfl⟩, HB.out⟩
  · have hd : decide ((n : Int) > 9) = true := by simp; omega
    have hgt : (9 : Int) < (n : Int) := by omega
    go_enter Tryd.func61, Tryd.ntmps61
    go_wp2
    go_ret
    exact ⟨.inr ⟨fun h => by have := h.1; rw [HL.out] at this; omega, rfl⟩, Below.refl _ _⟩
theorem iTreeOf (w : World) (B : Nat) (A : Option Addr) (n c : Nat) (ns : List Nd) (hi : Nodes w B A n ns) (hB : B ≤ w.heap.size) (hnc : n ≤ c) (hc : c ≤ 1048576) (hN : ShortN ns) :
    Calls Tryd.prog 61 #[.slice A n c] w fun e w' => TreeOut B w.heap.size (datN ns) e w' ∧ Below w.heap.size w w' := iTreeOfW w B A n c ns hi hB hnc (Nat.le_trans hc (by decide)) hN
set_option maxRecDepth 20000 in
theorem iIsEW (w : World) (B : Nat) (A : Option Addr) (n c : Nat) (ns : List Nd) (hi : Nodes w B A n ns) (hB : B ≤ w.heap.size) (hnc : n ≤ c) (hc : c ≤ 9223372036854775807) (hN : ShortN ns) (b : Bool) (hb : b = true ↔ IsE (datN ns)) :
    Calls Tryd.prog 31 #[.slice A n c] w fun e w' => e = .returned (.bool b) ∧ Below w.heap.size w w' := by
  have HC := Lib.hid (iTreeOfW w B A n c ns hi hB hnc hc hN)
  have HBo := Lib.hid hb
  clear hi hN hb
  go_enter Tryd.func31, Tryd.ntmps31
  go_wp2_with fail
  refine HC.out.mono ?_
  rintro e w1 ⟨hout, hb1⟩
  have HB := Lib.hid hb1
  clear hb1 HC
  rcases hout with ⟨hE, t, p, _, rfl, _⟩ | ⟨hE, rfl⟩
  · obtain rfl : b = true := HBo.out.2 hE
    go_wp2
    go_ret
    exact ⟨rfl, HB.out⟩
  · obtain rfl : b = false := by
      cases b
      · rfl
      · exact absurd (HBo.out.1 rfl) hE
    go_wp2
    go_ret
    exact ⟨rfl, HB.out⟩
theorem iIsE (w : World) (B : Nat) (A : Option Addr) (n c : Nat) (ns : List Nd) (hi : Nodes w B A n ns) (hB : B ≤ w.heap.size) (hnc : n ≤ c) (hc : c ≤ 1048576) (hN : ShortN ns) (b : Bool) (hb : b = true ↔ IsE (datN ns)) :
    Calls Tryd.prog 31 #[.slice A n c] w fun e w' => e = .returned (.bool b) ∧ Below w.heap.size w w' := iIsEW w B A n c ns hi hB hnc (Nat.le_trans hc (by decide)) hN b hb

/-- Two codes that cannot both hold for a whole. -/
def apartC (a b : Int) : Bool := a == 2 || b == 2 || (a != 0 && a == revC b)
theorem opC_pareto {a b : Int} (ha : Code a) (hb : Code b) : opC 1 a b = if apartC a b = true then 2 else if a ≠ 0 then a else b := by
  rcases ha with rfl | rfl | rfl | rfl <;> rcases hb with rfl | rfl | rfl | rfl <;> decide
end Go.Proofs.YtghekfigfjhkeaaDoor.num
namespace Go.Proofs.YtghekfigfjhkeaaDoor.num
open Go.RowKit
set_option linter.unusedVariables false
set_option linter.unusedSimpArgs false

theorem sWord (w : World) (op : Int) (h : op = 1 ∨ op = 2 ∨ op = 3 ∨ op = 4) : Calls Tryd.prog 29 #[.int .i64 op] w fun e w' => e = .returned (.string (owB op.toNat)) ∧ w' = w := by
  rcases h with rfl | rfl | rfl | rfl <;>
    (go_enter Tryd.func29, Tryd.ntmps29
     go_wp2
     go_ret
     exact ⟨rfl, rfl⟩)
set_option maxRecDepth 20000 in
set_option maxHeartbeats 3200000 in
theorem sFmtE (w : World) (B : Nat) (A : Option Addr) (n c : Nat) (ns : List Nd) (hi : Nodes w B A n ns) (hB : B ≤ w.heap.size) (hn : n ≤ 1048576) (hN : ShortN ns) (q : Bool) (hq : q = true ↔ IsE (datN ns)) :
    Calls Tryd.prog 8 #[.slice A n c] w fun e w' => e = .returned (.string (fmtE (datN ns) q)) ∧ Below w.heap.size w w' := by
  have HX := Lib.hid hi
  have HN := Lib.hid hN
  have HC := Lib.hid (sIsE w B A n c ns hi hB hn hN q hq)
  have HQ := Lib.hid hq
  have HLs := Lib.hid (lens_dat hi hN)
  clear hi hN hq
  go_enter Tryd.func8, Tryd.ntmps8
  go_wp2_with fail
  refine HC.out.mono ?_
  rintro e w0 ⟨rfl, hb0⟩
  have HB0 := Lib.hid hb0
  clear hb0 HC
  cases q
  · go_wp2
    go_ret
    exact ⟨rfl, HB0.out⟩
  have HE : Hid (IsE (datN ns)) := Lib.hid (HQ.out.1 (by first | rfl | trivial))
  go_wp2
  go_loopw [3, 4] (fun s i wr => ∃ k : Nat, k ≤ n ∧ i = .int .i64 k ∧ s = .string (preE (datN ns) k) ∧ Below w.heap.size w wr) (fun _ i _ => n - (intOf i).toNat)
  case atStart => exact ⟨0, Nat.zero_le _, rfl, rfl, HB0.out⟩
  case round =>
    obtain ⟨k, hk, rfl, rfl, hbel⟩ := hrel
    have HB := Lib.hid hbel
    have hpre := preE_size HE.out HLs.out k
    by_cases hlt : k < n
    · obtain ⟨b1, off, ⟨op, t⟩, rfl, hb1, hat, hwf, g0, g1, g2, g3, g4, g5⟩ := HX.out.at k hlt
      dsimp only at g0 g1 g2 g3 g4 g5
      have hbw : b1 < w.heap.size := Nat.lt_of_lt_of_le hb1 hB
      have g0 := (hbel.cell (p := ⟨b1, off + k * 6, none⟩) hbw).trans g0
      have g1 := (hbel.cell (p := ⟨b1, off + k * 6 + 1, none⟩) hbw).trans g1
      have g2 := (hbel.cell (p := ⟨b1, off + k * 6 + 2, none⟩) hbw).trans g2
      have g3 := (hbel.cell (p := ⟨b1, off + k * 6 + 3, none⟩) hbw).trans g3
      have g4 := (hbel.cell (p := ⟨b1, off + k * 6 + 4, none⟩) hbw).trans g4
      have g5 := (hbel.cell (p := ⟨b1, off + k * 6 + 5, none⟩) hbw).trans g5
      have hdat : (datN ns)[k]? = some ⟨op, t.dat⟩ := by unfold datN; rw [List.getElem?_map, hat]; rfl
      have hnode := HE.out.node hdat
      have hsz1 := nodeB_size hnode (HLs.out _ (List.mem_of_getElem? hdat))
      have hsh : t.Short := HN.out _ (List.mem_of_getElem? hat)
      have HFm : Hid (∀ W, Below wr.heap.size wr W → IsW t.dat → Calls Tryd.prog 28 #[.agg #[.int .i64 t.kind, .int .i64 t.field, .int .i64 t.value, .slice t.LA t.Ln t.Lc, .slice t.PA t.Pn t.Pc]] W fun e w' => e = .returned (.string (fmtW t.dat true)) ∧ Below W.heap.size W w') := Lib.hid fun W h hw => sFmtW W B t (hwf.2.below ((hbel.mono hB).trans (h.mono (Nat.le_trans hB hbel.size)))) (Nat.le_trans (Nat.le_trans hB hbel.size) h.size) hsh true ⟨fun _ => hw, fun _ => rfl⟩
      have hlt' : (k : Int) < (n : Int) := by omega
      obtain ⟨nb, hnb⟩ : ∃ nb, nodeB ⟨op, t.dat⟩ = nb := ⟨_, rfl⟩
      rw [hnb] at hsz1
      have HNb := Lib.hid hnb
      have HNode := Lib.hid hnode
      by_cases hk0 : k = 0
      · have hstep : preE (datN ns) k ++ nb = preE (datN ns) (k + 1) := by
          rw [← hnb]
          subst hk0
          rw [preE_zero]
          exact preE_one hdat
        obtain ⟨sb, hsb⟩ : ∃ sb : ByteArray, sb = preE (datN ns) k := ⟨_, rfl⟩
        rw [← hsb] at hstep hpre ⊢
        have HStep := Lib.hid hstep
        have hkn : ¬ ((0 : Int) < (k : Int)) := by omega
        have hc1 : ¬ (9223372036854775807 < sb.size + nb.size) := by omega
        clear hsb hat hbel hpre hstep hk0 hnb hnode hdat hsh hwf
        rcases HNode.out with ⟨e0, hw⟩ | ⟨hop, _⟩
        · obtain rfl : op = 0 := e0
          have HFw : Hid (fmtW t.dat true = nb) := Lib.hid ((fmtW_node (nd := ⟨0, t.dat⟩) rfl).trans HNb.out)
          have HFm2 : Hid (∀ W, Below wr.heap.size wr W → Calls Tryd.prog 28 #[.agg #[.int .i64 t.kind, .int .i64 t.field, .int .i64 t.value, .slice t.LA t.Ln t.Lc, .slice t.PA t.Pn t.Pc]] W fun e w' => e = .returned (.string nb) ∧ Below W.heap.size W w') := Lib.hid fun W h => by rw [← HFw.out]; exact HFm.out W h hw
          clear hw
          go_wp2_with fail
          refine (HFm2.out _ (Below.refl _ _)).mono ?_
          rintro e w1 ⟨rfl, hb⟩
          have HB1 := Lib.hid (below_on HB.out hb)
          clear hb g0 g1 g2 g3 g4 g5
          go_wp2
          go_roundw
          case rel => exact ⟨k + 1, by omega, by go_num, by rw [HStep.out], HB1.out⟩
          case measure => simp [intOf]; omega
        · have hop' : op = 1 ∨ op = 2 ∨ op = 3 ∨ op = 4 := hop
          have HWd : Hid (∀ W, Calls Tryd.prog 29 #[.int .i64 op] W fun e w' => e = .returned (.string nb) ∧ w' = W) := Lib.hid fun W => by
            rw [← HNb.out, ← owB_node (nd := ⟨op, t.dat⟩) (by show op ≠ 0; omega)]
            exact sWord W op hop'
          have f0 : (op == 0) = false := by simp; omega
          clear hop hop'
          go_wp2_with fail
          refine (HWd.out _).mono ?_
          rintro e w1 ⟨rfl, rfl⟩
          clear g0 g1 g2 g3 g4 g5
          go_wp2
          go_roundw
          case rel => exact ⟨k + 1, by omega, by go_num, by rw [HStep.out], HB.out⟩
          case measure => simp [intOf]; omega
      · have hstep : preE (datN ns) k ++ ⟨#[59, 32]⟩ ++ nb = preE (datN ns) (k + 1) := by
          rw [← hnb]
          exact preE_step (by omega) hdat
        obtain ⟨sb, hsb⟩ : ∃ sb : ByteArray, sb = preE (datN ns) k := ⟨_, rfl⟩
        rw [← hsb] at hstep hpre ⊢
        have HStep := Lib.hid hstep
        have hkn : (0 : Int) < (k : Int) := by omega
        have hc0 : ¬ (9223372036854775807 < sb.size + 2) := by omega
        have hc1 : ¬ (9223372036854775807 < sb.size + 2 + nb.size) := by omega
        clear hsb hat hbel hpre hstep hk0 hnb hnode hdat hsh hwf
        rcases HNode.out with ⟨e0, hw⟩ | ⟨hop, _⟩
        · obtain rfl : op = 0 := e0
          have HFw : Hid (fmtW t.dat true = nb) := Lib.hid ((fmtW_node (nd := ⟨0, t.dat⟩) rfl).trans HNb.out)
          have HFm2 : Hid (∀ W, Below wr.heap.size wr W → Calls Tryd.prog 28 #[.agg #[.int .i64 t.kind, .int .i64 t.field, .int .i64 t.value, .slice t.LA t.Ln t.Lc, .slice t.PA t.Pn t.Pc]] W fun e w' => e = .returned (.string nb) ∧ Below W.heap.size W w') := Lib.hid fun W h => by rw [← HFw.out]; exact HFm.out W h hw
          clear hw
          go_wp2_with fail
          refine (HFm2.out _ (Below.refl _ _)).mono ?_
          rintro e w1 ⟨rfl, hb⟩
          have HB1 := Lib.hid (below_on HB.out hb)
          clear hb g0 g1 g2 g3 g4 g5
          go_wp2
          go_roundw
          case rel => exact ⟨k + 1, by omega, by go_num, by rw [HStep.out], HB1.out⟩
          case measure => simp [intOf]; omega
        · have hop' : op = 1 ∨ op = 2 ∨ op = 3 ∨ op = 4 := hop
          have HWd : Hid (∀ W, Calls Tryd.prog 29 #[.int .i64 op] W fun e w' => e = .returned (.string nb) ∧ w' = W) := Lib.hid fun W => by
            rw [← HNb.out, ← owB_node (nd := ⟨op, t.dat⟩) (by show op ≠ 0; omega)]
            exact sWord W op hop'
          have f0 : (op == 0) = false := by simp; omega
          clear hop hop'
          go_wp2_with fail
          refine (HWd.out _).mono ?_
          rintro e w1 ⟨rfl, rfl⟩
          clear g0 g1 g2 g3 g4 g5
          go_wp2
          go_roundw
          case rel => exact ⟨k + 1, by omega, by go_num, by rw [HStep.out], HB.out⟩
          case measure => simp [intOf]; omega
    · obtain rfl : k = n := by omega
      have hfin : preE (datN ns) k = fmtE (datN ns) true := by
        unfold preE fmtE
        rw [List.take_of_length_le (by unfold datN; rw [List.length_map, HX.out.len]; exact Nat.le_refl _), if_pos rfl]
      obtain ⟨z, hz⟩ : ∃ z, fmtE (datN ns) true = z := ⟨_, rfl⟩
      rw [hfin, hz]
      have HZ := Lib.hid hz
      clear hbel hfin hpre hz
      go_wp2
      go_ret
      exact ⟨by show Ending.returned (.string z) = _; rw [HZ.out], HB.out⟩

set_option maxRecDepth 20000 in
theorem iNodeT (w : World) (B : Nat) (op : Int) (t : Wi) (hi : WiIn w B t) (hB : B ≤ w.heap.size) (hn : t.Short) (h : (op = 0 ∧ IsW t.dat) ∨ ((op = 1 ∨ op = 2 ∨ op = 3 ∨ op = 4) ∧ NoW t.dat)) (hpow : Pow w) (hkw : Kw w) (how : Ow w) :
    Calls Tryd.prog 33 #[.agg #[.int .i64 op, .int .i64 t.kind, .int .i64 t.field, .int .i64 t.value, .slice t.LA t.Ln t.Lc, .slice t.PA t.Pn t.Pc]] w fun e w' => e = .returned (.string (nodeB ⟨op, t.dat⟩)) ∧ Below w.heap.size w w' := by
  have hb1 : Below w.heap.size w (w.alloc (.cells #[.int .i64 op, .int .i64 t.kind, .int .i64 t.field, .int .i64 t.value, .slice t.LA t.Ln t.Lc, .slice t.PA t.Pn t.Pc] 58)) := (Below.refl _ w).alloc (Nat.le_refl _) _
  have HB1 := Lib.hid hb1
  rcases h with ⟨rfl, hw⟩ | ⟨hop, _⟩
  · have HF := Lib.hid (iFmtW (w.alloc (.cells #[.int .i64 0, .int .i64 t.kind, .int .i64 t.field, .int .i64 t.value, .slice t.LA t.Ln t.Lc, .slice t.PA t.Pn t.Pc] 58)) B t (hi.below (hb1.mono hB)) (by simp; omega) hn true ⟨fun _ => hw, fun _ => rfl⟩ (hpow.below hb1) (hkw.below hb1))
    have HNb : Hid (fmtW t.dat true = nodeB ⟨0, t.dat⟩) := Lib.hid (fmtW_node (nd := ⟨0, t.dat⟩) rfl)
    rw [← HNb.out]
    generalize fmtW t.dat true = nb at *
    unfold Wi.val at HF
    clear hi hb1 hpow hkw how hw HNb
    go_enter Tryd.func33, Tryd.ntmps33
    go_wp2_with fail
    refine HF.out.mono ?_
    rintro e w1 ⟨rfl, hb⟩
    have HB2 := Lib.hid (below_on HB1.out hb)
    clear hb
    go_wp2
    go_ret
    exact ⟨rfl, HB2.out⟩
  · have HNb : Hid (owB op.toNat = nodeB ⟨op, t.dat⟩) := Lib.hid (owB_node (nd := ⟨op, t.dat⟩) (by show op ≠ 0; omega))
    rw [← HNb.out]
    obtain ⟨b, off, c, q0, q1, q2, q3⟩ := how.below hb1
    clear hi hb1 hpow hkw how HNb
    rcases hop with rfl | rfl | rfl | rfl
    · have q4 := q3 1 (by decide)
      clear q3
      go_enter Tryd.func33, Tryd.ntmps33
      go_wp2
      go_ret
      exact ⟨rfl, HB1.out⟩
    · have q4 := q3 2 (by decide)
      clear q3
      go_enter Tryd.func33, Tryd.ntmps33
      go_wp2
      go_ret
      exact ⟨rfl, HB1.out⟩
    · have q4 := q3 3 (by decide)
      clear q3
      go_enter Tryd.func33, Tryd.ntmps33
      go_wp2
      go_ret
      exact ⟨rfl, HB1.out⟩
    · have q4 := q3 4 (by decide)
      clear q3
      go_enter Tryd.func33, Tryd.ntmps33
      go_wp2
      go_ret
      exact ⟨rfl, HB1.out⟩

def wordE (ns : List Nd) (j : Nat) : ByteArray := nodeB ((datN ns).getD j ⟨0, ⟨0, 0, 0, [], []⟩⟩)
theorem wordE_at {ns : List Nd} {k : Nat} {x : Nd} (h : ns[k]? = some x) : wordE ns k = nodeB x.dat := by
  unfold wordE datN
  rw [List.getD_eq_getElem?_getD, List.getElem?_map, h]; rfl
set_option maxRecDepth 20000 in
set_option maxHeartbeats 3200000 in
theorem iJoinE (w : World) (B : Nat) (A : Option Addr) (n cc : Nat) (ns : List Nd) (hi : Nodes w B A n ns) (hB : B ≤ w.heap.size) (hn : n ≤ 1048576) (hN : ShortN ns) (hE : IsE (datN ns)) (hpow : Pow w) (hkw : Kw w) (how : Ow w) :
    Calls Tryd.prog 32 #[.slice A n cc, .string ⟨#[59, 32]⟩, .func (.func 33) #[] #[]] w fun e w' => e = .returned (.string ⟨(exprT (datN ns)).toArray⟩) ∧ Below w.heap.size w w' := by
  have hmk := run_make_row' (P := Tryd.prog) 71 9 (.string ⟨#[]⟩) 16 Tryd.underlying71 info_string rfl .i64 .i64 n (by omega) (by omega)
  have HX := Lib.hid hi
  have HLs := Lib.hid (lens_dat hi hN)
  have HNo : Hid (∀ (k : Nat) (op : Int) (t : Wi) (W : World), ns[k]? = some ⟨op, t⟩ → Below w.heap.size w W → Calls Tryd.prog 33 #[.agg #[.int .i64 op, .int .i64 t.kind, .int .i64 t.field, .int .i64 t.value, .slice t.LA t.Ln t.Lc, .slice t.PA t.Pn t.Pc]] W fun e w' => e = .returned (.string (nodeB ⟨op, t.dat⟩)) ∧ Below W.heap.size W w') := Lib.hid fun k op t W hk h => by
    have hm := List.mem_of_getElem? hk
    exact iNodeT W B op t ((hi.x _ hm).2.below (h.mono hB)) (Nat.le_trans hB h.size) (hN _ hm) (hE.node (k := k) (nd := ⟨op, t.dat⟩) (by unfold datN; rw [List.getElem?_map, hk]; rfl)) (hpow.below h) (hkw.below h) (how.below h)
  have HE := Lib.hid hE
  clear hi hpow hkw how hN hE
  go_enter Tryd.func32, Tryd.ntmps32
  go_wp2
  clear hmk
  go_loopw [15] (fun i wr => ∃ k : Nat, k ≤ n ∧ i = .int .i64 k ∧ wr.rowIs w.heap.size 9 n (fun j => if j < k then .string (wordE ns j) else .string ⟨#[]⟩) ∧ Below w.heap.size w wr) (fun i _ => n - (intOf i).toNat)
  case atStart =>
    exact ⟨0, Nat.zero_le _, rfl, by simpa using World.rowIs_made w (.string ⟨#[]⟩) n 9, (Below.refl _ _).alloc (Nat.le_refl _) _⟩
  case round =>
    obtain ⟨k, hk, rfl, hrow, hbel⟩ := hrel
    have HR := Lib.hid hrow
    have HB := Lib.hid hbel
    by_cases hlt : k < n
    · obtain ⟨b1, off, ⟨op, t⟩, rfl, hb1, hat, hwf, g0, g1, g2, g3, g4, g5⟩ := HX.out.at k hlt
      dsimp only at g0 g1 g2 g3 g4 g5
      have hbw : b1 < w.heap.size := Nat.lt_of_lt_of_le hb1 hB
      have g0 := (hbel.cell (p := ⟨b1, off + k * 6, none⟩) hbw).trans g0
      have g1 := (hbel.cell (p := ⟨b1, off + k * 6 + 1, none⟩) hbw).trans g1
      have g2 := (hbel.cell (p := ⟨b1, off + k * 6 + 2, none⟩) hbw).trans g2
      have g3 := (hbel.cell (p := ⟨b1, off + k * 6 + 3, none⟩) hbw).trans g3
      have g4 := (hbel.cell (p := ⟨b1, off + k * 6 + 4, none⟩) hbw).trans g4
      have g5 := (hbel.cell (p := ⟨b1, off + k * 6 + 5, none⟩) hbw).trans g5
      have HT := Lib.hid hat
      have hlt' : (k : Int) < (n : Int) := by omega
      have HBx : Hid (Below wr.heap.size wr (wr.alloc (.cells #[.int .i64 op, .int .i64 t.kind, .int .i64 t.field, .int .i64 t.value, .slice t.LA t.Ln t.Lc, .slice t.PA t.Pn t.Pc] 58))) := Lib.hid ((Below.refl _ _).alloc (Nat.le_refl _) _)
      have HC := Lib.hid (HNo.out k op t _ hat (HB.out.trans (HBx.out.mono HB.out.size)))
      clear hrow hbel hat hwf
      go_wp2_with fail
      refine HC.out.mono ?_
      rintro e w1 ⟨rfl, hb⟩
      have hb' := below_on HBx.out hb
      have hrow1 := rowIs_below HR.out hb' (World.rowIs.lt HR.out)
      have z1 : w1.cell? ⟨w.heap.size, k, none⟩ = some (.string ⟨#[]⟩) := by rw [World.rowIs.cell hrow1 hlt, if_neg (by omega)]
      have z2 := World.rowIs.frozen hrow1 k
      have HR1 := Lib.hid hrow1
      have HB1 := Lib.hid (HB.out.trans (hb'.mono HB.out.size))
      clear hb hb' hrow1 g0 g1 g2 g3 g4 g5 HC
      go_wp2
      go_roundw
      case rel =>
        refine ⟨k + 1, by omega, by go_num, (World.rowIs.set HR1.out k (.string (nodeB ⟨op, t.dat⟩))).congr (fun j _ => ?_), HB1.out.setCell (Nat.le_refl _) _⟩
        by_cases h1 : j = k
        · subst h1; rw [if_pos rfl, if_pos (by omega), wordE_at HT.out]; rfl
        · by_cases h2 : j < k
          · rw [if_neg h1, if_pos h2, if_pos (by omega)]
          · rw [if_neg h1, if_neg h2, if_neg (by omega)]
      case measure => simp [intOf]; omega
    · obtain rfl : k = n := by omega
      obtain ⟨xs, hxs⟩ : ∃ xs : List ByteArray, xs = (datN ns).map nodeB := ⟨_, rfl⟩
      have hxl : xs.length = k := by rw [hxs, List.length_map]; unfold datN; rw [List.length_map]; exact HX.out.len
      have hmap : xs.map (·.data.toList) = (datN ns).map nodeT := by rw [hxs, List.map_map]; rfl
      have hcells : ∀ (j : Nat) x, xs[j]? = some x → wr.cell? ⟨w.heap.size, 0 + j, none⟩ = some (.string x) := by
        intro j x hx
        have hj : j < k := by
          rcases Nat.lt_or_ge j xs.length with h' | h'
          · omega
          · rw [List.getElem?_eq_none h'] at hx; cases hx
        rw [hxs, List.getElem?_map] at hx
        obtain ⟨p, hp, rfl⟩ := Option.map_eq_some_iff.1 hx
        unfold datN at hp
        rw [List.getElem?_map] at hp
        obtain ⟨y, hy, rfl⟩ := Option.map_eq_some_iff.1 hp
        rw [Nat.zero_add, World.rowIs.cell hrow hj, if_pos hj, wordE_at hy]
      have hsz : (Lib.join (xs.map (·.data.toList)) (⟨#[59, 32]⟩ : ByteArray).data.toList).length ≤ 140737488355328 := by
        rw [hmap]
        have := exprT_len HE.out HLs.out k
        rw [List.take_of_length_le (by unfold datN; rw [List.length_map, HX.out.len]; exact Nat.le_refl _)] at this
        show (exprT (datN ns)).length ≤ _
        omega
      have hJ : Calls Tryd.prog 62 #[.slice (some ⟨w.heap.size, 0, none⟩) k k, .string ⟨#[59, 32]⟩] wr fun e w' => e = .returned (.string ⟨(exprT (datN ns)).toArray⟩) ∧ Below wr.heap.size wr w' := by
        have h0 := Tryd.strings_Join w.heap.size 0 k xs ⟨#[59, 32]⟩ wr hcells (World.rowIs.lt hrow) (by omega) (by omega) hsz
        rw [hxl, hmap] at h0
        exact h0
      have HJ := Lib.hid hJ
      clear hrow hbel hcells hJ hsz hmap hxl hxs
      go_wp2_with fail
      refine HJ.out.mono ?_
      rintro e w1 ⟨rfl, hb⟩
      have HB1 := Lib.hid (HB.out.trans (hb.mono HB.out.size))
      clear hb
      go_wp2
      go_ret
      exact ⟨rfl, HB1.out⟩
theorem iFmtE (w : World) (B : Nat) (A : Option Addr) (n c : Nat) (ns : List Nd) (hi : Nodes w B A n ns) (hB : B ≤ w.heap.size) (hnc : n ≤ c) (hc : c ≤ 1048576) (hN : ShortN ns) (q : Bool) (hq : q = true ↔ IsE (datN ns)) (hpow : Pow w) (hkw : Kw w) (how : Ow w) :
    Calls Tryd.prog 10 #[.slice A n c] w fun e w' => e = .returned (.string (fmtE (datN ns) q)) ∧ Below w.heap.size w w' := by
  have HC := Lib.hid (iIsE w B A n c ns hi hB hnc hc hN q hq)
  have HJ : Hid (∀ W, Below w.heap.size w W → IsE (datN ns) → Calls Tryd.prog 32 #[.slice A n c, .string ⟨#[59, 32]⟩, .func (.func 33) #[] #[]] W fun e w' => e = .returned (.string ⟨(exprT (datN ns)).toArray⟩) ∧ Below W.heap.size W w') := Lib.hid fun W h hE => iJoinE W B A n c ns (hi.below (h.mono hB)) (Nat.le_trans hB h.size) (Nat.le_trans hnc hc) hN hE (hpow.below h) (hkw.below h) (how.below h)
  have HQ := Lib.hid hq
  clear hi hN hq hpow hkw how
  go_enter Tryd.func10, Tryd.ntmps10
  go_wp2_with fail
  refine HC.out.mono ?_
  rintro e w0 ⟨rfl, hb0⟩
  have HB0 := Lib.hid hb0
  clear hb0 HC
  cases q
  · go_wp2
    go_ret
    exact ⟨rfl, HB0.out⟩
  · have HF : Hid (fmtE (datN ns) true = ⟨(exprT (datN ns)).toArray⟩) := Lib.hid rfl
    have hJ2 := HJ.out w0 HB0.out (HQ.out.1 (by first | rfl | trivial))
    obtain ⟨z, hz⟩ : ∃ z : ByteArray, ⟨(exprT (datN ns)).toArray⟩ = z := ⟨_, rfl⟩
    rw [hz] at hJ2
    have HZ := Lib.hid hz
    have HJ2 := Lib.hid hJ2
    clear hz hJ2
    go_wp2_with fail
    refine HJ2.out.mono ?_
    rintro e w1 ⟨rfl, hb⟩
    have HB1 := Lib.hid (below_on HB0.out hb)
    clear hb
    go_wp2
    go_ret
    exact ⟨by show Ending.returned (.string z) = _; rw [HF.out, HZ.out], HB1.out⟩
end Go.Proofs.YtghekfigfjhkeaaDoor.num
