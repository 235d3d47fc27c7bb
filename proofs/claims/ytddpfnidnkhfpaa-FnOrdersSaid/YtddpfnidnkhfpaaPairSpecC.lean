/-
  The model's functions on pairs: contracts. What pairs are valid; who is above whom; heights.
-/
import Derived.Test.YtddpfnidnkhfpaaPairSpecB
namespace Go.Proofs.Ytddpfnidnkhfpaa.num
open Go.RowKit
set_option linter.unusedVariables false

/-- What makes a list of pairs valid. -/
def OkP (ps : List (Int × Int)) : Prop := Good ps ∧ ps.length ≤ 8
theorem OkP.valid {ps : List (Int × Int)} (h : OkP ps) : ValidP ps := ⟨h.1.rng, h.2⟩
theorem okP_of {ps : List (Int × Int)} (h : ValidP ps) (hn : ∀ v : Int, 0 ≤ v → v ≤ 9 → ¬ Reach ps v v) : OkP ps :=
  ⟨⟨h.1, fun v r => hn v (reach_rng h.1 r).1.1 (reach_rng h.1 r).1.2 r⟩, h.2⟩

theorem sArePairs (w : World) (B : Nat) (A : Option Addr) (n c : Nat) (ps : List (Int × Int)) (hi : Pairs w B A n ps) (hB : B ≤ w.heap.size) (hn : n ≤ 1048576) (q : Bool) (hq : q = true ↔ OkP ps) :
    Calls Try.prog 14 #[.slice A n c] w fun e w' => e = .returned (.bool q) ∧ Below w.heap.size w w' := by
  have HX := Lib.hid hi
  have HQ := Lib.hid hq
  obtain ⟨m, hm⟩ := bool_of (ValidP ps)
  have HM := Lib.hid hm
  clear hi hq hm
  go_enter Try.func14, Try.ntmps14
  go_wp2_with fail
  refine (valid_of w B A n c ps HX.out hn m HM.out).mono ?_
  rintro e w1 ⟨rfl, rfl⟩
  cases m
  · obtain rfl : q = false := by
      cases q
      · rfl
      · have := HM.out.2 (HQ.out.1 rfl).valid; cases this
    go_wp2
    go_ret
    exact ⟨rfl, Below.refl _ _⟩
  · have HV := Lib.hid (HM.out.1 (by first | rfl | trivial))
    clear HM
    go_wp2
    go_loopw [3] (fun i wr => ∃ k : Nat, k ≤ 10 ∧ i = .int .i64 k ∧ (∀ v : Int, 0 ≤ v → v < k → ¬ Reach ps v v) ∧ Below w.heap.size w wr) (fun i _ => 10 - (intOf i).toNat)
    case atStart => exact ⟨0, by decide, rfl, fun v h1 h2 => by omega, Below.refl _ _⟩
    case round =>
      obtain ⟨k, hk, rfl, hne, hbel⟩ := hrel
      have HN := Lib.hid hne
      have HBe := Lib.hid hbel
      clear hne hbel
      by_cases hlt : k < 10
      · obtain ⟨r, hr⟩ := bool_of (Reach ps k k)
        have HR := Lib.hid hr
        clear hr
        go_wp2_with fail
        refine (reach_of wr B A n c ps (HX.out.below (HBe.out.mono hB)) (Nat.le_trans hB HBe.out.size) hn k k r HR.out).mono ?_
        rintro e w1 ⟨rfl, hb1⟩
        have HB1 := Lib.hid (HBe.out.trans (hb1.mono HBe.out.size))
        clear hb1
        cases r
        · go_wp2
          go_roundw
          case rel =>
            refine ⟨k + 1, by omega, by go_num, fun v h1 h2 => ?_, HB1.out⟩
            by_cases e : v = k
            · subst e
              exact fun r => by have := HR.out.2 r; cases this
            · exact HN.out v h1 (by omega)
          case measure => simp [intOf]; omega
        · obtain rfl : q = false := by
            cases q
            · rfl
            · exact absurd (HR.out.1 (by first | rfl | trivial)) ((HQ.out.1 rfl).1.acy _)
          go_wp2
          go_ret
          exact ⟨rfl, HB1.out⟩
      · obtain rfl : k = 10 := by omega
        obtain rfl : q = true := HQ.out.2 (okP_of HV.out fun v h1 h2 => HN.out v h1 (by omega))
        go_wp2
        go_ret
        exact ⟨rfl, HBe.out⟩

theorem sIsAbove (w : World) (B : Nat) (A : Option Addr) (n c : Nat) (ps : List (Int × Int)) (hi : Pairs w B A n ps) (hB : B ≤ w.heap.size) (hn : n ≤ 1048576) (a b : Int) (q : Bool) (hq : q = true ↔ OkP ps ∧ Reach ps a b) :
    Calls Try.prog 20 #[.slice A n c, .int .i64 a, .int .i64 b] w fun e w' => e = .returned (.bool q) ∧ Below w.heap.size w w' := by
  have HX := Lib.hid hi
  have HQ := Lib.hid hq
  obtain ⟨m, hm⟩ := bool_of (OkP ps)
  obtain ⟨r, hr⟩ := bool_of (Reach ps a b)
  have HM := Lib.hid hm
  have HR := Lib.hid hr
  clear hi hq hm hr
  go_enter Try.func20, Try.ntmps20
  go_wp2_with fail
  refine (sArePairs w B A n c ps HX.out hB hn m HM.out).mono ?_
  rintro e w1 ⟨rfl, hb1⟩
  have HB1 := Lib.hid hb1
  clear hb1
  cases m
  · obtain rfl : q = false := by
      cases q
      · rfl
      · have := HM.out.2 (HQ.out.1 rfl).1; cases this
    go_wp2
    go_ret
    exact ⟨rfl, HB1.out⟩
  · go_wp2_with fail
    refine (reach_of w1 B A n c ps (HX.out.below (HB1.out.mono hB)) (Nat.le_trans hB HB1.out.size) hn a b r HR.out).mono ?_
    rintro e w2 ⟨rfl, hb2⟩
    have HB2 := Lib.hid (HB1.out.trans (hb2.mono HB1.out.size))
    clear hb2
    obtain rfl : q = r := by
      cases q
      · cases r
        · rfl
        · have := HQ.out.2 ⟨HM.out.1 (by first | rfl | trivial), HR.out.1 (by first | rfl | trivial)⟩; cases this
      · exact (HR.out.2 (HQ.out.1 rfl).2).symm
    go_wp2
    go_ret
    exact ⟨rfl, HB2.out⟩

/-! ### heights -/
theorem sHgt (ps : List (Int × Int)) (n : Nat) (hn : n ≤ 1048576) (B : Nat) (A : Option Addr) (c : Nat) (w : World) (hi : Pairs w B A n ps) (hg : Good ps) : ∀ (k : Nat) (v : Int), upN ps v < k → k ≤ 11 →
    Calls Try.prog 43 #[.slice A n c, .int .i64 v] w fun e w' => e = .returned (.int .i64 ((hgt ps k v : Nat) : Int)) ∧ w = w'
  | 0, v, hk, _ => by omega
  | k + 1, v, hk, hk11 => by
    have IH := Lib.hid (sHgt ps n hn B A c w hi hg k)
    have HX := Lib.hid hi
    have HG := Lib.hid hg
    have HK := Lib.hid hk
    clear hi hg hk
    go_enter Try.func43, Try.ntmps43
    go_wp2
    go_loopw [5, 6] (fun m i wr => ∃ j : Nat, j ≤ n ∧ i = .int .i64 j ∧ m = .int .i64 ((hstep ps k v (ps.take j) : Nat) : Int) ∧ wr = w) (fun _ i _ => n - (intOf i).toNat)
    case atStart => exact ⟨0, Nat.zero_le _, rfl, rfl, rfl⟩
    case round =>
      obtain ⟨j, hj, rfl, rfl, rfl⟩ := hrel
      by_cases hlt : j < n
      · obtain ⟨b1, off, x, y, rfl, hb1, hat, hc1, hc2⟩ := HX.out.at j hlt
        have HT := Lib.hid hat
        have hxm : Hid ((x, y) ∈ ps) := Lib.hid (List.mem_of_getElem? hat)
        have hs11 : hstep ps k v (ps.take j) ≤ 11 := hstep_le v _ fun p hp e => by
          have h1 := hgt_le ps k p.1
          omega
        obtain ⟨z, hz⟩ : ∃ z : Int, z = ((hstep ps k v (ps.take j) : Nat) : Int) := ⟨_, rfl⟩
        have hz0 : 0 ≤ z := by omega
        have hz1 : z ≤ 11 := by omega
        rw [← hz]
        have HZ := Lib.hid hz
        clear hat hz hs11
        by_cases he : y = v
        · subst he
          have hup : upN ps x < k := by
            have := upN_lt HG.out (Reach.one hxm.out)
            have := HK.out
            omega
          have hh := hgt_le ps k x
          obtain ⟨u, hu⟩ : ∃ u : Int, u = ((hgt ps k x : Nat) : Int) := ⟨_, rfl⟩
          have hu0 : 0 ≤ u := by omega
          have hu1 : u ≤ 11 := by omega
          have HU := Lib.hid hu
          have HUp := Lib.hid hup
          clear hu hup hh
          go_wp2_with fail
          refine (IH.out x HUp.out (by omega)).mono ?_
          rintro e w1 ⟨rfl, rfl⟩
          rw [← HU.out]
          by_cases hle : z < u + 1
          · go_wp2
            go_roundw
            case rel =>
              refine ⟨j + 1, by omega, by go_num, ?_, by first | rfl | trivial⟩
              rw [ptake_at HT.out, hstep_snoc, if_pos rfl]
              dsimp only
              have h1 := HZ.out
              have h2 := HU.out
              rw [Nat.max_eq_right (by omega)]
              congr 1; omega
            case measure => simp [intOf]; omega
          · go_wp2
            go_roundw
            case rel =>
              refine ⟨j + 1, by omega, by go_num, ?_, by first | rfl | trivial⟩
              rw [ptake_at HT.out, hstep_snoc, if_pos rfl]
              dsimp only
              have h1 := HZ.out
              have h2 := HU.out
              rw [Nat.max_eq_left (by omega)]
              congr 1
            case measure => simp [intOf]; omega
        · have he1 : (y == v) = false := by simpa using he
          have HE := Lib.hid he
          clear he
          go_wp2
          go_roundw
          case rel =>
            refine ⟨j + 1, by omega, by go_num, ?_, by first | rfl | trivial⟩
            rw [ptake_at HT.out, hstep_snoc, if_neg HE.out]
            congr 1
            first | done | exact congrArg (Value.int .i64) HZ.out | exact HZ.out
          case measure => simp [intOf]; omega
      · obtain rfl : j = n := by omega
        have HL := HX.out.1
        obtain ⟨z, hz⟩ : ∃ z : Int, z = ((hstep ps k v (ps.take j) : Nat) : Int) := ⟨_, rfl⟩
        rw [← hz]
        have HZ := Lib.hid hz
        clear hz
        go_wp2
        go_ret
        refine ⟨?_, rfl⟩
        show Ending.returned (.int .i64 z) = _
        rw [HZ.out, ptake_all HL, hgt_succ]

/-- What HeightOf answers. -/
def htOf (ps : List (Int × Int)) (v : Int) (ok : Bool) : Int := if ok then ((height ps v : Nat) : Int) else -1
theorem sHeightOf (w : World) (B : Nat) (A : Option Addr) (n c : Nat) (ps : List (Int × Int)) (hi : Pairs w B A n ps) (hB : B ≤ w.heap.size) (hn : n ≤ 1048576) (v : Int) (q : Bool) (hq : q = true ↔ OkP ps ∧ InR v) :
    Calls Try.prog 23 #[.slice A n c, .int .i64 v] w fun e w' => e = .returned (.int .i64 (htOf ps v q)) ∧ Below w.heap.size w w' := by
  have HX := Lib.hid hi
  have HQ := Lib.hid hq
  obtain ⟨m, hm⟩ := bool_of (OkP ps)
  obtain ⟨r, hr⟩ := bool_of (0 ≤ v ∧ v ≤ 9)
  have HM := Lib.hid hm
  have HR := Lib.hid hr
  clear hi hq hm hr
  have hqf : (m && r) = false → q = false := fun h => by
    cases q
    · rfl
    · have h1 := HM.out.2 (HQ.out.1 rfl).1
      have h2 := HR.out.2 (HQ.out.1 rfl).2
      rw [h1, h2] at h
      cases h
  have HF := Lib.hid hqf
  clear hqf
  go_enter Try.func23, Try.ntmps23
  go_wp2_with fail
  refine (sArePairs w B A n c ps HX.out hB hn m HM.out).mono ?_
  rintro e w1 ⟨rfl, hb1⟩
  have HB1 := Lib.hid hb1
  clear hb1
  cases m
  · obtain rfl : q = false := HF.out rfl
    go_wp2
    go_ret
    exact ⟨rfl, HB1.out⟩
  · go_wp2_with fail
    refine (in_of v 0 9 r HR.out _).mono ?_
    rintro e w2 ⟨rfl, rfl⟩
    cases r
    · obtain rfl : q = false := HF.out rfl
      go_wp2
      go_ret
      exact ⟨rfl, HB1.out⟩
    · have hok := HM.out.1 (by first | rfl | trivial)
      obtain rfl : q = true := HQ.out.2 ⟨hok, HR.out.1 (by first | rfl | trivial)⟩
      have HG := Lib.hid hok
      clear hok
      go_wp2_with fail
      refine (sHgt ps n hn B A c w1 (HX.out.below (HB1.out.mono hB)) HG.out.1 11 v (by have := upN_le ps v; omega) (by decide)).mono ?_
      rintro e w2 ⟨rfl, rfl⟩
      obtain ⟨z, hz⟩ : ∃ z : Int, z = ((hgt ps 11 v : Nat) : Int) := ⟨_, rfl⟩
      rw [← hz]
      have HZ := Lib.hid hz
      clear hz
      go_wp2
      go_ret
      refine ⟨?_, HB1.out⟩
      show Ending.returned (.int .i64 z) = _
      rw [HZ.out]
      rfl
end Go.Proofs.Ytddpfnidnkhfpaa.num
