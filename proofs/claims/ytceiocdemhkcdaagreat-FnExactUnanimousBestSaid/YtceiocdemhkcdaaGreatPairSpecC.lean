/-
  The model's functions on pairs: contracts. What pairs are valid; who is above whom; heights.
-/
import Derived.Test.YtceiocdemhkcdaaGreatPairSpecB
namespace Go.Proofs.YtceiocdemhkcdaaGreat.num
set_option maxRecDepth 20000
open Go.RowKit
set_option linter.unusedVariables false

/-- What makes a list of pairs valid. -/
def OkP (ps : List (Int × Int)) : Prop := Good ps ∧ ps.length ≤ 8
theorem OkP.valid {ps : List (Int × Int)} (h : OkP ps) : ValidP ps := ⟨h.1.rng, h.2⟩
theorem okP_of {ps : List (Int × Int)} (h : ValidP ps) (hn : ∀ v : Int, 0 ≤ v → v ≤ 9 → ¬ Reach ps v v) : OkP ps :=
  ⟨⟨h.1, fun v r => hn v (reach_rng h.1 r).1.1 (reach_rng h.1 r).1.2 r⟩, h.2⟩

theorem sArePairs (w : World) (B : Nat) (A : Option Addr) (n c : Nat) (ps : List (Int × Int)) (hi : Pairs w B A n ps) (hB : B ≤ w.heap.size) (hn : n ≤ 1048576) (q : Bool) (hq : q = true ↔ OkP ps) :
    Calls Tryz.prog 133 #[.slice A n c] w fun e w' => e = .returned (.bool q) ∧ Below w.heap.size w w' := by
  have HX := Lib.hid hi
  have HQ := Lib.hid hq
  obtain ⟨m, hm⟩ := bool_of (ValidP ps)
  have HM := Lib.hid hm
  clear hi hq hm
  go_enter Tryz.func133, Tryz.ntmps133
  go_wp2_with fail
  refine (valid_of w B A n c ps HX.out hn m HM.out).mono ?_
  rintro e w1 ⟨rfl, rfl⟩
  cases m
  · obtain rfl : q = false := by
      cases q
      · rfl
      · have := HM.out.2 (HQ.out.1 rfl).valid; cases this
    go_wp2
    go_ret
    exact ⟨rfl, Below.refl _ _⟩
  · have HV := Lib.hid (HM.out.1 (by first | rfl | trivial))
    clear HM
    go_wp2
    go_loopw [3] (fun i wr => ∃ k : Nat, k ≤ 10 ∧ i = .int .i64 k ∧ (∀ v : Int, 0 ≤ v → v < k → ¬ Reach ps v v) ∧ Below w.heap.size w wr) (fun i _ => 10 - (intOf i).toNat)
    case atStart => exact ⟨0, by decide, rfl, fun v h1 h2 => by omega, Below.refl _ _⟩
    case round =>
      obtain ⟨k, hk, rfl, hne, hbel⟩ := hrel
      have HN := Lib.hid hne
      have HBe := Lib.hid hbel
      clear hne hbel
      by_cases hlt : k < 10
      · obtain ⟨r, hr⟩ := bool_of (Reach ps k k)
        have HR := Lib.hid hr
        clear hr
        go_wp2_with fail
        refine (reach_of wr B A n c ps (HX.out.below (HBe.out.mono hB)) (Nat.le_trans hB HBe.out.size) hn k k r HR.out).mono ?_
        rintro e w1 ⟨rfl, hb1⟩
        have HB1 := Lib.hid (HBe.out.trans (hb1.mono HBe.out.size))
        clear hb1
        cases r
        · go_wp2
          go_roundw
          case rel =>
            refine ⟨k + 1, by omega, by go_num, fun v h1 h2 => ?_, HB1.out⟩
            by_cases e : v = k
            · subst e
              exact fun r => by have := HR.out.2 r; cases this
            · exact HN.out v h1 (by omega)
          case measure => simp [intOf]; omega
        · obtain rfl : q = false := by
            cases q
            · rfl
            · exact absurd (HR.out.1 (by first | rfl | trivial)) ((HQ.out.1 rfl).1.acy _)
          go_wp2
          go_ret
          exact ⟨rfl, HB1.out⟩
      · obtain rfl : k = 10 := by omega
        obtain rfl : q = true := HQ.out.2 (okP_of HV.out fun v h1 h2 => HN.out v h1 (by omega))
        go_wp2
        go_ret
        exact ⟨rfl, HBe.out⟩

/-- What HeightOf answers. -/
def htOf (ps : List (Int × Int)) (v : Int) (ok : Bool) : Int := if ok then ((height ps v : Nat) : Int) else -1
end Go.Proofs.YtceiocdemhkcdaaGreat.num
