/-
  The model's functions on a wish: what is valid, the rank, the comparison.
-/
import Derived.Test.YtceiocdemhkcdaaGreatWishMem
import Derived.Test.YtceiocdemhkcdaaGreatPairSpecC
namespace Go.Proofs.YtceiocdemhkcdaaGreat.num
set_option maxRecDepth 20000
open Go.RowKit
set_option linter.unusedVariables false

/-- At least one value, all from 0 to 9, each less than the next. -/
def AscUp (l : List Int) : Prop := (∀ v ∈ l, InR v) ∧ ∀ i x y, l[i]? = some x → l[i + 1]? = some y → x < y
def Asc (l : List Int) : Prop := l ≠ [] ∧ AscUp l
theorem AscUp.nil : AscUp [] := ⟨by simp, by simp⟩
theorem ascUp_take {l : List Int} (h : AscUp l) (k : Nat) : AscUp (l.take k) :=
  ⟨fun v hv => h.1 v (List.mem_of_mem_take hv), fun i x y hx hy => by
    rw [List.getElem?_take] at hx hy
    split at hx
    · split at hy
      · exact h.2 i x y hx hy
      · cases hy
    · cases hx⟩
theorem ascUp_snoc {l : List Int} {k : Nat} {v : Int} (h : AscUp (l.take k)) (hv : l[k]? = some v) (hr : InR v) (ho : ∀ j u, k = j + 1 → l[j]? = some u → u < v) : AscUp (l.take (k + 1)) := by
  rw [ptake_at hv]
  have hk : k < l.length := (List.getElem?_eq_some_iff.1 hv).1
  have hlen : (l.take k).length = k := by rw [List.length_take]; omega
  refine ⟨fun x hx => ?_, fun i x y hx hy => ?_⟩
  · rcases List.mem_append.1 hx with hx | hx
    · exact h.1 x hx
    · rw [List.mem_singleton.1 hx]; exact hr
  · rcases Nat.lt_trichotomy (i + 1) k with h1 | h1 | h1
    · rw [List.getElem?_append_left (by omega)] at hx hy
      exact h.2 i x y hx hy
    · rw [List.getElem?_append_left (by omega), List.getElem?_take, if_pos (by omega)] at hx
      rw [List.getElem?_append_right (by omega), hlen] at hy
      rw [show i + 1 - k = 0 by omega] at hy
      simp at hy
      subst hy
      exact ho i x h1.symm hx
    · rw [List.getElem?_eq_none (by simp; omega)] at hy
      cases hy
theorem asc_bad {l : List Int} {k : Nat} {v u : Int} (hv : l[k + 1]? = some v) (hu : l[k]? = some u) (h : v ≤ u) : ¬ AscUp l := fun ha => by
  have := ha.2 k u v hu hv
  omega
theorem asc_next {l : List Int} {k j : Nat} {x y : Int} (hj : j + 1 = k) (hy : l[j]? = some y) (h : y < x) : ∀ j' u, k = j' + 1 → l[j']? = some u → u < x := fun j' u hj' hu => by
  obtain rfl : j' = j := by omega
  rw [hy] at hu
  cases hu
  exact h
/-- What IsWish asks. -/
structure IsW (d : WD) : Prop where
  f : 0 ≤ d.field ∧ d.field ≤ 2
  k : 0 ≤ d.kind ∧ d.kind ≤ 4
  v : if d.kind = 2 then InR d.value else d.value = 0
  l : if d.kind = 3 then Asc d.ls else d.ls = []
  p : if d.kind = 4 then OkP d.ps else d.ps = []
/-- The rank of a value from 0 to 9, for a wish of another kind than order. -/
def rankW (d : WD) (v : Int) : Int := if d.kind = 0 then v else if d.kind = 1 then 9 - v else if d.kind = 2 then (if v < d.value then d.value - v else v - d.value) else if v ∈ d.ls then 0 else 1
/-- The comparison of two values, for a valid wish. -/
def cmpW (d : WD) (a b : Int) : Int :=
  if d.kind = 4 then (if a = b then 0 else if rb d.ps a b = true then 1 else if rb d.ps b a = true then -1 else 2)
  else if rankW d a < rankW d b then 1 else if rankW d b < rankW d a then -1 else 0

theorem in_same (x lo hi : Int) (b : Bool) (hb : b = true ↔ lo ≤ x ∧ x ≤ hi) (w : World) :
    Calls Tryz.prog 62 #[.int .i64 x, .int .i64 lo, .int .i64 hi] w fun e w' => e = .returned (.bool b) ∧ w' = w :=
  (in_of x lo hi b hb w).mono fun _ _ h => ⟨h.1, h.2.symm⟩
theorem in_quiet {P : Program} {f : FuncId} {args : Array Value} {w : World} {m n : Nat} {v : Value} (h : Calls P f args (w.drewN (m + n)) fun e w' => e = .returned v ∧ w' = w.drewN (m + n)) : Calls P f args (w.drewN (m + n)) fun e w'' => e = .returned v ∧ ∃ n', w'' = w.drewN (m + n') :=
  h.mono fun _ _ ⟨he, hm⟩ => ⟨he, n, hm⟩
set_option maxRecDepth 20000 in
theorem ascS (w : World) (B : Nat) (A : Option Addr) (n c : Nat) (xs : List Int) (hi : Ints w B A n xs) (hn : n ≤ 1048576) (b : Bool) (hb : b = true ↔ Asc xs) :
    Calls Tryz.prog 132 #[.slice A n c] w fun e w' => e = .returned (.bool b) ∧ Below w.heap.size w w' := by
  have HX := Lib.hid hi
  have HB := Lib.hid hb
  clear hi hb
  have hno : ¬ AscUp xs → b = false := fun h => by
    cases b
    · rfl
    · exact absurd (HB.out.1 rfl).2 h
  have HNo := Lib.hid hno
  clear hno
  go_enter Tryz.func132, Tryz.ntmps132
  go_wp2
  go_loopw [3] (fun i wr => ∃ k : Nat, k ≤ n ∧ i = .int .i64 k ∧ AscUp (xs.take k) ∧ ∃ m, wr = w.drewN m) (fun i _ => n - (intOf i).toNat)
  case atStart => exact ⟨0, Nat.zero_le _, rfl, by rw [List.take_zero]; exact AscUp.nil, 0, rfl⟩
  case round =>
    obtain ⟨k, hk, rfl, hasc, m, rfl⟩ := hrel
    have HA := Lib.hid hasc
    clear hasc
    by_cases hlt : k < n
    · obtain ⟨b1, off, x, hA1, hb1, hat, hc⟩ := HX.out.at k hlt
      have HT := Lib.hid hat
      have hlt' : (k : Int) < (n : Int) := by omega
      obtain ⟨q, hq⟩ := bool_of (0 ≤ x ∧ x ≤ 9)
      have HQ := Lib.hid hq
      clear hat hq
      cases q
      · obtain rfl : b = false := HNo.out fun h => by have := HQ.out.2 (h.1 x (List.mem_of_getElem? HT.out)); cases this
        subst hA1
        go_wp2
        go_quiet ((go_at_call 62; refine in_quiet (in_same x 0 9 false HQ.out _)))
        go_wp2
        go_ret
        exact ⟨rfl, by rw [World.drewN_drewN]; exact below_drewN (Below.refl _ _) _⟩
      · have HD := Lib.hid (HQ.out.1 rfl)
        rcases Nat.eq_zero_or_pos k with h0 | h0
        · have HK := Lib.hid h0
          subst hA1
          clear h0
          have hk0 : decide (0 < k) = false := decide_eq_false (by have := HK.out; omega)
          go_wp2
          go_quiet ((go_at_call 62; refine in_quiet (in_same x 0 9 true ⟨fun _ => HD.out, fun _ => rfl⟩ _)))
          clear hk0
          go_wp2
          go_roundw
          case rel => exact ⟨k + 1, by omega, by go_num, ascUp_snoc HA.out HT.out HD.out (fun j u hj _ => by have := HK.out; omega), _, rfl⟩
          case measure => simp [intOf]; omega
        · obtain ⟨j, hj⟩ : ∃ j, j + 1 = k := ⟨k - 1, by omega⟩
          obtain ⟨b2, off2, y, hA2, hb2, hat2, hc2⟩ := HX.out.at j (by omega)
          obtain ⟨rfl, rfl⟩ : b1 = b2 ∧ off = off2 := by rw [hA1] at hA2; injection hA2 with h; injection h with h1 h2; exact ⟨h1, h2⟩
          have HT0 := Lib.hid hat2
          have HJ := Lib.hid hj
          have HK0 : Hid ((0 : Int) < (k : Int)) := by show _ < _; omega
          have hkj : (k : Int) - 1 = (j : Int) := by omega
          have hkw : IntKind.i64.wrap ((k : Int) - 1) = (j : Int) := by rw [hkj]; exact IntWalk.i64_in _ ⟨by omega, by omega⟩
          have hjw : IntKind.i64.wrap (j : Int) = (j : Int) := IntWalk.i64_in _ ⟨by omega, by omega⟩
          have hjn : (j : Int) < (n : Int) := by omega
          have hjn' : j < n := by omega
          have hk0 : decide (0 < k) = true := decide_eq_true (by have := HK0.out; omega)
          subst hA1
          clear h0 hj hat2 hA2
          by_cases hle : x ≤ y
          · obtain rfl : b = false := HNo.out (asc_bad (by rw [HJ.out]; exact HT.out) HT0.out hle)
            go_wp2
            go_quiet ((go_at_call 62; refine in_quiet (in_same x 0 9 true ⟨fun _ => HD.out, fun _ => rfl⟩ _)))
            clear hk0
            go_wp2
            go_ret
            exact ⟨rfl, by rw [World.drewN_drewN]; exact below_drewN (Below.refl _ _) _⟩
          · have HLe : Hid (y < x) := by show _ < _; omega
            go_wp2
            go_quiet ((go_at_call 62; refine in_quiet (in_same x 0 9 true ⟨fun _ => HD.out, fun _ => rfl⟩ _)))
            clear hk0
            go_wp2
            go_roundw
            case rel => exact ⟨k + 1, by omega, by go_num, ascUp_snoc HA.out HT.out HD.out (asc_next HJ.out HT0.out HLe.out), _, rfl⟩
            case measure => simp [intOf]; omega
    · obtain rfl : k = n := by omega
      have h := HA.out
      rw [ptake_all HX.out.1] at h
      have HH := Lib.hid h
      clear h
      by_cases h0 : (0 : Int) < (k : Int)
      · have hd : decide (0 < k) = true := by simp; omega
        obtain rfl : b = true := HB.out.2 ⟨fun e => by have := HX.out.1; rw [e] at this; simp at this; omega, HH.out⟩
        go_wp2
        go_ret
        exact ⟨by simp, below_drewN (Below.refl _ _) _⟩
      · obtain rfl : b = false := by
          cases b
          · rfl
          · exact absurd (List.length_eq_zero_iff.1 (by rw [HX.out.1]; omega)) (HB.out.1 rfl).1
        go_wp2
        go_ret
        exact ⟨by simp; omega, below_drewN (Below.refl _ _) _⟩
end Go.Proofs.YtceiocdemhkcdaaGreat.num
