/-
  Slices of ints in a law: how they come in, how the law copies, compares, marks them and looks at them.
-/
import Derived.Test.YtjjlhiaghjipcaaLawRes
import Derived.ChangeSame
namespace Go.Proofs.Ytjjlhiaghjipcaa.num
set_option maxRecDepth 20000
open Go.RowKit
set_option linter.unusedVariables false
set_option linter.unusedSimpArgs false

theorem eqIntsW (w : World) (B : Nat) (A A' : Option Addr) (n n' c c' : Nat) (xs ys : List Int) (hx : Ints w B A n xs) (hy : Ints w B A' n' ys) (hn : n ≤ 4194304) (b : Bool) (hb : b = true ↔ xs = ys) :
    Calls Try.prog 37 #[.slice A n c, .slice A' n' c'] w fun e w' => e = .returned (.bool b) ∧ ∃ m, w' = w.drewN m := by
  have HX := Lib.hid hx
  have HY := Lib.hid hy
  by_cases hl : n = n'
  · subst hl
    have HB := Lib.hid hb
    clear hx hy hb
    go_enter Try.func37, Try.ntmps37
    go_wp2
    go_loopw [5] (fun i wr => ∃ k : Nat, k ≤ n ∧ i = .int .i64 k ∧ xs.take k = ys.take k ∧ ∃ m, wr = w.drewN m) (fun i _ => n - (intOf i).toNat)
    case atStart => exact ⟨0, Nat.zero_le _, rfl, rfl, 0, rfl⟩
    case round =>
      obtain ⟨k, hk, rfl, htake, m, rfl⟩ := hrel
      have HT := Lib.hid htake
      clear htake
      by_cases hlt : k < n
      · obtain ⟨b1, off1, rfl, hb1, hc1⟩ := HX.out.2 k hlt
        obtain ⟨b2, off2, rfl, hb2, hc2⟩ := HY.out.2 k hlt
        generalize hv1 : xs.getD k 0 = v1 at *
        generalize hv2 : ys.getD k 0 = v2 at *
        have HV1 := Lib.hid hv1
        have HV2 := Lib.hid hv2
        clear hv1 hv2
        have hlt' : (k : Int) < (n : Int) := by omega
        by_cases he : v1 = v2
        · subst he
          go_wp2
          go_quiet (fail)
          go_wp2
          go_roundw
          case rel => exact ⟨k + 1, by omega, by go_num, by rw [take_snoc_getD HX.out.1 hlt, take_snoc_getD HY.out.1 hlt, HT.out, HV1.out, HV2.out], _, rfl⟩
          case measure => simp [intOf]; omega
        · have hne : (v1 != v2) = true := by simpa using he
          have hxy : xs ≠ ys := ne_at (k := k) (by rw [HV1.out, HV2.out]; exact he)
          obtain rfl : b = false := by
            cases b
            · rfl
            · exact absurd (HB.out.1 rfl) hxy
          have HE := Lib.hid he
          clear he hxy
          go_wp2
          go_quiet (fail)
          go_wp2
          go_ret
          exact ⟨rfl, _, World.drewN_drewN _ _ _⟩
      · obtain rfl : k = n := by omega
        obtain rfl : b = true := HB.out.2 (by
          have h1 := HT.out
          rwa [List.take_of_length_le (by rw [HX.out.1]; exact Nat.le_refl _), List.take_of_length_le (by rw [HY.out.1]; exact Nat.le_refl _)] at h1)
        go_wp2
        go_ret
        exact ⟨rfl, _, rfl⟩
  · obtain rfl : b = false := by
      cases b
      · rfl
      · exact absurd (by rw [← hx.1, hb.1 rfl, hy.1]) hl
    clear hx hy hb
    go_enter Try.func37, Try.ntmps37
    go_wp2
    go_ret
    exact ⟨rfl, 0, rfl⟩
set_option maxRecDepth 20000 in
theorem markIW (w : World) (B : Nat) (v : Value) (l : List Int) (h : OwnI w B v l) (hn : l.length ≤ 4194304) (k0 : Nat) (hk0 : k0 ≤ 1152921504606846976) :
    Calls Try.prog 43 #[v, .int .i64 k0] w fun e w' => e = .returned (.int .i64 ((k0 + l.length : Nat) : Int)) ∧ OwnI w' B v (marks k0 l.length) ∧ OnlyV v w w' := by
  rcases ownI_row h with ⟨rfl, rfl⟩ | ⟨g, cap, f, rfl, hB, hle, hcap, hrow, hf⟩
  · go_enter Try.func43, Try.ntmps43
    go_wp2
    go_loopw [1, 5] (fun m i wr => i = .int .i64 0 ∧ m = .int .i64 k0 ∧ wr = w) (fun _ _ _ => 0)
    case atStart => exact ⟨rfl, rfl, rfl⟩
    case round =>
      obtain ⟨rfl, rfl, rfl⟩ := hrel
      go_wp2
      go_ret
      exact ⟨rfl, ownI_nil _ _, OnlyV.refl _ _⟩
  · obtain ⟨n, hn'⟩ : ∃ n, n = l.length := ⟨_, rfl⟩
    rw [← hn'] at hn hle hf ⊢
    clear h hn'
    have HW := Lib.hid hrow
    have hcap' : cap ≤ 9223372036854775807 := by unfold maxLen at hcap; omega
    have HF := Lib.hid hf
    have HCap := Lib.hid hcap
    clear hrow hf hcap
    go_enter Try.func43, Try.ntmps43
    go_wp2
    go_loopw [1, 5] (fun m i wr => ∃ k : Nat, k ≤ n ∧ i = .int .i64 k ∧ m = .int .i64 ((k0 + k : Nat) : Int) ∧ wr.rowIs g 3 cap (fun j => if j < k then .int .i64 ((k0 + j : Nat) : Int) else f j) ∧ OnlyV (.slice (some ⟨g, 0, none⟩) n cap) w wr) (fun _ i _ => n - (intOf i).toNat)
    case atStart => exact ⟨0, Nat.zero_le _, rfl, rfl, by simpa using HW.out, OnlyV.refl _ _⟩
    case round =>
      obtain ⟨k, hk, rfl, rfl, hrow, honly⟩ := hrel
      have HR := Lib.hid hrow
      have HO := Lib.hid honly
      by_cases hlt : k < n
      · have g1 : wr.cell? ⟨g, k, none⟩ = some (f k) := by rw [World.rowIs.cell hrow (by omega), if_neg (by omega)]
        have g3 := World.rowIs.frozen hrow k
        obtain ⟨m, hm⟩ : ∃ m : Nat, m = k0 + k := ⟨_, rfl⟩
        rw [← hm]
        have hm1 : m ≤ 4700000000000000000 := by omega
        have HM := Lib.hid hm
        clear hrow honly hm
        go_wp2
        go_roundw
        case rel =>
          refine ⟨k + 1, by omega, by go_num, ?_, (World.rowIs.set HR.out k (.int .i64 m)).congr (fun j _ => ?_), HO.out.set _ _⟩
          · have := HM.out; congr 1; omega
          · have := HM.out
            by_cases h1 : j = k
            · subst h1; rw [if_pos rfl, if_pos (by omega)]; congr 1; omega
            · by_cases h3 : j < k
              · rw [if_neg h1, if_pos h3, if_pos (by omega)]
              · rw [if_neg h1, if_neg h3, if_neg (by omega)]
        case measure => simp [intOf]; omega
      · obtain rfl : k = n := by omega
        obtain ⟨m, hm⟩ : ∃ m : Nat, m = k0 + k := ⟨_, rfl⟩
        rw [← hm]
        clear hrow honly
        have HM := Lib.hid hm
        clear hm
        go_wp2
        go_ret
        refine ⟨by show Ending.returned (.int .i64 (m : Int)) = _; rw [HM.out], ownI_of_row hB (marks_len _ _) hle HCap.out HR.out (fun j hj => ?_), HO.out⟩
        rw [marks_at hj, if_pos (by omega)]

set_option maxRecDepth 20000 in
theorem heldIW (w : World) (B : Nat) (v : Value) (k0 n : Nat) (h : OwnI w B v (marks k0 n)) (hn : n ≤ 4194304) (hk0 : k0 ≤ 1152921504606846976) :
    Calls Try.prog 44 #[v, .int .i64 k0] w fun e w' => e = .returned (.int .i64 ((k0 + n : Nat) : Int)) ∧ w = w' := by
  rcases ownI_row h with ⟨rfl, h0⟩ | ⟨g, cap, f, rfl, hB, hle, hcap, hrow, hf⟩
  · obtain rfl : n = 0 := by have := congrArg List.length h0; rwa [marks_len] at this
    go_enter Try.func44, Try.ntmps44
    go_wp2
    go_loopw [1, 5] (fun m i wr => i = .int .i64 0 ∧ m = .int .i64 k0 ∧ wr = w) (fun _ _ _ => 0)
    case atStart => exact ⟨rfl, rfl, rfl⟩
    case round =>
      obtain ⟨rfl, rfl, rfl⟩ := hrel
      go_wp2
      go_ret
      exact ⟨rfl, rfl⟩
  · rw [marks_len] at hle hf ⊢
    have HW := Lib.hid hrow
    have hcap' : cap ≤ 9223372036854775807 := by unfold maxLen at hcap; omega
    have HF : Hid (∀ j, j < n → f j = .int .i64 ((k0 + j : Nat) : Int)) := Lib.hid fun j hj => by
      have := hf j hj
      rw [marks_at hj] at this
      exact (Option.some.inj this).symm
    clear hrow hf hcap h
    go_enter Try.func44, Try.ntmps44
    go_wp2
    go_loopw [1, 5] (fun m i wr => ∃ k : Nat, k ≤ n ∧ i = .int .i64 k ∧ m = .int .i64 ((k0 + k : Nat) : Int) ∧ wr = w) (fun _ i _ => n - (intOf i).toNat)
    case atStart => exact ⟨0, Nat.zero_le _, rfl, rfl, rfl⟩
    case round =>
      obtain ⟨k, hk, rfl, rfl, rfl⟩ := hrel
      obtain ⟨m, hm⟩ : ∃ m : Nat, m = k0 + k := ⟨_, rfl⟩
      rw [← hm]
      have hm1 : m ≤ 4700000000000000000 := by omega
      have HM := Lib.hid hm
      by_cases hlt : k < n
      · have g1 : wr.cell? ⟨g, k, none⟩ = some (.int .i64 m) := by
          rw [World.rowIs.cell HW.out (by omega), HF.out _ (by omega), hm]
        clear hm
        go_wp2
        go_roundw
        case rel => exact ⟨k + 1, by omega, by go_num, by have := HM.out; congr 1; omega, by first | rfl | trivial⟩
        case measure => simp [intOf]; omega
      · obtain rfl : k = n := by omega
        clear hm
        go_wp2
        go_ret
        exact ⟨by show Ending.returned (.int .i64 (m : Int)) = _; rw [HM.out], rfl⟩
theorem ResI.eqW {w : World} {lo hi lo' hi' : Nat} {A A' : Option Addr} {n n' c c' : Nat} {l l' : List Int} (h1 : ResI w lo hi (.slice A n c) l) (h2 : ResI w lo' hi' (.slice A' n' c') l') (hn : l.length ≤ 4194304) (b : Bool) (hb : b = true ↔ l = l') :
    Calls Try.prog 37 #[.slice A n c, .slice A' n' c'] w fun e w' => e = .returned (.bool b) ∧ Below w.heap.size w w' := by
  have e1 := (ownI_at h1.own).1
  exact (eqIntsW w w.heap.size _ _ n n' c c' l l' (ownI_at h1.own) (ownI_at h2.own) (by omega) b hb).mono fun _ _ ⟨he, m, hm⟩ => ⟨he, hm ▸ below_drewN (Below.refl _ _) m⟩
theorem ResI.markW {w : World} {lo hi : Nat} {v : Value} {l : List Int} (h : ResI w lo hi v l) (hn : l.length ≤ 4194304) (z : Int) (k0 : Nat) (hz : z = (k0 : Int)) (hk0 : k0 ≤ 1152921504606846976) :
    Calls Try.prog 43 #[v, .int .i64 z] w fun e w' => e = .returned (.int .i64 ((k0 + l.length : Nat) : Int)) ∧ ResI w' lo hi v (marks k0 l.length) ∧ OnlyS (fun b => lo ≤ b ∧ b < hi) w w' := by
  subst hz
  refine (markIW w lo v l h.own hn k0 hk0).mono ?_
  rintro e w' ⟨rfl, h1, h2⟩
  exact ⟨rfl, ⟨h1, h.top, by rw [h2.size]; exact h.le⟩, h2.s fun b hb => ⟨ownI_lows h.own b hb, h.top b hb⟩⟩
theorem ResI.heldW {w : World} {lo hi : Nat} {v : Value} {n k0 : Nat} (h : ResI w lo hi v (marks k0 n)) (hn : n ≤ 4194304) (z : Int) (hz : z = (k0 : Int)) (hk0 : k0 ≤ 1152921504606846976) :
    Calls Try.prog 44 #[v, .int .i64 z] w fun e w' => e = .returned (.int .i64 ((k0 + n : Nat) : Int)) ∧ w = w' := by
  subst hz
  exact heldIW w lo v k0 n h.own hn hk0
theorem ResI.ints {w : World} {lo hi : Nat} {A : Option Addr} {n c : Nat} {l : List Int} (h : ResI w lo hi (.slice A n c) l) : Ints w w.heap.size A n l := ownI_at h.own
/-- toIntS: a copy of the law's own. -/
theorem toInts_r (w : World) (B : Nat) (A : Option Addr) (n c : Nat) (xs : List Int) (hi : Ints w B A n xs) (hB : B ≤ w.heap.size) (hn : n ≤ 1048576) :
    Calls Try.prog 35 #[.slice A n c] w fun e w' => (e = .returned (.slice (some ⟨w.heap.size, 0, none⟩) n n) ∧ ResI w' w.heap.size w'.heap.size (.slice (some ⟨w.heap.size, 0, none⟩) n n) xs) ∧ Below w.heap.size w w' := by
  refine (toInts w B A n c xs hi hB hn).mono ?_
  rintro e w' ⟨rfl, rfl⟩
  have hr := IntRow.made w xs w.heap.size rfl
  refine ⟨⟨rfl, ⟨?_, fun b hb => ?_, Nat.le_refl _⟩⟩, (Below.refl _ _).alloc (Nat.le_refl _) _⟩
  · have hl := hi.1
    refine ownI_of_row (Nat.le_refl _) hl (Nat.le_refl _) (by unfold maxLen; omega) (f := fun j => .int .i64 (xs.getD j 0)) ?_ fun j hj => ?_
    · have h2 := hr
      unfold IntRow at h2
      rwa [hl] at h2
    · rw [List.getElem?_map, List.getD_eq_getElem?_getD, List.getElem?_eq_getElem (by omega)]; rfl
  · have : w.heap.size = b := Option.some.inj hb
    rw [World.size_alloc]
    omega
section
variable {H : Type} {enc : TypeId × Value → H} {W : World}
open Go.ChangeShapes Go.WideShapes
theorem open_intsN {b0 : Nat} {v : Value} {d : DataW H} {p : List MemPlace} (hv : Value.okWide Try.prog W .any b0 25 v) (h : DataW.Trod enc Try.prog W 0 (fun _ => true) true 25 v d p) :
    ∃ A n c xs, v = .slice A n c ∧ n ≤ 9223372036854775807 ∧ Ints W W.heap.size A n xs := by
  obtain ⟨A, n, c, rfl⟩ := okWide_slice Try.underlying25 hv
  obtain ⟨fuel, hf⟩ := h
  rcases open_ints Try.underlying25 Try.underlying3 (by kernel_rfl) hf with ⟨hcs, _⟩ | ⟨x, l, c', zs, hcs, _, hl, hm, hz, _, hcell, hwz⟩
  · simp [Value.cells] at hcs
    obtain ⟨rfl, rfl, rfl⟩ := hcs
    exact ⟨none, 0, 0, [], rfl, by omega, rfl, fun k hk => absurd hk (Nat.not_lt_zero _)⟩
  · simp [Value.cells] at hcs
    obtain ⟨rfl, rfl, rfl⟩ := hcs
    have hz' : zs.length = c := by simpa using hz
    refine ⟨_, n, c, zs.take n, rfl, by unfold maxLen at hm; omega, by rw [List.length_take]; omega, fun k hk => ?_⟩
    have h0 := hcell k (by omega)
    obtain ⟨b, off, spot⟩ := x
    have hspot : spot = none := by
      have h00 := hcell 0 (by omega)
      have := World.cell?_spot h00
      simpa [Addr.add] using this
    subst hspot
    have e : (⟨b, off, none⟩ : Addr).add k = ⟨b, off + k, none⟩ := by unfold Addr.add; split <;> simp_all
    rw [e] at h0
    refine ⟨b, off, rfl, World.block_lt_of_cell? W _ h0, ?_⟩
    rw [h0, List.getD_eq_getElem?_getD, List.getD_eq_getElem?_getD, List.getElem?_take_of_lt hk]
end
end Go.Proofs.Ytjjlhiaghjipcaa.num
