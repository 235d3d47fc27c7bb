/-
  The laws' marks on slices of ints that a call made by append (nil, or with room behind).
-/
import Derived.Test.YtceiocdemhkcdaaGreatOwnInt
namespace Go.Proofs.YtceiocdemhkcdaaGreat.num
set_option maxRecDepth 20000
open Go.RowKit
set_option linter.unusedVariables false

theorem marks_at {k n j : Nat} (h : j < n) : ((marks k n).map (Value.int .i64))[j]? = some (.int .i64 ((k + j : Nat) : Int)) := by simp [marks, h]
theorem ownI_nil (w : World) (B : Nat) : OwnI w B (.slice none 0 0) [] := ⟨rfl, .inl ⟨rfl, rfl⟩⟩
set_option maxRecDepth 20000 in
theorem markI (w : World) (B : Nat) (v : Value) (l : List Int) (h : OwnI w B v l) (hn : l.length ≤ 1048576) (k0 : Nat) (hk0 : k0 ≤ 1152921504606846976) :
    Calls Tryz.prog 44 #[v, .int .i64 k0] w fun e w' => e = .returned (.int .i64 ((k0 + l.length : Nat) : Int)) ∧ OwnI w' B v (marks k0 l.length) ∧ OnlyV v w w' := by
  rcases ownI_row h with ⟨rfl, rfl⟩ | ⟨g, cap, f, rfl, hB, hle, hcap, hrow, hf⟩
  · go_enter Tryz.func44, Tryz.ntmps44
    go_wp2
    go_loopw [1, 5] (fun m i wr => i = .int .i64 0 ∧ m = .int .i64 k0 ∧ wr = w) (fun _ _ _ => 0)
    case atStart => exact ⟨rfl, rfl, rfl⟩
    case round =>
      obtain ⟨rfl, rfl, rfl⟩ := hrel
      go_wp2
      go_ret
      exact ⟨rfl, ownI_nil _ _, OnlyV.refl _ _⟩
  · obtain ⟨n, hn'⟩ : ∃ n, n = l.length := ⟨_, rfl⟩
    rw [← hn'] at hn hle hf ⊢
    clear h hn'
    have HW := Lib.hid hrow
    have hcap' : cap ≤ 9223372036854775807 := by unfold maxLen at hcap; omega
    have HF := Lib.hid hf
    have HCap := Lib.hid hcap
    clear hrow hf hcap
    go_enter Tryz.func44, Tryz.ntmps44
    go_wp2
    go_loopw [1, 5] (fun m i wr => ∃ k : Nat, k ≤ n ∧ i = .int .i64 k ∧ m = .int .i64 ((k0 + k : Nat) : Int) ∧ wr.rowIs g 3 cap (fun j => if j < k then .int .i64 ((k0 + j : Nat) : Int) else f j) ∧ OnlyV (.slice (some ⟨g, 0, none⟩) n cap) w wr) (fun _ i _ => n - (intOf i).toNat)
    case atStart => exact ⟨0, Nat.zero_le _, rfl, rfl, by simpa using HW.out, OnlyV.refl _ _⟩
    case round =>
      obtain ⟨k, hk, rfl, rfl, hrow, honly⟩ := hrel
      have HR := Lib.hid hrow
      have HO := Lib.hid honly
      by_cases hlt : k < n
      · have g1 : wr.cell? ⟨g, k, none⟩ = some (f k) := by rw [World.rowIs.cell hrow (by omega), if_neg (by omega)]
        have g3 := World.rowIs.frozen hrow k
        obtain ⟨m, hm⟩ : ∃ m : Nat, m = k0 + k := ⟨_, rfl⟩
        rw [← hm]
        have hm1 : m ≤ 4700000000000000000 := by omega
        have HM := Lib.hid hm
        clear hrow honly hm
        go_wp2
        go_roundw
        case rel =>
          refine ⟨k + 1, by omega, by go_num, ?_, (World.rowIs.set HR.out k (.int .i64 m)).congr (fun j _ => ?_), HO.out.set _ _⟩
          · have := HM.out; congr 1; omega
          · have := HM.out
            by_cases h1 : j = k
            · subst h1; rw [if_pos rfl, if_pos (by omega)]; congr 1; omega
            · by_cases h3 : j < k
              · rw [if_neg h1, if_pos h3, if_pos (by omega)]
              · rw [if_neg h1, if_neg h3, if_neg (by omega)]
        case measure => simp [intOf]; omega
      · obtain rfl : k = n := by omega
        obtain ⟨m, hm⟩ : ∃ m : Nat, m = k0 + k := ⟨_, rfl⟩
        rw [← hm]
        clear hrow honly
        have HM := Lib.hid hm
        clear hm
        go_wp2
        go_ret
        refine ⟨by show Ending.returned (.int .i64 (m : Int)) = _; rw [HM.out], ownI_of_row hB (marks_len _ _) hle HCap.out HR.out (fun j hj => ?_), HO.out⟩
        rw [marks_at hj, if_pos (by omega)]

set_option maxRecDepth 20000 in
theorem heldI (w : World) (B : Nat) (v : Value) (k0 n : Nat) (h : OwnI w B v (marks k0 n)) (hn : n ≤ 1048576) (hk0 : k0 ≤ 1152921504606846976) :
    Calls Tryz.prog 45 #[v, .int .i64 k0] w fun e w' => e = .returned (.int .i64 ((k0 + n : Nat) : Int)) ∧ w = w' := by
  rcases ownI_row h with ⟨rfl, h0⟩ | ⟨g, cap, f, rfl, hB, hle, hcap, hrow, hf⟩
  · obtain rfl : n = 0 := by have := congrArg List.length h0; rwa [marks_len] at this
    go_enter Tryz.func45, Tryz.ntmps45
    go_wp2
    go_loopw [1, 5] (fun m i wr => i = .int .i64 0 ∧ m = .int .i64 k0 ∧ wr = w) (fun _ _ _ => 0)
    case atStart => exact ⟨rfl, rfl, rfl⟩
    case round =>
      obtain ⟨rfl, rfl, rfl⟩ := hrel
      go_wp2
      go_ret
      exact ⟨rfl, rfl⟩
  · rw [marks_len] at hle hf ⊢
    have HW := Lib.hid hrow
    have hcap' : cap ≤ 9223372036854775807 := by unfold maxLen at hcap; omega
    have HF : Hid (∀ j, j < n → f j = .int .i64 ((k0 + j : Nat) : Int)) := Lib.hid fun j hj => by
      have := hf j hj
      rw [marks_at hj] at this
      exact (Option.some.inj this).symm
    clear hrow hf hcap h
    go_enter Tryz.func45, Tryz.ntmps45
    go_wp2
    go_loopw [1, 5] (fun m i wr => ∃ k : Nat, k ≤ n ∧ i = .int .i64 k ∧ m = .int .i64 ((k0 + k : Nat) : Int) ∧ wr = w) (fun _ i _ => n - (intOf i).toNat)
    case atStart => exact ⟨0, Nat.zero_le _, rfl, rfl, rfl⟩
    case round =>
      obtain ⟨k, hk, rfl, rfl, rfl⟩ := hrel
      obtain ⟨m, hm⟩ : ∃ m : Nat, m = k0 + k := ⟨_, rfl⟩
      rw [← hm]
      have hm1 : m ≤ 4700000000000000000 := by omega
      have HM := Lib.hid hm
      by_cases hlt : k < n
      · have g1 : wr.cell? ⟨g, k, none⟩ = some (.int .i64 m) := by
          rw [World.rowIs.cell HW.out (by omega), HF.out _ (by omega), hm]
        clear hm
        go_wp2
        go_roundw
        case rel => exact ⟨k + 1, by omega, by go_num, by have := HM.out; congr 1; omega, by first | rfl | trivial⟩
        case measure => simp [intOf]; omega
      · obtain rfl : k = n := by omega
        clear hm
        go_wp2
        go_ret
        exact ⟨by show Ending.returned (.int .i64 (m : Int)) = _; rw [HM.out], rfl⟩
end Go.Proofs.YtceiocdemhkcdaaGreat.num
