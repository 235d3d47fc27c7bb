/-
  DecodeFixed, the program's and the model's: contracts. Both return the same pair for every string and every width.
-/
import Derived.Test.YtkdljnfoeigafaaDoorProg
import Derived.Test.YtkdljnfoeigafaaDoorMath
import Derived.WalkKit
import Derived.ProofKit
import Derived.Outline
namespace Go.Proofs.YtkdljnfoeigafaaDoor.num
open Go.RowKit

theorem or_i64 (a b : Nat) (ha : a < 281474976710656) (hb : b < 256) : bits .or .i64 ((a : Int) * 256) (b : Int) = ((a * 256 + b : Nat) : Int) := by
  show IntKind.i64.wrap ((BitVec.ofInt 64 ((a : Int) * 256) ||| BitVec.ofInt 64 (b : Int)).toNat : Int) = _
  have e : ((a : Int) * 256) = ((a * 256 : Nat) : Int) := by omega
  rw [e, BitVec.toNat_or, ofInt_u64 _ (by omega), ofInt_u64 b (by omega), or_add a b hb]
  exact IntWalk.i64_in _ ⟨by omega, by omega⟩

/-- l1In of the model. -/
theorem in_any (x l h : Int) (b : Bool) (hb : b = true ↔ l ≤ x ∧ x ≤ h) (w : World) :
    Calls Tryd.prog 26 #[.int .i64 x, .int .i64 l, .int .i64 h] w fun e w' => e = .returned (.bool b) ∧ w = w' := by
  obtain rfl : b = (decide (l ≤ x) && decide (x ≤ h)) := by rw [Bool.eq_iff_iff]; simpa using hb
  clear hb
  by_cases h1 : l ≤ x
  · go_enter Tryd.func26, Tryd.ntmps26
    go_wp2
    go_ret
    exact ⟨by simp [h1], rfl⟩
  · go_enter Tryd.func26, Tryd.ntmps26
    go_wp2
    go_ret
    exact ⟨by simp; omega, rfl⟩

theorem width_any (x : Int) (b : Bool) (hb : b = true ↔ 1 ≤ x ∧ x ≤ 7) (w : World) :
    Calls Tryd.prog 25 #[.int .i64 x] w fun e w' => e = .returned (.bool b) ∧ w = w' := by
  obtain rfl : b = (decide (1 ≤ x) && decide (x ≤ 7)) := by rw [Bool.eq_iff_iff]; simpa using hb
  clear hb
  by_cases h1 : 1 ≤ x
  · go_enter Tryd.func25, Tryd.ntmps25
    go_wp2
    go_ret
    exact ⟨by simp [h1], rfl⟩
  · go_enter Tryd.func25, Tryd.ntmps25
    go_wp2
    go_ret
    exact ⟨by simp; omega, rfl⟩

theorem iDecFixed_no (s : ByteArray) (_hs : s.size ≤ 9223372036854775807) (n : Int) (h : ¬ (1 ≤ n ∧ n ≤ 7 ∧ n ≤ s.size)) (w : World) :
    Calls Tryd.prog 13 #[.string s, .int .i64 n] w fun e w' => e = .returned (.tuple #[.int .i64 0, .bool false]) ∧ w = w' := by
  by_cases h1 : 1 ≤ n ∧ n ≤ 7
  · have h2 : (s.size : Int) < n := by omega
    go_enter Tryd.func13, Tryd.ntmps13
    go_wp2_with (go_at_call 25; refine (width_any _ true (by simp; omega) _).mono ?_; rintro e w' ⟨rfl, rfl⟩)
    go_ret2
    exact ⟨rfl, rfl⟩
  · go_enter Tryd.func13, Tryd.ntmps13
    go_wp2_with (go_at_call 25; refine (width_any _ false (by simp; omega) _).mono ?_; rintro e w' ⟨rfl, rfl⟩)
    go_ret2
    exact ⟨rfl, rfl⟩

theorem iDecFixed_yes (s : ByteArray) (hs : s.size ≤ 9223372036854775807) (n : Nat) (h1 : 1 ≤ n) (h2 : n ≤ 7) (h3 : n ≤ s.size) (w : World) :
    Calls Tryd.prog 13 #[.string s, .int .i64 n] w fun e w' => e = .returned (.tuple #[.int .i64 (beVal (s.data.toList.take n)), .bool true]) ∧ w = w' := by
  go_enter Tryd.func13, Tryd.ntmps13
  go_wp2_with (go_at_call 25; refine (width_any _ true (by simp; omega) _).mono ?_; rintro e w' ⟨rfl, rfl⟩)
  go_loop [6, 18] (fun v i => ∃ k : Nat, k ≤ n ∧ i = .int .i64 k ∧ v = .int .i64 (beVal (s.data.toList.take k))) (fun _ i => n - (intOf i).toNat)
  case atStart => exact ⟨0, Nat.zero_le _, rfl, rfl⟩
  case round =>
    obtain ⟨k, hk, rfl, rfl⟩ := hrel
    by_cases hlt : k < n
    · have hb := beVal_take_lt6 s k (by omega)
      have hks : k < s.size := by omega
      have hc := (s[k]).toNat_lt
      have HS : Hid (beVal (s.data.toList.take (k + 1)) = beVal (s.data.toList.take k) * 256 + (s[k]).toNat) := by rw [take_snoc s k hks, beVal_snoc]; rfl
      go_wp2
      go_round
      case rel => exact ⟨k + 1, by omega, by go_num, by rw [HS.out, or_i64 _ _ hb (by omega)]⟩
      case measure => simp [intOf]; omega
    · obtain rfl : k = n := by omega
      go_wp2
      go_ret2
      exact ⟨rfl, rfl⟩
end Go.Proofs.YtkdljnfoeigafaaDoor.num
