/-
  DecodeFixed, the program's and the model's: contracts. Both return the same pair for every string and every width.
-/
import Derived.Test.YtadjoiahllekdaaGreatDoorProg
import Derived.Test.YtadjoiahllekdaaGreatDoorMath
import Derived.WalkKit
import Derived.ProofKit
import Derived.Outline
namespace Go.Proofs.YtadjoiahllekdaaGreatDoor.num
set_option maxRecDepth 20000
open Go.RowKit

theorem or_i64 (a b : Nat) (ha : a < 281474976710656) (hb : b < 256) : bits .or .i64 ((a : Int) * 256) (b : Int) = ((a * 256 + b : Nat) : Int) := by
  show IntKind.i64.wrap ((BitVec.ofInt 64 ((a : Int) * 256) ||| BitVec.ofInt 64 (b : Int)).toNat : Int) = _
  have e : ((a : Int) * 256) = ((a * 256 : Nat) : Int) := by omega
  rw [e, BitVec.toNat_or, ofInt_u64 _ (by omega), ofInt_u64 b (by omega), or_add a b hb]
  exact IntWalk.i64_in _ ⟨by omega, by omega⟩

/-- l1In of the model. -/
theorem in_any (x l h : Int) (b : Bool) (hb : b = true ↔ l ≤ x ∧ x ≤ h) (w : World) :
    Calls Tryz.prog 59 #[.int .i64 x, .int .i64 l, .int .i64 h] w fun e w' => e = .returned (.bool b) ∧ w = w' := by
  obtain rfl : b = (decide (l ≤ x) && decide (x ≤ h)) := by rw [Bool.eq_iff_iff]; simpa using hb
  clear hb
  by_cases h1 : l ≤ x
  · go_enter Tryz.func59, Tryz.ntmps59
    go_wp2
    go_ret
    exact ⟨by simp [h1], rfl⟩
  · go_enter Tryz.func59, Tryz.ntmps59
    go_wp2
    go_ret
    exact ⟨by simp; omega, rfl⟩

end Go.Proofs.YtadjoiahllekdaaGreatDoor.num
