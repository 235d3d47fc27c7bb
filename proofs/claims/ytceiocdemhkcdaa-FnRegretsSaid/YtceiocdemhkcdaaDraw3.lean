/-
  The model's draws, from the law's argument.
-/
import Derived.Test.YtceiocdemhkcdaaDraw2
namespace Go.Proofs.Ytceiocdemhkcdaa.num
set_option maxRecDepth 20000
open Go.RowKit

theorem Row.wide {w : World} {B : Nat} {a : Option Addr} {len : Nat} (h : Row w B a len) : Row w w.heap.size a len := fun k hk => by
  obtain ⟨b, off, z, ha, _, hc, h0, h1⟩ := h k hk
  exact ⟨b, off, z, ha, World.block_lt_of_cell? w _ hc, hc, h0, h1⟩
theorem big_any (a : Option Addr) (len cap : Nat) (b : Bool) (hb : b = true ↔ 1048576 < len) (hl : len ≤ 9223372036854775807) (w : World) :
    Calls Try.prog 5 #[.slice a len cap] w fun e w' => e = .returned (.bool b) ∧ w = w' := by
  obtain rfl : b = decide (1048576 < len) := by rw [Bool.eq_iff_iff]; simpa using hb
  clear hb
  by_cases h : 1048576 < len
  · go_enter Try.func5, Try.ntmps5
    go_wp2
    go_ret
    exact ⟨by simp; omega, rfl⟩
  · go_enter Try.func5, Try.ntmps5
    go_wp2
    go_ret
    exact ⟨by simp; omega, rfl⟩

def OutNew (w : World) (a : Option Addr) (len cap : Nat) (e : Ending) (w' : World) : Prop :=
  ∃ g : Nat, e = .returned (.pointer (some ⟨g, 0, none⟩)) ∧ w.heap.size ≤ g ∧ Cur w' g a len cap ∧ Below w.heap.size w w'

set_option maxRecDepth 20000 in
theorem new_any (w : World) (a : Option Addr) (len cap : Nat) (hlen : len ≤ 1048576) (B : Nat) (hrow : Row w B a len) :
    Calls Try.prog 30 #[.slice a len cap] w (OutNew w a len cap) := by
  have HR := Lib.hid hrow
  clear hrow
  go_enter Try.func30, Try.ntmps30
  go_wp2
  go_loop [3, 4] (fun h i => ∃ (k : Nat) (x : Int), k ≤ len ∧ k ≤ 4000 ∧ i = .int .i64 k ∧ h = .int .i64 x ∧ 0 ≤ x ∧ x ≤ 1073741823) (fun _ i => len - (intOf i).toNat)
  case atStart => exact ⟨0, _, Nat.zero_le _, by omega, rfl, rfl, by omega, by omega⟩
  case round =>
    obtain ⟨k, x, hk, hk4, rfl, rfl, hx0, hx1⟩ := hrel
    by_cases hlt : k < len ∧ k < 4000
    · obtain ⟨h1, h2⟩ := hlt
      obtain ⟨b, off, z, rfl, hbB, hz, hz0, hz1⟩ := HR.out k h1
      have hd : decide ((k : Int) < 4000) = true := by simp; omega
      go_wp2
      go_round
      case rel => exact ⟨k + 1, _, by omega, by omega, by go_num, rfl, (and30 _).1, (and30 _).2⟩
      case measure => simp [intOf]; omega
    · go_wp2
      all_goals
        go_ret
        exact ⟨w.heap.size, rfl, Nat.le_refl _, ⟨0, x, Nat.zero_le _, heap_alloc_new w _⟩, (Below.refl _ _).alloc (Nat.le_refl _) _⟩

def OutNum (P : Int → Prop) (w : World) (e : Ending) (w' : World) : Prop := ∃ n : Int, e = .returned (.int .i64 n) ∧ P n ∧ Below w.heap.size w w'
def OutStr (w : World) (e : Ending) (w' : World) : Prop := ∃ l : List UInt8, e = .returned (.string ⟨l.toArray⟩) ∧ l.length ≤ 40 ∧ Below w.heap.size w w'
def OutTwo (w : World) (e : Ending) (w' : World) : Prop := ∃ n x : Int, e = .returned (.tuple #[.int .i64 n, .int .i64 x]) ∧ I64 n ∧ -1 ≤ x ∧ x ≤ 8 ∧ Below w.heap.size w w'

end Go.Proofs.Ytceiocdemhkcdaa.num
