/-
  strings.IndexRune in the sixteen hexadecimal digits: at a rune below 128 the digit's number or -1; at any other rune -1.
-/
import Derived.Test.YtkdljnfoeigafaaDoorShelf
import Derived.Test.YtkdljnfoeigafaaDoorBytes
import Derived.Laws.Runes
import Derived.Lib.OthersKept
import Derived.Deep.QuietTactic
import Derived.BigQuiet
import Derived.Deep.RegionWith
import Derived.WalkSpells
import Derived.WalkMore
import Derived.LoopN
namespace Go.Proofs.YtkdljnfoeigafaaDoor.num
open Go.RowKit

abbrev hexStr : ByteArray := ⟨#[48, 49, 50, 51, 52, 53, 54, 55, 56, 57, 97, 98, 99, 100, 101, 102]⟩
/-- The digit's number, or -1. -/
def hexv (b : Nat) : Int := if 48 ≤ b ∧ b ≤ 57 then (b : Int) - 48 else if 97 ≤ b ∧ b ≤ 102 then (b : Int) - 87 else -1

theorem index_small : ∀ b : Fin 128, Lib.indexByte hexStr.data.toList (UInt8.ofNat b.val) = hexv b.val := by decide +kernel
theorem index_of (b : Nat) (h : b < 128) : Lib.indexByte hexStr.data.toList (((b : Int)).toNat.toUInt8) = hexv b := by
  have := index_small ⟨b, h⟩
  simpa using this

theorem idx_low (b : Nat) (h : b < 128) (w : World) :
    Calls Tryd.prog 27 #[.string hexStr, .int .i32 b] w fun e w' => e = .returned (.int .i64 (hexv b)) ∧ w = w' :=
  (Tryd.strings_IndexRune_ascii hexStr b w (by omega) (by omega)).mono fun _ _ ⟨he, hw⟩ => ⟨by rw [he, index_of b h], hw.symm⟩

set_option maxRecDepth 100000 in
theorem idx_bad (r : Int) (hv : Lib.validRune r = false) (h : 128 ≤ r) (h2 : r ≠ 65533) (w : World) :
    Calls Tryd.prog 27 #[.string hexStr, .int .i32 r] w fun e w' => e = .returned (.int .i64 (-1)) ∧ Below w.heap.size w w' := by
  have h3 : (r == 65533) = false := by simpa using h2
  clear h2
  go_enter Tryd.func27, Tryd.ntmps27
  go_wp2_with (go_at_call 34; refine (Tryd.utf8_ValidRune _ _).mono ?_; rintro e w' ⟨rfl, rfl⟩)
  go_ret
  exact ⟨rfl, Below.refl _ _⟩

theorem hex_low : ∀ p : Fin 16, (hexStr.data.getD p.val 0).toNat < 128 := by decide
theorem hex_ascii (pos : Nat) (h : pos < hexStr.size) : (hexStr[pos]).toNat < 128 := by
  have e : hexStr[pos] = hexStr.data.getD pos 0 := by
    rw [Array.getD_eq_getD_getElem?, Array.getElem?_eq_getElem h]; rfl
  rw [e]
  exact hex_low ⟨pos, h⟩

set_option maxRecDepth 100000 in
theorem idx_err (w : World) :
    Calls Tryd.prog 27 #[.string hexStr, .int .i32 65533] w fun e w' => e = .returned (.int .i64 (-1)) ∧ Below w.heap.size w w' := by
  go_enter Tryd.func27, Tryd.ntmps27
  go_wp2
  go_loopw [5] (fun _ wr => ∃ pos : Nat, pos ≤ 16 ∧ wr.heap[w.heap.size]? = some (.stringIter hexStr pos) ∧ Below w.heap.size w wr) (fun _ wr => 16 - wr.iterPos w.heap.size)
  case atStart => exact ⟨0, Nat.zero_le _, World.iter_heap w _ 0, (Below.refl _ _).alloc (Nat.le_refl _) _⟩
  case round =>
    obtain ⟨pos, hp, hit, hbel⟩ := hrel
    by_cases hlt : pos < hexStr.size
    · have hnext := fun ty => Lib.run_next_ascii_at (P := Tryd.prog) wr w.heap.size hexStr pos ty hit hlt (hex_ascii pos hlt)
      have ha := hex_ascii pos hlt
      go_wp2
      go_roundw
      case rel => exact ⟨pos + 1, by have : hexStr.size = 16 := rfl; omega, Lib.iterAt_heap wr _ _ pos _ hit, Lib.below_iterAt hbel (Nat.le_refl _) _ _⟩
      case measure =>
        have h1 : wr.iterPos w.heap.size = pos := by simp [World.iterPos, hit]
        have h2 : (wr.iterAt w.heap.size hexStr (pos + 1)).iterPos w.heap.size = pos + 1 := by simp [World.iterPos, Lib.iterAt_heap wr _ _ pos (pos + 1) hit]
        have : hexStr.size = 16 := rfl
        omega
    · have hnext := fun ty => Lib.run_next_end_at (P := Tryd.prog) wr w.heap.size hexStr pos ty hit hlt
      go_wp2
      go_ret
      exact ⟨rfl, hbel⟩

theorem hex_all : ∀ b ∈ hexStr.data.toList, b.toNat < 128 := by decide
theorem hex_ext (a e : Nat) : ∀ b ∈ (hexStr.extract a e).data.toList, b.toNat < 128 := fun b hb => hex_all b (mem_extract hb)
theorem index_none : ∀ (l : List UInt8) (c : UInt8), (∀ b ∈ l, b.toNat < 128) → 128 ≤ c.toNat → Lib.indexByte l c = -1
  | [], _, _, _ => rfl
  | b :: l, c, h, hc => by
    have h1 := h b (by simp)
    have h2 := index_none l c (fun x hx => h x (by simp [hx])) hc
    have h3 : (b == c) = false := by
      rw [beq_eq_false_iff_ne]
      intro e
      subst e
      omega
    rw [Lib.indexByte, h3, h2]
    rfl
theorem ib_high (t : ByteArray) (c : Int) (ht : ∀ b ∈ t.data.toList, b.toNat < 128) (hc : 128 ≤ c.toNat.toUInt8.toNat) (w : World) :
    Calls Tryd.prog 33 #[.string t, .int .u8 c] w fun e w' => e = .returned (.int .i64 (-1)) ∧ w = w' :=
  (Tryd.strings_IndexByte t c w).mono fun e w' ⟨he, hw⟩ => by
    refine ⟨?_, hw.symm⟩
    rw [he, index_none _ _ ht hc]

set_option maxRecDepth 100000 in
theorem idx_two (r : Int) (a z : UInt8) (he : Utf8.encode r = ⟨#[a, z]⟩) (hb : 128 ≤ z.toNat) (hv : Lib.validRune r = true) (h : 128 ≤ r) (h2 : r ≠ 65533) (w : World) :
    Calls Tryd.prog 27 #[.string hexStr, .int .i32 r] w fun e w' => e = .returned (.int .i64 (-1)) ∧ Below w.heap.size w w' := by
  have h3 : (r == 65533) = false := by simpa using h2
  have h4 : (((hexStr[1]'(by decide)).toNat : Int) != (((⟨#[a, z]⟩ : ByteArray)[1]'(show 1 < 2 by omega)).toNat : Int)) = true := by
    show ((49 : Int) != (z.toNat : Int)) = true
    rw [bne_iff_ne]; omega
  have hzz : 128 ≤ ((z.toNat : Int)).toNat.toUInt8.toNat := by simpa using hb
  clear h2
  go_enter Tryd.func27, Tryd.ntmps27
  go_wp2_with (go_at_call 34; refine (Tryd.utf8_ValidRune _ _).mono ?_; rintro e w' ⟨rfl, rfl⟩)
  go_step3
  go_wp2
  refine wp_loop_rounds 1 ?_
  rw [rounds_succ]
  go_wp2
  go_step3
  go_wp2
  go_region
  go_wp2
  go_region_with (go_at_call 33; refine (ib_high _ _ (hex_ext _ _) hzz _).mono ?_; rintro e w1 ⟨rfl, rfl⟩)
  all_goals
    go_wp2
    rw [Exit.noGoto_ret]
    try go_wp2
    try rw [Exit.noGoto_ret]
    go_ret
    exact ⟨rfl, by first | exact Below.refl _ _ | exact (Below.refl _ _).drew | exact (Below.refl _ _).drew.drew⟩

set_option maxRecDepth 100000 in
theorem idx_three (r : Int) (a b z : UInt8) (he : Utf8.encode r = ⟨#[a, b, z]⟩) (hb : 128 ≤ z.toNat) (hv : Lib.validRune r = true) (h : 128 ≤ r) (h2 : r ≠ 65533) (w : World) :
    Calls Tryd.prog 27 #[.string hexStr, .int .i32 r] w fun e w' => e = .returned (.int .i64 (-1)) ∧ Below w.heap.size w w' := by
  have h3 : (r == 65533) = false := by simpa using h2
  have h4 : (((hexStr[2]'(by decide)).toNat : Int) != (((⟨#[a, b, z]⟩ : ByteArray)[2]'(show 2 < 3 by omega)).toNat : Int)) = true := by
    show ((50 : Int) != (z.toNat : Int)) = true
    rw [bne_iff_ne]; omega
  have hzz : 128 ≤ ((z.toNat : Int)).toNat.toUInt8.toNat := by simpa using hb
  clear h2
  go_enter Tryd.func27, Tryd.ntmps27
  go_wp2_with (go_at_call 34; refine (Tryd.utf8_ValidRune _ _).mono ?_; rintro e w' ⟨rfl, rfl⟩)
  go_step3
  go_wp2
  refine wp_loop_rounds 1 ?_
  rw [rounds_succ]
  go_wp2
  go_step3
  go_wp2
  go_region
  go_wp2
  go_region_with (go_at_call 33; refine (ib_high _ _ (hex_ext _ _) hzz _).mono ?_; rintro e w1 ⟨rfl, rfl⟩)
  all_goals
    go_wp2
    rw [Exit.noGoto_ret]
    try go_wp2
    try rw [Exit.noGoto_ret]
    go_ret
    exact ⟨rfl, by first | exact Below.refl _ _ | exact (Below.refl _ _).drew | exact (Below.refl _ _).drew.drew⟩

set_option maxRecDepth 100000 in
theorem idx_four (r : Int) (a b c z : UInt8) (he : Utf8.encode r = ⟨#[a, b, c, z]⟩) (hb : 128 ≤ z.toNat) (hv : Lib.validRune r = true) (h : 128 ≤ r) (h2 : r ≠ 65533) (w : World) :
    Calls Tryd.prog 27 #[.string hexStr, .int .i32 r] w fun e w' => e = .returned (.int .i64 (-1)) ∧ Below w.heap.size w w' := by
  have h3 : (r == 65533) = false := by simpa using h2
  have h4 : (((hexStr[3]'(by decide)).toNat : Int) != (((⟨#[a, b, c, z]⟩ : ByteArray)[3]'(show 3 < 4 by omega)).toNat : Int)) = true := by
    show ((51 : Int) != (z.toNat : Int)) = true
    rw [bne_iff_ne]; omega
  have hzz : 128 ≤ ((z.toNat : Int)).toNat.toUInt8.toNat := by simpa using hb
  clear h2
  go_enter Tryd.func27, Tryd.ntmps27
  go_wp2_with (go_at_call 34; refine (Tryd.utf8_ValidRune _ _).mono ?_; rintro e w' ⟨rfl, rfl⟩)
  go_step3
  go_wp2
  refine wp_loop_rounds 1 ?_
  rw [rounds_succ]
  go_wp2
  go_step3
  go_wp2
  go_region
  go_wp2
  go_region_with (go_at_call 33; refine (ib_high _ _ (hex_ext _ _) hzz _).mono ?_; rintro e w1 ⟨rfl, rfl⟩)
  all_goals
    go_wp2
    rw [Exit.noGoto_ret]
    try go_wp2
    try rw [Exit.noGoto_ret]
    go_ret
    exact ⟨rfl, by first | exact Below.refl _ _ | exact (Below.refl _ _).drew | exact (Below.refl _ _).drew.drew⟩

theorem encode_cases (r : Int) (hv : Lib.validRune r = true) (h : 128 ≤ r) :
    (∃ a z : UInt8, Utf8.encode r = ⟨#[a, z]⟩ ∧ 128 ≤ z.toNat) ∨ (∃ a b z : UInt8, Utf8.encode r = ⟨#[a, b, z]⟩ ∧ 128 ≤ z.toNat) ∨ (∃ a b c z : UInt8, Utf8.encode r = ⟨#[a, b, c, z]⟩ ∧ 128 ≤ z.toNat) := by
  have hv' : Utf8.valid r = true := by rw [validRune_eq]; exact hv
  have hc : ¬ r.toNat < 128 := by omega
  have hz : 128 ≤ (UInt8.ofNat (128 + r.toNat % 64)).toNat := by simp; omega
  unfold Utf8.encode
  simp only [hv', if_true, hc, if_false]
  split
  · exact .inl ⟨_, _, rfl, hz⟩
  · split
    · exact .inr (.inl ⟨_, _, _, rfl, hz⟩)
    · exact .inr (.inr ⟨_, _, _, _, rfl, hz⟩)

theorem idx_high (r : Int) (h : 128 ≤ r) (w : World) :
    Calls Tryd.prog 27 #[.string hexStr, .int .i32 r] w fun e w' => e = .returned (.int .i64 (-1)) ∧ Below w.heap.size w w' := by
  by_cases h2 : r = 65533
  · subst h2
    exact idx_err w
  · cases hv : Lib.validRune r
    · exact idx_bad r hv h h2 w
    · rcases encode_cases r hv h with ⟨a, z, he, hb⟩ | ⟨a, b, z, he, hb⟩ | ⟨a, b, c, z, he, hb⟩
      · exact idx_two r a z he hb hv h h2 w
      · exact idx_three r a b z he hb hv h h2 w
      · exact idx_four r a b c z he hb hv h h2 w
end Go.Proofs.YtkdljnfoeigafaaDoor.num
