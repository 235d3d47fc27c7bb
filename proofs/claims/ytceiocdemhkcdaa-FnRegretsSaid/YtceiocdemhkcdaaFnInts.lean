/-
  slices.IndexFunc and slices.ContainsFunc over ints, at any function that answers a bool.
-/
import Derived.Test.YtceiocdemhkcdaaOwnInt
import Derived.Shelf.Abstract
namespace Go.Proofs.Ytceiocdemhkcdaa.num
set_option maxRecDepth 20000
open Go.RowKit
set_option linter.unusedVariables false
set_option linter.unusedSimpArgs false

theorem any_stepA {α : Type} {l : List α} {hold : α → Bool} {k : Nat} {t : α} (hat : l[k]? = some t) (h : ∀ u ∈ l.take k, hold u = false) (h1 : hold t = false) : ∀ u ∈ l.take (k + 1), hold u = false := by
  intro u hu
  obtain ⟨hlt, rfl⟩ := List.getElem?_eq_some_iff.1 hat
  rw [List.take_add_one, List.getElem?_eq_getElem hlt] at hu
  rcases List.mem_append.1 hu with hu | hu
  · exact h u hu
  · simp only [Option.toList_some, List.mem_singleton] at hu
    rw [hu]; exact h1
/-- The first place at which the test holds, or -1. -/
def FirstP {α : Type} (l : List α) (hold : α → Bool) (r : Int) : Prop := (r = -1 ∧ ∀ u ∈ l, hold u = false) ∨ ∃ (k : Nat) (x : α), r = (k : Int) ∧ k < l.length ∧ l[k]? = some x ∧ hold x = true ∧ ∀ u ∈ l.take k, hold u = false
theorem FirstP.has {α : Type} {l : List α} {hold : α → Bool} {r : Int} (h : FirstP l hold r) (b : Bool) (hb : b = true ↔ ∃ x ∈ l, hold x = true) : decide (r ≥ 0) = b := by
  rw [Bool.eq_iff_iff, hb]
  rcases h with ⟨rfl, h⟩ | ⟨k, x, rfl, hk, hat, hx, _⟩
  · simp only [decide_eq_true_eq]
    constructor
    · intro h; omega
    · rintro ⟨x, hx, h1⟩; rw [h x hx] at h1; cases h1
  · simp only [decide_eq_true_eq]
    exact ⟨fun _ => ⟨x, List.mem_of_getElem? hat, hx⟩, fun _ => by omega⟩

set_option maxRecDepth 20000 in
set_option maxHeartbeats 800000 in
theorem idxInts (w : World) (B : Nat) (A : Option Addr) (n c : Nat) (xs : List Int) (hi : Ints w B A n xs) (hB : B ≤ w.heap.size) (hn : n ≤ 1048576) (g : Nat) (cb : Array Value) (hold : Int → Bool)
    (eg : ∀ args w, (callFunc g args).run Try.prog w = .ok (.enter g args) w)
    (HC : ∀ W, Below w.heap.size w W → ∀ x ∈ xs, Calls Try.prog g (#[.int .i64 x] ++ cb) W fun e w' => e = .returned (.bool (hold x)) ∧ Below W.heap.size W w') :
    Calls Try.prog 73 #[.slice A n c, .func (.func g) #[] cb] w fun e w' => (∃ r, e = .returned (.int .i64 r) ∧ FirstP xs hold r) ∧ Below w.heap.size w w' := by
  have HX := Lib.hid hi
  have HF := Lib.hid HC
  clear hi HC
  go_enter Try.func73, Try.ntmps73
  go_wp2
  go_loopw [8] (fun i wr => ∃ k : Nat, k ≤ n ∧ i = .int .i64 k ∧ (∀ u ∈ xs.take k, hold u = false) ∧ Below w.heap.size w wr) (fun i _ => n - (intOf i).toNat)
  case atStart => exact ⟨0, Nat.zero_le _, rfl, by simp, Below.refl _ _⟩
  case round =>
    obtain ⟨k, hk, rfl, hall, hbel⟩ := hrel
    have HA := Lib.hid hall
    have HB := Lib.hid hbel
    clear hall
    by_cases hlt : k < n
    · obtain ⟨b, off, x, rfl, hb, hat, hc⟩ := HX.out.at k hlt
      have f0 := (hbel.cell (p := ⟨b, off + k, none⟩) (Nat.lt_of_lt_of_le hb hB)).trans hc
      have HAt := Lib.hid hat
      have hlt' : (k : Int) < (n : Int) := by omega
      have HC1 := HF.out wr HB.out x (mem_of_at hat)
      obtain ⟨z, hz⟩ : ∃ z, hold x = z := ⟨_, rfl⟩
      rw [hz] at HC1
      have HZ := Lib.hid hz
      have HC2 := Lib.hid HC1
      clear hc hat hbel hz HC1
      go_wp2_with fail
      refine HC2.out.mono ?_
      rintro e w2 ⟨rfl, hb2⟩
      have HB2 := Lib.hid (HB.out.trans (hb2.mono HB.out.size))
      clear hb2 f0 HC2
      cases z
      · go_wp2
        go_roundw
        case rel => exact ⟨k + 1, by omega, by go_num, any_stepA HAt.out HA.out HZ.out, HB2.out⟩
        case measure => simp [intOf]; omega
      · go_wp2
        go_ret
        exact ⟨⟨_, rfl, .inr ⟨k, x, rfl, by rw [HX.out.1]; exact hlt, HAt.out, HZ.out, HA.out⟩⟩, HB2.out⟩
    · obtain rfl : k = n := by omega
      have h := HA.out
      rw [take_all HX.out.1] at h
      have HH := Lib.hid h
      clear h hbel
      go_wp2
      go_ret
      exact ⟨⟨_, rfl, .inl ⟨rfl, HH.out⟩⟩, HB.out⟩
set_option maxRecDepth 20000 in
theorem conInts (w : World) (B : Nat) (A : Option Addr) (n c : Nat) (xs : List Int) (hi : Ints w B A n xs) (hB : B ≤ w.heap.size) (hn : n ≤ 1048576) (g : Nat) (cb : Array Value) (hold : Int → Bool)
    (eg : ∀ args w, (callFunc g args).run Try.prog w = .ok (.enter g args) w)
    (HC : ∀ W, Below w.heap.size w W → ∀ x ∈ xs, Calls Try.prog g (#[.int .i64 x] ++ cb) W fun e w' => e = .returned (.bool (hold x)) ∧ Below W.heap.size W w') (b : Bool) (hb : b = true ↔ ∃ x ∈ xs, hold x = true) :
    Calls Try.prog 36 #[.slice A n c, .func (.func g) #[] cb] w fun e w' => e = .returned (.bool b) ∧ Below w.heap.size w w' := by
  have HI := Lib.hid (idxInts w B A n c xs hi hB hn g cb hold eg HC)
  have HB := Lib.hid hb
  clear hi HC hb
  go_enter Try.func36, Try.ntmps36
  go_wp2_with fail
  refine HI.out.mono ?_
  rintro e w2 ⟨⟨r, rfl, hr⟩, hb2⟩
  have hd := hr.has b HB.out
  clear hr
  go_wp2
  go_ret
  exact ⟨rfl, hb2⟩
end Go.Proofs.Ytceiocdemhkcdaa.num
