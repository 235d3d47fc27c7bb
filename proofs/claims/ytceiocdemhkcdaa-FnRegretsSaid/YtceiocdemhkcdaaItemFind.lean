/-
  FindItem, the model's and the program's: contracts.
-/
import Derived.Test.YtceiocdemhkcdaaItemEq
namespace Go.Proofs.Ytceiocdemhkcdaa.num
set_option maxRecDepth 20000
open Go.RowKit

/-- The first item of that number, or -1. -/
def FindP (ds : List (Int × List Int)) (x r : Int) : Prop := (r = -1 ∧ ∀ d ∈ ds, d.1 ≠ x) ∨ ∃ k : Nat, r = k ∧ (∃ d, ds[k]? = some d ∧ d.1 = x) ∧ ∀ d ∈ ds.take k, d.1 ≠ x
theorem FindP.one {ds : List (Int × List Int)} {x r s : Int} (h : FindP ds x r) (g : FindP ds x s) : r = s := by
  have aux : ∀ {k : Nat}, (∃ d, ds[k]? = some d ∧ d.1 = x) → (∀ d ∈ ds, d.1 ≠ x) → False := fun ⟨d, hd, he⟩ hn => hn d (mem_of_at hd) he
  have aux2 : ∀ {k j : Nat}, k < j → (∃ d, ds[k]? = some d ∧ d.1 = x) → (∀ d ∈ ds.take j, d.1 ≠ x) → False := fun {k j} hkj ⟨d, hd, he⟩ hn => hn d (mem_of_at (k := k) (by rw [List.getElem?_take_of_lt hkj]; exact hd)) he
  rcases h with ⟨rfl, h⟩ | ⟨k, rfl, hk, h⟩ <;> rcases g with ⟨rfl, g⟩ | ⟨j, rfl, hj, g⟩
  · rfl
  · exact (aux hj h).elim
  · exact (aux hk g).elim
  · rcases Nat.lt_trichotomy k j with h1 | h1 | h1
    · exact (aux2 h1 hk g).elim
    · rw [h1]
    · exact (aux2 h1 hj h).elim
theorem FindP.hit {its : List It} {x : Int} {k : Nat} {t : It} (hat : its[k]? = some t) (he : t.id = x) (h : ∀ u ∈ its.take k, u.id ≠ x) : FindP (its.map It.dat) x k :=
  .inr ⟨k, rfl, ⟨t.dat, by simp [hat], he⟩, fun d hd => by
    rw [← List.map_take] at hd
    obtain ⟨u, hu, rfl⟩ := List.mem_map.1 hd
    exact h u hu⟩
theorem FindP.miss {its : List It} {x : Int} (h : ∀ u ∈ its, u.id ≠ x) : FindP (its.map It.dat) x (-1) :=
  .inl ⟨rfl, fun d hd => by
    obtain ⟨u, hu, rfl⟩ := List.mem_map.1 hd
    exact h u hu⟩
theorem ne_step {its : List It} {x : Int} {k : Nat} {t : It} (hat : its[k]? = some t) (h : ∀ u ∈ its.take k, u.id ≠ x) (h1 : t.id ≠ x) : ∀ u ∈ its.take (k + 1), u.id ≠ x := by
  rw [take_at hat]
  intro u hu
  rcases List.mem_append.1 hu with h2 | h2
  · exact h u h2
  · obtain rfl := List.mem_singleton.1 h2
    exact h1

theorem sFind (w : World) (B : Nat) (A : Option Addr) (n c : Nat) (its : List It) (hi : Items w B A n its) (hB : B ≤ w.heap.size) (hn : n ≤ 1048576) (x : Int) :
    Calls Try.prog 79 #[.slice A n c, .int .i64 x] w fun e w' => (∃ r, e = .returned (.int .i64 r) ∧ FindP (its.map It.dat) x r) ∧ Below w.heap.size w w' := by
  have HX := Lib.hid hi
  clear hi
  go_enter Try.func79, Try.ntmps79
  go_wp2
  go_loopw [5] (fun i wr => ∃ k : Nat, k ≤ n ∧ i = .int .i64 k ∧ (∀ u ∈ its.take k, u.id ≠ x) ∧ Below w.heap.size w wr) (fun i _ => n - (intOf i).toNat)
  case atStart => exact ⟨0, Nat.zero_le _, rfl, by simp, Below.refl _ _⟩
  case round =>
    obtain ⟨k, hk, rfl, hall, hbel⟩ := hrel
    have HA := Lib.hid hall
    have HB := Lib.hid hbel
    clear hall
    by_cases hlt : k < n
    · obtain ⟨b1, off, t, rfl, hb1, hat, hc1, _, _⟩ := HX.out.at k hlt
      have f1 := (hbel.cell (p := ⟨b1, off + k * 2, none⟩) (by exact Nat.lt_of_lt_of_le hb1 hB)).trans hc1
      have HAt := Lib.hid hat
      clear hc1 hat hbel
      by_cases he : t.id = x
      · have he' : (t.id == x) = true := by simpa using he
        have HE := Lib.hid he
        clear he
        go_wp2
        go_ret
        exact ⟨⟨_, rfl, FindP.hit HAt.out HE.out HA.out⟩, HB.out⟩
      · have he' : (t.id == x) = false := by simpa using he
        have HE := Lib.hid he
        clear he
        go_wp2
        go_roundw
        case rel => exact ⟨k + 1, by omega, by go_num, ne_step HAt.out HA.out HE.out, HB.out⟩
        case measure => simp [intOf]; omega
    · obtain rfl : k = n := by omega
      clear hbel
      go_wp2
      go_ret
      exact ⟨⟨_, rfl, FindP.miss (by have := HA.out; rwa [take_all HX.out.1] at this)⟩, HB.out⟩

theorem iFind (w : World) (B : Nat) (A : Option Addr) (n c : Nat) (its : List It) (hi : Items w B A n its) (hB : B ≤ w.heap.size) (hn : n ≤ 1048576) (x : Int) :
    Calls Try.prog 34 #[.slice A n c, .int .i64 x] w fun e w' => (∃ r, e = .returned (.int .i64 r) ∧ FindP (its.map It.dat) x r) ∧ Below w.heap.size w w' := by
  have HX := Lib.hid hi
  clear hi
  go_enter Try.func34, Try.ntmps34
  go_wp2
  go_loopw [9] (fun i wr => ∃ k : Nat, k ≤ n ∧ i = .int .i64 k ∧ (∀ u ∈ its.take k, u.id ≠ x) ∧ Below w.heap.size w wr) (fun i _ => n - (intOf i).toNat)
  case atStart => exact ⟨0, Nat.zero_le _, rfl, by simp, Below.refl _ _⟩
  case round =>
    obtain ⟨k, hk, rfl, hall, hbel⟩ := hrel
    have HA := Lib.hid hall
    have HB := Lib.hid hbel
    clear hall
    by_cases hlt : k < n
    · obtain ⟨b1, off, t, rfl, hb1, hat, hc1, hd1, _⟩ := HX.out.at k hlt
      have f1 := (hbel.cell (p := ⟨b1, off + k * 2, none⟩) (by exact Nat.lt_of_lt_of_le hb1 hB)).trans hc1
      have f2 := (hbel.cell (p := ⟨b1, off + k * 2 + 1, none⟩) (by exact Nat.lt_of_lt_of_le hb1 hB)).trans hd1
      have hsz := hbel.size
      have HAt := Lib.hid hat
      clear hc1 hd1 hat hbel
      by_cases he : t.id = x
      · have he' : (t.id == x) = true := by simpa using he
        have HE := Lib.hid he
        clear he
        go_wp2
        go_ret
        exact ⟨⟨_, rfl, FindP.hit HAt.out HE.out HA.out⟩, HB.out.alloc hsz _⟩
      · have he' : (t.id == x) = false := by simpa using he
        have HE := Lib.hid he
        clear he
        go_wp2
        go_roundw
        case rel => exact ⟨k + 1, by omega, by go_num, ne_step HAt.out HA.out HE.out, HB.out.alloc hsz _⟩
        case measure => simp [intOf]; omega
    · obtain rfl : k = n := by omega
      clear hbel
      go_wp2
      go_ret
      exact ⟨⟨_, rfl, FindP.miss (by have := HA.out; rwa [take_all HX.out.1] at this)⟩, HB.out⟩
end Go.Proofs.Ytceiocdemhkcdaa.num
