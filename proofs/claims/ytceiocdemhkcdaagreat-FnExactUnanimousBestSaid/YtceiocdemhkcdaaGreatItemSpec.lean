/-
  The model's functions on items: contracts.
-/
import Derived.Test.YtceiocdemhkcdaaGreatItemEq
namespace Go.Proofs.YtceiocdemhkcdaaGreat.num
set_option maxRecDepth 20000
open Go.RowKit

/-- What makes an item: three values from 0 to 9, a number from 0 to 99. -/
def IsP (d : Int × List Int) : Prop := (∀ v ∈ d.2, 0 ≤ v ∧ v ≤ 9) ∧ (0 ≤ d.1 ∧ d.1 ≤ 99) ∧ d.2.length = 3

theorem in_of (x lo hi : Int) (b : Bool) (hb : b = true ↔ lo ≤ x ∧ x ≤ hi) (w : World) :
    Calls Tryz.prog 62 #[.int .i64 x, .int .i64 lo, .int .i64 hi] w fun e w' => e = .returned (.bool b) ∧ w = w' := by
  obtain rfl : b = (decide (lo ≤ x) && decide (x ≤ hi)) := by rw [Bool.eq_iff_iff]; simpa using hb
  clear hb
  by_cases h1 : lo ≤ x
  · go_enter Tryz.func62, Tryz.ntmps62
    go_wp2
    go_ret
    exact ⟨by simp [h1], rfl⟩
  · go_enter Tryz.func62, Tryz.ntmps62
    go_wp2
    go_ret
    exact ⟨by simp; omega, rfl⟩

theorem sIsItem (w : World) (B : Nat) (t : It) (hi : Ints w B t.A t.n t.xs) (hB : B ≤ w.heap.size) (hn : t.n ≤ 1048576) (b : Bool) (hb : b = true ↔ IsP t.dat) :
    Calls Tryz.prog 131 #[t.val] w fun e w' => e = .returned (.bool b) ∧ Below w.heap.size w w' := by
  obtain ⟨id, A, n, c, xs⟩ := t
  unfold It.val
  simp only [It.dat, IsP] at hi hn hb ⊢
  have HX := Lib.hid hi
  have HBo := Lib.hid hb
  clear hi hb
  go_enter Tryz.func131, Tryz.ntmps131
  go_wp2
  go_loopw [3] (fun i wr => ∃ k : Nat, k ≤ n ∧ i = .int .i64 k ∧ (∀ v ∈ xs.take k, 0 ≤ v ∧ v ≤ 9) ∧ wr = w.alloc (.cells #[.int .i64 id, .slice A n c] 36)) (fun i _ => n - (intOf i).toNat)
  case atStart => exact ⟨0, Nat.zero_le _, rfl, by simp, rfl⟩
  case round =>
    obtain ⟨k, hk, rfl, hall, rfl⟩ := hrel
    have HA := Lib.hid hall
    clear hall
    by_cases hlt : k < n
    · obtain ⟨b1, off, rfl, hb1, hc⟩ := HX.out.2 k hlt
      have hc' := (World.cell?_alloc_past (w := w) (.cells #[.int .i64 id, .slice (some ⟨b1, off, none⟩) n c] 36) b1 (off + k) (by omega)).trans hc
      obtain ⟨v, hv⟩ : ∃ v, xs.getD k 0 = v := ⟨_, rfl⟩
      rw [hv] at hc'
      have HV := Lib.hid hv
      obtain ⟨q, hq⟩ := bool_of (0 ≤ v ∧ v ≤ 9)
      have HQ := Lib.hid hq
      clear hc hv hq
      go_wp2_with fail
      refine (in_of v 0 9 q HQ.out _).mono ?_
      rintro e w1 ⟨rfl, rfl⟩
      cases q
      · obtain rfl : b = false := by
          cases b
          · rfl
          · refine absurd ((HBo.out.1 rfl).1 v ?_) (fun h => by have := HQ.out.2 h; cases this)
            rw [← HV.out, List.getD_eq_getElem?_getD, List.getElem?_eq_getElem (by rw [HX.out.1]; exact hlt)]
            exact List.getElem_mem _
        go_wp2
        go_ret
        exact ⟨rfl, (Below.refl _ _).alloc (Nat.le_refl _) _⟩
      · have HD := Lib.hid (HQ.out.1 rfl)
        go_wp2
        go_roundw
        case rel =>
          refine ⟨k + 1, by omega, by go_num, ?_, by first | rfl | trivial⟩
          rw [take_snoc_getD HX.out.1 hlt, HV.out]
          intro u hu
          rcases List.mem_append.1 hu with h | h
          · exact HA.out u h
          · obtain rfl := List.mem_singleton.1 h
            exact HD.out
        case measure => simp [intOf]; omega
    · obtain rfl : k = n := by omega
      obtain ⟨q, hq⟩ := bool_of (0 ≤ id ∧ id ≤ 99)
      have HQ := Lib.hid hq
      clear hq
      obtain ⟨q3, hq3⟩ := bool_of (k = 3)
      have HQ3 := Lib.hid hq3
      clear hq3
      have HE : Hid (b = (q && q3)) := by
        show _ = _
        have h1 := HA.out
        rw [take_all HX.out.1] at h1
        rw [Bool.eq_iff_iff, HBo.out, Bool.and_eq_true, HQ.out, HQ3.out, HX.out.1]
        exact ⟨fun h => h.2, fun h => ⟨h1, h⟩⟩
      go_wp2_with fail
      refine (in_of id 0 99 q HQ.out _).mono ?_
      rintro e w1 ⟨rfl, rfl⟩
      cases q
      · go_wp2
        go_ret
        exact ⟨by rw [HE.out]; rfl, (Below.refl _ _).alloc (Nat.le_refl _) _⟩
      · cases q3
        · have h3 : ((k : Int) == 3) = false := by
            have := HQ3.out
            simp at this
            simp; omega
          go_wp2
          go_ret
          exact ⟨by rw [HE.out]; rfl, (Below.refl _ _).alloc (Nat.le_refl _) _⟩
        · obtain rfl := HQ3.out.1 rfl
          go_wp2
          go_ret
          exact ⟨by rw [HE.out]; rfl, (Below.refl _ _).alloc (Nat.le_refl _) _⟩
end Go.Proofs.YtceiocdemhkcdaaGreat.num
