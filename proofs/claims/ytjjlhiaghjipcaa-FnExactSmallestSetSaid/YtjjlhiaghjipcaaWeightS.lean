/-
  The model's WeightLists: all lists of weights, rows of the call's own.
-/
import Derived.Test.YtjjlhiaghjipcaaRowsI
namespace Go.Proofs.Ytjjlhiaghjipcaa.num
set_option maxRecDepth 20000
open Go.RowKit
set_option linter.unusedVariables false
set_option linter.unusedSimpArgs false

theorem wt_at {a b c : Nat} (hb : b < 4) (hc : c < 4) : wtOf (16 * a + 4 * b + c) = [(a : Int), (b : Int), (c : Int)] := by
  unfold wtOf
  rw [show (16 * a + 4 * b + c) / 16 = a by omega, show (16 * a + 4 * b + c) / 4 % 4 = b by omega, show (16 * a + 4 * b + c) % 4 = c by omega]
theorem wl_step {k : Nat} (h0 : 0 < k) (hk : k < 64) : wl.take k = wl.take (k - 1) ++ [wtOf k] := by
  obtain ⟨j, rfl⟩ : ∃ j, k = j + 1 := ⟨k - 1, by omega⟩
  rw [Nat.add_sub_cancel]
  exact take_at (wl_get (by omega))
theorem ownI_three (w : World) (B : Nat) (x y z : Int) (hB : B ≤ w.heap.size) : OwnI (w.alloc (.cells #[.int .i64 x, .int .i64 y, .int .i64 z] 3)) B (.slice (some ⟨w.heap.size, 0, none⟩) 3 3) [x, y, z] :=
  ⟨rfl, .inr ⟨w.heap.size, 3, #[.int .i64 x, .int .i64 y, .int .i64 z], rfl, hB, heap_alloc_new w _, Nat.le_refl _, by decide, rfl, rfl⟩⟩
/-- The model's state: the first k - 1 lists. -/
def WlAt (w : World) (k : Nat) (V : Value) (wr : World) : Prop := ∃ rows, xsR rows = wl.take (k - 1) ∧ OwnR wr w.heap.size V rows ∧ Below w.heap.size w wr
set_option maxRecDepth 20000 in
set_option maxHeartbeats 3200000 in
theorem sWL (w : World) :
    Calls Try.prog 17 #[] w fun e w' => (∃ A c rows, e = .returned (.slice A 63 c) ∧ xsR rows = wl ∧ OwnR w' w.heap.size (.slice A 63 c) rows) ∧ Below w.heap.size w w' := by
  have H0 : Hid (WlAt w 0 (.slice (some ⟨w.heap.size, 0, none⟩) 0 0) (w.alloc (.cells #[] 25))) := Lib.hid ⟨[], rfl, ⟨OwnG.empty w w.heap.size (Nat.le_refl _), by simp, by simp, by simp⟩, (Below.refl _ w).alloc (Nat.le_refl _) _⟩
  go_enter Try.func17, Try.ntmps17
  go_wp2
  go_loopw [1, 2] (fun v iv wr => ∃ (a : Nat) (V : Value), a ≤ 4 ∧ iv = .int .i64 a ∧ V = v ∧ WlAt w (16 * a) V wr) (fun _ iv _ => 4 - (intOf iv).toNat)
  case atStart => exact ⟨0, _, by decide, rfl, rfl, H0.out⟩
  case round =>
    obtain ⟨a, V, ha, rfl, rfl, hat⟩ := hrel
    have HA := Lib.hid hat
    clear hat
    by_cases hla : a < 4
    · have hla' : (a : Int) ≤ 3 := by omega
      go_wp2
      go_loopw [1, 3] (fun v iv wr => ∃ (b : Nat) (V : Value), b ≤ 4 ∧ iv = .int .i64 b ∧ V = v ∧ WlAt w (16 * a + 4 * b) V wr) (fun _ iv _ => 4 - (intOf iv).toNat)
      case atStart => exact ⟨0, _, by decide, rfl, rfl, HA.out⟩
      case round =>
        obtain ⟨b, V, hb, rfl, rfl, hat⟩ := hrel
        have HA := Lib.hid hat
        clear hat
        by_cases hlb : b < 4
        · have hlb' : (b : Int) ≤ 3 := by omega
          go_wp2
          go_loopw [1, 4] (fun v iv wr => ∃ (c : Nat) (V : Value), c ≤ 4 ∧ iv = .int .i64 c ∧ V = v ∧ WlAt w (16 * a + 4 * b + c) V wr) (fun _ iv _ => 4 - (intOf iv).toNat)
          case atStart => exact ⟨0, _, by decide, rfl, rfl, HA.out⟩
          case round =>
            obtain ⟨c, V, hc, rfl, rfl, hat⟩ := hrel
            have HA := Lib.hid hat
            clear hat
            by_cases hlc : c < 4
            · have hlc' : (c : Int) ≤ 3 := by omega
              by_cases h0 : a + b + c = 0
              · have hd : ¬ ((0 : Int) < (a : Int) + (b : Int) + (c : Int)) := by omega
                have hd2 : decide ((a : Int) + (b : Int) + (c : Int) > 0) = false := by simp; omega
                have HA2 : Hid (WlAt w (16 * a + 4 * b + (c + 1)) V wr) := Lib.hid (by
                  have h := HA.out
                  obtain rfl : a = 0 := by omega
                  obtain rfl : b = 0 := by omega
                  obtain rfl : c = 0 := by omega
                  exact h)
                go_wp2
                go_roundw
                case rel => exact ⟨c + 1, V, by omega, by go_num, rfl, HA2.out⟩
                case measure => simp [intOf]; omega
              · have hd : (0 : Int) < (a : Int) + (b : Int) + (c : Int) := by omega
                have hd2 : decide ((a : Int) + (b : Int) + (c : Int) > 0) = true := by simp; omega
                obtain ⟨rows, hx, hown, hbel⟩ := HA.out
                have hrl : rows.length ≤ 63 := by
                  have h := congrArg List.length hx
                  rw [xsR, List.length_map, List.length_take, wl_len] at h
                  omega
                obtain ⟨w2, hw2⟩ : ∃ w2, wr.alloc (.cells #[.int .i64 a, .int .i64 b, .int .i64 c] 3) = w2 := ⟨_, rfl⟩
                have hb2 : Below wr.heap.size wr w2 := by rw [← hw2]; exact (Below.refl _ wr).alloc (Nat.le_refl _) _
                have HO := Lib.hid (hown.below hb2)
                have HB := Lib.hid (below_on hbel hb2)
                have HY : Hid (OwnI w2 w.heap.size (IR.val ⟨some ⟨wr.heap.size, 0, none⟩, 3, 3, [(a : Int), (b : Int), (c : Int)]⟩) [(a : Int), (b : Int), (c : Int)]) := Lib.hid (by rw [← hw2]; exact ownI_three wr w.heap.size a b c hbel.size)
                have HAp : Hid (∀ q, (IR.val ⟨some ⟨wr.heap.size, 0, none⟩, 3, 3, [(a : Int), (b : Int), (c : Int)]⟩).ownBlock = some q → ¬ hasX IRK V rows q) := Lib.hid fun q h1 h2 => by
                  have h3 := (hown.has_in h2).2
                  have h4 : wr.heap.size = q := Option.some.inj h1
                  omega
                have HX : Hid (xsR rows ++ [[(a : Int), (b : Int), (c : Int)]] = wl.take (16 * a + 4 * b + (c + 1) - 1)) := Lib.hid (by
                  rw [hx, show 16 * a + 4 * b + (c + 1) - 1 = 16 * a + 4 * b + c by omega, wl_step (k := 16 * a + 4 * b + c) (by omega) (by omega), wt_at hlb hlc])
                clear hx hown hbel hb2
                go_wp2_with (at_builtin; refine wp_appR w2 (by rfl) (.tmp 24) (.tmp 29) (by rfl) w.heap.size V rows (by rfl) HO.out ⟨some ⟨wr.heap.size, 0, none⟩, 3, 3, [(a : Int), (b : Int), (c : Int)]⟩ HY.out HAp.out _ (by rfl) 1 (by rfl) (by omega) HB.out.size ?_)
                rintro v3 w3 ho3 hg3 hb3
                have HA2 : Hid (WlAt w (16 * a + 4 * b + (c + 1)) v3 w3) := Lib.hid ⟨_, by rw [← HX.out]; simp [xsR], ho3, HB.out.trans hb3⟩
                clear ho3 hg3 hb3
                go_wp2
                go_roundw
                case rel => exact ⟨c + 1, v3, by omega, by go_num, rfl, HA2.out⟩
                case measure => simp [intOf]; omega
            · obtain rfl : c = 4 := by omega
              have HA2 : Hid (WlAt w (16 * a + 4 * (b + 1)) V wr) := Lib.hid (by have h := HA.out; rwa [show 16 * a + 4 * b + 4 = 16 * a + 4 * (b + 1) by omega] at h)
              go_wp2
              go_roundw
              case rel => exact ⟨b + 1, V, by omega, by go_num, rfl, HA2.out⟩
              case measure => simp [intOf]; omega
        · obtain rfl : b = 4 := by omega
          have HA2 : Hid (WlAt w (16 * (a + 1)) V wr) := Lib.hid (by have h := HA.out; rwa [show 16 * a + 4 * 4 = 16 * (a + 1) by omega] at h)
          go_wp2
          go_roundw
          case rel => exact ⟨a + 1, V, by omega, by go_num, rfl, HA2.out⟩
          case measure => simp [intOf]; omega
    · obtain rfl : a = 4 := by omega
      obtain ⟨rows, hx, hown, hbel⟩ := HA.out
      have hx' : xsR rows = wl := by rw [hx]; exact List.take_of_length_le (by rw [wl_len]; decide)
      have hl : rows.length = 63 := by have h := congrArg List.length hx'; rwa [xsR, List.length_map, wl_len] at h
      obtain ⟨A, c, hV, -, -⟩ := hown.r.shape
      rw [hl] at hV
      subst hV
      have HO := Lib.hid hown
      have HX := Lib.hid hx'
      clear hx hx' hown hl
      go_wp2
      go_ret
      exact ⟨⟨A, c, rows, rfl, HX.out, HO.out⟩, hbel⟩
end Go.Proofs.Ytjjlhiaghjipcaa.num
