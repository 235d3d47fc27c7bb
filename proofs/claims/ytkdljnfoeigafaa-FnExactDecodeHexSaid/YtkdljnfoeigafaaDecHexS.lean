/-
  DecodeHex, the model's: contract.
-/
import Derived.Test.YtkdljnfoeigafaaHexMath
namespace Go.Proofs.Ytkdljnfoeigafaa.num
open Go.RowKit

theorem sFromHex (b : UInt8) (w : World) :
    Calls Try.prog 24 #[.int .u8 b.toNat] w fun e w' => e = .returned (.int .i64 (hexv b.toNat)) ∧ w = w' := by
  go_enter Try.func24, Try.ntmps24
  go_wp2
  go_loop [3] (fun i => ∃ k : Nat, k ≤ 16 ∧ i = .int .i64 k ∧ Hid (∀ j, j < k → hexd j ≠ b)) (fun i => 16 - (intOf i).toNat)
  case atStart => exact ⟨0, Nat.zero_le _, rfl, fun j hj => absurd hj (Nat.not_lt_zero _)⟩
  case round =>
    obtain ⟨k, hk, rfl, HB⟩ := hrel
    by_cases hlt : k < 16
    · by_cases he : hexd k = b
      · have hq : (((hexd k).toNat : Int) == (b.toNat : Int)) = true := by rw [he]; simp
        have HE := Lib.hid he
        clear he
        go_wp2_with (go_at_call 23; refine (digit_any k hlt _).mono ?_; rintro e w' ⟨rfl, rfl⟩)
        go_ret
        refine ⟨?_, rfl⟩
        rw [← HE.out]
        rw [hexv_hexd ⟨k, hlt⟩]; rfl
      · have hq : (((hexd k).toNat : Int) == (b.toNat : Int)) = false := by
          rw [beq_eq_false_iff_ne]
          intro e
          exact he (UInt8.toNat_inj.1 (by omega))
        have HE := Lib.hid he
        clear he
        go_wp2_with (go_at_call 23; refine (digit_any k hlt _).mono ?_; rintro e w' ⟨rfl, rfl⟩)
        go_round
        case rel => exact ⟨k + 1, by omega, by go_num, fun j hj => by
          by_cases e : j = k
          · rw [e]; exact HE.out
          · exact HB.out j (by omega)⟩
        case measure => simp [intOf]; omega
    · obtain rfl : k = 16 := by omega
      go_wp2
      go_ret
      refine ⟨?_, rfl⟩
      rw [hexv_none b HB.out]; rfl
theorem pair_byte (a b : UInt8) : #[Value.int .u8 (16 * (hexn a : Int) + (hexn b : Int))] = (List.map bv [UInt8.ofNat (16 * hexn a + hexn b)]).toArray := by
  have h1 := hexn_le a
  have h2 := hexn_le b
  have h : (UInt8.ofNat (16 * hexn a + hexn b)).toNat = 16 * hexn a + hexn b := by simp; omega
  simp only [List.map_cons, List.map_nil, bv, h]
  congr 3
def pairB (a b : UInt8) : UInt8 := UInt8.ofNat (16 * hexn a + hexn b)
theorem take_two (s : ByteArray) (k : Nat) (h : 2 * k + 1 < s.size) : s.data.toList.take (2 * (k + 1)) = s.data.toList.take (2 * k) ++ [s[2 * k], s[2 * k + 1]] := by
  have e : 2 * (k + 1) = 2 * k + 1 + 1 := by omega
  rw [e, take_snoc s (2 * k + 1) h, take_snoc s (2 * k) (by omega)]
  simp
theorem take_len (s : ByteArray) (k : Nat) (h : k ≤ s.size) : (s.data.toList.take k).length = k := by
  have : s.data.toList.length = s.size := by rw [Array.length_toList]; rfl
  rw [List.length_take]; omega
theorem all_two (s : ByteArray) (k : Nat) (h : 2 * k + 1 < s.size) (ha : (s.data.toList.take (2 * k)).all isHex = true) (h1 : isHex s[2 * k] = true) (h2 : isHex s[2 * k + 1] = true) :
    (s.data.toList.take (2 * (k + 1))).all isHex = true := by
  rw [take_two s k h, List.all_append, ha]; simp [h1, h2]
theorem bad_at (s : ByteArray) (j : Nat) (h : j < s.size) (hb : isHex s[j] = false) : unhexB s.data.toList = ⟨#[]⟩ ∧ unhexOk s.data.toList = false :=
  unhex_bad s.data.toList j (by rw [Array.length_toList]; exact h) (by simp; exact hb)

set_option maxRecDepth 20000 in
set_option maxHeartbeats 400000 in
theorem sDecHex_even (s : ByteArray) (hs : s.size ≤ 1048576) (n : Nat) (hn : s.size = 2 * n) (w : World) :
    Calls Try.prog 19 #[.string s] w fun e w' => e = .returned (.tuple #[.string (unhexB s.data.toList), .bool (unhexOk s.data.toList)]) ∧ Below w.heap.size w w' := by
  have hpar : ((s.size : Int) % 2 == 1) = false := by rw [beq_eq_false_iff_ne]; omega
  have hn1 : s.size ≤ 2 * n := by omega
  have hn2 : 2 * n ≤ s.size := by omega
  have HN := Lib.hid hn
  clear hn
  go_enter Try.func19, Try.ntmps19
  go_wp2
  go_loopw [4, 5] (fun v i wr => ∃ k : Nat, k ≤ n ∧ i = .int .i64 (2 * (k : Int)) ∧ Own wr w.heap.size v (pairL (s.data.toList.take (2 * k))) ∧ Hid ((s.data.toList.take (2 * k)).all isHex = true) ∧ Below w.heap.size w wr) (fun _ i _ => s.size - (intOf i).toNat)
  case atStart => exact ⟨0, Nat.zero_le _, rfl, Own.empty w _ (Nat.le_refl _), rfl, (Below.refl _ _).alloc (Nat.le_refl _) _⟩
  case round =>
    obtain ⟨k, hk, rfl, hown, HA, hbel⟩ := hrel
    by_cases hlt : k < n
    · have HO := Lib.hid hown
      clear hown
      have h0 : 2 * k < s.size := by omega
      have h1 : 2 * k + 1 < s.size := by omega
      cases hx : isHex s[2 * k]
      · have HU := Lib.hid (bad_at s (2 * k) h0 hx)
        have hv := hexv_neg hx
        have HX := Lib.hid hx
        clear hx
        go_wp2_with fail
        refine (sFromHex s[2 * k] _).mono ?_
        rintro e wa ⟨rfl, rfl⟩
        go_wp2_with fail
        refine (sFromHex s[2 * k + 1] _).mono ?_
        rintro e wb ⟨rfl, rfl⟩
        go_wp2
        go_ret2
        refine ⟨?_, hbel⟩
        rw [HU.out.1, HU.out.2]; rfl
      · cases hy : isHex s[2 * k + 1]
        · have HU := Lib.hid (bad_at s (2 * k + 1) h1 hy)
          have hv := hexv_pos hx
          have hv2 := hexv_neg hy
          have HX := Lib.hid (And.intro hx hy)
          clear hx hy
          go_wp2_with fail
          refine (sFromHex s[2 * k] _).mono ?_
          rintro e wa ⟨rfl, rfl⟩
          go_wp2_with fail
          refine (sFromHex s[2 * k + 1] _).mono ?_
          rintro e wb ⟨rfl, rfl⟩
          go_wp2
          go_ret2
          refine ⟨?_, hbel⟩
          rw [HU.out.1, HU.out.2]; rfl
        · have hv := hexv_pos hx
          have hv2 := hexv_pos hy
          have hp := hexn_le s[2 * k]
          have hq := hexn_le s[2 * k + 1]
          have HX := Lib.hid (And.intro hx hy)
          have HL := Lib.hid (pairL_len k _ (take_len s (2 * k) (by omega)))
          have H4 : Hid ((pairL (s.data.toList.take (2 * k))).length + [pairB s[2 * k] s[2 * k + 1]].length ≤ 140737488355328) := by
            have h1 := HL.out
            show _ ≤ _
            rw [h1]
            simp only [List.length_cons, List.length_nil]
            omega
          clear hx hy
          go_wp2_with fail
          refine (sFromHex s[2 * k] _).mono ?_
          rintro e wa ⟨rfl, rfl⟩
          go_wp2_with fail
          refine (sFromHex s[2 * k + 1] _).mono ?_
          rintro e wb ⟨rfl, rfl⟩
          go_wp2_with (at_builtin; refine wp_app wr (by rfl) (.tmp 34) (.tmp 40) (by rfl) w.heap.size _ _ (by rfl) HO.out _ [pairB s[2 * k] s[2 * k + 1]] (pair_byte s[2 * k] s[2 * k + 1]) 1 1 rfl (by rfl) H4.out hbel.size ?_)
          intro v1 w1 hown1 hb1
          have HO1 := Lib.hid hown1
          clear hown1
          go_wp2
          go_roundw
          case rel => exact ⟨k + 1, by omega, by go_num, by rw [take_two s k h1, pairL_snoc2 k _ _ _ (take_len s (2 * k) (by omega))]; exact HO1.out, all_two s k h1 HA.out HX.out.1 HX.out.2, hbel.trans hb1⟩
          case measure => simp [intOf]; omega
    · obtain rfl : k = n := by omega
      have hall : (s.data.toList.take (2 * k)) = s.data.toList := List.take_of_length_le (by rw [Array.length_toList]; exact hn1)
      have hA := HA.out
      rw [hall] at hown hA
      obtain ⟨u1, u2⟩ := unhex_yes s.data.toList (by have := HN.out; rw [Array.length_toList]; show s.size % 2 = 0; omega) hA
      have HU := Lib.hid (And.intro u1 u2)
      clear u1 u2 hA hall
      have hcv := own_string hown
      clear hown
      go_wp2
      go_ret2
      refine ⟨?_, hbel⟩
      rw [HU.out.1, HU.out.2]; rfl

theorem sDecHex (s : ByteArray) (hs : s.size ≤ 1048576) (w : World) :
    Calls Try.prog 19 #[.string s] w fun e w' => e = .returned (.tuple #[.string (unhexB s.data.toList), .bool (unhexOk s.data.toList)]) ∧ Below w.heap.size w w' := by
  rcases Nat.mod_two_eq_zero_or_one s.size with h | h
  · exact sDecHex_even s hs (s.size / 2) (by omega) w
  · obtain ⟨u1, u2⟩ := unhex_odd s.data.toList (by rw [Array.length_toList]; show ¬ s.size % 2 = 0; omega)
    have hpar : ((s.size : Int) % 2 == 1) = true := by rw [beq_iff_eq]; omega
    rw [u1, u2]
    clear u1 u2 h
    go_enter Try.func19, Try.ntmps19
    go_wp2
    go_ret2
    exact ⟨rfl, (Below.refl _ _).alloc (Nat.le_refl _) _⟩
end Go.Proofs.Ytkdljnfoeigafaa.num
