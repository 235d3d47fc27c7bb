/-
  DecodeVarint, the program's and the model's: contracts.
-/
import Derived.Test.YtkdljnfoeigafaaDoorEncVarint
import Derived.Test.YtkdljnfoeigafaaDoorVarMath
import Derived.Deep.RegionWith
import Derived.WalkSpells
import Derived.Lib.Strings
namespace Go.Proofs.YtkdljnfoeigafaaDoor.num
open Go.RowKit

theorem vStep (s : ByteArray) (k m : Nat) (hk : k < 7) (hl : k < s.size) (hm : m = vVal (s.data.toList.take k)) :
    ∃ t : Nat, t ≤ 558551906910208 ∧ m ≤ 4398046511103 ∧ Hid (m + t = vVal (s.data.toList.take (k + 1))) ∧ IntKind.i64.wrap ((s[k].toNat : Int) % 128 * 2 ^ (7 * k)) = (t : Int) := by
  have hlen : (s.data.toList.take k).length = k := by
    have : s.data.toList.length = s.size := by rw [Array.length_toList]; rfl
    rw [List.length_take]; omega
  have hp : (128 : Nat) ^ k ≤ 128 ^ 6 := Nat.pow_le_pow_right (by decide) (by omega)
  have hp2 : (128 : Nat) ^ 6 = 4398046511104 := by decide
  have hb : s[k].toNat % 128 ≤ 127 := by omega
  have h1 := vVal_lt (s.data.toList.take k)
  rw [hlen, ← hm] at h1
  have h2 : s[k].toNat % 128 * 128 ^ k ≤ 127 * 4398046511104 := Nat.mul_le_mul hb (by omega)
  have e : (2 : Int) ^ (7 * k) = ((128 ^ k : Nat) : Int) := by
    have h : (128 : Nat) ^ k = 2 ^ (7 * k) := by rw [show (128 : Nat) = 2 ^ 7 from by decide, ← Nat.pow_mul]
    rw [h]; simp
  refine ⟨s[k].toNat % 128 * 128 ^ k, by omega, by omega, ?_, ?_⟩
  · show _ = _
    rw [take_snoc s k hl, vVal_snoc, hlen, hm]
  · have e2 : ((s[k].toNat : Int) % 128 * 2 ^ (7 * k)) = ((s[k].toNat % 128 * 128 ^ k : Nat) : Int) := by
      rw [e, Int.natCast_mul, Int.natCast_emod]; rfl
    rw [e2]
    exact IntWalk.i64_in _ ⟨by omega, by omega⟩
theorem data_len (s : ByteArray) : s.data.toList.length = s.size := by rw [Array.length_toList]; rfl
theorem data_get (s : ByteArray) (k : Nat) (_h : k < s.size) (h' : k < s.data.toList.length) : s.data.toList[k] = s[k] := by simp; rfl
theorem cmp_eq (s : ByteArray) (k : Nat) (h7 : k ≤ 7) (x : Int) (hx : x = (vVal (s.data.toList.take k) : Nat)) :
    ((varB x).toList == (s.extract 0 k).toList) = vOk s.data.toList k := by
  have hl : (s.data.toList.take k).length ≤ 7 := by have := List.length_take_le k s.data.toList; omega
  subst hx
  rw [varB_yes _ (vVal_le _ hl), ByteArray.toList_eq, ByteArray.toList_eq, Lib.extract_data]
  simp [vOk]

set_option maxRecDepth 20000 in
theorem iDecVarint_long (s : ByteArray) (hs : s.size ≤ 9223372036854775807) (hz : 7 < s.size) (w : World) :
    Calls Tryd.prog 10 #[.string s] w fun e w' => e = .returned (.tuple #[.int .i64 (vVal (s.data.toList.take (firstK s.data.toList))), .int .i64 (firstK s.data.toList)]) ∧ Below w.heap.size w w' := by
  have hdl := data_len s
  have HD := Lib.hid hdl
  clear hdl
  go_enter Tryd.func10, Tryd.ntmps10
  go_wp2
  go_loop [4, 9] (fun x i => ∃ k m : Nat, k ≤ 7 ∧ k ≤ s.size ∧ i = .int .i64 k ∧ x = .int .i64 m ∧ Hid (m = vVal (s.data.toList.take k)) ∧ Hid (∀ j (hj : j < k), ∀ h, 128 ≤ (s.data.toList[j]'h).toNat)) (fun _ i => 7 - (intOf i).toNat)
  case atStart => exact ⟨0, 0, Nat.zero_le _, Nat.zero_le _, rfl, rfl, rfl, fun j hj => absurd hj (Nat.not_lt_zero _)⟩
  case round =>
    obtain ⟨k, m, hk7, hks, rfl, rfl, HM, HB⟩ := hrel
    by_cases hlt : k < 7 ∧ k < s.size
    · obtain ⟨hk, hl⟩ := hlt
      obtain ⟨t, ht, hm, HT, hx⟩ := vStep s k m hk hl HM.out
      have hx2 : wrap64 ((s[k].toNat : Int) % 128 * 2 ^ (7 * k)) = (t : Int) := by rw [← IntWalk.i64_left]; exact hx
      by_cases hb : 128 ≤ s[k].toNat
      · go_wp2
        go_round
        case rel => exact ⟨k + 1, m + t, by omega, by omega, by go_num, by go_num, HT.out, fun j hj h => by
          by_cases e : j = k
          · subst e; rw [data_get s j hl h]; exact hb
          · exact HB.out j (by omega) h⟩
        case measure => simp [intOf]; omega
      · have hfk := firstK_at s.data.toList k hk (by rw [HD.out]; exact hl) (fun i hi => HB.out i hi _) (by rw [data_get s k hl]; omega)
        have HF := Lib.hid hfk
        clear hfk
        cases ho : vOk s.data.toList (k + 1)
        · have hq : ((varB (m + t)).toList == (s.extract 0 (k + 1)).toList) = false := by rw [cmp_eq s (k + 1) (by omega) _ (by rw [← HT.out]; omega), ho]
          have HO := Lib.hid ho
          clear ho
          go_wp2
          have g1 : IntKind.i64.wrap ((k : Int) + 1) = (k : Int) + 1 := IntWalk.i64_in _ ⟨by omega, by omega⟩
          have g2 : (0 : Int) ≤ (k : Int) + 1 := by omega
          have g3 : ((k : Int) + 1).toNat = k + 1 := by omega
          have g4 : (k : Int) + 1 ≤ (s.size : Int) := by omega
          have g5 : k + 1 ≤ s.size := by omega
          go_region_with (go_at_call 9; refine (iEncVarint _ _).mono ?_; rintro e w1 ⟨rfl, hb1⟩)
          clear g1 g2 g3 g4 g5
          go_wp2
          go_ret2
          refine ⟨?_, by first | exact hb1 | exact (Below.refl _ _).drew.trans hb1⟩
          rw [HF.out, if_neg (by rw [HO.out]; decide)]; rfl
        · have hq : ((varB (m + t)).toList == (s.extract 0 (k + 1)).toList) = true := by rw [cmp_eq s (k + 1) (by omega) _ (by rw [← HT.out]; omega), ho]
          have HO := Lib.hid ho
          clear ho
          go_wp2
          have g1 : IntKind.i64.wrap ((k : Int) + 1) = (k : Int) + 1 := IntWalk.i64_in _ ⟨by omega, by omega⟩
          have g2 : (0 : Int) ≤ (k : Int) + 1 := by omega
          have g3 : ((k : Int) + 1).toNat = k + 1 := by omega
          have g4 : (k : Int) + 1 ≤ (s.size : Int) := by omega
          have g5 : k + 1 ≤ s.size := by omega
          go_region_with (go_at_call 9; refine (iEncVarint _ _).mono ?_; rintro e w1 ⟨rfl, hb1⟩)
          clear g1 g2 g3 g4 g5
          go_wp2
          go_ret2
          refine ⟨?_, by first | exact hb1 | exact (Below.refl _ _).drew.trans hb1⟩
          rw [HF.out, if_pos HO.out, ← HT.out]; go_num
    · have hfk : firstK s.data.toList = 0 := firstK_high s.data.toList (fun i hi h7 => HB.out i (by rw [HD.out] at hi; omega) hi)
      have HF := Lib.hid hfk
      clear hfk
      go_wp2
      go_ret2
      refine ⟨?_, Below.refl _ _⟩
      rw [HF.out]; rfl

set_option maxRecDepth 20000 in
theorem iDecVarint_short (s : ByteArray) (hs : s.size ≤ 9223372036854775807) (hz : s.size ≤ 7) (w : World) :
    Calls Tryd.prog 10 #[.string s] w fun e w' => e = .returned (.tuple #[.int .i64 (vVal (s.data.toList.take (firstK s.data.toList))), .int .i64 (firstK s.data.toList)]) ∧ Below w.heap.size w w' := by
  have hdl := data_len s
  have HD := Lib.hid hdl
  clear hdl
  go_enter Tryd.func10, Tryd.ntmps10
  go_wp2
  go_loop [4, 9] (fun x i => ∃ k m : Nat, k ≤ 7 ∧ k ≤ s.size ∧ i = .int .i64 k ∧ x = .int .i64 m ∧ Hid (m = vVal (s.data.toList.take k)) ∧ Hid (∀ j (hj : j < k), ∀ h, 128 ≤ (s.data.toList[j]'h).toNat)) (fun _ i => 7 - (intOf i).toNat)
  case atStart => exact ⟨0, 0, Nat.zero_le _, Nat.zero_le _, rfl, rfl, rfl, fun j hj => absurd hj (Nat.not_lt_zero _)⟩
  case round =>
    obtain ⟨k, m, hk7, hks, rfl, rfl, HM, HB⟩ := hrel
    by_cases hlt : k < 7 ∧ k < s.size
    · obtain ⟨hk, hl⟩ := hlt
      obtain ⟨t, ht, hm, HT, hx⟩ := vStep s k m hk hl HM.out
      have hx2 : wrap64 ((s[k].toNat : Int) % 128 * 2 ^ (7 * k)) = (t : Int) := by rw [← IntWalk.i64_left]; exact hx
      by_cases hb : 128 ≤ s[k].toNat
      · go_wp2
        go_round
        case rel => exact ⟨k + 1, m + t, by omega, by omega, by go_num, by go_num, HT.out, fun j hj h => by
          by_cases e : j = k
          · subst e; rw [data_get s j hl h]; exact hb
          · exact HB.out j (by omega) h⟩
        case measure => simp [intOf]; omega
      · have hfk := firstK_at s.data.toList k hk (by rw [HD.out]; exact hl) (fun i hi => HB.out i hi _) (by rw [data_get s k hl]; omega)
        have HF := Lib.hid hfk
        clear hfk
        cases ho : vOk s.data.toList (k + 1)
        · have hq : ((varB (m + t)).toList == (s.extract 0 (k + 1)).toList) = false := by rw [cmp_eq s (k + 1) (by omega) _ (by rw [← HT.out]; omega), ho]
          have HO := Lib.hid ho
          clear ho
          go_wp2
          have g1 : IntKind.i64.wrap ((k : Int) + 1) = (k : Int) + 1 := IntWalk.i64_in _ ⟨by omega, by omega⟩
          have g2 : (0 : Int) ≤ (k : Int) + 1 := by omega
          have g3 : ((k : Int) + 1).toNat = k + 1 := by omega
          have g4 : (k : Int) + 1 ≤ (s.size : Int) := by omega
          have g5 : k + 1 ≤ s.size := by omega
          go_region_with (go_at_call 9; refine (iEncVarint _ _).mono ?_; rintro e w1 ⟨rfl, hb1⟩)
          clear g1 g2 g3 g4 g5
          go_wp2
          go_ret2
          refine ⟨?_, by first | exact hb1 | exact (Below.refl _ _).drew.trans hb1⟩
          rw [HF.out, if_neg (by rw [HO.out]; decide)]; rfl
        · have hq : ((varB (m + t)).toList == (s.extract 0 (k + 1)).toList) = true := by rw [cmp_eq s (k + 1) (by omega) _ (by rw [← HT.out]; omega), ho]
          have HO := Lib.hid ho
          clear ho
          go_wp2
          have g1 : IntKind.i64.wrap ((k : Int) + 1) = (k : Int) + 1 := IntWalk.i64_in _ ⟨by omega, by omega⟩
          have g2 : (0 : Int) ≤ (k : Int) + 1 := by omega
          have g3 : ((k : Int) + 1).toNat = k + 1 := by omega
          have g4 : (k : Int) + 1 ≤ (s.size : Int) := by omega
          have g5 : k + 1 ≤ s.size := by omega
          go_region_with (go_at_call 9; refine (iEncVarint _ _).mono ?_; rintro e w1 ⟨rfl, hb1⟩)
          clear g1 g2 g3 g4 g5
          go_wp2
          go_ret2
          refine ⟨?_, by first | exact hb1 | exact (Below.refl _ _).drew.trans hb1⟩
          rw [HF.out, if_pos HO.out, ← HT.out]; go_num
    · have hfk : firstK s.data.toList = 0 := firstK_high s.data.toList (fun i hi h7 => HB.out i (by rw [HD.out] at hi; omega) hi)
      have HF := Lib.hid hfk
      clear hfk
      go_wp2
      go_ret2
      refine ⟨?_, Below.refl _ _⟩
      rw [HF.out]; rfl

theorem iDecVarint (s : ByteArray) (hs : s.size ≤ 9223372036854775807) (w : World) :
    Calls Tryd.prog 10 #[.string s] w fun e w' => e = .returned (.tuple #[.int .i64 (vVal (s.data.toList.take (firstK s.data.toList))), .int .i64 (firstK s.data.toList)]) ∧ Below w.heap.size w w' := by
  by_cases h : 7 < s.size
  · exact iDecVarint_long s hs h w
  · exact iDecVarint_short s hs (by omega) w
end Go.Proofs.YtkdljnfoeigafaaDoor.num
