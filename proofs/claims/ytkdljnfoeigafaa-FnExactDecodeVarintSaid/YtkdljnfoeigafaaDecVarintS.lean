/-
  DecodeVarint, the model's: contract.
-/
import Derived.Test.YtkdljnfoeigafaaDecVarint
namespace Go.Proofs.Ytkdljnfoeigafaa.num
open Go.RowKit

theorem back_step (s : ByteArray) (k j : Nat) (hk : k < 7) (hl : k < s.size) (hj : j ≤ k) :
    ∃ m : Nat, m ≤ 4398046511103 ∧ Hid (m = vVal ((s.data.toList.take (k + 1)).drop (j + 1))) ∧ Hid (m * 128 + s[j].toNat % 128 = vVal ((s.data.toList.take (k + 1)).drop j)) := by
  have hlen : (s.data.toList.take (k + 1)).length = k + 1 := by rw [List.length_take, data_len]; omega
  refine ⟨_, ?_, rfl, ?_⟩
  · have h1 := vVal_lt ((s.data.toList.take (k + 1)).drop (j + 1))
    rw [List.length_drop, hlen] at h1
    have hp : (128 : Nat) ^ (k + 1 - (j + 1)) ≤ 128 ^ 6 := Nat.pow_le_pow_right (by decide) (by omega)
    have hp2 : (128 : Nat) ^ 6 = 4398046511104 := by decide
    omega
  · show _ = _
    rw [List.drop_eq_getElem_cons (i := j) (by omega)]
    have e : (s.data.toList.take (k + 1))[j]'(by omega) = s[j] := by simp; rfl
    simp only [vVal, e]
    omega

set_option maxRecDepth 20000 in
set_option maxHeartbeats 400000 in
theorem sDecVarint (s : ByteArray) (hs : s.size ≤ 9223372036854775807) (w : World) :
    Calls Try.prog 15 #[.string s] w fun e w' => e = .returned (.tuple #[.int .i64 (vVal (s.data.toList.take (firstK s.data.toList))), .int .i64 (firstK s.data.toList)]) ∧ Below w.heap.size w w' := by
  have HD := Lib.hid (data_len s)
  go_enter Try.func15, Try.ntmps15
  go_wp2
  go_loopw [4] (fun i wr => ∃ k : Nat, k ≤ 7 ∧ k ≤ s.size ∧ i = .int .i64 ((k : Int) + 1) ∧ Hid (∀ j, j < k → vOk s.data.toList (j + 1) = false) ∧ Below w.heap.size w wr) (fun i _ => 8 - (intOf i).toNat)
  case atStart => exact ⟨0, Nat.zero_le _, Nat.zero_le _, rfl, fun j hj => absurd hj (Nat.not_lt_zero _), Below.refl _ _⟩
  case round =>
    obtain ⟨k, hk7, hks, rfl, HB, hbel⟩ := hrel
    by_cases hlt : k < 7 ∧ k < s.size
    · obtain ⟨hk, hl⟩ := hlt
      have hd : decide ((k : Int) + 1 ≤ (s.size : Int)) = true := by simp; omega
      go_wp2
      obtain ⟨wo, rfl⟩ : ∃ wo : World, wo = wr := ⟨_, rfl⟩
      go_loop [5, 6] (fun x i => ∃ j m : Nat, j ≤ k + 1 ∧ i = .int .i64 ((j : Int) - 1) ∧ x = .int .i64 m ∧ Hid (m = vVal ((s.data.toList.take (k + 1)).drop j))) (fun _ i => (intOf i + 1).toNat)
      case atStart => exact ⟨k + 1, 0, Nat.le_refl _, by go_num, rfl, by
        have e : (s.data.toList.take (k + 1)).drop (k + 1) = [] := by rw [List.drop_eq_nil_of_le]; exact List.length_take_le _ _
        show _ = _
        rw [e]; rfl⟩
      case round =>
        obtain ⟨j, m, hj, rfl, rfl, HM⟩ := hrel
        by_cases hj0 : 1 ≤ j
        · obtain ⟨j, rfl⟩ : ∃ i, j = i + 1 := ⟨j - 1, by omega⟩
          obtain ⟨m', hm', HM1, HM2⟩ := back_step s k j hk hl (by omega)
          have hmm : m ≤ 4398046511103 := by rw [HM.out, ← HM1.out]; exact hm'
          have HE := Lib.hid (show m = m' by rw [HM.out, ← HM1.out])
          have hjl : j < s.size := by omega
          have hbt : s[j].toNat < 256 := (s[j]).toNat_lt
          have e1 : ((j + 1 : Nat) : Int) - 1 = (j : Int) := by omega
          rw [e1]
          clear e1
          go_wp2
          go_round
          case rel => exact ⟨j, m * 128 + s[j].toNat % 128, by omega, by go_num, by go_num, by rw [HE.out]; exact HM2.out⟩
          case measure => simp [intOf]
        · obtain rfl : j = 0 := by omega
          have HM' : Hid (m = vVal (s.data.toList.take (k + 1))) := HM.out
          clear HM
          cases ho : vOk s.data.toList (k + 1)
          · have hq : ((varB m).toList == (s.extract 0 (k + 1)).toList) = false := by rw [cmp_eq s (k + 1) (by omega) _ (by rw [← HM'.out]), ho]
            have HO := Lib.hid ho
            clear ho
            go_wp2
            have g1 : (0 : Int) ≤ (k : Int) + 1 := by omega
            have g2 : ((k : Int) + 1).toNat = k + 1 := by omega
            have g3 : (k : Int) + 1 ≤ (s.size : Int) := by omega
            have g4 : k + 1 ≤ s.size := by omega
            go_region_with (go_at_call 13; refine (sEncVarint _ _).mono ?_; rintro e w1 ⟨rfl, hb1⟩)
            clear g1 g2 g3 g4
            go_wp2
            go_roundw
            case rel => exact ⟨k + 1, by omega, by omega, by go_num, fun j hj => by
              by_cases e : j = k
              · rw [e]; exact HO.out
              · exact HB.out j (by omega), hbel.trans (by first | exact hb1.mono hbel.size | exact ((Below.refl _ _).drew.trans hb1).mono hbel.size)⟩
            case measure => simp [intOf]; omega
          · have hq : ((varB m).toList == (s.extract 0 (k + 1)).toList) = true := by rw [cmp_eq s (k + 1) (by omega) _ (by rw [← HM'.out]), ho]
            have HO := Lib.hid ho
            clear ho
            go_wp2
            have g1 : (0 : Int) ≤ (k : Int) + 1 := by omega
            have g2 : ((k : Int) + 1).toNat = k + 1 := by omega
            have g3 : (k : Int) + 1 ≤ (s.size : Int) := by omega
            have g4 : k + 1 ≤ s.size := by omega
            go_region_with (go_at_call 13; refine (sEncVarint _ _).mono ?_; rintro e w1 ⟨rfl, hb1⟩)
            clear g1 g2 g3 g4
            go_wp2
            go_ret2
            refine ⟨?_, hbel.trans (by first | exact hb1.mono hbel.size | exact ((Below.refl _ _).drew.trans hb1).mono hbel.size)⟩
            rw [firstK_hit s.data.toList k hk (by rw [HD.out]; exact hl) HB.out HO.out, ← HM'.out]; go_num
    · have hfk : firstK s.data.toList = 0 := firstK_none s.data.toList (fun i h7 hi => HB.out i (by rw [HD.out] at hi; omega))
      have HF := Lib.hid hfk
      clear hfk
      go_wp2
      all_goals
        go_ret2
        refine ⟨?_, hbel⟩
        rw [HF.out]; rfl
end Go.Proofs.Ytkdljnfoeigafaa.num
