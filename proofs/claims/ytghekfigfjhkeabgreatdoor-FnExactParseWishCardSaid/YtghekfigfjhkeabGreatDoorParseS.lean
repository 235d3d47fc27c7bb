/-
  ParseInt, the model's: contract.
-/
import Derived.Test.YtghekfigfjhkeabGreatDoorParseI
namespace Go.Proofs.YtghekfigfjhkeabGreatDoor.num
open Go.RowKit

theorem dash_at (s : ByteArray) (h : 0 < s.size) : ((s[0].toNat : Int) == 45) = dash s.data.toList := by
  obtain ⟨⟨l⟩⟩ := s
  cases l with
  | nil => exact absurd h (by show ¬ 0 < 0; omega)
  | cons b l =>
    show (((b.toNat : Int)) == 45) = (some b == some 45)
    by_cases hb : b = 45
    · subst hb; rfl
    · have h1 : ((b.toNat : Int) == 45) = false := by
        rw [beq_eq_false_iff_ne]
        intro e
        exact hb (UInt8.toNat_inj.1 (by show b.toNat = 45; omega))
      have h2 : (some b == some (45 : UInt8)) = false := by
        rw [beq_eq_false_iff_ne]
        intro e
        injection e with e
        exact hb e
      rw [h1, h2]
theorem dash_nil (s : ByteArray) (h : s.size = 0) : dash s.data.toList = false := by
  have : s.data.toList = [] := List.eq_nil_of_length_eq_zero (by rw [Array.length_toList]; exact h)
  rw [this]; rfl
theorem len_le (s : ByteArray) (h : s.size ≤ 10) : s.data.toList.length ≤ 10 := by rw [Array.length_toList]; exact h

set_option maxRecDepth 20000 in
set_option maxHeartbeats 800000 in
theorem sParse (s : ByteArray) (hs : s.size ≤ 1048576) (w : World) :
    Calls Tryz.prog 22 #[.string s] w fun e w' => e = .returned (.tuple #[.int .i64 (pVal s.data.toList), .bool (pOk s.data.toList)]) ∧ Below w.heap.size w w' := by
  go_enter Tryz.func22, Tryz.ntmps22
  go_wp2
  go_loop [4, 5, 6] (fun v cn i => ∃ k m c : Nat, k ≤ 11 ∧ k ≤ s.size ∧ i = .int .i64 k ∧ v = .int .i64 m ∧ cn = .int .i64 c ∧ m ≤ 99999999999 ∧ c ≤ 11 ∧ Hid (m = scanV (s.data.toList.take k)) ∧ Hid (c = scanK (s.data.toList.take k))) (fun _ _ i => 11 - (intOf i).toNat)
  case atStart => exact ⟨0, 0, 0, Nat.zero_le _, Nat.zero_le _, rfl, rfl, rfl, by omega, by omega, rfl, rfl⟩
  case round =>
    obtain ⟨k, m, c, hk11, hks, rfl, rfl, rfl, hm, hc, HM, HC⟩ := hrel
    by_cases hlt : k < 11 ∧ k < s.size
    · obtain ⟨hk, hl⟩ := hlt
      have hd : decide ((k : Int) < 11) = true := by simp; omega
      have hl1 := List.length_take_le (k + 1) s.data.toList
      have hs1 := scanV_le12 (s.data.toList.take (k + 1)) (by omega)
      have hs2 := scanK_le (s.data.toList.take (k + 1))
      have hc2 : scanK (s.data.toList.take (k + 1)) ≤ 11 := by omega
      have e1 := scanV_snoc (s.data.toList.take k) s[k]
      have e2 := scanK_snoc (s.data.toList.take k) s[k]
      rw [← take_snoc s k hl, ← HM.out] at e1
      rw [← take_snoc s k hl, ← HC.out] at e2
      rw [e1] at hs1
      rw [e2] at hc2
      cases hx : isD s[k]
      · have HX : Hid (dstep m s[k] = m) := by show _ = _; rw [dstep, hx]; rfl
        have hnd : ¬ (48 ≤ s[k].toNat ∧ s[k].toNat ≤ 57) := of_decide_eq_false hx
        have E1 := Lib.hid e1
        have E2 : Hid (scanK (s.data.toList.take (k + 1)) = c) := by show _ = _; rw [e2, hx]; rfl
        clear e1 e2 hx hs1 hc2 hs2 hl1
        by_cases h48 : 48 ≤ s[k].toNat
        · have h57 : 57 < s[k].toNat := by omega
          clear hnd
          go_wp2
          go_round
          case rel => exact ⟨k + 1, m, c, by omega, by omega, by go_num, rfl, rfl, hm, hc, by show _ = _; rw [E1.out, HX.out], E2.out.symm⟩
          case measure => simp [intOf]; omega
        · clear hnd
          go_wp2
          go_round
          case rel => exact ⟨k + 1, m, c, by omega, by omega, by go_num, rfl, rfl, hm, hc, by show _ = _; rw [E1.out, HX.out], E2.out.symm⟩
          case measure => simp [intOf]; omega
      · have hdi : 48 ≤ s[k].toNat ∧ s[k].toNat ≤ 57 := of_decide_eq_true hx
        obtain ⟨hd1, hd2⟩ := hdi
        have e3 : dstep m s[k] = 10 * m + (s[k].toNat - 48) := by rw [dstep, hx]; rfl
        rw [e3] at hs1 e1
        have E1 := Lib.hid e1
        have e4 : scanK (s.data.toList.take (k + 1)) = c + 1 := by rw [e2, hx]; rfl
        have hcc : c + 1 ≤ 11 := by rw [← e4]; omega
        have E2 := Lib.hid e4
        clear e1 e2 e3 e4 hx hc2 hs2 hl1
        go_wp2
        go_round
        case rel => exact ⟨k + 1, 10 * m + (s[k].toNat - 48), c + 1, by omega, by omega, by go_num, by go_num, by go_num, hs1, hcc, E1.out.symm, E2.out.symm⟩
        case measure => simp [intOf]; omega
    · by_cases hbig : 10 < s.size
      · have HU := Lib.hid (pOk_long s.data.toList (by rw [Array.length_toList]; exact hbig))
        have hpos : 0 < s.size := by omega
        have h45 := dash_at s hpos
        generalize dash s.data.toList = d at h45
        by_cases hc9 : 9 < c
        · cases d
          all_goals
            go_wp2
            all_goals
              go_ret2
              refine ⟨?_, Below.refl _ _⟩
              rw [HU.out.1, HU.out.2]; rfl
        · cases d
          all_goals
            go_wp2
            all_goals
              go_ret2
              refine ⟨?_, Below.refl _ _⟩
              rw [HU.out.1, HU.out.2]; rfl
      · obtain rfl : k = s.size := by omega
        have hfull : s.data.toList.take s.size = s.data.toList := List.take_of_length_le (by rw [Array.length_toList]; exact Nat.le_refl _)
        have HM2 : Hid (m = scanV s.data.toList) := by show _ = _; rw [HM.out, hfull]
        have HC2 : Hid (c = scanK s.data.toList) := by show _ = _; rw [HC.out, hfull]
        clear hfull HM HC
        by_cases hc9 : 9 < c
        · have HU := Lib.hid (pOk_no s.data.toList (fun h => by have := h.2.1; rw [← HC2.out] at this; omega))
          by_cases hz : s.size = 0
          · have hz' : ¬ 0 < s.size := by omega
            clear hz
            go_wp2
            go_ret2
            refine ⟨?_, Below.refl _ _⟩
            rw [HU.out.1, HU.out.2]; rfl
          · have hpos : 0 < s.size := by omega
            have h45 := dash_at s hpos
            generalize dash s.data.toList = d at h45
            clear hz
            cases d
            all_goals
              go_wp2
              go_ret2
              refine ⟨?_, Below.refl _ _⟩
              rw [HU.out.1, HU.out.2]; rfl
        · by_cases hz : s.size = 0
          · have hz' : ¬ 0 < s.size := by omega
            have HD := Lib.hid (dash_nil s hz)
            clear hz
            have hsg : signed s.data.toList (scanV s.data.toList) = (m : Int) := by unfold signed; rw [HD.out, ← HM2.out]; rfl
            by_cases hb : Lib.itoa ((m : Int)) = s.data.toList
            · have hq := eq_text ((m : Int)) s true (by simp [hb])
              have HU := Lib.hid (pOk_model s.data.toList (by rw [← HC2.out]; omega) (by rw [hsg]; exact hb))
              have HG := Lib.hid hsg
              clear hb hsg
              go_wp2_with fail
              refine (sFormat ((m : Int)) (by omega) (by omega) _).mono ?_
              rintro e wb ⟨rfl, hb1⟩
              go_wp2
              go_ret2
              refine ⟨?_, hb1⟩
              rw [HU.out.1, HU.out.2, HG.out]; rfl
            · have hq := eq_text ((m : Int)) s false (by simp [hb])
              have HU := Lib.hid (pOk_no s.data.toList (fun h => hb (by have := h.2.2; rw [hsg] at this; exact this)))
              have HG := Lib.hid hsg
              clear hb hsg
              go_wp2_with fail
              refine (sFormat ((m : Int)) (by omega) (by omega) _).mono ?_
              rintro e wb ⟨rfl, hb1⟩
              go_wp2
              go_ret2
              refine ⟨?_, hb1⟩
              rw [HU.out.1, HU.out.2]; rfl
          · have hpos : 0 < s.size := by omega
            have h45 := dash_at s hpos
            clear hz
            cases hd : dash s.data.toList
            · rw [hd] at h45
              have HD := Lib.hid hd
              clear hd
              have hsg : signed s.data.toList (scanV s.data.toList) = (m : Int) := by unfold signed; rw [HD.out, ← HM2.out]; rfl
              by_cases hb : Lib.itoa ((m : Int)) = s.data.toList
              · have hq := eq_text ((m : Int)) s true (by simp [hb])
                have HU := Lib.hid (pOk_model s.data.toList (by rw [← HC2.out]; omega) (by rw [hsg]; exact hb))
                have HG := Lib.hid hsg
                clear hb hsg
                go_wp2_with fail
                refine (sFormat ((m : Int)) (by omega) (by omega) _).mono ?_
                rintro e wb ⟨rfl, hb1⟩
                go_wp2
                go_ret2
                refine ⟨?_, hb1⟩
                rw [HU.out.1, HU.out.2, HG.out]; rfl
              · have hq := eq_text ((m : Int)) s false (by simp [hb])
                have HU := Lib.hid (pOk_no s.data.toList (fun h => hb (by have := h.2.2; rw [hsg] at this; exact this)))
                have HG := Lib.hid hsg
                clear hb hsg
                go_wp2_with fail
                refine (sFormat ((m : Int)) (by omega) (by omega) _).mono ?_
                rintro e wb ⟨rfl, hb1⟩
                go_wp2
                go_ret2
                refine ⟨?_, hb1⟩
                rw [HU.out.1, HU.out.2]; rfl
            · rw [hd] at h45
              have HD := Lib.hid hd
              clear hd
              have hsg : signed s.data.toList (scanV s.data.toList) = -(m : Int) := by unfold signed; rw [HD.out, ← HM2.out]; rfl
              by_cases hb : Lib.itoa (-(m : Int)) = s.data.toList
              · have hq := eq_text (-(m : Int)) s true (by simp [hb])
                have HU := Lib.hid (pOk_model s.data.toList (by rw [← HC2.out]; omega) (by rw [hsg]; exact hb))
                have HG := Lib.hid hsg
                clear hb hsg
                go_wp2_with fail
                refine (sFormat (-(m : Int)) (by omega) (by omega) _).mono ?_
                rintro e wb ⟨rfl, hb1⟩
                go_wp2
                go_ret2
                refine ⟨?_, hb1⟩
                rw [HU.out.1, HU.out.2, HG.out]; rfl
              · have hq := eq_text (-(m : Int)) s false (by simp [hb])
                have HU := Lib.hid (pOk_no s.data.toList (fun h => hb (by have := h.2.2; rw [hsg] at this; exact this)))
                have HG := Lib.hid hsg
                clear hb hsg
                go_wp2_with fail
                refine (sFormat (-(m : Int)) (by omega) (by omega) _).mono ?_
                rintro e wb ⟨rfl, hb1⟩
                go_wp2
                go_ret2
                refine ⟨?_, hb1⟩
                rw [HU.out.1, HU.out.2]; rfl
end Go.Proofs.YtghekfigfjhkeabGreatDoor.num
