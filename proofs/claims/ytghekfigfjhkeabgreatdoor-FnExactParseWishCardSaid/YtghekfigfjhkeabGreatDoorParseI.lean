/-
  ParseInt, the program's: contract.
-/
import Derived.Test.YtghekfigfjhkeabGreatDoorParseMath
import Derived.Test.YtghekfigfjhkeabGreatDoorItoa
import Derived.Lib.OthersKept
import Derived.Lib.DecodeN
import Derived.WalkSpells
namespace Go.Proofs.YtghekfigfjhkeabGreatDoor.num
open Go.RowKit

theorem digit_of (r : Int) (b : Bool) (hb : b = true ↔ 48 ≤ r ∧ r ≤ 57) (w : World) :
    Calls Tryz.prog 44 #[.int .i32 r] w fun e w' => e = .returned (.bool b) ∧ w = w' := by
  obtain rfl : b = (decide (48 ≤ r) && decide (r ≤ 57)) := by rw [Bool.eq_iff_iff]; simpa using hb
  clear hb
  by_cases h1 : 48 ≤ r
  · go_enter Tryz.func44, Tryz.ntmps44
    go_wp2
    go_ret
    exact ⟨by simp [h1], rfl⟩
  · go_enter Tryz.func44, Tryz.ntmps44
    go_wp2
    go_ret
    exact ⟨by simp; omega, rfl⟩
theorem cut_dash (s : ByteArray) (w : World) :
    Calls Tryz.prog 43 #[.string s, .string ⟨#[45]⟩] w fun e w' => e = .returned (.tuple #[.string ⟨(dgs s.data.toList).toArray⟩, .bool (dash s.data.toList)]) ∧ w = w' :=
  (Tryz.strings_CutPrefix s ⟨#[45]⟩ w).mono fun e w' ⟨he, hw⟩ => by
    refine ⟨?_, hw.symm⟩
    rw [he]
    show Ending.returned (.tuple #[.string ⟨(Lib.trimPrefix s.data.toList [45]).toArray⟩, .bool (Lib.hasPrefix s.data.toList [45])]) = _
    rw [hasDash, trimDash]
theorem decode_hi (s : ByteArray) (pos : Nat) (h : pos < s.size) (hb : 128 ≤ (s[pos]).toNat) : 128 ≤ (Utf8.decode s pos).1 := by
  have e : s.get! pos = s[pos]'h := by simp [ByteArray.get!, getElem!_pos, h]; rfl
  rw [Lib.decode_at, e]
  unfold Lib.decodeN
  rw [if_neg (by omega)]
  repeat' split
  all_goals first | assumption | (simp only; omega) | decide
theorem isD_at (t : ByteArray) (pos : Nat) (h : pos < t.size) (hb : isD t[pos] = false) (l : List UInt8) (hl : t.data.toList = l) : ¬ l.all isD = true := by
  subst hl
  intro ha
  have hm : t[pos] ∈ t.data.toList := by simp; exact Array.getElem_mem (xs := t.data) h
  have := List.all_eq_true.1 ha _ hm
  rw [hb] at this; cases this
theorem eq_text (m : Int) (s : ByteArray) (b : Bool) (hb : b = true ↔ Lib.itoa m = s.data.toList) : ((fmtB m).toList == s.toList) = b := by
  rw [ByteArray.toList_eq, ByteArray.toList_eq, Bool.eq_iff_iff, beq_iff_eq, hb]; rfl

set_option maxRecDepth 20000 in
set_option maxHeartbeats 400000 in
theorem iParse (s : ByteArray) (_hs : s.size ≤ 1048576) (w : World) (hpow : Pow w) :
    Calls Tryz.prog 29 #[.string s] w fun e w' => e = .returned (.tuple #[.int .i64 (pVal s.data.toList), .bool (pOk s.data.toList)]) ∧ Below w.heap.size w w' := by
  have HP := Lib.hid hpow
  clear hpow
  go_enter Tryz.func29, Tryz.ntmps29
  go_wp2_with fail
  refine (cut_dash s _).mono ?_
  rintro e w1 ⟨rfl, rfl⟩
  generalize ht : (⟨(dgs s.data.toList).toArray⟩ : ByteArray) = t
  have HT : Hid (t.data.toList = dgs s.data.toList) := by subst ht; show _ = _; rfl
  clear ht
  by_cases hlen : t.size ≤ 9
  · generalize hd : dash s.data.toList = d
    have HD := Lib.hid hd
    clear hd
    go_wp2
    go_loopw [6] (fun v wr => ∃ pos m : Nat, pos ≤ t.size ∧ v = .int .i64 m ∧ m ≤ 999999999 ∧ Hid (m = scanV (t.data.toList.take pos)) ∧ Hid ((t.data.toList.take pos).all isD = true) ∧ wr.heap[w.heap.size]? = some (.stringIter t pos) ∧ Below w.heap.size w wr) (fun _ wr => t.size - wr.iterPos w.heap.size)
    case atStart => exact ⟨0, 0, Nat.zero_le _, rfl, by omega, rfl, rfl, World.iter_heap w t 0, (Below.refl _ _).alloc (Nat.le_refl _) _⟩
    case round =>
      obtain ⟨pos, m, hp, rfl, hm, HM, HA, hit, hbel⟩ := hrel
      have HI := Lib.hid hit
      by_cases hlt : pos < t.size
      · by_cases hlow : (t[pos]).toNat < 128
        · have hnext := fun ty => Lib.run_next_ascii_at (P := Tryz.prog) wr w.heap.size t pos ty hit hlt hlow
          clear hit
          have hbel1 := Lib.below_iterAt hbel (Nat.le_refl _) t (pos + 1)
          cases hx : isD t[pos]
          · have HU := Lib.hid (pOk_p1 s.data.toList (fun h => isD_at t pos hlt hx _ HT.out h.2))
            have hnd : ¬ (48 ≤ t[pos].toNat ∧ t[pos].toNat ≤ 57) := of_decide_eq_false hx
            have HX := Lib.hid hx
            clear hx hbel
            go_wp2_with fail
            refine (digit_of _ false (by simp; omega) _).mono ?_
            rintro e wa ⟨rfl, rfl⟩
            go_wp2
            go_ret2
            refine ⟨?_, hbel1⟩
            rw [HU.out.1, HU.out.2]; rfl
          · have hdi : 48 ≤ t[pos].toNat ∧ t[pos].toNat ≤ 57 := of_decide_eq_true hx
            obtain ⟨hd1, hd2⟩ := hdi
            have hstep : scanV (t.data.toList.take (pos + 1)) = 10 * m + (t[pos].toNat - 48) := by
              rw [take_snoc t pos hlt, scanV_snoc, ← HM.out, dstep, hx]; rfl
            have hle := scanV_le9 (t.data.toList.take (pos + 1)) (by have := List.length_take_le (pos + 1) t.data.toList; omega)
            have hm2 : 10 * m + (t[pos].toNat - 48) ≤ 999999999 := by rw [← hstep]; exact hle
            have HS := Lib.hid hstep
            have hall : (t.data.toList.take (pos + 1)).all isD = true := by rw [take_snoc t pos hlt, List.all_append, HA.out]; simp [hx]
            have HA2 := Lib.hid hall
            have HX := Lib.hid hx
            have HPos : Hid (wr.iterPos w.heap.size = pos) := by show _ = _; simp [World.iterPos, HI.out]
            have HT1 := Lib.hid (Lib.iterAt_heap wr _ _ pos (pos + 1) HI.out)
            clear hx hbel hstep hle hall
            go_wp2_with fail
            refine (digit_of _ true (by simp; omega) _).mono ?_
            rintro e wa ⟨rfl, rfl⟩
            go_wp2
            go_roundw
            case rel => exact ⟨pos + 1, 10 * m + (t[pos].toNat - 48), by omega, by go_num, hm2, HS.out.symm, HA2.out, HT1.out, hbel1⟩
            case measure =>
              have h2 := HPos.out
              have h3 : (wr.iterAt w.heap.size t (pos + 1)).iterPos w.heap.size = pos + 1 := by simp [World.iterPos, HT1.out]
              omega
        · have hnext := fun ty => Lib.run_next_any_at (P := Tryz.prog) wr w.heap.size t pos ty hit hlt
          have hd := decode_hi t pos hlt (by omega)
          have HU := Lib.hid (pOk_p1 s.data.toList (fun h => isD_at t pos hlt (by simp [isD]; omega) _ HT.out h.2))
          have hbel1 := Lib.below_iterAt hbel (Nat.le_refl _) t (pos + (Utf8.decode t pos).2)
          clear hit hbel
          go_wp2_with fail
          refine (digit_of _ false (by simp; omega) _).mono ?_
          rintro e wa ⟨rfl, rfl⟩
          go_wp2
          go_ret2
          refine ⟨?_, hbel1⟩
          rw [HU.out.1, HU.out.2]; rfl
      · have hnext := fun ty => Lib.run_next_end_at (P := Tryz.prog) wr w.heap.size t pos ty hit hlt
        clear hit
        obtain rfl : pos = t.size := by omega
        have hfull : t.data.toList.take t.size = t.data.toList := List.take_of_length_le (by rw [Array.length_toList]; exact Nat.le_refl _)
        have HM2 : Hid (m = scanV (dgs s.data.toList)) := by show _ = _; rw [HM.out, hfull, HT.out]
        have HA2 : Hid ((dgs s.data.toList).all isD = true) := by have := HA.out; rw [hfull, HT.out] at this; exact this
        have HL2 : Hid ((dgs s.data.toList).length ≤ 9) := by show _ ≤ _; rw [← HT.out, Array.length_toList]; exact hlen
        clear hfull
        cases d
        · have hsg : signed s.data.toList (scanV (dgs s.data.toList)) = (m : Int) := by unfold signed; rw [HD.out, ← HM2.out]; rfl
          by_cases hb : Lib.itoa ((m : Int)) = s.data.toList
          · have hq := eq_text ((m : Int)) s true (by simp [hb])
            have HU := Lib.hid (pOk_p2 s.data.toList HL2.out HA2.out true (by rw [hsg]; simp [hb]))
            have HG := Lib.hid hsg
            clear hb hsg
            go_wp2_with fail
            refine (iFormat ((m : Int)) (by omega) (by omega) _ (HP.out.below hbel)).mono ?_
            rintro e wb ⟨rfl, hb1⟩
            go_wp2
            go_ret2
            refine ⟨?_, hbel.trans (hb1.mono hbel.size)⟩
            rw [HU.out.1, HU.out.2, HG.out]; rfl
          · have hq := eq_text ((m : Int)) s false (by simp [hb])
            have HU := Lib.hid (pOk_p2 s.data.toList HL2.out HA2.out false (by rw [hsg]; simp [hb]))
            have HG := Lib.hid hsg
            clear hb hsg
            go_wp2_with fail
            refine (iFormat ((m : Int)) (by omega) (by omega) _ (HP.out.below hbel)).mono ?_
            rintro e wb ⟨rfl, hb1⟩
            go_wp2
            go_ret2
            refine ⟨?_, hbel.trans (hb1.mono hbel.size)⟩
            rw [HU.out.1, HU.out.2]; rfl
        · have hsg : signed s.data.toList (scanV (dgs s.data.toList)) = -(m : Int) := by unfold signed; rw [HD.out, ← HM2.out]; rfl
          by_cases hb : Lib.itoa (-(m : Int)) = s.data.toList
          · have hq := eq_text (-(m : Int)) s true (by simp [hb])
            have HU := Lib.hid (pOk_p2 s.data.toList HL2.out HA2.out true (by rw [hsg]; simp [hb]))
            have HG := Lib.hid hsg
            clear hb hsg
            go_wp2_with fail
            refine (iFormat (-(m : Int)) (by omega) (by omega) _ (HP.out.below hbel)).mono ?_
            rintro e wb ⟨rfl, hb1⟩
            go_wp2
            go_ret2
            refine ⟨?_, hbel.trans (hb1.mono hbel.size)⟩
            rw [HU.out.1, HU.out.2, HG.out]; rfl
          · have hq := eq_text (-(m : Int)) s false (by simp [hb])
            have HU := Lib.hid (pOk_p2 s.data.toList HL2.out HA2.out false (by rw [hsg]; simp [hb]))
            have HG := Lib.hid hsg
            clear hb hsg
            go_wp2_with fail
            refine (iFormat (-(m : Int)) (by omega) (by omega) _ (HP.out.below hbel)).mono ?_
            rintro e wb ⟨rfl, hb1⟩
            go_wp2
            go_ret2
            refine ⟨?_, hbel.trans (hb1.mono hbel.size)⟩
            rw [HU.out.1, HU.out.2]; rfl
  · have HU := Lib.hid (pOk_p1 s.data.toList (fun h => hlen (by have := h.1; rw [← HT.out, Array.length_toList] at this; exact this)))
    go_wp2
    go_ret2
    refine ⟨?_, Below.refl _ _⟩
    rw [HU.out.1, HU.out.2]; rfl
end Go.Proofs.YtghekfigfjhkeabGreatDoor.num
