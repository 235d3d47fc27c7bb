/-
  The walk of the law FnIntegerEncodings.
-/
import Derived.Test.YtkdljnfoeigafaaDoorLawInt
namespace Go.Proofs.YtkdljnfoeigafaaDoor.num
open Go.RowKit

set_option maxRecDepth 100000 in
set_option maxHeartbeats 1600000 in
theorem int_walk (a0 : Option Addr) (len0 cap0 : Nat) (hlm : len0 ≤ 9223372036854775807) (w : World) (hrow : Row w w.heap.size a0 len0) (hpow : Pow w) :
    Calls Tryd.prog 3 #[.slice a0 len0 cap0] w fun e w' => e = .returned (.bool true) ∧ Below w.heap.size w w' := by
  have HP := Lib.hid hpow
  have HR := Lib.hid hrow
  clear hpow hrow
  by_cases hbig : 1048576 < len0
  · go_enter Tryd.func3, Tryd.ntmps3
    go_wp2_with fail
    refine (big_any _ _ _ true (by simp; omega) hlm _).mono ?_
    rintro e wx ⟨rfl, rfl⟩
    go_wp2
    go_ret
    exact ⟨rfl, Below.refl _ _⟩
  go_enter Tryd.func3, Tryd.ntmps3
  go_wp2_with fail
  refine (big_any _ _ _ false (by simp; omega) hlm _).mono ?_
  rintro e wx ⟨rfl, rfl⟩
  go_wp2_with fail
  refine (draw_varint _ a0 len0 cap0 (by omega) HR.out).mono ?_
  rintro e w1 ⟨n, rfl, hn, hb1⟩
  have HN := Lib.hid hn
  have HB1 := Lib.hid hb1
  clear hb1 hn
  go_wp2_with fail
  refine (draw_hex _ a0 len0 cap0 (by omega) (HR.out.below HB1.out).wide).mono ?_
  rintro e w2 ⟨l, rfl, hl, hb2⟩
  have HB2 := Lib.hid (HB1.out.trans (hb2.mono HB1.out.size))
  clear hb2
  go_wp2_with fail
  refine (iEncVarint n _).mono ?_
  rintro e w3 ⟨rfl, hb3⟩
  have HB3 := Lib.hid (HB2.out.trans (hb3.mono HB2.out.size))
  clear hb3 HB1 HB2
  by_cases hA : 0 ≤ n ∧ n ≤ 562949953421311
  · obtain ⟨hA0, hA1⟩ := hA
    obtain ⟨hs0, hs1⟩ := varB_size n hA0 hA1
    obtain ⟨ne1, ne2⟩ := list_empty (varB n) hs0
    have hd : decide (n ≤ 562949953421311) = true := by simpa using hA1
    go_wp2_with fail
    refine (dv_yes n hA0 hA1 ⟨l.toArray⟩ (by show l.toArray.size ≤ 40; simp; omega) _).mono ?_
    rintro e w4 ⟨rfl, hb4⟩
    have HB4 := Lib.hid (HB3.out.trans (hb4.mono HB3.out.size))
    clear hb4 HB3
    go_wp2_with fail
    refine (draw_fixed _ a0 len0 cap0 (by omega) (HR.out.below HB4.out).wide).mono ?_
    rintro e w5 ⟨x, wd, rfl, hx, hwd0, hwd1, hb5⟩
    have HX := Lib.hid hx
    have HB5 := Lib.hid (HB4.out.trans (hb5.mono HB4.out.size))
    clear hb5 hx HB4
    go_wp2_with fail
    refine (iEncFixed x wd (HX.out.2) _).mono ?_
    rintro e w6 ⟨rfl, hb6⟩
    have HB6a := Lib.hid (HB5.out.trans (hb6.mono HB5.out.size))
    clear hb6 HB5
    by_cases hC : FixIn x wd
    · have hfs := fix_size x wd hC
      have hfs1 : 1 ≤ (fixB x wd).size := by have := hC.1; omega
      have hfs7 : (fixB x wd).size ≤ 7 := by have := hC.2.1; omega
      obtain ⟨fe1, fe2⟩ := list_empty (fixB x wd) hfs1
      have hfq : (((fixB x wd).size : Int) != wd) = false := by rw [hfs]; simp
      have HC := Lib.hid hC
      have HFS := Lib.hid hfs
      clear hC hfs
      go_wp2_with fail
      refine (df_yes x wd HC.out ⟨l.toArray⟩ (by show l.toArray.size ≤ 40; simp; omega) _).mono ?_
      rintro e w6c ⟨rfl, rfl⟩
      go_wp2_with fail
      refine (sEncFixed x wd (HX.out.2) _).mono ?_
      rintro e w6b ⟨rfl, hb6b⟩
      have HB6 := Lib.hid (HB6a.out.trans (hb6b.mono HB6a.out.size))
      clear hb6b HB6a
      go_wp2_with fail
      refine (eh_yes l hl _).mono ?_
      rintro e w7 ⟨rfl, hb7⟩
      have HB7 := Lib.hid (HB6.out.trans (hb7.mono HB6.out.size))
      clear hb7 HB6
      go_wp2_with fail
      refine (dh_yes l hl _).mono ?_
      rintro e w8 ⟨rfl, hb8⟩
      have HB8 := Lib.hid (HB7.out.trans (hb8.mono HB7.out.size))
      clear hb8 HB7
      go_wp2_with fail
      refine (iFormat x (HX.out.1) (HX.out.2) _ (HP.out.below HB8.out)).mono ?_
      rintro e w9 ⟨rfl, hb9⟩
      have HB9 := Lib.hid (HB8.out.trans (hb9.mono HB8.out.size))
      clear hb9 HB8
      by_cases hr : -1000000000 < x ∧ x < 1000000000
      · go_wp2_with fail
        refine (pi_yes x HX.out hr.1 hr.2 _ (HP.out.below HB9.out)).mono ?_
        rintro e w10 ⟨rfl, hb10⟩
        have HB10 := Lib.hid (HB9.out.trans (hb10.mono HB9.out.size))
        clear hb10
        obtain ⟨hr1, hr2⟩ := hr
        have hhl : (((hexL l).length : Int) == 2 * (l.length : Int)) = true := by rw [hexL_len]; simp
        have hd2 : decide (x < 1000000000) = true := by simpa using hr2
        go_wp2_with fail
        refine (sFormat x (HX.out.1) (HX.out.2) _).mono ?_
        rintro e w11 ⟨rfl, hb11⟩
        have HB11 := Lib.hid (HB10.out.trans (hb11.mono HB10.out.size))
        clear hb11
        go_wp2
        go_ret
        exact ⟨rfl, HB11.out⟩
      by_cases hlo : -1000000000 < x
      · have hr3 := show 1000000000 ≤ x by omega
        go_wp2_with fail
        refine (pi_no x HX.out hr _ (HP.out.below HB9.out)).mono ?_
        rintro e w10 ⟨rfl, hb10⟩
        have HB10 := Lib.hid (HB9.out.trans (hb10.mono HB9.out.size))
        clear hb10 hr
        have hhl : (((hexL l).length : Int) == 2 * (l.length : Int)) = true := by rw [hexL_len]; simp
        have hd2 : decide (x < 1000000000) = false := by simp; omega
        go_wp2_with fail
        refine (sFormat x (HX.out.1) (HX.out.2) _).mono ?_
        rintro e w11 ⟨rfl, hb11⟩
        have HB11 := Lib.hid (HB10.out.trans (hb11.mono HB10.out.size))
        clear hb11
        go_wp2
        go_ret
        exact ⟨rfl, HB11.out⟩
      · have hr3 := show x ≤ -1000000000 by omega
        go_wp2_with fail
        refine (pi_no x HX.out hr _ (HP.out.below HB9.out)).mono ?_
        rintro e w10 ⟨rfl, hb10⟩
        have HB10 := Lib.hid (HB9.out.trans (hb10.mono HB9.out.size))
        clear hb10 hr
        have hhl : (((hexL l).length : Int) == 2 * (l.length : Int)) = true := by rw [hexL_len]; simp
        have hd3 : decide (-1000000000 < x) = false := by simp; omega
        go_wp2_with fail
        refine (sFormat x (HX.out.1) (HX.out.2) _).mono ?_
        rintro e w11 ⟨rfl, hb11⟩
        have HB11 := Lib.hid (HB10.out.trans (hb11.mono HB10.out.size))
        clear hb11
        go_wp2
        go_ret
        exact ⟨rfl, HB11.out⟩
    · have hfe := fixB_no x wd hC
      go_wp2_with fail
      refine (df_any _ wd (empty_app l hl) _).mono ?_
      rintro e w6c ⟨y, b, rfl, rfl⟩
      go_wp2_with fail
      refine (sEncFixed x wd (HX.out.2) _).mono ?_
      rintro e w6b ⟨rfl, hb6b⟩
      have HB6 := Lib.hid (HB6a.out.trans (hb6b.mono HB6a.out.size))
      clear hb6b HB6a
      go_wp2_with fail
      refine (eh_yes l hl _).mono ?_
      rintro e w7 ⟨rfl, hb7⟩
      have HB7 := Lib.hid (HB6.out.trans (hb7.mono HB6.out.size))
      clear hb7 HB6
      go_wp2_with fail
      refine (dh_yes l hl _).mono ?_
      rintro e w8 ⟨rfl, hb8⟩
      have HB8 := Lib.hid (HB7.out.trans (hb8.mono HB7.out.size))
      clear hb8 HB7
      go_wp2_with fail
      refine (iFormat x (HX.out.1) (HX.out.2) _ (HP.out.below HB8.out)).mono ?_
      rintro e w9 ⟨rfl, hb9⟩
      have HB9 := Lib.hid (HB8.out.trans (hb9.mono HB8.out.size))
      clear hb9 HB8
      by_cases hr : -1000000000 < x ∧ x < 1000000000
      · go_wp2_with fail
        refine (pi_yes x HX.out hr.1 hr.2 _ (HP.out.below HB9.out)).mono ?_
        rintro e w10 ⟨rfl, hb10⟩
        have HB10 := Lib.hid (HB9.out.trans (hb10.mono HB9.out.size))
        clear hb10
        obtain ⟨hr1, hr2⟩ := hr
        have hhl : (((hexL l).length : Int) == 2 * (l.length : Int)) = true := by rw [hexL_len]; simp
        have hd2 : decide (x < 1000000000) = true := by simpa using hr2
        go_wp2_with fail
        refine (sFormat x (HX.out.1) (HX.out.2) _).mono ?_
        rintro e w11 ⟨rfl, hb11⟩
        have HB11 := Lib.hid (HB10.out.trans (hb11.mono HB10.out.size))
        clear hb11
        go_wp2
        go_ret
        exact ⟨rfl, HB11.out⟩
      by_cases hlo : -1000000000 < x
      · have hr3 := show 1000000000 ≤ x by omega
        go_wp2_with fail
        refine (pi_no x HX.out hr _ (HP.out.below HB9.out)).mono ?_
        rintro e w10 ⟨rfl, hb10⟩
        have HB10 := Lib.hid (HB9.out.trans (hb10.mono HB9.out.size))
        clear hb10 hr
        have hhl : (((hexL l).length : Int) == 2 * (l.length : Int)) = true := by rw [hexL_len]; simp
        have hd2 : decide (x < 1000000000) = false := by simp; omega
        go_wp2_with fail
        refine (sFormat x (HX.out.1) (HX.out.2) _).mono ?_
        rintro e w11 ⟨rfl, hb11⟩
        have HB11 := Lib.hid (HB10.out.trans (hb11.mono HB10.out.size))
        clear hb11
        go_wp2
        go_ret
        exact ⟨rfl, HB11.out⟩
      · have hr3 := show x ≤ -1000000000 by omega
        go_wp2_with fail
        refine (pi_no x HX.out hr _ (HP.out.below HB9.out)).mono ?_
        rintro e w10 ⟨rfl, hb10⟩
        have HB10 := Lib.hid (HB9.out.trans (hb10.mono HB9.out.size))
        clear hb10 hr
        have hhl : (((hexL l).length : Int) == 2 * (l.length : Int)) = true := by rw [hexL_len]; simp
        have hd3 : decide (-1000000000 < x) = false := by simp; omega
        go_wp2_with fail
        refine (sFormat x (HX.out.1) (HX.out.2) _).mono ?_
        rintro e w11 ⟨rfl, hb11⟩
        have HB11 := Lib.hid (HB10.out.trans (hb11.mono HB10.out.size))
        clear hb11
        go_wp2
        go_ret
        exact ⟨rfl, HB11.out⟩
  have hvb := varB_no n hA
  by_cases hA0 : 0 ≤ n
  · have hA1 : 562949953421311 < n := by omega
    clear hA
    go_wp2_with fail
    refine (dv_any _ (empty_app l hl) _).mono ?_
    rintro e w4 ⟨xx, kk, rfl, hb4⟩
    have HB4 := Lib.hid (HB3.out.trans (hb4.mono HB3.out.size))
    clear hb4 HB3
    go_wp2_with fail
    refine (draw_fixed _ a0 len0 cap0 (by omega) (HR.out.below HB4.out).wide).mono ?_
    rintro e w5 ⟨x, wd, rfl, hx, hwd0, hwd1, hb5⟩
    have HX := Lib.hid hx
    have HB5 := Lib.hid (HB4.out.trans (hb5.mono HB4.out.size))
    clear hb5 hx HB4
    go_wp2_with fail
    refine (iEncFixed x wd (HX.out.2) _).mono ?_
    rintro e w6 ⟨rfl, hb6⟩
    have HB6a := Lib.hid (HB5.out.trans (hb6.mono HB5.out.size))
    clear hb6 HB5
    by_cases hC : FixIn x wd
    · have hfs := fix_size x wd hC
      have hfs1 : 1 ≤ (fixB x wd).size := by have := hC.1; omega
      have hfs7 : (fixB x wd).size ≤ 7 := by have := hC.2.1; omega
      obtain ⟨fe1, fe2⟩ := list_empty (fixB x wd) hfs1
      have hfq : (((fixB x wd).size : Int) != wd) = false := by rw [hfs]; simp
      have HC := Lib.hid hC
      have HFS := Lib.hid hfs
      clear hC hfs
      go_wp2_with fail
      refine (df_yes x wd HC.out ⟨l.toArray⟩ (by show l.toArray.size ≤ 40; simp; omega) _).mono ?_
      rintro e w6c ⟨rfl, rfl⟩
      go_wp2_with fail
      refine (sEncFixed x wd (HX.out.2) _).mono ?_
      rintro e w6b ⟨rfl, hb6b⟩
      have HB6 := Lib.hid (HB6a.out.trans (hb6b.mono HB6a.out.size))
      clear hb6b HB6a
      go_wp2_with fail
      refine (eh_yes l hl _).mono ?_
      rintro e w7 ⟨rfl, hb7⟩
      have HB7 := Lib.hid (HB6.out.trans (hb7.mono HB6.out.size))
      clear hb7 HB6
      go_wp2_with fail
      refine (dh_yes l hl _).mono ?_
      rintro e w8 ⟨rfl, hb8⟩
      have HB8 := Lib.hid (HB7.out.trans (hb8.mono HB7.out.size))
      clear hb8 HB7
      go_wp2_with fail
      refine (iFormat x (HX.out.1) (HX.out.2) _ (HP.out.below HB8.out)).mono ?_
      rintro e w9 ⟨rfl, hb9⟩
      have HB9 := Lib.hid (HB8.out.trans (hb9.mono HB8.out.size))
      clear hb9 HB8
      by_cases hr : -1000000000 < x ∧ x < 1000000000
      · go_wp2_with fail
        refine (pi_yes x HX.out hr.1 hr.2 _ (HP.out.below HB9.out)).mono ?_
        rintro e w10 ⟨rfl, hb10⟩
        have HB10 := Lib.hid (HB9.out.trans (hb10.mono HB9.out.size))
        clear hb10
        obtain ⟨hr1, hr2⟩ := hr
        have hhl : (((hexL l).length : Int) == 2 * (l.length : Int)) = true := by rw [hexL_len]; simp
        have hd2 : decide (x < 1000000000) = true := by simpa using hr2
        go_wp2_with fail
        refine (sFormat x (HX.out.1) (HX.out.2) _).mono ?_
        rintro e w11 ⟨rfl, hb11⟩
        have HB11 := Lib.hid (HB10.out.trans (hb11.mono HB10.out.size))
        clear hb11
        go_wp2
        go_ret
        exact ⟨rfl, HB11.out⟩
      by_cases hlo : -1000000000 < x
      · have hr3 := show 1000000000 ≤ x by omega
        go_wp2_with fail
        refine (pi_no x HX.out hr _ (HP.out.below HB9.out)).mono ?_
        rintro e w10 ⟨rfl, hb10⟩
        have HB10 := Lib.hid (HB9.out.trans (hb10.mono HB9.out.size))
        clear hb10 hr
        have hhl : (((hexL l).length : Int) == 2 * (l.length : Int)) = true := by rw [hexL_len]; simp
        have hd2 : decide (x < 1000000000) = false := by simp; omega
        go_wp2_with fail
        refine (sFormat x (HX.out.1) (HX.out.2) _).mono ?_
        rintro e w11 ⟨rfl, hb11⟩
        have HB11 := Lib.hid (HB10.out.trans (hb11.mono HB10.out.size))
        clear hb11
        go_wp2
        go_ret
        exact ⟨rfl, HB11.out⟩
      · have hr3 := show x ≤ -1000000000 by omega
        go_wp2_with fail
        refine (pi_no x HX.out hr _ (HP.out.below HB9.out)).mono ?_
        rintro e w10 ⟨rfl, hb10⟩
        have HB10 := Lib.hid (HB9.out.trans (hb10.mono HB9.out.size))
        clear hb10 hr
        have hhl : (((hexL l).length : Int) == 2 * (l.length : Int)) = true := by rw [hexL_len]; simp
        have hd3 : decide (-1000000000 < x) = false := by simp; omega
        go_wp2_with fail
        refine (sFormat x (HX.out.1) (HX.out.2) _).mono ?_
        rintro e w11 ⟨rfl, hb11⟩
        have HB11 := Lib.hid (HB10.out.trans (hb11.mono HB10.out.size))
        clear hb11
        go_wp2
        go_ret
        exact ⟨rfl, HB11.out⟩
    · have hfe := fixB_no x wd hC
      go_wp2_with fail
      refine (df_any _ wd (empty_app l hl) _).mono ?_
      rintro e w6c ⟨y, b, rfl, rfl⟩
      go_wp2_with fail
      refine (sEncFixed x wd (HX.out.2) _).mono ?_
      rintro e w6b ⟨rfl, hb6b⟩
      have HB6 := Lib.hid (HB6a.out.trans (hb6b.mono HB6a.out.size))
      clear hb6b HB6a
      go_wp2_with fail
      refine (eh_yes l hl _).mono ?_
      rintro e w7 ⟨rfl, hb7⟩
      have HB7 := Lib.hid (HB6.out.trans (hb7.mono HB6.out.size))
      clear hb7 HB6
      go_wp2_with fail
      refine (dh_yes l hl _).mono ?_
      rintro e w8 ⟨rfl, hb8⟩
      have HB8 := Lib.hid (HB7.out.trans (hb8.mono HB7.out.size))
      clear hb8 HB7
      go_wp2_with fail
      refine (iFormat x (HX.out.1) (HX.out.2) _ (HP.out.below HB8.out)).mono ?_
      rintro e w9 ⟨rfl, hb9⟩
      have HB9 := Lib.hid (HB8.out.trans (hb9.mono HB8.out.size))
      clear hb9 HB8
      by_cases hr : -1000000000 < x ∧ x < 1000000000
      · go_wp2_with fail
        refine (pi_yes x HX.out hr.1 hr.2 _ (HP.out.below HB9.out)).mono ?_
        rintro e w10 ⟨rfl, hb10⟩
        have HB10 := Lib.hid (HB9.out.trans (hb10.mono HB9.out.size))
        clear hb10
        obtain ⟨hr1, hr2⟩ := hr
        have hhl : (((hexL l).length : Int) == 2 * (l.length : Int)) = true := by rw [hexL_len]; simp
        have hd2 : decide (x < 1000000000) = true := by simpa using hr2
        go_wp2_with fail
        refine (sFormat x (HX.out.1) (HX.out.2) _).mono ?_
        rintro e w11 ⟨rfl, hb11⟩
        have HB11 := Lib.hid (HB10.out.trans (hb11.mono HB10.out.size))
        clear hb11
        go_wp2
        go_ret
        exact ⟨rfl, HB11.out⟩
      by_cases hlo : -1000000000 < x
      · have hr3 := show 1000000000 ≤ x by omega
        go_wp2_with fail
        refine (pi_no x HX.out hr _ (HP.out.below HB9.out)).mono ?_
        rintro e w10 ⟨rfl, hb10⟩
        have HB10 := Lib.hid (HB9.out.trans (hb10.mono HB9.out.size))
        clear hb10 hr
        have hhl : (((hexL l).length : Int) == 2 * (l.length : Int)) = true := by rw [hexL_len]; simp
        have hd2 : decide (x < 1000000000) = false := by simp; omega
        go_wp2_with fail
        refine (sFormat x (HX.out.1) (HX.out.2) _).mono ?_
        rintro e w11 ⟨rfl, hb11⟩
        have HB11 := Lib.hid (HB10.out.trans (hb11.mono HB10.out.size))
        clear hb11
        go_wp2
        go_ret
        exact ⟨rfl, HB11.out⟩
      · have hr3 := show x ≤ -1000000000 by omega
        go_wp2_with fail
        refine (pi_no x HX.out hr _ (HP.out.below HB9.out)).mono ?_
        rintro e w10 ⟨rfl, hb10⟩
        have HB10 := Lib.hid (HB9.out.trans (hb10.mono HB9.out.size))
        clear hb10 hr
        have hhl : (((hexL l).length : Int) == 2 * (l.length : Int)) = true := by rw [hexL_len]; simp
        have hd3 : decide (-1000000000 < x) = false := by simp; omega
        go_wp2_with fail
        refine (sFormat x (HX.out.1) (HX.out.2) _).mono ?_
        rintro e w11 ⟨rfl, hb11⟩
        have HB11 := Lib.hid (HB10.out.trans (hb11.mono HB10.out.size))
        clear hb11
        go_wp2
        go_ret
        exact ⟨rfl, HB11.out⟩
  · have hA1 : n < 0 := by omega
    clear hA
    go_wp2_with fail
    refine (dv_any _ (empty_app l hl) _).mono ?_
    rintro e w4 ⟨xx, kk, rfl, hb4⟩
    have HB4 := Lib.hid (HB3.out.trans (hb4.mono HB3.out.size))
    clear hb4 HB3
    go_wp2_with fail
    refine (draw_fixed _ a0 len0 cap0 (by omega) (HR.out.below HB4.out).wide).mono ?_
    rintro e w5 ⟨x, wd, rfl, hx, hwd0, hwd1, hb5⟩
    have HX := Lib.hid hx
    have HB5 := Lib.hid (HB4.out.trans (hb5.mono HB4.out.size))
    clear hb5 hx HB4
    go_wp2_with fail
    refine (iEncFixed x wd (HX.out.2) _).mono ?_
    rintro e w6 ⟨rfl, hb6⟩
    have HB6a := Lib.hid (HB5.out.trans (hb6.mono HB5.out.size))
    clear hb6 HB5
    by_cases hC : FixIn x wd
    · have hfs := fix_size x wd hC
      have hfs1 : 1 ≤ (fixB x wd).size := by have := hC.1; omega
      have hfs7 : (fixB x wd).size ≤ 7 := by have := hC.2.1; omega
      obtain ⟨fe1, fe2⟩ := list_empty (fixB x wd) hfs1
      have hfq : (((fixB x wd).size : Int) != wd) = false := by rw [hfs]; simp
      have HC := Lib.hid hC
      have HFS := Lib.hid hfs
      clear hC hfs
      go_wp2_with fail
      refine (df_yes x wd HC.out ⟨l.toArray⟩ (by show l.toArray.size ≤ 40; simp; omega) _).mono ?_
      rintro e w6c ⟨rfl, rfl⟩
      go_wp2_with fail
      refine (sEncFixed x wd (HX.out.2) _).mono ?_
      rintro e w6b ⟨rfl, hb6b⟩
      have HB6 := Lib.hid (HB6a.out.trans (hb6b.mono HB6a.out.size))
      clear hb6b HB6a
      go_wp2_with fail
      refine (eh_yes l hl _).mono ?_
      rintro e w7 ⟨rfl, hb7⟩
      have HB7 := Lib.hid (HB6.out.trans (hb7.mono HB6.out.size))
      clear hb7 HB6
      go_wp2_with fail
      refine (dh_yes l hl _).mono ?_
      rintro e w8 ⟨rfl, hb8⟩
      have HB8 := Lib.hid (HB7.out.trans (hb8.mono HB7.out.size))
      clear hb8 HB7
      go_wp2_with fail
      refine (iFormat x (HX.out.1) (HX.out.2) _ (HP.out.below HB8.out)).mono ?_
      rintro e w9 ⟨rfl, hb9⟩
      have HB9 := Lib.hid (HB8.out.trans (hb9.mono HB8.out.size))
      clear hb9 HB8
      by_cases hr : -1000000000 < x ∧ x < 1000000000
      · go_wp2_with fail
        refine (pi_yes x HX.out hr.1 hr.2 _ (HP.out.below HB9.out)).mono ?_
        rintro e w10 ⟨rfl, hb10⟩
        have HB10 := Lib.hid (HB9.out.trans (hb10.mono HB9.out.size))
        clear hb10
        obtain ⟨hr1, hr2⟩ := hr
        have hhl : (((hexL l).length : Int) == 2 * (l.length : Int)) = true := by rw [hexL_len]; simp
        have hd2 : decide (x < 1000000000) = true := by simpa using hr2
        go_wp2_with fail
        refine (sFormat x (HX.out.1) (HX.out.2) _).mono ?_
        rintro e w11 ⟨rfl, hb11⟩
        have HB11 := Lib.hid (HB10.out.trans (hb11.mono HB10.out.size))
        clear hb11
        go_wp2
        go_ret
        exact ⟨rfl, HB11.out⟩
      by_cases hlo : -1000000000 < x
      · have hr3 := show 1000000000 ≤ x by omega
        go_wp2_with fail
        refine (pi_no x HX.out hr _ (HP.out.below HB9.out)).mono ?_
        rintro e w10 ⟨rfl, hb10⟩
        have HB10 := Lib.hid (HB9.out.trans (hb10.mono HB9.out.size))
        clear hb10 hr
        have hhl : (((hexL l).length : Int) == 2 * (l.length : Int)) = true := by rw [hexL_len]; simp
        have hd2 : decide (x < 1000000000) = false := by simp; omega
        go_wp2_with fail
        refine (sFormat x (HX.out.1) (HX.out.2) _).mono ?_
        rintro e w11 ⟨rfl, hb11⟩
        have HB11 := Lib.hid (HB10.out.trans (hb11.mono HB10.out.size))
        clear hb11
        go_wp2
        go_ret
        exact ⟨rfl, HB11.out⟩
      · have hr3 := show x ≤ -1000000000 by omega
        go_wp2_with fail
        refine (pi_no x HX.out hr _ (HP.out.below HB9.out)).mono ?_
        rintro e w10 ⟨rfl, hb10⟩
        have HB10 := Lib.hid (HB9.out.trans (hb10.mono HB9.out.size))
        clear hb10 hr
        have hhl : (((hexL l).length : Int) == 2 * (l.length : Int)) = true := by rw [hexL_len]; simp
        have hd3 : decide (-1000000000 < x) = false := by simp; omega
        go_wp2_with fail
        refine (sFormat x (HX.out.1) (HX.out.2) _).mono ?_
        rintro e w11 ⟨rfl, hb11⟩
        have HB11 := Lib.hid (HB10.out.trans (hb11.mono HB10.out.size))
        clear hb11
        go_wp2
        go_ret
        exact ⟨rfl, HB11.out⟩
    · have hfe := fixB_no x wd hC
      go_wp2_with fail
      refine (df_any _ wd (empty_app l hl) _).mono ?_
      rintro e w6c ⟨y, b, rfl, rfl⟩
      go_wp2_with fail
      refine (sEncFixed x wd (HX.out.2) _).mono ?_
      rintro e w6b ⟨rfl, hb6b⟩
      have HB6 := Lib.hid (HB6a.out.trans (hb6b.mono HB6a.out.size))
      clear hb6b HB6a
      go_wp2_with fail
      refine (eh_yes l hl _).mono ?_
      rintro e w7 ⟨rfl, hb7⟩
      have HB7 := Lib.hid (HB6.out.trans (hb7.mono HB6.out.size))
      clear hb7 HB6
      go_wp2_with fail
      refine (dh_yes l hl _).mono ?_
      rintro e w8 ⟨rfl, hb8⟩
      have HB8 := Lib.hid (HB7.out.trans (hb8.mono HB7.out.size))
      clear hb8 HB7
      go_wp2_with fail
      refine (iFormat x (HX.out.1) (HX.out.2) _ (HP.out.below HB8.out)).mono ?_
      rintro e w9 ⟨rfl, hb9⟩
      have HB9 := Lib.hid (HB8.out.trans (hb9.mono HB8.out.size))
      clear hb9 HB8
      by_cases hr : -1000000000 < x ∧ x < 1000000000
      · go_wp2_with fail
        refine (pi_yes x HX.out hr.1 hr.2 _ (HP.out.below HB9.out)).mono ?_
        rintro e w10 ⟨rfl, hb10⟩
        have HB10 := Lib.hid (HB9.out.trans (hb10.mono HB9.out.size))
        clear hb10
        obtain ⟨hr1, hr2⟩ := hr
        have hhl : (((hexL l).length : Int) == 2 * (l.length : Int)) = true := by rw [hexL_len]; simp
        have hd2 : decide (x < 1000000000) = true := by simpa using hr2
        go_wp2_with fail
        refine (sFormat x (HX.out.1) (HX.out.2) _).mono ?_
        rintro e w11 ⟨rfl, hb11⟩
        have HB11 := Lib.hid (HB10.out.trans (hb11.mono HB10.out.size))
        clear hb11
        go_wp2
        go_ret
        exact ⟨rfl, HB11.out⟩
      by_cases hlo : -1000000000 < x
      · have hr3 := show 1000000000 ≤ x by omega
        go_wp2_with fail
        refine (pi_no x HX.out hr _ (HP.out.below HB9.out)).mono ?_
        rintro e w10 ⟨rfl, hb10⟩
        have HB10 := Lib.hid (HB9.out.trans (hb10.mono HB9.out.size))
        clear hb10 hr
        have hhl : (((hexL l).length : Int) == 2 * (l.length : Int)) = true := by rw [hexL_len]; simp
        have hd2 : decide (x < 1000000000) = false := by simp; omega
        go_wp2_with fail
        refine (sFormat x (HX.out.1) (HX.out.2) _).mono ?_
        rintro e w11 ⟨rfl, hb11⟩
        have HB11 := Lib.hid (HB10.out.trans (hb11.mono HB10.out.size))
        clear hb11
        go_wp2
        go_ret
        exact ⟨rfl, HB11.out⟩
      · have hr3 := show x ≤ -1000000000 by omega
        go_wp2_with fail
        refine (pi_no x HX.out hr _ (HP.out.below HB9.out)).mono ?_
        rintro e w10 ⟨rfl, hb10⟩
        have HB10 := Lib.hid (HB9.out.trans (hb10.mono HB9.out.size))
        clear hb10 hr
        have hhl : (((hexL l).length : Int) == 2 * (l.length : Int)) = true := by rw [hexL_len]; simp
        have hd3 : decide (-1000000000 < x) = false := by simp; omega
        go_wp2_with fail
        refine (sFormat x (HX.out.1) (HX.out.2) _).mono ?_
        rintro e w11 ⟨rfl, hb11⟩
        have HB11 := Lib.hid (HB10.out.trans (hb11.mono HB10.out.size))
        clear hb11
        go_wp2
        go_ret
        exact ⟨rfl, HB11.out⟩
end Go.Proofs.YtkdljnfoeigafaaDoor.num
