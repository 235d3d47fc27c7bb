/-
  EncodeVarint, the program's and the model's: contracts.
-/
import Derived.Test.YtkdljnfoeigafaaDoorBytes
import Derived.Test.YtkdljnfoeigafaaDoorMath
import Derived.Test.YtkdljnfoeigafaaDoorDecFixed
namespace Go.Proofs.YtkdljnfoeigafaaDoor.num
open Go.RowKit

/-- What EncodeVarint returns. -/
def varB (n : Int) : ByteArray := if 0 ≤ n ∧ n ≤ 562949953421311 then ⟨(vEnc n.toNat).toArray⟩ else ⟨#[]⟩
theorem varB_yes (n : Nat) (h : n ≤ 562949953421311) : varB n = ⟨(vEnc n).toArray⟩ := by
  unfold varB; rw [if_pos ⟨by omega, by omega⟩]; simp
theorem varB_no (n : Int) (h : ¬ (0 ≤ n ∧ n ≤ 562949953421311)) : varB n = ⟨#[]⟩ := by unfold varB; rw [if_neg h]

theorem big_byte (m : Nat) : #[Value.int .u8 (128 + (m : Int) % 128)] = (List.map bv [hib m]).toArray := by
  simp only [List.map_cons, List.map_nil, bv, hib_toNat]
  congr 3
  omega
theorem big_byte' (m : Nat) : #[Value.int .u8 ((m : Int) % 128 + 128)] = (List.map bv [hib m]).toArray := by
  rw [← big_byte, Int.add_comm]
theorem small_byte (m : Nat) (h : m < 128) : #[Value.int .u8 (m : Int)] = (List.map bv [lob m]).toArray := by
  simp only [List.map_cons, List.map_nil, bv, lob_toNat m h]

set_option maxRecDepth 20000 in
theorem iEncVarint_in (n : Nat) (hn : n ≤ 562949953421311) (w : World) :
    Calls Tryd.prog 9 #[.int .i64 n] w fun e w' => e = .returned (.string (varB n)) ∧ Below w.heap.size w w' := by
  rw [varB_yes n hn]
  go_enter Tryd.func9, Tryd.ntmps9
  go_wp2
  go_loopw [0, 3] (fun x v wr => ∃ (m : Nat) (pre : List UInt8), x = .int .i64 m ∧ m ≤ 562949953421311 ∧ Hid (pre ++ vEnc m = vEnc n) ∧ Own wr w.heap.size v pre ∧ Below w.heap.size w wr) (fun x _ _ => (intOf x).toNat)
  case atStart => exact ⟨n, [], rfl, hn, by simp [Hid], Own.nil w _, Below.refl _ _⟩
  case round =>
    obtain ⟨m, pre, rfl, hm, HI, hown, hbel⟩ := hrel
    have hpl := vPre_len HI.out hn
    have HO := Lib.hid hown
    clear hown
    by_cases hlt : m < 128
    · go_wp2_with (at_builtin; refine wp_app wr (by rfl) (.tmp 21) (.tmp 24) (by rfl) w.heap.size _ pre (by rfl) HO.out _ [lob m] (small_byte m hlt) 1 1 rfl (by rfl) (by simp; omega) hbel.size ?_)
      intro v1 w1 hown1 hb1
      rw [vPre_end HI.out hlt] at hown1
      have hcv := own_string hown1
      clear hown1
      go_wp2
      go_ret
      exact ⟨rfl, hbel.trans (hb1.mono (Nat.le_refl _))⟩
    · go_wp2_with (at_builtin; refine wp_app wr (by rfl) (.tmp 12) (.tmp 17) (by rfl) w.heap.size _ pre (by rfl) HO.out _ [hib m] (big_byte' m) 1 1 rfl (by rfl) (by simp; omega) hbel.size ?_)
      intro v1 w1 hown1 hb1
      have HO1 := Lib.hid hown1
      clear hown1
      go_wp2
      go_roundw
      case rel => exact ⟨m / 128, _, by go_num, by omega, vPre_step HI.out (by omega), HO1.out, hbel.trans hb1⟩
      case measure => simp [intOf]; omega

theorem iEncVarint (n : Int) (w : World) :
    Calls Tryd.prog 9 #[.int .i64 n] w fun e w' => e = .returned (.string (varB n)) ∧ Below w.heap.size w w' := by
  by_cases h : 0 ≤ n ∧ n ≤ 562949953421311
  · obtain ⟨n, rfl⟩ := Int.eq_ofNat_of_zero_le h.1
    exact iEncVarint_in n (by omega) w
  · rw [varB_no n h]
    by_cases h0 : n < 0
    · clear h
      go_enter Tryd.func9, Tryd.ntmps9
      go_wp2
      go_ret
      exact ⟨rfl, Below.refl _ _⟩
    · have h1 : 562949953421311 < n := by omega
      clear h
      go_enter Tryd.func9, Tryd.ntmps9
      go_wp2
      go_ret
      exact ⟨rfl, Below.refl _ _⟩
end Go.Proofs.YtkdljnfoeigafaaDoor.num
