/-
  What FnIntegerEncodings asks of each pair of an encoder and its decoder.
-/
import Derived.Test.YtkdljnfoeigafaaDoorDraw3
import Derived.Test.YtkdljnfoeigafaaDoorEncFixed
import Derived.Test.YtkdljnfoeigafaaDoorDecVarint
import Derived.Test.YtkdljnfoeigafaaDoorDecHex
import Derived.Test.YtkdljnfoeigafaaDoorParseS
namespace Go.Proofs.YtkdljnfoeigafaaDoor.num
open Go.RowKit

theorem app_data (a b : ByteArray) : (a ++ b).data.toList = a.data.toList ++ b.data.toList := by simp [ByteArray.data_append]
theorem vVal_vEnc (n : Nat) : vVal (vEnc n) = n := by
  induction n using Nat.strongRecOn with
  | _ n ih =>
    by_cases h : n < 128
    · rw [vEnc_small n h]
      simp only [vVal, lob_toNat n h]; omega
    · rw [vEnc_big n (by omega)]
      simp only [vVal, hib_toNat, ih (n / 128) (by omega)]; omega
theorem vEnc_pos (n : Nat) : 0 < (vEnc n).length := by
  by_cases h : n < 128
  · rw [vEnc_small n h]; simp
  · rw [vEnc_big n (by omega)]; simp
theorem firstK_vEnc (n : Nat) (hn : n ≤ 562949953421311) (t : List UInt8) : firstK (vEnc n ++ t) = (vEnc n).length := by
  have h7 := vEnc_len7 n hn
  have h0 := vEnc_pos n
  obtain ⟨k, hk⟩ : ∃ k, (vEnc n).length = k + 1 := ⟨(vEnc n).length - 1, by omega⟩
  have hl : k < (vEnc n ++ t).length := by rw [List.length_append]; omega
  have hg : ∀ i (hi : i < k + 1), (vEnc n ++ t)[i]'(by rw [List.length_append]; omega) = (vEnc n)[i]'(by omega) := fun i hi => List.getElem_append_left (by omega)
  have htake : (vEnc n ++ t).take (k + 1) = vEnc n := by rw [← hk]; exact List.take_left
  have hok : vOk (vEnc n ++ t) (k + 1) = true := by
    unfold vOk
    rw [htake, vVal_vEnc]; simp
  rw [firstK_at (vEnc n ++ t) k (by omega) hl (fun i hi => by
    rw [hg i (by omega)]
    have := vEnc_byte n i (by omega)
    omega) (by
    rw [hg k (by omega)]
    exact (vEnc_byte n k (by omega)).2 (by omega)), if_pos hok, hk]

theorem dv_yes (n : Int) (h0 : 0 ≤ n) (h1 : n ≤ 562949953421311) (t : ByteArray) (ht : t.size ≤ 40) (w : World) :
    Calls Tryd.prog 10 #[.string (varB n ++ t)] w fun e w' => e = .returned (.tuple #[.int .i64 n, .int .i64 ((varB n).size : Int)]) ∧ Below w.heap.size w w' := by
  obtain ⟨m, rfl⟩ := Int.eq_ofNat_of_zero_le h0
  have hv := varB_yes m (by omega)
  have h7 := vEnc_len7 m (by omega)
  have hsz : (varB (m : Int)).size = (vEnc m).length := by rw [hv]; rfl
  have hd : (varB (m : Int) ++ t).data.toList = vEnc m ++ t.data.toList := by rw [app_data, hv]
  refine (iDecVarint (varB (m : Int) ++ t) (by rw [ByteArray.size_append]; omega) w).mono fun e w' ⟨he, hb⟩ => ⟨?_, hb⟩
  rw [he, hd, firstK_vEnc m (by omega), List.take_left, vVal_vEnc, hsz]
def AnyTwo (w : World) (e : Ending) (w' : World) : Prop := ∃ x k : Int, e = .returned (.tuple #[.int .i64 x, .int .i64 k]) ∧ Below w.heap.size w w'
theorem dv_any (t : ByteArray) (ht : t.size ≤ 60) (w : World) :
    Calls Tryd.prog 10 #[.string t] w (AnyTwo w) :=
  (iDecVarint t (by omega) w).mono fun _ _ ⟨he, hb⟩ => ⟨_, _, he, hb⟩

def FixIn (n wd : Int) : Prop := 1 ≤ wd ∧ wd ≤ 7 ∧ 0 ≤ n ∧ n.toNat / 256 ^ wd.toNat = 0
theorem fix_size (n wd : Int) (h : FixIn n wd) : ((fixB n wd).size : Int) = wd := by
  have h' := h
  unfold FixIn at h'
  unfold fixB
  rw [if_pos h']
  have : (⟨(beEnc wd.toNat n.toNat).toArray⟩ : ByteArray).size = wd.toNat := by
    show (beEnc wd.toNat n.toNat).toArray.size = _
    simp [beEnc_length]
  rw [this]
  have := h.1
  omega
theorem df_yes (n wd : Int) (h : FixIn n wd) (t : ByteArray) (ht : t.size ≤ 40) (w : World) :
    Calls Tryd.prog 13 #[.string (fixB n wd ++ t), .int .i64 wd] w fun e w' => e = .returned (.tuple #[.int .i64 n, .bool true]) ∧ w = w' := by
  have hs := fix_size n wd h
  obtain ⟨h1, h2, h3, h4⟩ := h
  obtain ⟨m, rfl⟩ := Int.eq_ofNat_of_zero_le h3
  obtain ⟨k, rfl⟩ := Int.eq_ofNat_of_zero_le (show 0 ≤ wd by omega)
  simp only [Int.toNat_natCast] at h4
  have hd : (fixB (m : Int) (k : Int) ++ t).data.toList = beEnc k m ++ t.data.toList := by rw [app_data, fixB_yes m k (by omega) (by omega) h4]
  refine (iDecFixed_yes (fixB (m : Int) (k : Int) ++ t) (by rw [ByteArray.size_append]; omega) k (by omega) (by omega) (by rw [ByteArray.size_append]; omega) w).mono fun e w' ⟨he, hw⟩ => ⟨?_, hw⟩
  have htk : (beEnc k m ++ t.data.toList).take k = beEnc k m := by
    have := beEnc_length k m
    have h := List.take_left (l₁ := beEnc k m) (l₂ := t.data.toList)
    rw [this] at h; exact h
  have hmod : m % 256 ^ k = m := by
    have := Nat.div_add_mod m (256 ^ k)
    rw [h4] at this
    omega
  rw [he, hd, htk, beVal_beEnc, hmod]
def AnyFix (w : World) (e : Ending) (w' : World) : Prop := ∃ (x : Int) (b : Bool), e = .returned (.tuple #[.int .i64 x, .bool b]) ∧ w = w'
theorem df_any (t : ByteArray) (wd : Int) (ht : t.size ≤ 60) (w : World) :
    Calls Tryd.prog 13 #[.string t, .int .i64 wd] w (AnyFix w) := by
  by_cases h : 1 ≤ wd ∧ wd ≤ 7 ∧ wd ≤ t.size
  · obtain ⟨k, rfl⟩ := Int.eq_ofNat_of_zero_le (show 0 ≤ wd by omega)
    exact (iDecFixed_yes t (by omega) k (by omega) (by omega) (by omega) w).mono fun _ _ ⟨he, hw⟩ => ⟨_, _, he, hw⟩
  · exact (iDecFixed_no t (by omega) wd h w).mono fun _ _ ⟨he, hw⟩ => ⟨_, _, he, hw⟩

theorem hexd_isHex : ∀ k : Fin 16, isHex (hexd k.val) = true ∧ hexn (hexd k.val) = k.val := by decide +kernel
theorem pair_hex (l : List UInt8) : (hexL l).all isHex = true ∧ pairL (hexL l) = l := by
  induction l with
  | nil => exact ⟨rfl, rfl⟩
  | cons b l ih =>
    have hb := b.toNat_lt
    have h1 := hexd_isHex ⟨b.toNat / 16, by omega⟩
    have h2 := hexd_isHex ⟨b.toNat % 16, by omega⟩
    simp only [] at h1 h2
    have e : hexL (b :: l) = hexd (b.toNat / 16) :: hexd (b.toNat % 16) :: hexL l := by simp [hexL]
    rw [e]
    refine ⟨by simp only [List.all_cons, h1.1, h2.1, ih.1, Bool.and_self], ?_⟩
    simp only [pairL, h1.2, h2.2, ih.2]
    congr 1
    apply UInt8.toNat_inj.1
    simp; omega
theorem dh_yes (l : List UInt8) (hl : l.length ≤ 40) (w : World) :
    Calls Tryd.prog 16 #[.string ⟨(hexL l).toArray⟩] w fun e w' => e = .returned (.tuple #[.string ⟨l.toArray⟩, .bool true]) ∧ Below w.heap.size w w' := by
  have hlen := hexL_len l
  obtain ⟨ha, hp⟩ := pair_hex l
  obtain ⟨u1, u2⟩ := unhex_yes (hexL l) (by rw [hlen]; omega) ha
  refine (iDecHex ⟨(hexL l).toArray⟩ (by show (hexL l).toArray.size ≤ _; simp; omega) w).mono fun e w' ⟨he, hb⟩ => ⟨?_, hb⟩
  rw [he]
  show Ending.returned (.tuple #[.string (unhexB (hexL l)), .bool (unhexOk (hexL l))]) = _
  rw [u1, u2, hp]
theorem eh_yes (l : List UInt8) (hl : l.length ≤ 40) (w : World) :
    Calls Tryd.prog 15 #[.string ⟨l.toArray⟩] w fun e w' => e = .returned (.string ⟨(hexL l).toArray⟩) ∧ Below w.heap.size w w' :=
  iEncHex ⟨l.toArray⟩ (by show l.toArray.size ≤ _; simp; omega) w

theorem itoa_len (n : Int) (h : I64 n) : (Lib.itoa n).length ≤ 20 := by
  obtain ⟨h0, h1⟩ := h
  have hd := dec_len 18 n.natAbs
  have e : (10 : Nat) ^ (18 + 1) = 10000000000000000000 := by decide
  rw [e] at hd
  have h2 := hd.2 (by omega)
  unfold Lib.itoa
  split
  · simp; omega
  · have : n.toNat = n.natAbs := by omega
    rw [this]; omega
theorem pi_yes (n : Int) (h : I64 n) (h0 : -1000000000 < n) (h1 : n < 1000000000) (w : World) (hp : Pow w) :
    Calls Tryd.prog 18 #[.string (fmtB n)] w fun e w' => e = .returned (.tuple #[.int .i64 n, .bool true]) ∧ Below w.heap.size w w' := by
  obtain ⟨hk, hv⟩ := pOk_itoa n
  have hok : pOk (Lib.itoa n) = true := by rw [hk]; exact decide_eq_true ⟨h0, h1⟩
  have hl := itoa_len n h
  refine (iParse (fmtB n) (by show (Lib.itoa n).toArray.size ≤ _; simp; omega) w hp).mono fun e w' ⟨he, hb⟩ => ⟨?_, hb⟩
  rw [he]
  show Ending.returned (.tuple #[.int .i64 (pVal (Lib.itoa n)), .bool (pOk (Lib.itoa n))]) = _
  rw [hv hok, hok]
theorem pi_no (n : Int) (h : I64 n) (h0 : ¬ (-1000000000 < n ∧ n < 1000000000)) (w : World) (hp : Pow w) :
    Calls Tryd.prog 18 #[.string (fmtB n)] w fun e w' => e = .returned (.tuple #[.int .i64 0, .bool false]) ∧ Below w.heap.size w w' := by
  obtain ⟨hk, hv⟩ := pOk_itoa n
  have hok : pOk (Lib.itoa n) = false := by rw [hk]; exact decide_eq_false h0
  have hl := itoa_len n h
  refine (iParse (fmtB n) (by show (Lib.itoa n).toArray.size ≤ _; simp; omega) w hp).mono fun e w' ⟨he, hb⟩ => ⟨?_, hb⟩
  rw [he]
  show Ending.returned (.tuple #[.int .i64 (pVal (Lib.itoa n)), .bool (pOk (Lib.itoa n))]) = _
  rw [pVal, hok]; rfl
theorem varB_size (n : Int) (h0 : 0 ≤ n) (h1 : n ≤ 562949953421311) : 1 ≤ (varB n).size ∧ (varB n).size ≤ 7 := by
  obtain ⟨m, rfl⟩ := Int.eq_ofNat_of_zero_le h0
  have hsz : (varB (m : Int)).size = (vEnc m).length := by rw [varB_yes m (by omega)]; rfl
  rw [hsz]
  exact ⟨vEnc_pos m, vEnc_len7 m (by omega)⟩
theorem list_empty (s : ByteArray) (h : 1 ≤ s.size) : s.toList.isEmpty = false ∧ (s.toList == []) = false := by
  have hl : s.toList.length = s.size := by rw [ByteArray.toList_eq, Array.length_toList]; rfl
  cases e : s.toList with
  | nil => rw [e] at hl; simp at hl; omega
  | cons b l => exact ⟨rfl, rfl⟩
theorem empty_app (l : List UInt8) (hl : l.length ≤ 40) : ((⟨#[]⟩ : ByteArray) ++ ⟨l.toArray⟩).size ≤ 60 := by
  rw [ByteArray.size_append]
  have h1 : (⟨#[]⟩ : ByteArray).size = 0 := rfl
  have h2 : (⟨l.toArray⟩ : ByteArray).size = l.length := by show l.toArray.size = _; simp
  omega
end Go.Proofs.YtkdljnfoeigafaaDoor.num
