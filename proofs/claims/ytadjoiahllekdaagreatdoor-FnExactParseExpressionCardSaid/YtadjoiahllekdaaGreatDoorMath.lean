/-
  Plain mathematics for chapter 1 (no Go text in it): numbers as big-endian bytes, as varints, as hexadecimal and decimal digits.
-/
namespace Go.Proofs.YtadjoiahllekdaaGreatDoor.num
set_option maxRecDepth 20000

/-- The number that bytes encode, most significant first. -/
def beVal (l : List UInt8) : Nat := l.foldl (fun n b => n * 256 + b.toNat) 0
theorem beVal_snoc (l : List UInt8) (b : UInt8) : beVal (l ++ [b]) = beVal l * 256 + b.toNat := by simp [beVal, List.foldl_append]
theorem beVal_cons (b : UInt8) (l : List UInt8) : beVal (b :: l) = b.toNat * 256 ^ l.length + beVal l := by
  have h : ∀ (l : List UInt8) (a : Nat), l.foldl (fun n b => n * 256 + b.toNat) a = a * 256 ^ l.length + beVal l := by
    intro l
    induction l with
    | nil => intro a; simp [beVal]
    | cons c l ih =>
      intro a
      simp only [List.foldl_cons, List.length_cons, beVal]
      rw [ih, ih (0 * 256 + c.toNat), Nat.pow_succ]
      simp only [Nat.zero_mul, Nat.zero_add, Nat.add_mul, Nat.mul_assoc, Nat.mul_comm 256, Nat.add_assoc]
  simp only [beVal, List.foldl_cons]
  rw [h l]; simp [beVal]
theorem beVal_lt (l : List UInt8) : beVal l < 256 ^ l.length := by
  induction l with
  | nil => simp [beVal]
  | cons b l ih =>
    have hb := b.toNat_lt
    have h1 : b.toNat * 256 ^ l.length ≤ 255 * 256 ^ l.length := Nat.mul_le_mul_right _ (by omega)
    rw [beVal_cons, List.length_cons, Nat.pow_succ]
    omega
theorem take_snoc (s : ByteArray) (k : Nat) (h : k < s.size) : s.data.toList.take (k + 1) = s.data.toList.take k ++ [s[k]] := by
  rw [List.take_succ_eq_append_getElem (by simpa using h)]; rfl
theorem pow_le (k : Nat) (h : k ≤ 7) : 256 ^ k ≤ 72057594037927936 := by
  have : 256 ^ k ≤ 256 ^ 7 := Nat.pow_le_pow_right (by decide) h
  simpa using this
theorem pow_le6 (k : Nat) (h : k ≤ 6) : 256 ^ k ≤ 281474976710656 := by
  have : 256 ^ k ≤ 256 ^ 6 := Nat.pow_le_pow_right (by decide) h
  simpa using this
theorem beVal_take_lt6 (s : ByteArray) (k : Nat) (h : k ≤ 6) : beVal (s.data.toList.take k) < 281474976710656 := by
  have h1 := beVal_lt (s.data.toList.take k)
  have h2 : (s.data.toList.take k).length ≤ 6 := by have := List.length_take_le k s.data.toList; omega
  have h3 := pow_le6 _ h2
  omega
/-- Two numbers whose bits do not meet. -/
theorem or_add (a b : Nat) (hb : b < 256) : a * 256 ||| b = a * 256 + b := by
  have h := Nat.two_pow_add_eq_or_of_lt (i := 8) (b := b) (by simpa using hb) a
  rw [Nat.mul_comm a 256]
  simpa using h.symm
theorem beVal_take_lt (s : ByteArray) (k : Nat) (h : k ≤ 7) : beVal (s.data.toList.take k) < 72057594037927936 := by
  have h1 := beVal_lt (s.data.toList.take k)
  have h2 : (s.data.toList.take k).length ≤ 7 := by have := List.length_take_le k s.data.toList; omega
  have h3 := pow_le _ h2
  omega

/-- n as w bytes, most significant first. -/
def beEnc : Nat → Nat → List UInt8
  | 0, _ => []
  | k + 1, n => UInt8.ofNat (n / 256 ^ k) :: beEnc k n
theorem beEnc_length (k n : Nat) : (beEnc k n).length = k := by induction k with
  | zero => rfl
  | succ k ih => simp [beEnc, ih]
theorem beEnc_get (k n j : Nat) (h : j < k) : (beEnc k n)[j]? = some (UInt8.ofNat (n / 256 ^ (k - 1 - j))) := by
  induction k generalizing j with
  | zero => omega
  | succ k ih =>
    cases j with
    | zero => simp [beEnc]
    | succ j => simp only [beEnc, List.getElem?_cons_succ]; rw [ih j (by omega)]; congr 4; omega
theorem beVal_beEnc (k n : Nat) : beVal (beEnc k n) = n % 256 ^ k := by
  induction k with
  | zero => simp [beEnc, beVal, Nat.mod_one]
  | succ k ih =>
    simp only [beEnc]
    rw [beVal_cons, ih, beEnc_length, Nat.pow_succ, Nat.mod_mul]
    simp only [UInt8.toNat_ofNat']
    rw [Nat.mul_comm (256 ^ k)]
    have h2 : (2 : Nat) ^ 8 = 256 := by decide
    rw [h2]; omega

/-- A varint's byte with and without a successor. -/
def hib (m : Nat) : UInt8 := UInt8.ofNat (m % 128 + 128)
def lob (m : Nat) : UInt8 := UInt8.ofNat m
theorem hib_toNat (m : Nat) : (hib m).toNat = m % 128 + 128 := by simp [hib]; omega
theorem lob_toNat (m : Nat) (h : m < 128) : (lob m).toNat = m := by simp [lob]; omega
/-- A number as a varint: seven bits a byte, least significant first. -/
def vEnc (n : Nat) : List UInt8 := if n < 128 then [lob n] else hib n :: vEnc (n / 128)
  termination_by n
  decreasing_by omega
theorem vEnc_small (n : Nat) (h : n < 128) : vEnc n = [lob n] := by rw [vEnc, if_pos h]
theorem vEnc_big (n : Nat) (h : 128 ≤ n) : vEnc n = hib n :: vEnc (n / 128) := by rw [vEnc, if_neg (by omega)]
theorem vEnc_len (k n : Nat) (h : n < 128 ^ (k + 1)) : (vEnc n).length ≤ k + 1 := by
  induction k generalizing n with
  | zero => rw [vEnc_small n (by simpa using h)]; simp
  | succ k ih =>
    by_cases hn : n < 128
    · rw [vEnc_small n hn]; simp
    · rw [vEnc_big n (by omega)]
      have h1 := ih (n / 128) (by rw [Nat.pow_succ] at h; exact Nat.div_lt_of_lt_mul (by omega))
      simpa using h1
theorem vEnc_len7 (n : Nat) (h : n ≤ 562949953421311) : (vEnc n).length ≤ 7 := vEnc_len 6 n (by
  have : (128 : Nat) ^ (6 + 1) = 562949953421312 := by decide
  omega)
theorem vPre_len {pre : List UInt8} {m n : Nat} (h : pre ++ vEnc m = vEnc n) (hn : n ≤ 562949953421311) : pre.length ≤ 7 := by
  have h1 := vEnc_len7 n hn
  rw [← h, List.length_append] at h1
  omega
theorem vPre_step {pre : List UInt8} {m n : Nat} (h : pre ++ vEnc m = vEnc n) (hm : 128 ≤ m) : (pre ++ [hib m]) ++ vEnc (m / 128) = vEnc n := by
  rw [← h, vEnc_big m hm]; simp
theorem vPre_end {pre : List UInt8} {m n : Nat} (h : pre ++ vEnc m = vEnc n) (hm : m < 128) : pre ++ [lob m] = vEnc n := by
  rw [← h, vEnc_small m hm]
end Go.Proofs.YtadjoiahllekdaaGreatDoor.num
