/-
  Varints read back: the number of a list of bytes, and the first beginning that is a varint. Plain mathematics.
-/
import Derived.Test.YtkdljnfoeigafaaDoorMath
namespace Go.Proofs.YtkdljnfoeigafaaDoor.num

/-- The number whose groups of seven bits the bytes hold, least significant first. -/
def vVal : List UInt8 → Nat
  | [] => 0
  | b :: l => b.toNat % 128 + 128 * vVal l
theorem vVal_lt (l : List UInt8) : vVal l < 128 ^ l.length := by
  induction l with
  | nil => simp [vVal]
  | cons b l ih =>
    have h1 : b.toNat % 128 < 128 := Nat.mod_lt _ (by decide)
    simp only [vVal, List.length_cons, Nat.pow_succ]
    omega
theorem vVal_snoc (l : List UInt8) (b : UInt8) : vVal (l ++ [b]) = vVal l + b.toNat % 128 * 128 ^ l.length := by
  induction l with
  | nil => simp [vVal]
  | cons c l ih =>
    simp only [List.cons_append, vVal, ih, List.length_cons, Nat.pow_succ, Nat.mul_add]
    have : 128 * (b.toNat % 128 * 128 ^ l.length) = b.toNat % 128 * (128 ^ l.length * 128) := by
      rw [Nat.mul_comm 128, Nat.mul_assoc]
    omega
theorem pow128 (k : Nat) (h : k ≤ 7) : 128 ^ k ≤ 562949953421312 := by
  have : 128 ^ k ≤ 128 ^ 7 := Nat.pow_le_pow_right (by decide) h
  simpa using this
theorem vVal_le (l : List UInt8) (h : l.length ≤ 7) : vVal l ≤ 562949953421311 := by
  have h1 := vVal_lt l
  have h2 := pow128 l.length h
  omega
theorem vEnc_byte (n j : Nat) (h : j < (vEnc n).length) : ((vEnc n)[j]).toNat < 128 ↔ j + 1 = (vEnc n).length := by
  induction n using Nat.strongRecOn generalizing j with
  | _ n ih =>
    by_cases hn : n < 128
    · have e := vEnc_small n hn
      simp only [e, List.length_singleton] at h ⊢
      obtain rfl : j = 0 := by omega
      simp [lob_toNat n hn, hn]
    · have e := vEnc_big n (by omega)
      simp only [e, List.length_cons] at h ⊢
      cases j with
      | zero =>
        have h0 : 0 < (vEnc (n / 128)).length := by
          by_cases h2 : n / 128 < 128
          · rw [vEnc_small _ h2]; simp
          · rw [vEnc_big _ (by omega)]; simp
        simp only [List.getElem_cons_zero, hib_toNat]
        omega
      | succ j =>
        have := ih (n / 128) (by omega) j (by omega)
        simp only [List.getElem_cons_succ]
        omega

/-- The first k bytes are the varint of a number. -/
def vOk (l : List UInt8) (k : Nat) : Bool := vEnc (vVal (l.take k)) == l.take k
theorem vOk_byte {l : List UInt8} {k j : Nat} (h : vOk l k = true) (hk : k ≤ l.length) (hj : j < k) : (l[j]'(by omega)).toNat < 128 ↔ j + 1 = k := by
  have h1 : vEnc (vVal (l.take k)) = l.take k := by simpa [vOk] using h
  have hl : (l.take k).length = k := by simp; omega
  have h2 := vEnc_byte (vVal (l.take k)) j (by rw [h1]; omega)
  have e : (vEnc (vVal (l.take k)))[j]'(by rw [h1]; omega) = l[j]'(by omega) := by simp [h1]
  rw [e] at h2
  rw [h2, h1, hl]

/-- The length of the varint that s begins with; 0 if there is none. -/
def firstK (l : List UInt8) : Nat := match (List.range (min 7 l.length)).find? (fun i => vOk l (i + 1)) with
  | some i => i + 1
  | none => 0
theorem firstK_hit (l : List UInt8) (k : Nat) (h7 : k < 7) (hl : k < l.length) (hp : ∀ i, i < k → vOk l (i + 1) = false) (h : vOk l (k + 1) = true) : firstK l = k + 1 := by
  unfold firstK
  have e : (List.range (min 7 l.length)).find? (fun i => vOk l (i + 1)) = some k := by
    rw [List.find?_range_eq_some]
    refine ⟨h, by simp; omega, fun j hj => by simp [hp j hj]⟩
  rw [e]
theorem firstK_none (l : List UInt8) (hp : ∀ i, i < 7 → i < l.length → vOk l (i + 1) = false) : firstK l = 0 := by
  unfold firstK
  have e : (List.range (min 7 l.length)).find? (fun i => vOk l (i + 1)) = none := by
    rw [List.find?_eq_none]
    intro i hi
    have := List.mem_range.1 hi
    rw [hp i (by omega) (by omega)]
    simp
  rw [e]

/-- The program's way: the first byte below 128 decides. -/
theorem firstK_at (l : List UInt8) (k : Nat) (h7 : k < 7) (hl : k < l.length) (hp : ∀ i (hi : i < k), 128 ≤ (l[i]'(by omega)).toNat) (hk : (l[k]).toNat < 128) :
    firstK l = if vOk l (k + 1) = true then k + 1 else 0 := by
  have hb : ∀ i, i < k → vOk l (i + 1) = false := fun i hi => by
    rw [Bool.eq_false_iff]
    intro h
    have := (vOk_byte (j := i) h (by omega) (by omega)).2 rfl
    have := hp i hi
    omega
  by_cases h : vOk l (k + 1) = true
  · rw [if_pos h]; exact firstK_hit l k h7 hl hb h
  · rw [if_neg h]
    refine firstK_none l fun i _ hi => ?_
    rcases Nat.lt_trichotomy i k with hlt | rfl | hgt
    · exact hb i hlt
    · simpa using h
    · rw [Bool.eq_false_iff]
      intro h2
      have := (vOk_byte (j := k) h2 (by omega) (by omega)).1 hk
      omega
theorem firstK_high (l : List UInt8) (hp : ∀ i (hi : i < l.length), i < 7 → 128 ≤ (l[i]).toNat) : firstK l = 0 := by
  refine firstK_none l fun i h7 hi => ?_
  rw [Bool.eq_false_iff]
  intro h
  have := (vOk_byte (j := i) h (by omega) (by omega)).2 rfl
  have := hp i hi h7
  omega
end Go.Proofs.YtkdljnfoeigafaaDoor.num
