/-
  Decimal numbers read back: what the program and the model compute. Plain mathematics.
-/
import Derived.Test.YtadjoiahllekdaaGreatDoorMath
import Derived.Lib.ItoaNum
import Derived.Lib.Strings
namespace Go.Proofs.YtadjoiahllekdaaGreatDoor.num
set_option maxRecDepth 20000
open Go

def isD (b : UInt8) : Bool := decide (48 ≤ b.toNat ∧ b.toNat ≤ 57)
def dstep (n : Nat) (b : UInt8) : Nat := if isD b then 10 * n + (b.toNat - 48) else n
def scanV (l : List UInt8) : Nat := l.foldl dstep 0
def scanK (l : List UInt8) : Nat := (l.filter isD).length
def dash (l : List UInt8) : Bool := l.head? == some 45
def dgs (l : List UInt8) : List UInt8 := if dash l then l.tail else l
theorem scanV_snoc (l : List UInt8) (b : UInt8) : scanV (l ++ [b]) = dstep (scanV l) b := by simp [scanV, List.foldl_append]
theorem scanK_snoc (l : List UInt8) (b : UInt8) : scanK (l ++ [b]) = scanK l + if isD b then 1 else 0 := by
  unfold scanK
  rw [List.filter_append]
  cases h : isD b <;> simp [h]
theorem scanV_lt (k : Nat) : ∀ l : List UInt8, l.length ≤ k → scanV l < 10 ^ k := by
  induction k with
  | zero =>
    intro l h
    obtain rfl : l = [] := List.eq_nil_of_length_eq_zero (by omega)
    simp [scanV]
  | succ k ih =>
    intro l h
    rcases l.eq_nil_or_concat with rfl | ⟨l', b, rfl⟩
    · have h1 : 10 ^ 0 ≤ 10 ^ (k + 1) := Nat.pow_le_pow_right (by decide) (Nat.zero_le _)
      have h2 : (10 : Nat) ^ 0 = 1 := by decide
      show 0 < 10 ^ (k + 1)
      omega
    · rw [List.concat_eq_append] at h ⊢
      have h1 := ih l' (by simp at h; omega)
      rw [scanV_snoc, Nat.pow_succ]
      unfold dstep
      split
      · rename_i hd
        have : b.toNat ≤ 57 := (of_decide_eq_true hd).2
        omega
      · omega
theorem scanV_le11 (l : List UInt8) (h : l.length ≤ 10) : scanV l ≤ 9999999999 := by
  have := scanV_lt 10 l h
  have e : (10 : Nat) ^ 10 = 10000000000 := by decide
  omega
theorem scanV_le12 (l : List UInt8) (h : l.length ≤ 11) : scanV l ≤ 99999999999 := by
  have := scanV_lt 11 l h
  have e : (10 : Nat) ^ 11 = 100000000000 := by decide
  omega
theorem scanV_le9 (l : List UInt8) (h : l.length ≤ 9) : scanV l ≤ 999999999 := by
  have := scanV_lt 9 l h
  have e : (10 : Nat) ^ 9 = 1000000000 := by decide
  omega
theorem dash_cons {l : List UInt8} (h : dash l = true) : l = 45 :: l.tail := by
  unfold dash at h
  cases l with
  | nil => simp at h
  | cons b l => simp at h; simp [h]
theorem scanV_dgs (l : List UInt8) : scanV (dgs l) = scanV l := by
  unfold dgs
  cases h : dash l
  · rfl
  · have e := dash_cons h
    rw [e]
    simp [scanV, dstep, isD]
theorem scanK_dgs (l : List UInt8) : scanK (dgs l) = scanK l := by
  unfold dgs
  cases h : dash l
  · rfl
  · have e := dash_cons h
    rw [e]
    simp [scanK, isD]
theorem dgs_len (l : List UInt8) : l.length ≤ (dgs l).length + 1 := by
  unfold dgs
  cases h : dash l
  · simp
  · simp; omega
theorem scanK_all {l : List UInt8} (h : l.all isD = true) : scanK l = l.length := by
  unfold scanK
  rw [List.filter_eq_self.2]
  intro a ha
  exact List.all_eq_true.1 h a ha
theorem scanK_le (l : List UInt8) : scanK l ≤ l.length := List.length_filter_le _ _

theorem dec_all (u : Nat) : (Lib.decDigits u).all isD = true := by
  induction u using Nat.strongRecOn with
  | _ u ih =>
    rw [Lib.decDigits]
    split
    · simp [isD]; omega
    · rw [List.all_append, ih (u / 10) (by omega)]
      simp [isD]; omega
theorem dec_dash (u : Nat) : dash (Lib.decDigits u) = false := by
  have h := dec_all u
  cases hl : Lib.decDigits u with
  | nil => rfl
  | cons b l =>
    rw [hl] at h
    simp only [List.all_cons, Bool.and_eq_true] at h
    have hb := h.1
    unfold dash
    simp only [List.head?_cons]
    rw [beq_eq_false_iff_ne]
    intro e
    injection e with e
    subst e
    simp [isD] at hb
theorem dgs_itoa (m : Int) : dgs (Lib.itoa m) = Lib.decDigits m.natAbs := by
  unfold Lib.itoa
  split
  · simp [dgs, dash]
  · have e : m.toNat = m.natAbs := by omega
    rw [e, dgs, dec_dash]; rfl
theorem dash_itoa (m : Int) : dash (Lib.itoa m) = decide (m < 0) := by
  unfold Lib.itoa
  split
  · rename_i h; simp [dash, h]
  · rename_i h; rw [dec_dash]; simp [h]
theorem scanV_dec (u : Nat) : scanV (Lib.decDigits u) = u := by
  induction u using Nat.strongRecOn with
  | _ u ih =>
    rw [Lib.decDigits]
    split
    · rename_i h
      have e : (UInt8.ofNat (48 + u)).toNat = 48 + u := by simp; omega
      simp only [scanV, List.foldl_cons, List.foldl_nil, dstep, isD, e]
      rw [if_pos (by simp; omega)]; omega
    · have e : (UInt8.ofNat (48 + u % 10)).toNat = 48 + u % 10 := by simp; omega
      rw [scanV_snoc, ih (u / 10) (by omega), dstep, isD, e]
      rw [if_pos (by simp; omega)]; omega
theorem dec_len (k u : Nat) : (Lib.decDigits u).length ≤ k + 1 ↔ u < 10 ^ (k + 1) := by
  induction k generalizing u with
  | zero =>
    rw [Lib.decDigits]
    split
    · simp; assumption
    · rename_i h
      constructor
      · intro h2
        rw [Lib.decDigits] at h2
        split at h2 <;> simp at h2
      · intro h2; simp at h2; omega
  | succ k ih =>
    rw [Lib.decDigits]
    split
    · rename_i h
      have : 10 ^ 1 ≤ 10 ^ (k + 1 + 1) := Nat.pow_le_pow_right (by decide) (by omega)
      constructor
      · intro; omega
      · intro; simp
    · rw [List.length_append, List.length_singleton]
      have h1 := ih (u / 10)
      rw [Nat.pow_succ]
      constructor
      · intro h2
        have := h1.1 (by omega)
        omega
      · intro h2
        have := h1.2 (Nat.div_lt_of_lt_mul (by omega))
        omega

/-- The number with its sign. -/
def signed (l : List UInt8) (v : Nat) : Int := if dash l then -(v : Int) else (v : Int)
def pOk (l : List UInt8) : Bool := decide ((dgs l).length ≤ 9 ∧ (dgs l).all isD = true ∧ Lib.itoa (signed l (scanV (dgs l))) = l)
def pVal (l : List UInt8) : Int := if pOk l then signed l (scanV (dgs l)) else 0
/-- The model's test, where the string is short. -/
theorem pOk_model (l : List UInt8) (hk : scanK l ≤ 9) (h : Lib.itoa (signed l (scanV l)) = l) : pOk l = true ∧ pVal l = signed l (scanV l) := by
  have hd : dgs l = Lib.decDigits (signed l (scanV l)).natAbs := by
    have := dgs_itoa (signed l (scanV l))
    rw [h] at this; exact this
  have ha : (dgs l).all isD = true := by rw [hd]; exact dec_all _
  have hlen : (dgs l).length ≤ 9 := by rw [← scanK_all ha, scanK_dgs]; exact hk
  have hok : pOk l = true := decide_eq_true ⟨hlen, ha, by rw [scanV_dgs]; exact h⟩
  exact ⟨hok, by rw [pVal, if_pos hok, scanV_dgs]⟩
theorem pOk_no (l : List UInt8) (h : ¬ (l.length ≤ 10 ∧ scanK l ≤ 9 ∧ Lib.itoa (signed l (scanV l)) = l)) : pOk l = false ∧ pVal l = 0 := by
  have hok : pOk l = false := decide_eq_false fun ⟨h1, h2, h3⟩ => h ⟨by have := dgs_len l; omega, by rw [← scanK_dgs, scanK_all h2]; exact h1, by rw [← scanV_dgs]; exact h3⟩
  exact ⟨hok, by rw [pVal, hok]; rfl⟩
theorem pOk_long (l : List UInt8) (h : 10 < l.length) : pOk l = false ∧ pVal l = 0 := pOk_no l fun ⟨h1, _⟩ => by omega
/-- The program's tests. -/
theorem pOk_p1 (l : List UInt8) (h : ¬ ((dgs l).length ≤ 9 ∧ (dgs l).all isD = true)) : pOk l = false ∧ pVal l = 0 := by
  have hok : pOk l = false := decide_eq_false fun ⟨h1, h2, _⟩ => h ⟨h1, h2⟩
  exact ⟨hok, by rw [pVal, hok]; rfl⟩
theorem pOk_p2 (l : List UInt8) (h1 : (dgs l).length ≤ 9) (h2 : (dgs l).all isD = true) (b : Bool) (hb : b = true ↔ Lib.itoa (signed l (scanV (dgs l))) = l) :
    pOk l = b ∧ pVal l = if b then signed l (scanV (dgs l)) else 0 := by
  have hok : pOk l = b := by
    cases b
    · exact decide_eq_false fun ⟨_, _, h3⟩ => by have := hb.2 h3; cases this
    · exact decide_eq_true ⟨h1, h2, hb.1 rfl⟩
  exact ⟨hok, by rw [pVal, hok]⟩
/-- What is read back of a number's own text. -/
theorem pOk_itoa (m : Int) : pOk (Lib.itoa m) = decide (-1000000000 < m ∧ m < 1000000000) ∧ (pOk (Lib.itoa m) = true → pVal (Lib.itoa m) = m) := by
  have hs : signed (Lib.itoa m) (scanV (dgs (Lib.itoa m))) = m := by
    unfold signed
    rw [dash_itoa, dgs_itoa, scanV_dec]
    by_cases h : m < 0
    · simp [h]; omega
    · simp [h]; omega
  have hl := dec_len 8 m.natAbs
  have e : (10 : Nat) ^ (8 + 1) = 1000000000 := by decide
  rw [e] at hl
  have hok : pOk (Lib.itoa m) = decide (-1000000000 < m ∧ m < 1000000000) := by
    unfold pOk
    rw [hs, dgs_itoa]
    rw [Bool.eq_iff_iff]
    simp only [decide_eq_true_eq, dec_all, and_true]
    constructor
    · intro h; have := hl.1 h; omega
    · intro h; exact hl.2 (by omega)
  refine ⟨hok, fun h => ?_⟩
  rw [pVal, if_pos h, hs]
theorem hasDash (l : List UInt8) : Lib.hasPrefix l [45] = dash l := by
  cases l with
  | nil => rfl
  | cons b l =>
    simp only [Lib.hasPrefix, dash, List.isPrefixOf, List.head?_cons, Bool.and_true]
    by_cases h : b = 45
    · subst h; rfl
    · have h1 : ((45 : UInt8) == b) = false := by rw [beq_eq_false_iff_ne]; exact fun e => h e.symm
      have h2 : (some b == some (45 : UInt8)) = false := by
        rw [beq_eq_false_iff_ne]
        intro e
        injection e with e
        exact h e
      rw [h1, h2]
theorem trimDash (l : List UInt8) : Lib.trimPrefix l [45] = dgs l := by
  unfold Lib.trimPrefix dgs
  rw [hasDash]
  cases l <;> rfl
end Go.Proofs.YtadjoiahllekdaaGreatDoor.num
