/-
  Hexadecimal digits read back, in pairs. Plain mathematics.
-/
import Derived.Test.YtkdljnfoeigafaaDoorIdxRune
import Derived.Test.YtkdljnfoeigafaaDoorEncHex
import Derived.Lib.DecodeN
namespace Go.Proofs.YtkdljnfoeigafaaDoor.num
open Go.RowKit

def hexn (b : UInt8) : Nat := (hexv b.toNat).toNat
def isHex (b : UInt8) : Bool := decide (0 ≤ hexv b.toNat)
theorem hexv_le (b : Nat) : hexv b ≤ 15 := by unfold hexv; split <;> (try split) <;> omega
theorem hexv_ge (b : Nat) : -1 ≤ hexv b := by unfold hexv; split <;> (try split) <;> omega
theorem hexn_le (b : UInt8) : hexn b ≤ 15 := by have := hexv_le b.toNat; unfold hexn; omega
theorem hexv_pos {b : UInt8} (h : isHex b = true) : hexv b.toNat = (hexn b : Int) := by
  have : 0 ≤ hexv b.toNat := of_decide_eq_true h
  unfold hexn; omega
theorem hexv_neg {b : UInt8} (h : isHex b = false) : hexv b.toNat = -1 := by
  have h1 : ¬ 0 ≤ hexv b.toNat := of_decide_eq_false h
  have := hexv_ge b.toNat
  omega
theorem isHex_low {b : UInt8} (h : 128 ≤ b.toNat) : isHex b = false := by
  have : hexv b.toNat = -1 := by unfold hexv; rw [if_neg (by omega), if_neg (by omega)]
  simp [isHex, this]
theorem hexv_hexd : ∀ k : Fin 16, hexv (hexd k.val).toNat = (k.val : Int) := by decide +kernel
theorem hexv_none16 : ∀ b : Fin 256, (∀ k : Fin 16, (hexd k.val).toNat ≠ b.val) → hexv b.val = -1 := by decide +kernel
theorem hexv_none (b : UInt8) (h : ∀ k, k < 16 → hexd k ≠ b) : hexv b.toNat = -1 :=
  hexv_none16 ⟨b.toNat, b.toNat_lt⟩ fun k e => h k.val k.isLt (UInt8.toNat_inj.1 e)

/-- Each two digits as one byte. -/
def pairL : List UInt8 → List UInt8
  | a :: b :: l => UInt8.ofNat (16 * hexn a + hexn b) :: pairL l
  | _ => []
theorem pairL_snoc2 (n : Nat) : ∀ (l : List UInt8) (a b : UInt8), l.length = 2 * n → pairL (l ++ [a, b]) = pairL l ++ [UInt8.ofNat (16 * hexn a + hexn b)] := by
  induction n with
  | zero =>
    intro l a b h
    obtain rfl : l = [] := List.eq_nil_of_length_eq_zero (by omega)
    rfl
  | succ n ih =>
    intro l a b h
    match l, h with
    | x :: y :: l, h => simp only [List.cons_append, pairL]; rw [ih l a b (by simp at h; omega)]
    | [x], h => simp at h; omega
theorem pairL_len : ∀ (n : Nat) (l : List UInt8), l.length = 2 * n → (pairL l).length = n
  | 0, l, h => by obtain rfl : l = [] := List.eq_nil_of_length_eq_zero (by omega); rfl
  | n + 1, l, h => by
    match l, h with
    | x :: y :: l, h => simp only [pairL, List.length_cons]; rw [pairL_len n l (by simp at h; omega)]
    | [x], h => simp at h; omega
theorem pairL_get : ∀ (n : Nat) (l : List UInt8) (j : Nat), l.length = 2 * n → j < n → (pairL l)[j]? = some (UInt8.ofNat (16 * hexn (l.getD (2 * j) 0) + hexn (l.getD (2 * j + 1) 0)))
  | 0, l, j, _, hj => by omega
  | n + 1, l, j, h, hj => by
    match l, h with
    | x :: y :: l, h =>
      cases j with
      | zero => simp [pairL]
      | succ j =>
        have := pairL_get n l j (by simp at h; omega) (by omega)
        have e1 : 2 * (j + 1) = 2 * j + 1 + 1 := by omega
        simp only [pairL, List.getElem?_cons_succ, e1, List.getD_cons_succ]
        exact this
    | [x], h => simp at h; omega

/-- What DecodeHex returns. -/
def unhexB (l : List UInt8) : ByteArray := if l.length % 2 = 0 ∧ l.all isHex = true then ⟨(pairL l).toArray⟩ else ⟨#[]⟩
def unhexOk (l : List UInt8) : Bool := decide (l.length % 2 = 0 ∧ l.all isHex = true)
theorem unhex_yes (l : List UInt8) (h : l.length % 2 = 0) (ha : l.all isHex = true) : unhexB l = ⟨(pairL l).toArray⟩ ∧ unhexOk l = true := by
  simp [unhexB, unhexOk, h, ha]
theorem unhex_odd (l : List UInt8) (h : ¬ l.length % 2 = 0) : unhexB l = ⟨#[]⟩ ∧ unhexOk l = false := by
  simp [unhexB, unhexOk, h]
theorem unhex_bad (l : List UInt8) (j : Nat) (hj : j < l.length) (h : isHex l[j] = false) : unhexB l = ⟨#[]⟩ ∧ unhexOk l = false := by
  have ha : ¬ l.all isHex = true := fun e => by
    have := List.all_eq_true.1 e l[j] (List.getElem_mem hj)
    rw [h] at this; cases this
  exact ⟨by unfold unhexB; rw [if_neg (fun h => ha h.2)], by unfold unhexOk; exact decide_eq_false (fun h => ha h.2)⟩

/-- The program's bytes after pos digits. -/
def hexAt (l : List UInt8) (pos j : Nat) : Nat := if 2 * j + 1 < pos then 16 * hexn (l.getD (2 * j) 0) + hexn (l.getD (2 * j + 1) 0) else if 2 * j < pos then hexn (l.getD (2 * j) 0) else 0
def hexCells (l : List UInt8) (n pos : Nat) : List Value := (List.range n).map fun j => .int .u8 (hexAt l pos j : Int)
theorem hexAt_now (l : List UInt8) (pos : Nat) : hexAt l pos (pos / 2) ≤ 15 := by
  unfold hexAt
  rw [if_neg (by omega)]
  split
  · exact hexn_le _
  · omega
theorem hexAt_step (l : List UInt8) (pos : Nat) : hexAt l (pos + 1) (pos / 2) = hexAt l pos (pos / 2) * 16 + hexn (l.getD pos 0) := by
  unfold hexAt
  rcases Nat.mod_two_eq_zero_or_one pos with h | h
  · have e : 2 * (pos / 2) = pos := by omega
    rw [if_neg (by omega), if_pos (by omega), if_neg (by omega), if_neg (by omega), e]; omega
  · have e : 2 * (pos / 2) + 1 = pos := by omega
    rw [if_pos (by omega), if_neg (by omega), if_pos (by omega), e]; omega
theorem hexAt_far (l : List UInt8) (pos j : Nat) (h : j ≠ pos / 2) : hexAt l (pos + 1) j = hexAt l pos j := by
  unfold hexAt
  by_cases h1 : 2 * j + 1 < pos
  · rw [if_pos (by omega), if_pos h1]
  · rw [if_neg (by omega), if_neg h1]
    by_cases h2 : 2 * j < pos
    · rw [if_pos (by omega), if_pos h2]
    · rw [if_neg (by omega), if_neg h2]
theorem hexCells_set (l : List UInt8) (n pos : Nat) (v : Int) (hv : v = (hexAt l (pos + 1) (pos / 2) : Int)) : (hexCells l n pos).set (pos / 2) (.int .u8 v) = hexCells l n (pos + 1) := by
  subst hv
  apply List.ext_getElem?
  intro j
  by_cases hj : j < n
  · by_cases e : pos / 2 = j
    · subst e; simp [hexCells, hj]
    · simp [hexCells, hj, e, hexAt_far l pos j (fun h => e h.symm)]
  · simp [hexCells, hj]
theorem hexCells_at (l : List UInt8) (n pos j : Nat) (h : j < n) : (hexCells l n pos)[j]? = some (.int .u8 (hexAt l pos j : Int)) := by simp [hexCells, h]
theorem hexCells_zero (l : List UInt8) (n : Nat) : (madeCells #[.int .u8 0] n).toList = hexCells l n 0 := by
  apply List.ext_getElem?
  intro j
  by_cases hj : j < n
  · have h1 : j % 1 = 0 := Nat.mod_one j
    simp [hexCells, hexAt, madeCells, hj, h1]
  · simp [hexCells, madeCells, hj]
theorem hexCells_end (l : List UInt8) (n j : Nat) (hn : l.length = 2 * n) (h : j < (pairL l).length) : (hexCells l n (2 * n))[j]? = some (.int .u8 (((pairL l)[j]).toNat : Int)) := by
  have hj : j < n := by rw [pairL_len n l hn] at h; exact h
  have h1 := pairL_get n l j hn hj
  rw [List.getElem?_eq_some_iff] at h1
  obtain ⟨_, h2⟩ := h1
  have a1 := hexn_le (l.getD (2 * j) 0)
  have a2 := hexn_le (l.getD (2 * j + 1) 0)
  rw [h2, hexCells_at _ _ _ _ hj, hexAt, if_pos (by omega)]
  congr 2
  simp only [UInt8.toNat_ofNat']
  have e : (2 : Nat) ^ 8 = 256 := by decide
  rw [e]
  omega

theorem decode_high (s : ByteArray) (pos : Nat) (h : pos < s.size) (hb : 128 ≤ (s[pos]).toNat) : 128 ≤ (Utf8.decode s pos).1 := by
  have e : s.get! pos = s[pos]'h := by simp [ByteArray.get!, getElem!_pos, h]; rfl
  rw [Lib.decode_at, e]
  unfold Lib.decodeN
  rw [if_neg (by omega)]
  repeat' split
  all_goals first | assumption | (simp only; omega) | decide
end Go.Proofs.YtkdljnfoeigafaaDoor.num
