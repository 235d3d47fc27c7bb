/-
  EncodeFixed, the program's and the model's: contracts.
-/
import Derived.Test.YtadjoiahllekdaaGreatDoorDecFixed
import Derived.Laws.IdiomStrings
import Derived.Laws.Concat
import Derived.Lib.Hide
namespace Go.Proofs.YtadjoiahllekdaaGreatDoor.num
set_option maxRecDepth 20000
open Go.RowKit

/-- What EncodeFixed returns. -/
def fixB (n wd : Int) : ByteArray := if 1 ≤ wd ∧ wd ≤ 7 ∧ 0 ≤ n ∧ n.toNat / 256 ^ wd.toNat = 0 then ⟨(beEnc wd.toNat n.toNat).toArray⟩ else ⟨#[]⟩
theorem fixB_yes (n wd : Nat) (h1 : 1 ≤ wd) (h2 : wd ≤ 7) (h : n / 256 ^ wd = 0) : fixB n wd = ⟨(beEnc wd n).toArray⟩ := by
  unfold fixB; rw [if_pos ⟨by omega, by omega, by omega, by simpa using h⟩]; simp
theorem fixB_no (n wd : Int) (h : ¬ (1 ≤ wd ∧ wd ≤ 7 ∧ 0 ≤ n ∧ n.toNat / 256 ^ wd.toNat = 0)) : fixB n wd = ⟨#[]⟩ := by
  unfold fixB; rw [if_neg h]
theorem fixB_yes' (n wd m : Nat) (h1 : 1 ≤ wd) (h2 : wd ≤ 7) (h : m = n / 256 ^ wd) (hm : ¬ (0 : Int) < m) : fixB n wd = ⟨(beEnc wd n).toArray⟩ := fixB_yes n wd h1 h2 (by rw [← h]; omega)
theorem fixB_no' (n wd m : Nat) (h : m = n / 256 ^ wd) (hm : (0 : Int) < m) : fixB n wd = ⟨#[]⟩ := fixB_no _ _ fun ⟨_, _, _, h4⟩ => by
  simp only [Int.toNat_natCast] at h4
  rw [← h] at h4
  omega
theorem div_step (n k m : Nat) (h : m = n / 256 ^ k) : m / 256 = n / 256 ^ (k + 1) := by rw [h, Nat.div_div_eq_div_mul, ← Nat.pow_succ]
theorem cons_bytes (b : UInt8) (l : List UInt8) : (ByteArray.mk #[b]) ++ ByteArray.mk l.toArray = ByteArray.mk (b :: l).toArray :=
  ByteArray.mk_append_mk [b] l

/-- The string of a slice of one new byte. -/
theorem one_byte {P : Program} (w : World) (src dst e : TypeId) (hs : P.underlying src = some (.slice e)) (he : P.underlying e = some (.int .u8)) (hd : P.underlying dst = some .string) (x : Int) (b : UInt8) (hx : x = (b.toNat : Int)) :
    (convert src dst (.slice (some ⟨w.heap.size, 0, none⟩) 1 1)).run P (w.alloc (.cells #[.int .u8 x] e)) = .ok (.string ⟨#[b]⟩) (w.alloc (.cells #[.int .u8 x] e)) :=
  run_convert_bytes_back _ src dst e ⟨w.heap.size, 0, none⟩ 1 [b] hs he hd (fun j hj => by
    obtain rfl : j = 0 := by simpa using hj
    subst hx
    simp [Addr.add])

/-- The program's bytes after k rounds. -/
def fixCell (wd n k j : Nat) : Value := if j < k then .int .u8 ((n / 256 ^ (wd - 1 - j) % 256 : Nat) : Int) else .int .u8 0
def fixCells (wd n k : Nat) : List Value := (List.range wd).map (fixCell wd n k)
theorem fixCells_zero (wd n : Nat) : (madeCells #[.int .u8 0] wd).toList = fixCells wd n 0 := by
  apply List.ext_getElem?
  intro j
  by_cases hj : j < wd
  · have h1 : j % 1 = 0 := Nat.mod_one j
    simp [fixCells, fixCell, madeCells, hj, h1]
  · simp [fixCells, madeCells, hj]
theorem fixCells_set (wd n k : Nat) (v : Int) (hv : v = ((n / 256 ^ (wd - 1 - k) % 256 : Nat) : Int)) : (fixCells wd n k).set k (.int .u8 v) = fixCells wd n (k + 1) := by
  subst hv
  apply List.ext_getElem?
  intro j
  by_cases hj : j < wd
  · by_cases e : k = j
    · subst e; simp [fixCells, fixCell, hj]
    · have h1 : (j < k + 1) = (j < k) := by simp; omega
      simp [fixCells, fixCell, hj, e, h1]
  · simp [fixCells, hj]
theorem fixCells_at (wd n k : Nat) (h : k < wd) : (fixCells wd n k)[k]? = some (.int .u8 0) := by simp [fixCells, fixCell, h]
theorem fixCells_end (wd n j : Nat) (h : j < (beEnc wd n).length) : (fixCells wd n wd)[j]? = some (.int .u8 (((beEnc wd n)[j]).toNat : Int)) := by
  rw [beEnc_length] at h
  have h1 := beEnc_get wd n j h
  rw [List.getElem?_eq_some_iff] at h1
  obtain ⟨_, h2⟩ := h1
  rw [h2]
  simp [fixCells, fixCell, h]
theorem shr_eq (n wd : Nat) : (n : Int) / 2 ^ (8 * wd) = ((n / 256 ^ wd : Nat) : Int) := by
  have h : (256 : Nat) ^ wd = 2 ^ (8 * wd) := by rw [show (256 : Nat) = 2 ^ 8 from by decide, ← Nat.pow_mul]
  rw [h]; simp

theorem shr_mod (n wd : Nat) : (n : Int) / 2 ^ (8 * wd) % 256 = ((n / 256 ^ wd % 256 : Nat) : Int) := by rw [shr_eq]; simp

theorem infoF_u8 : (Tryz.prog.info? 5).map (fun i => (i.zero, i.size, i.bytes)) = some (some (.int .u8 0), 1, 1) := by kernel_rfl

end Go.Proofs.YtadjoiahllekdaaGreatDoor.num
