/-
  EncodeFixed, the program's and the model's: contracts.
-/
import Derived.Test.YtkdljnfoeigafaaDecFixed
import Derived.Laws.IdiomStrings
import Derived.Laws.Concat
import Derived.Lib.Hide
namespace Go.Proofs.Ytkdljnfoeigafaa.num
open Go.RowKit

/-- What EncodeFixed returns. -/
def fixB (n wd : Int) : ByteArray := if 1 ≤ wd ∧ wd ≤ 7 ∧ 0 ≤ n ∧ n.toNat / 256 ^ wd.toNat = 0 then ⟨(beEnc wd.toNat n.toNat).toArray⟩ else ⟨#[]⟩
theorem fixB_yes (n wd : Nat) (h1 : 1 ≤ wd) (h2 : wd ≤ 7) (h : n / 256 ^ wd = 0) : fixB n wd = ⟨(beEnc wd n).toArray⟩ := by
  unfold fixB; rw [if_pos ⟨by omega, by omega, by omega, by simpa using h⟩]; simp
theorem fixB_no (n wd : Int) (h : ¬ (1 ≤ wd ∧ wd ≤ 7 ∧ 0 ≤ n ∧ n.toNat / 256 ^ wd.toNat = 0)) : fixB n wd = ⟨#[]⟩ := by
  unfold fixB; rw [if_neg h]
theorem fixB_yes' (n wd m : Nat) (h1 : 1 ≤ wd) (h2 : wd ≤ 7) (h : m = n / 256 ^ wd) (hm : ¬ (0 : Int) < m) : fixB n wd = ⟨(beEnc wd n).toArray⟩ := fixB_yes n wd h1 h2 (by rw [← h]; omega)
theorem fixB_no' (n wd m : Nat) (h : m = n / 256 ^ wd) (hm : (0 : Int) < m) : fixB n wd = ⟨#[]⟩ := fixB_no _ _ fun ⟨_, _, _, h4⟩ => by
  simp only [Int.toNat_natCast] at h4
  rw [← h] at h4
  omega
theorem div_step (n k m : Nat) (h : m = n / 256 ^ k) : m / 256 = n / 256 ^ (k + 1) := by rw [h, Nat.div_div_eq_div_mul, ← Nat.pow_succ]
theorem cons_bytes (b : UInt8) (l : List UInt8) : (ByteArray.mk #[b]) ++ ByteArray.mk l.toArray = ByteArray.mk (b :: l).toArray :=
  ByteArray.mk_append_mk [b] l

/-- The string of a slice of one new byte. -/
theorem one_byte {P : Program} (w : World) (src dst e : TypeId) (hs : P.underlying src = some (.slice e)) (he : P.underlying e = some (.int .u8)) (hd : P.underlying dst = some .string) (x : Int) (b : UInt8) (hx : x = (b.toNat : Int)) :
    (convert src dst (.slice (some ⟨w.heap.size, 0, none⟩) 1 1)).run P (w.alloc (.cells #[.int .u8 x] e)) = .ok (.string ⟨#[b]⟩) (w.alloc (.cells #[.int .u8 x] e)) :=
  run_convert_bytes_back _ src dst e ⟨w.heap.size, 0, none⟩ 1 [b] hs he hd (fun j hj => by
    obtain rfl : j = 0 := by simpa using hj
    subst hx
    simp [Addr.add])

set_option maxRecDepth 20000 in
theorem sEncFixed_in (n wd : Nat) (hn : n ≤ 9223372036854775807) (h1 : 1 ≤ wd) (h2 : wd ≤ 7) (w : World) :
    Calls Try.prog 9 #[.int .i64 n, .int .i64 wd] w fun e w' => e = .returned (.string (fixB n wd)) ∧ Below w.heap.size w w' := by
  go_enter Try.func9, Try.ntmps9
  go_wp2_with (go_at_call 21; refine (in_any _ _ _ true (by simp; omega) _).mono ?_; rintro e w' ⟨rfl, rfl⟩)
  go_loopw [0, 5, 6] (fun x v i wr => ∃ k m : Nat, k ≤ wd ∧ i = .int .i64 k ∧ m ≤ 9223372036854775807 ∧ x = .int .i64 m ∧ Hid (m = n / 256 ^ k) ∧ v = .string ⟨(beEnc k n).toArray⟩ ∧ Below w.heap.size w wr) (fun _ _ i _ => wd - (intOf i).toNat)
  case atStart => exact ⟨0, n, Nat.zero_le _, rfl, hn, rfl, by simp [Hid], rfl, Below.refl _ _⟩
  case round =>
    obtain ⟨k, m, hk, rfl, hm, rfl, HM, rfl, hbel⟩ := hrel
    have hln : (beEnc k n).length = k := beEnc_length k n
    by_cases hlt : k < wd
    · have hcv := one_byte (P := Try.prog) wr 36 9 5 Try.underlying36 Try.underlying5 Try.underlying9 ((m : Int) % 256) (UInt8.ofNat m) (by simp)
      go_wp2
      go_roundw
      case rel => exact ⟨k + 1, m / 256, by omega, by go_num, by omega, by go_num, div_step n k m HM.out, by rw [cons_bytes, beEnc, ← HM.out], (hbel.alloc hbel.size _)⟩
      case measure => simp [intOf]; omega
    · obtain rfl : k = wd := by omega
      by_cases hz : (0 : Int) < m
      · go_wp2
        go_ret
        refine ⟨?_, hbel⟩
        rw [fixB_no' n k m HM.out hz]; rfl
      · go_wp2
        go_ret
        refine ⟨?_, hbel⟩
        rw [fixB_yes' n k m h1 h2 HM.out (by omega)]; rfl

theorem sEncFixed_out (n wd : Int) (h : ¬ (1 ≤ wd ∧ wd ≤ 7 ∧ 0 ≤ n)) (w : World) :
    Calls Try.prog 9 #[.int .i64 n, .int .i64 wd] w fun e w' => e = .returned (.string (fixB n wd)) ∧ Below w.heap.size w w' := by
  rw [fixB_no n wd (fun ⟨a, b, c, _⟩ => h ⟨a, b, c⟩)]
  by_cases h1 : 1 ≤ wd ∧ wd ≤ 7
  · have hn : n < 0 := by omega
    go_enter Try.func9, Try.ntmps9
    go_wp2_with (go_at_call 21; refine (in_any _ _ _ true (by simp; omega) _).mono ?_; rintro e w' ⟨rfl, rfl⟩)
    go_ret
    exact ⟨rfl, Below.refl _ _⟩
  · go_enter Try.func9, Try.ntmps9
    go_wp2_with (go_at_call 21; refine (in_any _ _ _ false (by simp; omega) _).mono ?_; rintro e w' ⟨rfl, rfl⟩)
    go_ret
    exact ⟨rfl, Below.refl _ _⟩

theorem sEncFixed (n wd : Int) (hn : n ≤ 9223372036854775807) (w : World) :
    Calls Try.prog 9 #[.int .i64 n, .int .i64 wd] w fun e w' => e = .returned (.string (fixB n wd)) ∧ Below w.heap.size w w' := by
  by_cases h : 1 ≤ wd ∧ wd ≤ 7 ∧ 0 ≤ n
  · obtain ⟨n, rfl⟩ := Int.eq_ofNat_of_zero_le h.2.2
    obtain ⟨wd, rfl⟩ := Int.eq_ofNat_of_zero_le (show 0 ≤ wd by omega)
    exact sEncFixed_in n wd (by omega) (by omega) (by omega) w
  · exact sEncFixed_out n wd h w

theorem iEncFixed_out (n wd : Int) (h : ¬ (1 ≤ wd ∧ wd ≤ 7 ∧ 0 ≤ n)) (w : World) :
    Calls Try.prog 10 #[.int .i64 n, .int .i64 wd] w fun e w' => e = .returned (.string (fixB n wd)) ∧ Below w.heap.size w w' := by
  rw [fixB_no n wd (fun ⟨a, b, c, _⟩ => h ⟨a, b, c⟩)]
  by_cases h1 : 1 ≤ wd ∧ wd ≤ 7
  · have hn : n < 0 := by omega
    go_enter Try.func10, Try.ntmps10
    go_wp2_with (go_at_call 22; refine (width_any _ true (by simp; omega) _).mono ?_; rintro e w' ⟨rfl, rfl⟩)
    go_ret
    exact ⟨rfl, Below.refl _ _⟩
  · go_enter Try.func10, Try.ntmps10
    go_wp2_with (go_at_call 22; refine (width_any _ false (by simp; omega) _).mono ?_; rintro e w' ⟨rfl, rfl⟩)
    go_ret
    exact ⟨rfl, Below.refl _ _⟩

/-- The program's bytes after k rounds. -/
def fixCell (wd n k j : Nat) : Value := if j < k then .int .u8 ((n / 256 ^ (wd - 1 - j) % 256 : Nat) : Int) else .int .u8 0
def fixCells (wd n k : Nat) : List Value := (List.range wd).map (fixCell wd n k)
theorem fixCells_zero (wd n : Nat) : (madeCells #[.int .u8 0] wd).toList = fixCells wd n 0 := by
  apply List.ext_getElem?
  intro j
  by_cases hj : j < wd
  · have h1 : j % 1 = 0 := Nat.mod_one j
    simp [fixCells, fixCell, madeCells, hj, h1]
  · simp [fixCells, madeCells, hj]
theorem fixCells_set (wd n k : Nat) (v : Int) (hv : v = ((n / 256 ^ (wd - 1 - k) % 256 : Nat) : Int)) : (fixCells wd n k).set k (.int .u8 v) = fixCells wd n (k + 1) := by
  subst hv
  apply List.ext_getElem?
  intro j
  by_cases hj : j < wd
  · by_cases e : k = j
    · subst e; simp [fixCells, fixCell, hj]
    · have h1 : (j < k + 1) = (j < k) := by simp; omega
      simp [fixCells, fixCell, hj, e, h1]
  · simp [fixCells, hj]
theorem fixCells_at (wd n k : Nat) (h : k < wd) : (fixCells wd n k)[k]? = some (.int .u8 0) := by simp [fixCells, fixCell, h]
theorem fixCells_end (wd n j : Nat) (h : j < (beEnc wd n).length) : (fixCells wd n wd)[j]? = some (.int .u8 (((beEnc wd n)[j]).toNat : Int)) := by
  rw [beEnc_length] at h
  have h1 := beEnc_get wd n j h
  rw [List.getElem?_eq_some_iff] at h1
  obtain ⟨_, h2⟩ := h1
  rw [h2]
  simp [fixCells, fixCell, h]
theorem shr_eq (n wd : Nat) : (n : Int) / 2 ^ (8 * wd) = ((n / 256 ^ wd : Nat) : Int) := by
  have h : (256 : Nat) ^ wd = 2 ^ (8 * wd) := by rw [show (256 : Nat) = 2 ^ 8 from by decide, ← Nat.pow_mul]
  rw [h]; simp

theorem shr_mod (n wd : Nat) : (n : Int) / 2 ^ (8 * wd) % 256 = ((n / 256 ^ wd % 256 : Nat) : Int) := by rw [shr_eq]; simp

theorem infoF_u8 : (Try.prog.info? 5).map (fun i => (i.zero, i.size, i.bytes)) = some (some (.int .u8 0), 1, 1) := by kernel_rfl

set_option maxRecDepth 20000 in
theorem iEncFixed_in (n wd : Nat) (_hn : n ≤ 9223372036854775807) (h1 : 1 ≤ wd) (h2 : wd ≤ 7) (w : World) :
    Calls Try.prog 10 #[.int .i64 n, .int .i64 wd] w fun e w' => e = .returned (.string (fixB n wd)) ∧ Below w.heap.size w w' := by
  obtain ⟨i0, hi, hz0, hz1, hz2⟩ := info_parts infoF_u8
  by_cases hq : n / 256 ^ wd = 0
  · have hsh : ((n : Int) / 2 ^ (8 * wd) != 0) = false := by rw [shr_eq, hq]; rfl
    rw [fixB_yes n wd h1 h2 hq]
    have HQ := Lib.hid hq
    clear hq
    go_enter Try.func10, Try.ntmps10
    go_wp2_with (first
      | (go_at_call 22; refine (width_any _ true (by simp; omega) _).mono ?_; rintro e w' ⟨rfl, rfl⟩)
      | (with_reducible refine wpList_make_full _ rfl (.tmp 21) (.tmp 21) 36 rfl w.heap.size 5 i0 (.int .u8 0) 1 Try.underlying36 hi hz0 hz1 .i64 .i64 (wd : Int) (wd : Int) wd rfl rfl rfl rfl ?c1 ?c2 (Nat.le_refl _) ?_))
    case c1 => rw [hz2]; omega
    case c2 => unfold maxLen; omega
    intro w1 hown hgr
    rw [fixCells_zero wd n] at hown
    have hbel : Below w.heap.size w w1 := (Below.refl _ _).grown hgr (Nat.le_refl _) (fun k hk => by cases hk)
    go_wp2
    go_loopw [25] (fun i wr => ∃ k : Nat, k ≤ wd ∧ i = .int .i64 k ∧ wr.ownsRow w.heap.size 5 1 (.slice (some ⟨w.heap.size, 0, none⟩) wd wd) wd (fixCells wd n k) ∧ Below w.heap.size w wr) (fun i _ => wd - (intOf i).toNat)
    case atStart => exact ⟨0, Nat.zero_le _, rfl, hown, hbel⟩
    case round =>
      obtain ⟨k, hk, rfl, hown, hbel⟩ := hrel
      by_cases hlt : k < wd
      · have hcell : wr.cell? ⟨w.heap.size, k, none⟩ = some (.int .u8 0) := by rw [hown.cellAt k (by omega)]; exact fixCells_at wd n k hlt
        have hfr : wr.frozen? ⟨w.heap.size, k, none⟩ = false := hown.frozenAt k
        go_wp2
        go_roundw
        case rel => exact ⟨k + 1, by omega, by go_num, by rw [← fixCells_set wd n k _ (shr_mod n (wd - 1 - k))]; exact (hown.stored k _).1, hbel.setCell (Nat.le_refl _) _⟩
        case measure => simp [intOf]; omega
      · obtain rfl : k = wd := by omega
        have hcv := fun C => run_convert_bytes_back (P := Try.prog) wr 36 9 5 ⟨w.heap.size, 0, none⟩ C (beEnc k n) Try.underlying36 Try.underlying5 Try.underlying9 (fun j hj => by
          have hj' : j < k := by rw [beEnc_length] at hj; exact hj
          have e : (⟨w.heap.size, 0, none⟩ : Addr).add j = ⟨w.heap.size, j, none⟩ := by unfold Addr.add; split <;> simp_all
          rw [e, hown.cellAt j (by omega)]; exact fixCells_end k n j hj)
        rw [beEnc_length] at hcv
        go_wp2
        go_ret
        exact ⟨rfl, hbel⟩
  · have hsh : ((n : Int) / 2 ^ (8 * wd) != 0) = true := by rw [shr_eq, bne_iff_ne]; generalize n / 256 ^ wd = q at *; omega
    rw [fixB_no n wd (fun ⟨_, _, _, h4⟩ => hq (by simpa using h4))]
    go_enter Try.func10, Try.ntmps10
    go_wp2_with (go_at_call 22; refine (width_any _ true (by simp; omega) _).mono ?_; rintro e w' ⟨rfl, rfl⟩)
    go_ret
    exact ⟨rfl, Below.refl _ _⟩

theorem iEncFixed (n wd : Int) (hn : n ≤ 9223372036854775807) (w : World) :
    Calls Try.prog 10 #[.int .i64 n, .int .i64 wd] w fun e w' => e = .returned (.string (fixB n wd)) ∧ Below w.heap.size w w' := by
  by_cases h : 1 ≤ wd ∧ wd ≤ 7 ∧ 0 ≤ n
  · obtain ⟨n, rfl⟩ := Int.eq_ofNat_of_zero_le h.2.2
    obtain ⟨wd, rfl⟩ := Int.eq_ofNat_of_zero_le (show 0 ≤ wd by omega)
    exact iEncFixed_in n wd (by omega) (by omega) (by omega) w
  · exact iEncFixed_out n wd h w
end Go.Proofs.Ytkdljnfoeigafaa.num
