/-
  FormatInt, the program's (strconv.Itoa) and the model's: contracts. Both give Lib.itoa.
-/
import Derived.Test.YtadjoiahllekdaaGreatDoorShelf
import Derived.Test.YtadjoiahllekdaaGreatDoorEncFixed
import Derived.Lib.LaidTab
import Derived.Lib.ItoaNum
import Derived.Lib.AppendIntMem
namespace Go.Proofs.YtadjoiahllekdaaGreatDoor.num
set_option maxRecDepth 20000
open Go.RowKit

/-- The library's table of powers of ten holds them. -/
def Pow (w : World) : Prop := Lib.TabIs Tryz.prog w "internal/strconv.uint64pow10" .u64 Lib.pow10Tab
theorem gPow : Tryz.prog.globalNamed "internal/strconv.uint64pow10" = some 3 := by kernel_rfl
theorem Pow.below {w w' : World} (h : Pow w) (hb : Below w.heap.size w w') : Pow w' := by
  unfold Pow Lib.TabIs World.var? at h ⊢
  rw [gPow] at h ⊢
  simp only [Option.bind_some] at h ⊢
  have hlt : 3 < w.heap.size := by
    rcases Nat.lt_or_ge 3 w.heap.size with h' | h'
    · exact h'
    · rw [Array.getElem?_eq_none h'] at h; cases h
  rw [hb.block _ hlt]; exact h

def fmtB (n : Int) : ByteArray := ⟨(Lib.itoa n).toArray⟩

theorem iFormat (n : Int) (h0 : -9223372036854775808 ≤ n) (h1 : n ≤ 9223372036854775807) (w : World) (hp : Pow w) :
    Calls Tryz.prog 46 #[.int .i64 n] w fun e w' => e = .returned (.string (fmtB n)) ∧ Below w.heap.size w w' := by
  go_enter Tryz.func46, Tryz.ntmps46
  go_wp2_with fail
  refine (Tryz.strconv_Itoa n h0 h1 _ hp).mono ?_
  rintro e w1 ⟨rfl, k, os, rfl⟩
  go_wp2
  go_ret
  exact ⟨rfl, Lib.below_grow _ w (Nat.le_refl _) k os⟩

def digB (q : Nat) : UInt8 := UInt8.ofNat (48 + q)
theorem digB_toNat (q : Nat) (h : q ≤ 9) : (digB q).toNat = 48 + q := by simp [digB]; omega
/-- The digits of u, none for 0. -/
def dec0 (u : Nat) : List UInt8 := if u = 0 then [] else Lib.decDigits u
theorem dec0_step (u : Nat) (h : 0 < u) : dec0 u = dec0 (u / 10) ++ [digB (u % 10)] := by
  unfold dec0
  rw [if_neg (by omega), Lib.decDigits]
  by_cases h10 : u < 10
  · rw [dif_pos h10, if_pos (by omega)]
    have : u % 10 = u := by omega
    simp only [List.nil_append, digB, this]
  · rw [dif_neg h10, if_neg (by omega)]; rfl
theorem dec0_len (k u : Nat) (h : u < 10 ^ k) : (dec0 u).length ≤ k := by
  induction k generalizing u with
  | zero =>
    obtain rfl : u = 0 := by simpa using h
    simp [dec0]
  | succ k ih =>
    by_cases h0 : u = 0
    · simp [dec0, h0]
    · rw [dec0_step u (by omega), List.length_append]
      have := ih (u / 10) (by rw [Nat.pow_succ] at h; exact Nat.div_lt_of_lt_mul (by omega))
      simp only [List.length_cons, List.length_nil]
      omega
theorem dec0_len20 (u : Nat) (h : u ≤ 9223372036854775808) : (dec0 u).length ≤ 19 := dec0_len 19 u (by
  have : (10 : Nat) ^ 19 = 10000000000000000000 := by decide
  omega)
/-- What the model's loop keeps. -/
def DecInv (u m : Nat) (out : List UInt8) : Prop := dec0 m ++ out = dec0 u
theorem DecInv.len {u m : Nat} {out : List UInt8} (h : DecInv u m out) (hu : u ≤ 9223372036854775808) : out.length ≤ 19 := by
  have h1 := dec0_len20 u hu
  rw [← h, List.length_append] at h1
  omega
theorem DecInv.step {u m : Nat} {out : List UInt8} (h : DecInv u m out) (hm : 0 < m) : DecInv u (m / 10) (digB (m % 10) :: out) := by
  unfold DecInv at h ⊢
  rw [← h, dec0_step m hm]; simp
theorem DecInv.fin {u : Nat} {out : List UInt8} (h : DecInv u 0 out) : out = dec0 u := by
  unfold DecInv at h
  rw [← h]; rfl
theorem itoa_pos (u : Nat) (h : 0 < u) : Lib.itoa (u : Int) = dec0 u := by
  unfold Lib.itoa dec0
  rw [if_neg (by omega), if_neg (by omega)]; simp
theorem itoa_neg (u : Nat) (h : 0 < u) : Lib.itoa (-(u : Int)) = 45 :: dec0 u := by
  unfold Lib.itoa dec0
  rw [if_pos (by omega), if_neg (by omega)]; simp

set_option maxRecDepth 20000 in
theorem sFormat_pos (u : Nat) (hu0 : 0 < u) (hu : u ≤ 9223372036854775807) (w : World) :
    Calls Tryz.prog 57 #[.int .i64 u] w fun e w' => e = .returned (.string (fmtB u)) ∧ Below w.heap.size w w' := by
  have HF := Lib.hid (itoa_pos u hu0)
  have hz : ((u : Int) == 0) = false := by rw [beq_eq_false_iff_ne]; omega
  go_enter Tryz.func57, Tryz.ntmps57
  go_wp2
  go_loopw [0, 3] (fun x v wr => ∃ (m : Nat) (out : List UInt8), m ≤ 9223372036854775807 ∧ x = .int .i64 m ∧ v = .string ⟨out.toArray⟩ ∧ Hid (DecInv u m out) ∧ Below w.heap.size w wr) (fun x _ _ => (intOf x).toNat)
  case atStart => exact ⟨u, [], hu, rfl, rfl, by simp [Hid, DecInv], Below.refl _ _⟩
  case round =>
    obtain ⟨m, out, hm, rfl, rfl, HI, hbel⟩ := hrel
    have hol := HI.out.len (by omega)
    by_cases h0 : 0 < m
    · have hcv := one_byte (P := Tryz.prog) wr 22 9 5 Tryz.underlying22 Tryz.underlying5 Tryz.underlying9 (48 + (m : Int) % 10) (digB (m % 10)) (by rw [digB_toNat _ (by omega)]; omega)
      go_wp2
      go_roundw
      case rel => exact ⟨m / 10, digB (m % 10) :: out, by omega, by go_num, by rw [cons_bytes], HI.out.step h0, hbel.alloc hbel.size _⟩
      case measure => simp [intOf]; omega
    · obtain rfl : m = 0 := by omega
      go_wp2
      go_ret
      refine ⟨?_, hbel⟩
      rw [fmtB, HF.out, HI.out.fin]; rfl

theorem neg_facts (m : Nat) (h : m ≤ 9223372036854775808) : ∃ q r : Nat, q ≤ 9 ∧ r ≤ 922337203685477580 ∧ Hid (m % 10 = q ∧ m / 10 = r) ∧
    Hid ((-(m : Int)).tmod 10 = -(q : Int) ∧ (-(m : Int)).tdiv 10 = -(r : Int) ∧ IntKind.i64.wrap (-(q : Int)) = -(q : Int) ∧ IntKind.i64.wrap (-(r : Int)) = -(r : Int)) := by
  refine ⟨m % 10, m / 10, by omega, by omega, ⟨rfl, rfl⟩, ?_, ?_, IntWalk.i64_in _ ⟨by omega, by omega⟩, IntWalk.i64_in _ ⟨by omega, by omega⟩⟩
  · rw [Int.neg_tmod, Int.tmod_eq_emod_of_nonneg (by omega)]; omega
  · rw [Int.neg_tdiv, Int.tdiv_eq_ediv_of_nonneg (by omega)]; omega

set_option maxRecDepth 20000 in
theorem sFormat_neg (u : Nat) (hu0 : 0 < u) (hu : u ≤ 9223372036854775808) (w : World) :
    Calls Tryz.prog 57 #[.int .i64 (-(u : Int))] w fun e w' => e = .returned (.string (fmtB (-(u : Int)))) ∧ Below w.heap.size w w' := by
  have HF := Lib.hid (itoa_neg u hu0)
  have hz : (-(u : Int) == 0) = false := by rw [beq_eq_false_iff_ne]; omega
  have hneg : decide (-(u : Int) < 0) = true := by simp; omega
  go_enter Tryz.func57, Tryz.ntmps57
  go_wp2
  go_loopw [0, 3] (fun x v wr => ∃ (m : Nat) (out : List UInt8), m ≤ 9223372036854775808 ∧ x = .int .i64 (-(m : Int)) ∧ v = .string ⟨out.toArray⟩ ∧ Hid (DecInv u m out) ∧ Below w.heap.size w wr) (fun x _ _ => (-(intOf x)).toNat)
  case atStart => exact ⟨u, [], hu, rfl, rfl, by simp [Hid, DecInv], Below.refl _ _⟩
  case round =>
    obtain ⟨m, out, hm, rfl, rfl, HI, hbel⟩ := hrel
    have hol := HI.out.len (by omega)
    by_cases h0 : 0 < m
    · obtain ⟨q, r, hq, hr, HQ, HE⟩ := neg_facts m hm
      have hne : (-(m : Int) != 0) = true := by rw [bne_iff_ne]; omega
      by_cases hq0 : 0 < q
      · have hcv := one_byte (P := Tryz.prog) wr 22 9 5 Tryz.underlying22 Tryz.underlying5 Tryz.underlying9 (48 + (q : Int)) (digB q) (by rw [digB_toNat _ hq]; omega)
        obtain ⟨e1, e2, e3, e4⟩ := HE.out
        go_wp2
        clear e1 e2 e3 e4
        go_roundw
        case rel => exact ⟨r, digB q :: out, by omega, rfl, by rw [cons_bytes], by rw [← HQ.out.1, ← HQ.out.2]; exact HI.out.step h0, hbel.alloc hbel.size _⟩
        case measure => have := HQ.out.2; simp [intOf]; omega
      · obtain rfl : q = 0 := by omega
        have hcv := one_byte (P := Tryz.prog) wr 22 9 5 Tryz.underlying22 Tryz.underlying5 Tryz.underlying9 48 (digB 0) (by rw [digB_toNat _ hq]; rfl)
        have HE' : Hid ((-(m : Int)).tmod 10 = 0 ∧ (-(m : Int)).tdiv 10 = -(r : Int) ∧ IntKind.i64.wrap (-(r : Int)) = -(r : Int)) := ⟨HE.out.1, HE.out.2.1, HE.out.2.2.2⟩
        obtain ⟨e1, e2, e4⟩ := HE'.out
        go_wp2
        clear e1 e2 e4
        go_roundw
        case rel => exact ⟨r, digB 0 :: out, by omega, rfl, by rw [cons_bytes], by rw [← HQ.out.1, ← HQ.out.2]; exact HI.out.step h0, hbel.alloc hbel.size _⟩
        case measure => have := HQ.out.2; simp [intOf]; omega
    · obtain rfl : m = 0 := by omega
      go_wp2
      go_ret
      refine ⟨?_, hbel⟩
      rw [fmtB, HF.out, ← HI.out.fin, ← cons_bytes]; rfl

theorem sFormat_zero (w : World) :
    Calls Tryz.prog 57 #[.int .i64 0] w fun e w' => e = .returned (.string (fmtB 0)) ∧ Below w.heap.size w w' := by
  have h : fmtB 0 = ⟨#[48]⟩ := by
    unfold fmtB Lib.itoa
    rw [if_neg (by omega), Lib.decDigits, dif_pos (by decide)]
    rfl
  rw [h]
  clear h
  go_enter Tryz.func57, Tryz.ntmps57
  go_wp2
  go_ret
  exact ⟨rfl, Below.refl _ _⟩

theorem sFormat (n : Int) (h0 : -9223372036854775808 ≤ n) (h1 : n ≤ 9223372036854775807) (w : World) :
    Calls Tryz.prog 57 #[.int .i64 n] w fun e w' => e = .returned (.string (fmtB n)) ∧ Below w.heap.size w w' := by
  rcases Int.lt_trichotomy n 0 with h | rfl | h
  · obtain ⟨u, rfl⟩ : ∃ u : Nat, n = -(u : Int) := ⟨n.natAbs, by omega⟩
    exact sFormat_neg u (by omega) (by omega) w
  · exact sFormat_zero w
  · obtain ⟨u, rfl⟩ := Int.eq_ofNat_of_zero_le (show 0 ≤ n by omega)
    exact sFormat_pos u (by omega) (by omega) w
end Go.Proofs.YtadjoiahllekdaaGreatDoor.num
