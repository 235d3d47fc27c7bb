/- What the law FnExactFormatWish leans on, part 2: contracts of the functions that it calls. -/
import Derived.Lib.LaidTab
import Derived.Lib.ItoaNum
import Derived.Lib.AppendIntMem
import Derived.Laws.CopyOwn
import Derived.Lib.Join
import Derived.Lib.SplitLaws
import Derived.Lib.IndexBytes
import Derived.Deep.Strs
import Derived.LaidLaws
import Derived.Test.YtghekfigfjhkeabDoorProg
import Derived.WalkKit
import Derived.Lib.Hide
import Derived.Maps.RangeWalk
import Derived.Maps.Ext
import Derived.Laws.IdiomRangeMap
import Derived.Deep.Cut
import Derived.Lib.OthersKept
import Derived.Lib.DecodeN
import Derived.WalkSpells
import Derived.Test.YtghekfigfjhkeabDoorFormatWishP1
namespace Go.Proofs.YtghekfigfjhkeabDoor.num
open Go.RowKit

/-- The library's table of powers of ten holds them. -/
def Pow (w : World) : Prop := Lib.TabIs Tryd.prog w "internal/strconv.uint64pow10" .u64 Lib.pow10Tab
theorem gPow : Tryd.prog.globalNamed "internal/strconv.uint64pow10" = some 2 := by kernel_rfl
theorem Pow.below {w w' : World} (h : Pow w) (hb : Below w.heap.size w w') : Pow w' := by
  unfold Pow Lib.TabIs World.var? at h ⊢
  rw [gPow] at h ⊢
  simp only [Option.bind_some] at h ⊢
  have hlt : 2 < w.heap.size := by
    rcases Nat.lt_or_ge 2 w.heap.size with h' | h'
    · exact h'
    · rw [Array.getElem?_eq_none h'] at h; cases h
  rw [hb.block _ hlt]; exact h

def fmtB (n : Int) : ByteArray := ⟨(Lib.itoa n).toArray⟩

theorem iFormat (n : Int) (h0 : -9223372036854775808 ≤ n) (h1 : n ≤ 9223372036854775807) (w : World) (hp : Pow w) :
    Calls Tryd.prog 30 #[.int .i64 n] w fun e w' => e = .returned (.string (fmtB n)) ∧ Below w.heap.size w w' := by
  go_enter Tryd.func30, Tryd.ntmps30
  go_wp2_with fail
  refine (Tryd.strconv_Itoa n h0 h1 _ hp).mono ?_
  rintro e w1 ⟨rfl, k, os, rfl⟩
  go_wp2
  go_ret
  exact ⟨rfl, Lib.below_grow _ w (Nat.le_refl _) k os⟩

def digB (q : Nat) : UInt8 := UInt8.ofNat (48 + q)
theorem digB_toNat (q : Nat) (h : q ≤ 9) : (digB q).toNat = 48 + q := by simp [digB]; omega
/-- The digits of u, none for 0. -/
def dec0 (u : Nat) : List UInt8 := if u = 0 then [] else Lib.decDigits u
theorem dec0_step (u : Nat) (h : 0 < u) : dec0 u = dec0 (u / 10) ++ [digB (u % 10)] := by
  unfold dec0
  rw [if_neg (by omega), Lib.decDigits]
  by_cases h10 : u < 10
  · rw [dif_pos h10, if_pos (by omega)]
    have : u % 10 = u := by omega
    simp only [List.nil_append, digB, this]
  · rw [dif_neg h10, if_neg (by omega)]; rfl
theorem dec0_len (k u : Nat) (h : u < 10 ^ k) : (dec0 u).length ≤ k := by
  induction k generalizing u with
  | zero =>
    obtain rfl : u = 0 := by simpa using h
    simp [dec0]
  | succ k ih =>
    by_cases h0 : u = 0
    · simp [dec0, h0]
    · rw [dec0_step u (by omega), List.length_append]
      have := ih (u / 10) (by rw [Nat.pow_succ] at h; exact Nat.div_lt_of_lt_mul (by omega))
      simp only [List.length_cons, List.length_nil]
      omega
theorem dec0_len20 (u : Nat) (h : u ≤ 9223372036854775808) : (dec0 u).length ≤ 19 := dec0_len 19 u (by
  have : (10 : Nat) ^ 19 = 10000000000000000000 := by decide
  omega)
/-- What the model's loop keeps. -/
def DecInv (u m : Nat) (out : List UInt8) : Prop := dec0 m ++ out = dec0 u
theorem DecInv.len {u m : Nat} {out : List UInt8} (h : DecInv u m out) (hu : u ≤ 9223372036854775808) : out.length ≤ 19 := by
  have h1 := dec0_len20 u hu
  rw [← h, List.length_append] at h1
  omega
theorem DecInv.step {u m : Nat} {out : List UInt8} (h : DecInv u m out) (hm : 0 < m) : DecInv u (m / 10) (digB (m % 10) :: out) := by
  unfold DecInv at h ⊢
  rw [← h, dec0_step m hm]; simp
theorem DecInv.fin {u : Nat} {out : List UInt8} (h : DecInv u 0 out) : out = dec0 u := by
  unfold DecInv at h
  rw [← h]; rfl
theorem itoa_pos (u : Nat) (h : 0 < u) : Lib.itoa (u : Int) = dec0 u := by
  unfold Lib.itoa dec0
  rw [if_neg (by omega), if_neg (by omega)]; simp
theorem itoa_neg (u : Nat) (h : 0 < u) : Lib.itoa (-(u : Int)) = 45 :: dec0 u := by
  unfold Lib.itoa dec0
  rw [if_pos (by omega), if_neg (by omega)]; simp

set_option maxRecDepth 20000 in
theorem sFormat_pos (u : Nat) (hu0 : 0 < u) (hu : u ≤ 9223372036854775807) (w : World) :
    Calls Tryd.prog 25 #[.int .i64 u] w fun e w' => e = .returned (.string (fmtB u)) ∧ Below w.heap.size w w' := by
  have HF := Lib.hid (itoa_pos u hu0)
  have hz : ((u : Int) == 0) = false := by rw [beq_eq_false_iff_ne]; omega
  go_enter Tryd.func25, Tryd.ntmps25
  go_wp2
  go_loopw [0, 3] (fun x v wr => ∃ (m : Nat) (out : List UInt8), m ≤ 9223372036854775807 ∧ x = .int .i64 m ∧ v = .string ⟨out.toArray⟩ ∧ Hid (DecInv u m out) ∧ Below w.heap.size w wr) (fun x _ _ => (intOf x).toNat)
  case atStart => exact ⟨u, [], hu, rfl, rfl, by simp [Hid, DecInv], Below.refl _ _⟩
  case round =>
    obtain ⟨m, out, hm, rfl, rfl, HI, hbel⟩ := hrel
    have hol := HI.out.len (by omega)
    by_cases h0 : 0 < m
    · have hcv := one_byte (P := Tryd.prog) wr 70 9 5 Tryd.underlying70 Tryd.underlying5 Tryd.underlying9 (48 + (m : Int) % 10) (digB (m % 10)) (by rw [digB_toNat _ (by omega)]; omega)
      go_wp2
      go_roundw
      case rel => exact ⟨m / 10, digB (m % 10) :: out, by omega, by go_num, by rw [cons_bytes], HI.out.step h0, hbel.alloc hbel.size _⟩
      case measure => simp [intOf]; omega
    · obtain rfl : m = 0 := by omega
      go_wp2
      go_ret
      refine ⟨?_, hbel⟩
      rw [fmtB, HF.out, HI.out.fin]; rfl

theorem neg_facts (m : Nat) (h : m ≤ 9223372036854775808) : ∃ q r : Nat, q ≤ 9 ∧ r ≤ 922337203685477580 ∧ Hid (m % 10 = q ∧ m / 10 = r) ∧
    Hid ((-(m : Int)).tmod 10 = -(q : Int) ∧ (-(m : Int)).tdiv 10 = -(r : Int) ∧ IntKind.i64.wrap (-(q : Int)) = -(q : Int) ∧ IntKind.i64.wrap (-(r : Int)) = -(r : Int)) := by
  refine ⟨m % 10, m / 10, by omega, by omega, ⟨rfl, rfl⟩, ?_, ?_, IntWalk.i64_in _ ⟨by omega, by omega⟩, IntWalk.i64_in _ ⟨by omega, by omega⟩⟩
  · rw [Int.neg_tmod, Int.tmod_eq_emod_of_nonneg (by omega)]; omega
  · rw [Int.neg_tdiv, Int.tdiv_eq_ediv_of_nonneg (by omega)]; omega

set_option maxRecDepth 20000 in
theorem sFormat_neg (u : Nat) (hu0 : 0 < u) (hu : u ≤ 9223372036854775808) (w : World) :
    Calls Tryd.prog 25 #[.int .i64 (-(u : Int))] w fun e w' => e = .returned (.string (fmtB (-(u : Int)))) ∧ Below w.heap.size w w' := by
  have HF := Lib.hid (itoa_neg u hu0)
  have hz : (-(u : Int) == 0) = false := by rw [beq_eq_false_iff_ne]; omega
  have hneg : decide (-(u : Int) < 0) = true := by simp; omega
  go_enter Tryd.func25, Tryd.ntmps25
  go_wp2
  go_loopw [0, 3] (fun x v wr => ∃ (m : Nat) (out : List UInt8), m ≤ 9223372036854775808 ∧ x = .int .i64 (-(m : Int)) ∧ v = .string ⟨out.toArray⟩ ∧ Hid (DecInv u m out) ∧ Below w.heap.size w wr) (fun x _ _ => (-(intOf x)).toNat)
  case atStart => exact ⟨u, [], hu, rfl, rfl, by simp [Hid, DecInv], Below.refl _ _⟩
  case round =>
    obtain ⟨m, out, hm, rfl, rfl, HI, hbel⟩ := hrel
    have hol := HI.out.len (by omega)
    by_cases h0 : 0 < m
    · obtain ⟨q, r, hq, hr, HQ, HE⟩ := neg_facts m hm
      have hne : (-(m : Int) != 0) = true := by rw [bne_iff_ne]; omega
      by_cases hq0 : 0 < q
      · have hcv := one_byte (P := Tryd.prog) wr 70 9 5 Tryd.underlying70 Tryd.underlying5 Tryd.underlying9 (48 + (q : Int)) (digB q) (by rw [digB_toNat _ hq]; omega)
        obtain ⟨e1, e2, e3, e4⟩ := HE.out
        go_wp2
        clear e1 e2 e3 e4
        go_roundw
        case rel => exact ⟨r, digB q :: out, by omega, rfl, by rw [cons_bytes], by rw [← HQ.out.1, ← HQ.out.2]; exact HI.out.step h0, hbel.alloc hbel.size _⟩
        case measure => have := HQ.out.2; simp [intOf]; omega
      · obtain rfl : q = 0 := by omega
        have hcv := one_byte (P := Tryd.prog) wr 70 9 5 Tryd.underlying70 Tryd.underlying5 Tryd.underlying9 48 (digB 0) (by rw [digB_toNat _ hq]; rfl)
        have HE' : Hid ((-(m : Int)).tmod 10 = 0 ∧ (-(m : Int)).tdiv 10 = -(r : Int) ∧ IntKind.i64.wrap (-(r : Int)) = -(r : Int)) := ⟨HE.out.1, HE.out.2.1, HE.out.2.2.2⟩
        obtain ⟨e1, e2, e4⟩ := HE'.out
        go_wp2
        clear e1 e2 e4
        go_roundw
        case rel => exact ⟨r, digB 0 :: out, by omega, rfl, by rw [cons_bytes], by rw [← HQ.out.1, ← HQ.out.2]; exact HI.out.step h0, hbel.alloc hbel.size _⟩
        case measure => have := HQ.out.2; simp [intOf]; omega
    · obtain rfl : m = 0 := by omega
      go_wp2
      go_ret
      refine ⟨?_, hbel⟩
      rw [fmtB, HF.out, ← HI.out.fin, ← cons_bytes]; rfl

theorem sFormat_zero (w : World) :
    Calls Tryd.prog 25 #[.int .i64 0] w fun e w' => e = .returned (.string (fmtB 0)) ∧ Below w.heap.size w w' := by
  have h : fmtB 0 = ⟨#[48]⟩ := by
    unfold fmtB Lib.itoa
    rw [if_neg (by omega), Lib.decDigits, dif_pos (by decide)]
    rfl
  rw [h]
  clear h
  go_enter Tryd.func25, Tryd.ntmps25
  go_wp2
  go_ret
  exact ⟨rfl, Below.refl _ _⟩

theorem sFormat (n : Int) (h0 : -9223372036854775808 ≤ n) (h1 : n ≤ 9223372036854775807) (w : World) :
    Calls Tryd.prog 25 #[.int .i64 n] w fun e w' => e = .returned (.string (fmtB n)) ∧ Below w.heap.size w w' := by
  rcases Int.lt_trichotomy n 0 with h | rfl | h
  · obtain ⟨u, rfl⟩ : ∃ u : Nat, n = -(u : Int) := ⟨n.natAbs, by omega⟩
    exact sFormat_neg u (by omega) (by omega) w
  · exact sFormat_zero w
  · obtain ⟨u, rfl⟩ := Int.eq_ofNat_of_zero_le (show 0 ≤ n by omega)
    exact sFormat_pos u (by omega) (by omega) w
end Go.Proofs.YtghekfigfjhkeabDoor.num
namespace Go.Proofs.YtghekfigfjhkeabDoor.num
open Go.RowKit
set_option linter.unusedSimpArgs false

/-- A record's value. -/
def recV (id a b c : Int) : Value := .agg #[.int .i64 id, .int .i64 a, .int .i64 b, .int .i64 c]

theorem heap_third (w : World) (o1 o2 o3 : Obj) : (((w.alloc o1).alloc o2).alloc o3).heap[w.heap.size + 2]? = some o3 := by
  have h := heap_alloc_new ((w.alloc o1).alloc o2) o3
  have e : ((w.alloc o1).alloc o2).heap.size = w.heap.size + 2 := by simp
  rwa [e] at h
theorem setRow_at {w : World} {g : Nat} {cs : Array Value} {t : TypeId} {fr : Nat × Nat} (h : w.heap[g]? = some (.cells cs t fr)) (cs' : Array Value) : (w.setRow g cs').heap[g]? = some (.cells cs' t fr) := by
  simp [World.setRow, Array.getElem?_modify, h]
theorem four_set {w : World} {g : Nat} {t : TypeId} {u0 u1 u2 u3 v0 v1 v2 v3 : Value} (h : w.heap[g]? = some (.cells #[u0, u1, u2, u3] t (0, 0))) :
    ((((w.setCell ⟨g, 0, none⟩ v0).setCell ⟨g, 1, none⟩ v1).setCell ⟨g, 2, none⟩ v2).setCell ⟨g, 3, none⟩ v3).heap[g]? = some (.cells #[v0, v1, v2, v3] t (0, 0)) := by
  have h := heap_setCell_same _ g 3 _ _ v3 (heap_setCell_same _ g 2 _ _ v2 (heap_setCell_same _ g 1 _ _ v1 (heap_setCell_same w g 0 _ _ v0 h)))
  simpa using h
theorem results_row_tmp {P : Program} {fn : Func} {p u : Tmp} {ty : TypeId} (h : fn.results = #[.cell p ty, .tmp u]) (tmps : Array Value) (w : World) (g : Nat) (t : TypeId) (cs : Array Value) (fr : Nat × Nat) (d : TypeDesc)
    (hp : tmps.getD p undef = .pointer (some ⟨g, 0, none⟩)) (hg : w.heap[g]? = some (.cells cs t fr))
    (hu : P.underlying ty = some d) (hd : (match d with | .struct _ | .array _ _ => true | _ => false) = true) (hi : (P.info? ty).map (·.size) = some cs.size) :
    (results fn tmps).run P w = .ok (.tuple #[.agg cs, tmps.getD u undef]) w := by
  rw [results_cell_tmp h]
  have hp' : tmps[p]?.getD undef = .pointer (some ⟨g, 0, none⟩) := by simpa using hp
  simp [hp', asAddr, Result.andThen, run_loadVar_row w g t ty cs fr d hg hu hd hi]

def clampI (v : Int) : Int := if 9 < (if v < 0 then 0 else v) then 9 else if v < 0 then 0 else v
/-- The array behind k rounds. -/
def clampA (a b c : Int) (k : Nat) : Array Value := #[.int .i64 (if 0 < k then clampI a else a), .int .i64 (if 1 < k then clampI b else b), .int .i64 (if 2 < k then clampI c else c)]
theorem clampI_eq (v : Int) : v = clampI v ↔ 0 ≤ v ∧ v ≤ 9 := by
  unfold clampI
  repeat' split
  all_goals omega
theorem three_of {xs : List Int} (h : xs.length = 3) : ∃ a b c, xs = [a, b, c] := by
  match xs, h with
  | [a, b, c], _ => exact ⟨a, b, c, rfl⟩

end Go.Proofs.YtghekfigfjhkeabDoor.num
namespace Go.Proofs.YtghekfigfjhkeabDoor.num
open Go.RowKit
set_option linter.unusedSimpArgs false

instance (d : Int × List Int) : Decidable (IsP d) := by unfold IsP; infer_instance
def listB (xs : List Int) : ByteArray := ⟨(Lib.join (xs.map Lib.itoa) [44]).toArray⟩
/-- An item's text. -/
def textB (d : Int × List Int) : ByteArray := if IsP d then fmtB d.1 ++ ⟨#[58]⟩ ++ listB d.2 else ⟨#[]⟩
theorem textB_no {d : Int × List Int} (h : ¬ IsP d) : textB d = ⟨#[]⟩ := if_neg h
theorem textB_yes {d : Int × List Int} (h : IsP d) : textB d = fmtB d.1 ++ ⟨#[58]⟩ ++ listB d.2 := if_pos h
theorem isP_parts {id a b c : Int} (h : IsP (id, [a, b, c])) : (0 ≤ id ∧ id ≤ 99) ∧ (0 ≤ a ∧ a ≤ 9) ∧ (0 ≤ b ∧ b ≤ 9) ∧ (0 ≤ c ∧ c ≤ 9) := by
  simp only [IsP, List.mem_cons, List.not_mem_nil, or_false] at h
  exact ⟨h.2.1, h.1 a (.inl rfl), h.1 b (.inr (.inl rfl)), h.1 c (.inr (.inr rfl))⟩
theorem fmt_small (n : Int) (h0 : 0 ≤ n) (h1 : n ≤ 99) : (fmtB n).size ≤ 2 := by
  show (Lib.itoa n).toArray.size ≤ 2
  obtain ⟨u, rfl⟩ : ∃ u : Nat, n = u := ⟨n.toNat, by omega⟩
  rw [List.size_toArray]
  by_cases h : u = 0
  · subst h
    have : Lib.itoa ((0 : Nat) : Int) = [48] := by simp [Lib.itoa, Lib.decDigits]
    rw [this]; decide
  · rw [itoa_pos u (by omega)]
    exact dec0_len 2 u (by omega)
theorem list3 (a b c : Int) : listB [a, b, c] = fmtB a ++ ⟨#[44]⟩ ++ fmtB b ++ ⟨#[44]⟩ ++ fmtB c := by
  unfold listB fmtB
  rw [List.map_cons, List.map_cons, List.map_cons, List.map_nil, Lib.join_cons]
  simp [Lib.joinTail, ByteArray.mk_append_mk]
theorem listB_small {a b c : Int} (h : (0 ≤ a ∧ a ≤ 9) ∧ (0 ≤ b ∧ b ≤ 9) ∧ (0 ≤ c ∧ c ≤ 9)) : (listB [a, b, c]).size ≤ 50 := by
  rw [list3]
  have h1 := fmt_small a h.1.1 (by omega)
  have h2 := fmt_small b h.2.1.1 (by omega)
  have h3 := fmt_small c h.2.2.1 (by omega)
  simp only [ByteArray.size_append]
  have : (⟨#[44]⟩ : ByteArray).size = 1 := rfl
  omega

/-- The model's text behind k rounds. -/
def preB (a b c : Int) : Nat → ByteArray
  | 0 => ⟨#[]⟩
  | 1 => fmtB a
  | 2 => fmtB a ++ ⟨#[44]⟩ ++ fmtB b
  | _ => fmtB a ++ ⟨#[44]⟩ ++ fmtB b ++ ⟨#[44]⟩ ++ fmtB c
theorem empty_append (x : ByteArray) : (⟨#[]⟩ : ByteArray) ++ x = x := by
  obtain ⟨⟨x⟩⟩ := x
  simp [ByteArray.mk_append_mk]

theorem sList (w : World) (B : Nat) (A : Option Addr) (cc : Nat) (a b c : Int) (hi : Ints w B A 3 [a, b, c]) (hB : B ≤ w.heap.size) (h : (0 ≤ a ∧ a ≤ 9) ∧ (0 ≤ b ∧ b ≤ 9) ∧ (0 ≤ c ∧ c ≤ 9)) :
    Calls Tryd.prog 26 #[.slice A 3 cc] w fun e w' => e = .returned (.string (listB [a, b, c])) ∧ Below w.heap.size w w' := by
  have HX := Lib.hid hi
  have ka := fmt_small a h.1.1 (by omega)
  have kb := fmt_small b h.2.1.1 (by omega)
  have kc := fmt_small c h.2.2.1 (by omega)
  have H := Lib.hid h
  have HL := Lib.hid (list3 a b c)
  have hz : (⟨#[]⟩ : ByteArray).size = 0 := rfl
  have ho : (⟨#[44]⟩ : ByteArray).size = 1 := rfl
  have HZ := Lib.hid (And.intro hz ho)
  clear hi h hz ho
  go_enter Tryd.func26, Tryd.ntmps26
  go_wp2
  go_loopw [3, 4] (fun s i wr => ∃ k : Nat, k ≤ 3 ∧ i = .int .i64 k ∧ s = .string (preB a b c k) ∧ Below w.heap.size w wr) (fun _ i _ => 3 - (intOf i).toNat)
  case atStart => exact ⟨0, by decide, rfl, rfl, Below.refl _ _⟩
  case round =>
    obtain ⟨k, hk, rfl, rfl, hbel⟩ := hrel
    have HB := Lib.hid hbel
    rcases (show k = 0 ∨ k = 1 ∨ k = 2 ∨ k = 3 by omega) with rfl | rfl | rfl | rfl
    · obtain ⟨b1, off, rfl, hb1, hc⟩ := HX.out.2 0 (by decide)
      have f1 := (hbel.cell (p := ⟨b1, off + 0, none⟩) (by exact Nat.lt_of_lt_of_le hb1 hB)).trans hc
      simp only [Nat.add_zero, List.getD_cons_zero] at f1
      clear hc hbel
      unfold preB
      go_wp2_with fail
      refine (sFormat a (by have := H.out; omega) (by have := H.out; omega) _).mono ?_
      rintro e w1 ⟨rfl, hb⟩
      have HB1 := Lib.hid (HB.out.trans (hb.mono HB.out.size))
      clear hb
      go_wp2
      go_roundw
      case rel => exact ⟨1, by decide, rfl, by first | rfl | (rw [empty_append]; rfl) | (simp [preB, empty_append]), HB1.out⟩
      case measure => simp [intOf]
    · obtain ⟨b1, off, rfl, hb1, hc⟩ := HX.out.2 1 (by decide)
      have f1 := (hbel.cell (p := ⟨b1, off + 1, none⟩) (by exact Nat.lt_of_lt_of_le hb1 hB)).trans hc
      simp only [List.getD_cons_zero, List.getD_cons_succ] at f1
      clear hc hbel
      unfold preB
      go_wp2_with fail
      refine (sFormat b (by have := H.out; omega) (by have := H.out; omega) _).mono ?_
      rintro e w1 ⟨rfl, hb⟩
      have HB1 := Lib.hid (HB.out.trans (hb.mono HB.out.size))
      clear hb
      go_wp2
      go_roundw
      case rel => exact ⟨2, by decide, rfl, by first | rfl | simp [preB], HB1.out⟩
      case measure => simp [intOf]
    · obtain ⟨b1, off, rfl, hb1, hc⟩ := HX.out.2 2 (by decide)
      have f1 := (hbel.cell (p := ⟨b1, off + 2, none⟩) (by exact Nat.lt_of_lt_of_le hb1 hB)).trans hc
      simp only [List.getD_cons_zero, List.getD_cons_succ] at f1
      clear hc hbel
      unfold preB
      go_wp2_with fail
      refine (sFormat c (by have := H.out; omega) (by have := H.out; omega) _).mono ?_
      rintro e w1 ⟨rfl, hb⟩
      have HB1 := Lib.hid (HB.out.trans (hb.mono HB.out.size))
      clear hb
      go_wp2
      go_roundw
      case rel => exact ⟨3, by decide, rfl, by first | rfl | simp [preB], HB1.out⟩
      case measure => simp [intOf]
    · clear hbel
      unfold preB
      go_wp2
      go_ret
      exact ⟨by rw [HL.out]; rfl, HB.out⟩

theorem info_string : (Tryd.prog.info? 9).map (fun i => (i.zero, i.size, i.bytes)) = some (some (.string ⟨#[]⟩), 1, 16) := by kernel_rfl
theorem iJoin (w : World) (B : Nat) (A : Option Addr) (cc : Nat) (a b c : Int) (hi : Ints w B A 3 [a, b, c]) (hB : B ≤ w.heap.size) (h : (0 ≤ a ∧ a ≤ 9) ∧ (0 ≤ b ∧ b ≤ 9) ∧ (0 ≤ c ∧ c ≤ 9)) (hpow : Pow w) :
    Calls Tryd.prog 31 #[.slice A 3 cc, .string ⟨#[44]⟩, .func (.func 30) #[] #[]] w fun e w' => e = .returned (.string (listB [a, b, c])) ∧ Below w.heap.size w w' := by
  have hmk := run_make_row' (P := Tryd.prog) 39 9 (.string ⟨#[]⟩) 16 Tryd.underlying39 info_string rfl .i64 .i64 3 (by decide) (by decide)
  have hmk' : ∀ w : World, (Instr.makeSlice 39 (.int .i64 3) (.int .i64 3)).run Tryd.prog w = .ok (.slice (some ⟨w.heap.size, 0, none⟩) 3 3) (w.alloc (.cells (madeCells #[.string ⟨#[]⟩] 3) 9)) := hmk
  have HX := Lib.hid hi
  have HP := Lib.hid hpow
  have H := Lib.hid h
  clear hi hpow h hmk
  go_enter Tryd.func31, Tryd.ntmps31
  go_wp2
  clear hmk'
  go_loopw [15] (fun i wr => ∃ k : Nat, k ≤ 3 ∧ i = .int .i64 k ∧ wr.rowIs w.heap.size 9 3 (fun j => if j < k then .string (fmtB ([a, b, c].getD j 0)) else .string ⟨#[]⟩) ∧ Below w.heap.size w wr) (fun i _ => 3 - (intOf i).toNat)
  case atStart =>
    exact ⟨0, by decide, rfl, by simpa using World.rowIs_made w (.string ⟨#[]⟩) 3 9, (Below.refl _ _).alloc (Nat.le_refl _) _⟩
  case round =>
    obtain ⟨k, hk, rfl, hrow, hbel⟩ := hrel
    have HR := Lib.hid hrow
    have HB := Lib.hid hbel
    by_cases hlt : k < 3
    · obtain ⟨b1, off, rfl, hb1, hc⟩ := HX.out.2 k hlt
      have f1 := (hbel.cell (p := ⟨b1, off + k, none⟩) (by exact Nat.lt_of_lt_of_le hb1 hB)).trans hc
      obtain ⟨v, hv⟩ : ∃ v, [a, b, c].getD k 0 = v := ⟨_, rfl⟩
      rw [hv] at f1
      have hvr : 0 ≤ v ∧ v ≤ 9 := by
        have := H.out
        rcases (show k = 0 ∨ k = 1 ∨ k = 2 by omega) with rfl | rfl | rfl <;> subst hv <;> simp only [List.getD_cons_zero, List.getD_cons_succ] <;> omega
      have HV := Lib.hid hv
      have hlt' : (k : Int) < 3 := by omega
      clear hrow hbel hc hv
      go_wp2_with fail
      refine (iFormat v (by omega) (by omega) _ (HP.out.below HB.out)).mono ?_
      rintro e w1 ⟨rfl, hb⟩
      have hrow1 := rowIs_below HR.out hb (World.rowIs.lt HR.out)
      have g1 : w1.cell? ⟨w.heap.size, k, none⟩ = some (.string ⟨#[]⟩) := by rw [World.rowIs.cell hrow1 hlt, if_neg (by omega)]
      have g2 := World.rowIs.frozen hrow1 k
      have HR1 := Lib.hid hrow1
      have HB1 := Lib.hid (HB.out.trans (hb.mono HB.out.size))
      clear hb hrow1
      go_wp2
      go_roundw
      case rel =>
        refine ⟨k + 1, by omega, by go_num, (World.rowIs.set HR1.out k (.string (fmtB v))).congr (fun j _ => ?_), HB1.out.setCell (Nat.le_refl _) _⟩
        by_cases h1 : j = k
        · subst h1; rw [if_pos rfl, if_pos (by omega), HV.out]
        · by_cases h2 : j < k
          · rw [if_neg h1, if_pos h2, if_pos (by omega)]
          · rw [if_neg h1, if_neg h2, if_neg (by omega)]
      case measure => simp [intOf]; omega
    · obtain rfl : k = 3 := by omega
      have hcells : ∀ (j : Nat) x, [fmtB a, fmtB b, fmtB c][j]? = some x → wr.cell? ⟨w.heap.size, 0 + j, none⟩ = some (.string x) := by
        intro j x hx
        have hj : j < 3 := by
          rcases Nat.lt_or_ge j 3 with h' | h'
          · exact h'
          · rw [List.getElem?_eq_none (by simpa using h')] at hx; cases hx
        rw [Nat.zero_add, World.rowIs.cell hrow hj, if_pos hj]
        rcases (show j = 0 ∨ j = 1 ∨ j = 2 by omega) with rfl | rfl | rfl <;> simp at hx <;> subst hx <;> rfl
      have HC := Lib.hid hcells
      have HLt := Lib.hid (World.rowIs.lt hrow)
      have HE : Hid ((⟨(Lib.join ([fmtB a, fmtB b, fmtB c].map (·.data.toList)) (⟨#[44]⟩ : ByteArray).data.toList).toArray⟩ : ByteArray) = listB [a, b, c]) := Lib.hid rfl
      have HS : Hid ((Lib.join ([fmtB a, fmtB b, fmtB c].map (·.data.toList)) (⟨#[44]⟩ : ByteArray).data.toList).length ≤ 140737488355328) := Lib.hid (by
        have h1 := listB_small H.out
        have h2 : (listB [a, b, c]).size = (Lib.join ([fmtB a, fmtB b, fmtB c].map (·.data.toList)) (⟨#[44]⟩ : ByteArray).data.toList).length := by simp [listB, fmtB, ByteArray.size]
        omega)
      clear hrow hbel hcells
      go_wp2_with fail
      refine (Tryd.strings_Join w.heap.size 0 3 [fmtB a, fmtB b, fmtB c] ⟨#[44]⟩ wr HC.out HLt.out (by simp) (by simp) HS.out).mono ?_
      rintro e w1 ⟨rfl, hb⟩
      have HB1 := Lib.hid (HB.out.trans (hb.mono HB.out.size))
      clear hb
      go_wp2
      go_ret
      exact ⟨by rw [← HE.out]; rfl, HB1.out⟩

end Go.Proofs.YtghekfigfjhkeabDoor.num
namespace Go.Proofs.YtghekfigfjhkeabDoor.num
open Go.RowKit
set_option linter.unusedVariables false

/-- The pieces between the separators. -/
def pieces (c : UInt8) : List UInt8 → List (List UInt8)
  | [] => [[]]
  | x :: r => if x = c then [] :: pieces c r else match pieces c r with
    | [] => [[x]]
    | h :: t => (x :: h) :: t
theorem pieces_ne (c : UInt8) (l : List UInt8) : ∃ h t, pieces c l = h :: t := by
  cases l with
  | nil => exact ⟨[], [], rfl⟩
  | cons x r =>
    unfold pieces
    split
    · exact ⟨_, _, rfl⟩
    · split <;> exact ⟨_, _, rfl⟩
theorem pieces_hit (c : UInt8) (r : List UInt8) : pieces c (c :: r) = [] :: pieces c r := by rw [pieces, if_pos rfl]
theorem pieces_miss {c x : UInt8} {r h : List UInt8} {t : List (List UInt8)} (hx : x ≠ c) (hr : pieces c r = h :: t) : pieces c (x :: r) = (x :: h) :: t := by
  rw [pieces, if_neg hx, hr]
theorem pieces_snoc (c x : UInt8) : ∀ (l : List UInt8) (o : List (List UInt8)) (p : List UInt8), pieces c l = o ++ [p] → pieces c (l ++ [x]) = if x = c then o ++ [p] ++ [[]] else o ++ [p ++ [x]] := by
  intro l
  induction l with
  | nil =>
    intro o p h
    have h' : ([[]] : List (List UInt8)) = o ++ [p] := h
    have ho : o = [] := by
      cases o with
      | nil => rfl
      | cons a o => simp at h'
    subst ho
    have hp : p = [] := by simpa using h'.symm
    subst hp
    by_cases e : x = c
    · subst e; rw [if_pos rfl]; simp [pieces]
    · rw [if_neg e]; simp [pieces, e]
  | cons b l ih =>
    intro o p h
    by_cases hb : b = c
    · subst hb
      rw [pieces_hit] at h
      cases o with
      | nil =>
        have : pieces b l = [] := by simpa using (List.cons.inj h).2
        obtain ⟨h1, t1, e⟩ := pieces_ne b l
        rw [e] at this; cases this
      | cons a o =>
        obtain ⟨e1, e2⟩ := List.cons.inj h
        rw [List.cons_append, pieces_hit, ih o p e2, ← e1]
        split <;> simp
    · obtain ⟨h1, t1, e⟩ := pieces_ne c l
      rw [pieces_miss hb e] at h
      cases o with
      | nil =>
        obtain ⟨e1, e2⟩ := List.cons.inj h
        have e' : pieces c l = [] ++ [h1] := by rw [e, e2]; rfl
        have := ih [] h1 e'
        rw [List.cons_append]
        by_cases hx : x = c
        · rw [if_pos hx] at this ⊢
          rw [pieces_miss hb this, ← e1]; rfl
        · rw [if_neg hx] at this ⊢
          rw [pieces_miss hb this, ← e1]; rfl
      | cons a o =>
        obtain ⟨e1, e2⟩ := List.cons.inj h
        have e' : pieces c l = (h1 :: o) ++ [p] := by rw [e, e2]; rfl
        have := ih (h1 :: o) p e'
        rw [List.cons_append]
        by_cases hx : x = c
        · rw [if_pos hx] at this ⊢
          rw [pieces_miss hb this, ← e1]; rfl
        · rw [if_neg hx] at this ⊢
          rw [pieces_miss hb this, ← e1]; rfl
theorem pieces_none {c : UInt8} : ∀ {l : List UInt8}, (∀ x ∈ l, x ≠ c) → pieces c l = [l]
  | [], _ => rfl
  | x :: r, h => pieces_miss (h x List.mem_cons_self) (pieces_none fun y hy => h y (List.mem_cons_of_mem _ hy))
theorem pieces_app {c : UInt8} {r : List UInt8} : ∀ {a : List UInt8}, (∀ x ∈ a, x ≠ c) → pieces c (a ++ c :: r) = a :: pieces c r
  | [], _ => pieces_hit c r
  | x :: a, h => pieces_miss (h x List.mem_cons_self) (pieces_app fun y hy => h y (List.mem_cons_of_mem _ hy))
theorem join_cons2 (a b : List UInt8) (t : List (List UInt8)) (c : UInt8) : Lib.join (a :: b :: t) [c] = a ++ c :: Lib.join (b :: t) [c] := by
  rw [Lib.join_cons, Lib.join_cons]
  simp [Lib.joinTail]
theorem join_pieces (c : UInt8) : ∀ l : List UInt8, Lib.join (pieces c l) [c] = l
  | [] => by simp [pieces, Lib.join_one]
  | x :: r => by
    have ih := join_pieces c r
    obtain ⟨h, t, e⟩ := pieces_ne c r
    by_cases hx : x = c
    · subst hx
      rw [pieces_hit, e, join_cons2, ← e, ih]; rfl
    · rw [pieces_miss hx e]
      rw [e] at ih
      rw [← ih, Lib.join_cons, Lib.join_cons]; rfl
theorem pieces_len (c : UInt8) : ∀ l : List UInt8, ((pieces c l).map List.length).sum + (pieces c l).length = l.length + 1
  | [] => rfl
  | x :: r => by
    have ih := pieces_len c r
    obtain ⟨h, t, e⟩ := pieces_ne c r
    by_cases hx : x = c
    · subst hx
      rw [pieces_hit]
      simp only [List.map_cons, List.sum_cons, List.length_cons, List.length_nil]
      omega
    · rw [pieces_miss hx e]
      rw [e] at ih
      simp only [List.map_cons, List.sum_cons, List.length_cons] at ih ⊢
      omega
/-- The library's pieces are these. -/
theorem split_pieces (c : UInt8) : ∀ l : List UInt8, Lib.splitK [c] 0 (l.count c) l = pieces c l
  | [] => rfl
  | b :: l => by
    have ih := split_pieces c l
    obtain ⟨h, t, e⟩ := pieces_ne c l
    by_cases hb : b = c
    · subst hb
      have hix : Lib.index (b :: l) [b] = ((0 : Nat) : Int) := by rw [Lib.index]; simp [List.isPrefixOf]
      rw [pieces_hit, List.count_cons_self, Lib.splitK, if_neg (by rw [hix]; decide), hix]
      simp [ih]
    · have hix : Lib.index (b :: l) [c] = if Lib.index l [c] == -1 then -1 else Lib.index l [c] + 1 := by
        have hp : ([c] : List UInt8).isPrefixOf (b :: l) = false := by simp [List.isPrefixOf, Ne.symm hb]
        rw [Lib.index, hp]; simp
      rw [List.count_cons_of_ne hb, pieces_miss hb e]
      rw [e] at ih
      cases hk : l.count c with
      | zero =>
        rw [hk] at ih
        have : [l] = h :: t := ih
        obtain ⟨e1, e2⟩ := List.cons.inj this
        rw [Lib.splitK, ← e1, ← e2]
      | succ k =>
        rw [hk] at ih
        have hge := Lib.index_ge l [c]
        by_cases hm : Lib.index l [c] = -1
        · rw [Lib.splitK, if_pos (by rw [hm]; rfl)] at ih
          obtain ⟨e1, e2⟩ := List.cons.inj ih
          rw [Lib.splitK, if_pos (by rw [hix, hm]; rfl), ← e1, ← e2]
        · obtain ⟨j, hj⟩ : ∃ j : Nat, Lib.index l [c] = j := ⟨(Lib.index l [c]).toNat, by omega⟩
          have hix' : Lib.index (b :: l) [c] = ((j + 1 : Nat) : Int) := by rw [hix, if_neg (fun e => hm (beq_iff_eq.1 e)), hj]; omega
          rw [Lib.splitK, if_neg (fun e => hm (beq_iff_eq.1 e)), hj] at ih
          rw [Lib.splitK, if_neg (fun e => by have := beq_iff_eq.1 e; omega), hix']
          simp only [Int.toNat_natCast, Nat.add_zero, List.length_cons, List.length_nil, List.take_succ_cons, List.drop_succ_cons] at ih ⊢
          obtain ⟨e1, e2⟩ := List.cons.inj ih
          rw [← e1, ← e2]
theorem splitB_pieces (c : UInt8) (s : ByteArray) : (Lib.splitB ⟨#[c]⟩ 0 (Lib.countB s ⟨#[c]⟩) s).map (·.data.toList) = pieces c s.data.toList := by
  rw [Lib.splitB_data]
  show Lib.splitK [c] 0 (Lib.count s.data.toList [c]) s.data.toList = _
  rw [Lib.count_one, split_pieces]
theorem cut_cons (c b : UInt8) (l : List UInt8) : Lib.cut (b :: l) [c] = if b = c then ([], l, true) else if (Lib.cut l [c]).2.2 then (b :: (Lib.cut l [c]).1, (Lib.cut l [c]).2.1, true) else (b :: l, [], false) := by
  by_cases hb : b = c
  · subst hb
    have hix : Lib.index (b :: l) [b] = ((0 : Nat) : Int) := by rw [Lib.index]; simp [List.isPrefixOf]
    rw [if_pos rfl, Lib.cut, if_pos (by omega), hix]; simp
  · have hix : Lib.index (b :: l) [c] = if Lib.index l [c] == -1 then -1 else Lib.index l [c] + 1 := by
      have hp : ([c] : List UInt8).isPrefixOf (b :: l) = false := by simp [List.isPrefixOf, Ne.symm hb]
      rw [Lib.index, hp]; simp
    rw [if_neg hb]
    have hge := Lib.index_ge l [c]
    by_cases hm : Lib.index l [c] = -1
    · have h1 : Lib.cut l [c] = (l, [], false) := by rw [Lib.cut, if_neg (by omega)]
      rw [h1, if_neg (by simp), Lib.cut, hix, hm]; simp
    · obtain ⟨j, hj⟩ : ∃ j : Nat, Lib.index l [c] = j := ⟨(Lib.index l [c]).toNat, by omega⟩
      have h1 : Lib.cut l [c] = (l.take j, l.drop (j + 1), true) := by rw [Lib.cut, if_pos (by omega), hj]; simp
      have hix' : Lib.index (b :: l) [c] = ((j + 1 : Nat) : Int) := by rw [hix, if_neg (fun e => hm (beq_iff_eq.1 e)), hj]; omega
      rw [h1, if_pos rfl, Lib.cut, hix', if_pos (by omega)]; simp
theorem cut_app {c : UInt8} {r : List UInt8} : ∀ {a : List UInt8}, (∀ x ∈ a, x ≠ c) → Lib.cut (a ++ c :: r) [c] = (a, r, true)
  | [], _ => by rw [List.nil_append, cut_cons, if_pos rfl]
  | x :: a, h => by rw [List.cons_append, cut_cons, if_neg (h x List.mem_cons_self), cut_app (fun y hy => h y (List.mem_cons_of_mem _ hy))]; rfl
theorem cut_back (c : UInt8) : ∀ l : List UInt8, ((Lib.cut l [c]).2.2 = true ∧ l = (Lib.cut l [c]).1 ++ c :: (Lib.cut l [c]).2.1) ∨ ((Lib.cut l [c]).2.2 = false ∧ (Lib.cut l [c]).2.1 = [])
  | [] => .inr (by simp [Lib.cut, Lib.index])
  | b :: l => by
    rw [cut_cons]
    by_cases hb : b = c
    · rw [if_pos hb]; exact .inl ⟨rfl, by rw [hb]; rfl⟩
    · rw [if_neg hb]
      rcases cut_back c l with ⟨h1, h2⟩ | ⟨h1, h2⟩
      · rw [h1, if_pos rfl]
        refine .inl ⟨rfl, ?_⟩
        show b :: l = b :: (Lib.cut l [c]).1 ++ c :: (Lib.cut l [c]).2.1
        rw [List.cons_append, ← h2]
      · rw [h1, if_neg (by simp)]
        exact .inr ⟨rfl, rfl⟩

theorem itoa_nat (m : Int) (h : 0 ≤ m) : Lib.itoa m = Lib.decDigits m.natAbs := by
  have h1 := dgs_itoa m
  have h2 := dash_itoa m
  unfold dgs at h1
  rw [h2, if_neg (by simp; omega)] at h1
  exact h1
theorem itoa_digits {m : Int} (h : 0 ≤ m) : ∀ x ∈ Lib.itoa m, 48 ≤ x.toNat ∧ x.toNat ≤ 57 := fun x hx => by
  rw [itoa_nat m h] at hx
  have := List.all_eq_true.1 (dec_all m.natAbs) x hx
  exact of_decide_eq_true this
theorem itoa_not {m : Int} (h : 0 ≤ m) (c : UInt8) (hc : c.toNat < 48 ∨ 57 < c.toNat) : ∀ x ∈ Lib.itoa m, x ≠ c := fun x hx e => by
  have := itoa_digits h x hx
  subst e; omega
theorem ok_itoa {m : Int} (h0 : 0 ≤ m) (h1 : m ≤ 99) : pOk (Lib.itoa m) = true ∧ pVal (Lib.itoa m) = m := by
  have h := pOk_itoa m
  have ho : pOk (Lib.itoa m) = true := by rw [h.1]; exact decide_eq_true (by omega)
  exact ⟨ho, h.2 ho⟩
theorem ok_back {l : List UInt8} (h : pOk l = true) : Lib.itoa (pVal l) = l := by
  have h' := of_decide_eq_true (p := (dgs l).length ≤ 9 ∧ (dgs l).all isD = true ∧ Lib.itoa (signed l (scanV (dgs l))) = l) h
  rw [pVal, if_pos h]
  exact h'.2.2
theorem ok_nil : pOk [] = false := by
  cases h : pOk [] with
  | false => rfl
  | true =>
    have h1 := ok_back h
    have h2 : Lib.itoa (pVal []) ≠ [] := by
      have h3 : pVal [] = 0 := by rw [pVal, if_pos h]; rfl
      rw [h3]
      simp [Lib.itoa, Lib.decDigits]
    exact absurd h1 h2
/-- An item's text, as bytes. -/
def textL (d : Int × List Int) : List UInt8 := Lib.itoa d.1 ++ 58 :: Lib.join (d.2.map Lib.itoa) [44]
theorem textB_list {d : Int × List Int} (h : IsP d) : (textB d).data.toList = textL d := by
  rw [textB_yes h]
  unfold textL listB fmtB
  simp [ByteArray.mk_append_mk]
/-- Read back of an item's own text. -/
theorem parts {d : Int × List Int} (h : IsP d) : pieces 58 (textL d) = [Lib.itoa d.1, Lib.join (d.2.map Lib.itoa) [44]] ∧ Lib.cut (textL d) [58] = (Lib.itoa d.1, Lib.join (d.2.map Lib.itoa) [44], true) ∧ pieces 44 (Lib.join (d.2.map Lib.itoa) [44]) = d.2.map Lib.itoa := by
  obtain ⟨id, xs⟩ := d
  obtain ⟨a, b, c, rfl⟩ := three_of h.2.2
  obtain ⟨⟨h1, h2⟩, ⟨ha, _⟩, ⟨hb, _⟩, ⟨hc, _⟩⟩ := isP_parts h
  have e : Lib.join ([a, b, c].map Lib.itoa) [44] = Lib.itoa a ++ 44 :: (Lib.itoa b ++ 44 :: Lib.itoa c) := by
    rw [List.map_cons, List.map_cons, List.map_cons, List.map_nil, join_cons2, join_cons2, Lib.join_one]
  have n58 : ∀ x ∈ Lib.join ([a, b, c].map Lib.itoa) [44], x ≠ 58 := by
    rw [e]
    intro x hx
    simp only [List.mem_append, List.mem_cons] at hx
    rcases hx with hx | rfl | hx | rfl | hx
    · exact itoa_not ha 58 (by decide) x hx
    · decide
    · exact itoa_not hb 58 (by decide) x hx
    · decide
    · exact itoa_not hc 58 (by decide) x hx
  refine ⟨?_, cut_app (itoa_not h1 58 (by decide)), ?_⟩
  · unfold textL
    rw [pieces_app (itoa_not h1 58 (by decide)), pieces_none n58]
  · rw [e, pieces_app (itoa_not ha 44 (by decide)), pieces_app (itoa_not hb 44 (by decide)), pieces_none (itoa_not hc 44 (by decide))]; rfl
def numS (l : List UInt8) : Int := if pOk l then pVal l else -100000
theorem numS_itoa {m : Int} (h0 : 0 ≤ m) (h1 : m ≤ 99) : numS (Lib.itoa m) = m := by
  unfold numS; rw [if_pos (ok_itoa h0 h1).1, (ok_itoa h0 h1).2]
/-- What the model makes of a text. -/
def specD (s : List UInt8) : Int × List Int := (numS ((pieces 58 s).getD 0 []), if (pieces 58 s).length = 2 then (pieces 44 ((pieces 58 s).getD 1 [])).map numS else [])
theorem specD_text {d : Int × List Int} (h : IsP d) : specD (textL d) = d := by
  obtain ⟨h1, _, h3⟩ := parts h
  unfold specD
  rw [h1]
  obtain ⟨id, xs⟩ := d
  obtain ⟨a, b, c, rfl⟩ := three_of h.2.2
  obtain ⟨⟨i1, i2⟩, ⟨ha, ha'⟩, ⟨hb, hb'⟩, ⟨hc, hc'⟩⟩ := isP_parts h
  simp only [List.getD_cons_zero, List.getD_cons_succ, List.length_cons, List.length_nil]
  rw [if_pos trivial, h3]
  simp only [List.map_cons, List.map_nil]
  rw [numS_itoa i1 i2, numS_itoa ha (by omega), numS_itoa hb (by omega), numS_itoa hc (by omega)]
/-- What both functions answer at the text s. -/
def Parsed (s : List UInt8) (d : Int × List Int) (ok : Bool) : Prop := (ok = true ∧ IsP d ∧ textL d = s) ∨ (ok = false ∧ d = (0, []) ∧ ∀ d', IsP d' → textL d' ≠ s)
theorem Parsed.one {s : List UInt8} {d d' : Int × List Int} {ok ok' : Bool} (h : Parsed s d ok) (g : Parsed s d' ok') : d = d' ∧ ok = ok' := by
  rcases h with ⟨rfl, h1, h2⟩ | ⟨rfl, rfl, h2⟩ <;> rcases g with ⟨rfl, g1, g2⟩ | ⟨rfl, rfl, g2⟩
  · exact ⟨by rw [← specD_text h1, ← specD_text g1, h2, g2], rfl⟩
  · exact absurd h2 (g2 d h1)
  · exact absurd g2 (h2 d' g1)
  · exact ⟨rfl, rfl⟩
theorem bytes_ext {a b : ByteArray} (h : a.data.toList = b.data.toList) : a = b := by
  obtain ⟨⟨x⟩⟩ := a
  obtain ⟨⟨y⟩⟩ := b
  have : x = y := h
  rw [this]
theorem parsed_spec_yes {s : ByteArray} (h0 : s.data.toList ≠ []) (h : textB (specD s.data.toList) = s) : Parsed s.data.toList (specD s.data.toList) true := by
  by_cases hp : IsP (specD s.data.toList)
  · exact .inl ⟨rfl, hp, by rw [← textB_list hp, h]⟩
  · rw [textB_no hp] at h
    exact absurd (by rw [← h]) h0
theorem parsed_spec_no {s : ByteArray} (h : s.data.toList = [] ∨ textB (specD s.data.toList) ≠ s) : Parsed s.data.toList (0, []) false := by
  refine .inr ⟨rfl, rfl, fun d hd e => ?_⟩
  rcases h with h | h
  · rw [h] at e
    unfold textL at e
    simp at e
  · apply h
    rw [← e, specD_text hd]
    have h1 := textB_list hd
    rw [e] at h1
    exact bytes_ext h1
def allOk (l : List (List UInt8)) : Bool := l.all pOk
theorem parsed_impl_yes {s : List UInt8} {d : Int × List Int} (h1 : pOk (Lib.cut s [58]).1 = true) (h2 : allOk (pieces 44 (Lib.cut s [58]).2.1) = true) (hd : d = (pVal (Lib.cut s [58]).1, (pieces 44 (Lib.cut s [58]).2.1).map pVal)) (hp : IsP d) : Parsed s d true := by
  rcases cut_back 58 s with ⟨_, e⟩ | ⟨_, e⟩
  · refine .inl ⟨rfl, hp, ?_⟩
    rw [e]
    unfold textL
    rw [hd, ok_back h1]
    have hm : ((pieces 44 (Lib.cut s [58]).2.1).map pVal).map Lib.itoa = pieces 44 (Lib.cut s [58]).2.1 := by
      rw [List.map_map]
      conv => rhs; rw [← List.map_id (pieces 44 (Lib.cut s [58]).2.1)]
      exact List.map_congr_left fun x hx => ok_back (List.all_eq_true.1 h2 x hx)
    show (Lib.cut s [58]).1 ++ 58 :: Lib.join (((pieces 44 (Lib.cut s [58]).2.1).map pVal).map Lib.itoa) [44] = _
    rw [hm, join_pieces, ← e]
  · rw [e] at h2
    have : pOk [] = true := List.all_eq_true.1 h2 [] (by simp [pieces])
    rw [ok_nil] at this; cases this
theorem parsed_impl_no {s : List UInt8} (h : ¬ (pOk (Lib.cut s [58]).1 = true ∧ allOk (pieces 44 (Lib.cut s [58]).2.1) = true ∧ IsP (pVal (Lib.cut s [58]).1, (pieces 44 (Lib.cut s [58]).2.1).map pVal))) : Parsed s (0, []) false := by
  refine .inr ⟨rfl, rfl, fun d hd e => h ?_⟩
  obtain ⟨_, h2, h3⟩ := parts hd
  rw [← e, h2]
  obtain ⟨id, xs⟩ := d
  obtain ⟨a, b, c, rfl⟩ := three_of hd.2.2
  obtain ⟨⟨i1, i2⟩, ⟨ha, ha'⟩, ⟨hb, hb'⟩, ⟨hc, hc'⟩⟩ := isP_parts hd
  have oi := ok_itoa i1 i2
  have oa := ok_itoa ha (by omega)
  have ob := ok_itoa hb (by omega)
  have oc := ok_itoa hc (by omega)
  show pOk (Lib.itoa id) = true ∧ allOk (pieces 44 (Lib.join ([a, b, c].map Lib.itoa) [44])) = true ∧ IsP (pVal (Lib.itoa id), (pieces 44 (Lib.join ([a, b, c].map Lib.itoa) [44])).map pVal)
  rw [h3, oi.2]
  simp only [List.map_cons, List.map_nil]
  rw [oa.2, ob.2, oc.2]
  refine ⟨oi.1, ?_, hd⟩
  simp [allOk, oa.1, ob.1, oc.1]
end Go.Proofs.YtghekfigfjhkeabDoor.num
namespace Go.Proofs.YtghekfigfjhkeabDoor.num
open Go.RowKit
set_option linter.unusedVariables false
set_option linter.unusedSimpArgs false

def pairT (p : Int × Int) : List UInt8 := Lib.itoa p.1 ++ 62 :: Lib.itoa p.2
def noneT : List UInt8 := [110, 111, 110, 101]
def pairsT (ps : List (Int × Int)) : List UInt8 := if ps = [] then noneT else Lib.join (ps.map pairT) [44]
/-- What FormatPairs answers. -/
def fmtP (ps : List (Int × Int)) (q : Bool) : ByteArray := if q then ⟨(pairsT ps).toArray⟩ else ⟨#[]⟩
theorem inR2 {n : Int} (h : InR n) : 0 ≤ n ∧ n ≤ 99 := by unfold InR at h; omega
theorem itoa_small {n : Int} (h : InR n) : (Lib.itoa n).length ≤ 2 := by
  have := fmt_small n (inR2 h).1 (inR2 h).2
  simpa [fmtB, ByteArray.size] using this
theorem pairT_len {p : Int × Int} (h : InR p.1 ∧ InR p.2) : (pairT p).length ≤ 5 := by
  have h1 := itoa_small h.1
  have h2 := itoa_small h.2
  simp only [pairT, List.length_append, List.length_cons]
  omega
theorem pieces62 {p : Int × Int} (h : InR p.1 ∧ InR p.2) : pieces 62 (pairT p) = [Lib.itoa p.1, Lib.itoa p.2] := by
  unfold pairT
  rw [pieces_app (itoa_not h.1.1 62 (by decide)), pieces_none (itoa_not h.2.1 62 (by decide))]
theorem cut62 {p : Int × Int} (h : InR p.1 ∧ InR p.2) : Lib.cut (pairT p) [62] = (Lib.itoa p.1, Lib.itoa p.2, true) := cut_app (itoa_not h.1.1 62 (by decide))
theorem pairT_not {p : Int × Int} (h : InR p.1 ∧ InR p.2) : ∀ x ∈ pairT p, x ≠ 44 := fun x hx => by
  unfold pairT at hx
  rcases List.mem_append.1 hx with hx | hx
  · exact itoa_not h.1.1 44 (by decide) x hx
  · rcases List.mem_cons.1 hx with rfl | hx
    · decide
    · exact itoa_not h.2.1 44 (by decide) x hx
theorem pieces44 : ∀ {ps : List (Int × Int)}, ps ≠ [] → (∀ p, p ∈ ps → InR p.1 ∧ InR p.2) → pieces 44 (Lib.join (ps.map pairT) [44]) = ps.map pairT
  | [], h, _ => absurd rfl h
  | [p], _, h => by
    rw [List.map_cons, List.map_nil, Lib.join_one]
    exact pieces_none (pairT_not (h p (by simp)))
  | p :: p' :: r, _, h => by
    have ih := pieces44 (ps := p' :: r) (by simp) fun x hx => h x (List.mem_cons_of_mem _ hx)
    rw [List.map_cons] at ih
    rw [List.map_cons, List.map_cons, join_cons2, pieces_app (pairT_not (h p (by simp))), ih]
theorem pairsT_pieces {ps : List (Int × Int)} (hn : ps ≠ []) (h : ∀ p, p ∈ ps → InR p.1 ∧ InR p.2) : pieces 44 (pairsT ps) = ps.map pairT := by
  unfold pairsT
  rw [if_neg hn]
  exact pieces44 hn h
theorem join_snoc (a : List UInt8) (c : UInt8) : ∀ l : List (List UInt8), l ≠ [] → Lib.join (l ++ [a]) [c] = Lib.join l [c] ++ c :: a
  | [], h => absurd rfl h
  | [b], _ => by
    show Lib.join (b :: a :: []) [c] = _
    rw [join_cons2, Lib.join_one, Lib.join_one]
  | b :: d :: r, _ => by
    have ih := join_snoc a c (d :: r) (by simp)
    show Lib.join (b :: d :: (r ++ [a])) [c] = _
    rw [join_cons2, join_cons2]
    rw [List.cons_append] at ih
    rw [ih]
    simp

/-! ### the model's text, pair by pair -/
def preP (ps : List (Int × Int)) (k : Nat) : ByteArray := ⟨(Lib.join ((ps.take k).map pairT) [44]).toArray⟩
theorem preP_zero (ps : List (Int × Int)) : preP ps 0 = ⟨#[]⟩ := rfl
theorem preP_list (ps : List (Int × Int)) (k : Nat) : (preP ps k).data.toList = Lib.join ((ps.take k).map pairT) [44] := rfl
theorem preP_one {ps : List (Int × Int)} {x y : Int} (h : ps[0]? = some (x, y)) : ((⟨#[]⟩ : ByteArray) ++ fmtB x ++ ⟨#[62]⟩ ++ fmtB y) = preP ps 1 := by
  apply bytes_ext
  rw [preP_list, ptake_at (k := 0) h]
  simp [Lib.join_one, pairT, fmtB, ByteArray.data_append]
theorem preP_step {ps : List (Int × Int)} {k : Nat} {x y : Int} (hk : 0 < k) (h : ps[k]? = some (x, y)) : (preP ps k ++ ⟨#[44]⟩ ++ fmtB x ++ ⟨#[62]⟩ ++ fmtB y) = preP ps (k + 1) := by
  have hlt : k < ps.length := by
    rcases Nat.lt_or_ge k ps.length with h' | h'
    · exact h'
    · rw [List.getElem?_eq_none h'] at h; cases h
  apply bytes_ext
  rw [preP_list, ptake_at h, List.map_append, List.map_cons, List.map_nil, join_snoc _ _ _ (by
    intro e
    have := congrArg List.length e
    rw [List.length_map, List.length_take, List.length_nil] at this
    omega)]
  simp [preP_list, pairT, fmtB, ByteArray.data_append]
theorem join_le {m : Nat} (c : UInt8) : ∀ l : List (List UInt8), (∀ x, x ∈ l → x.length ≤ m) → (Lib.join l [c]).length ≤ (m + 1) * l.length
  | [], _ => by simp [Lib.join_nil]
  | [a], h => by
    rw [Lib.join_one]
    have := h a (by simp)
    simp only [List.length_cons, List.length_nil]
    omega
  | a :: b :: r, h => by
    have ih := join_le c (b :: r) fun x hx => h x (List.mem_cons_of_mem _ hx)
    have := h a (by simp)
    rw [join_cons2, List.length_append, List.length_cons]
    simp only [List.length_cons] at ih ⊢
    have hm : (m + 1) * (r.length + 1 + 1) = (m + 1) * (r.length + 1) + (m + 1) := Nat.mul_succ _ _
    omega
theorem preP_small {ps : List (Int × Int)} (h : ∀ p, p ∈ ps → InR p.1 ∧ InR p.2) (k : Nat) : (preP ps k).size ≤ 6 * k := by
  have h1 := join_le (m := 5) 44 ((ps.take k).map pairT) fun x hx => by
    obtain ⟨p, hp, rfl⟩ := List.mem_map.1 hx
    exact pairT_len (h p (List.mem_of_mem_take hp))
  have h2 : (preP ps k).size = (Lib.join ((ps.take k).map pairT) [44]).length := by simp [preP, ByteArray.size]
  rw [List.length_map, List.length_take] at h1
  omega
theorem join_ne {ps : List (Int × Int)} (hn : ps ≠ []) : Lib.join (ps.map pairT) [44] ≠ [] := by
  obtain ⟨p, r, rfl⟩ := List.exists_cons_of_ne_nil hn
  intro e
  have := congrArg List.length e
  rw [List.map_cons, Lib.join_cons] at this
  simp [pairT] at this
theorem preP_all {ps : List (Int × Int)} {n : Nat} (hl : ps.length = n) (hn : ps ≠ []) : preP ps n = fmtP ps true ∧ (fmtP ps true).toList.isEmpty = false ∧ ((fmtP ps true).toList == []) = false := by
  have he : preP ps n = ⟨(Lib.join (ps.map pairT) [44]).toArray⟩ := by unfold preP; rw [ptake_all hl]
  have hf : fmtP ps true = ⟨(Lib.join (ps.map pairT) [44]).toArray⟩ := by unfold fmtP pairsT; rw [if_pos rfl, if_neg hn]
  have hd : (fmtP ps true).toList = Lib.join (ps.map pairT) [44] := by rw [hf, ByteArray.toList_eq]
  have hne := join_ne hn
  refine ⟨he.trans hf.symm, ?_, ?_⟩
  · rw [hd]
    cases e : Lib.join (ps.map pairT) [44] with
    | nil => exact absurd e hne
    | cons a r => rfl
  · rw [hd, beq_eq_false_iff_ne]
    exact hne

/-! ### reading back -/
def ParsedP (s : List UInt8) (ps : List (Int × Int)) (ok : Bool) : Prop := (ok = true ∧ OkP ps ∧ pairsT ps = s) ∨ (ok = false ∧ ps = [] ∧ ∀ ps', OkP ps' → pairsT ps' ≠ s)
theorem pieces_noneT : pieces 44 noneT = [noneT] := pieces_none (by decide)
theorem pairsT_ne {ps : List (Int × Int)} (hn : ps ≠ []) (h : ∀ p, p ∈ ps → InR p.1 ∧ InR p.2) : pairsT ps ≠ noneT := fun e => by
  have h1 := pairsT_pieces hn h
  rw [e, pieces_noneT] at h1
  obtain ⟨p, r, rfl⟩ := List.exists_cons_of_ne_nil hn
  rw [List.map_cons] at h1
  have h2 : noneT = pairT p := (List.cons.inj h1).1
  have h3 := pieces62 (h p (by simp))
  rw [← h2, show pieces 62 noneT = [noneT] from pieces_none (by decide)] at h3
  have := congrArg List.length h3
  simp at this
def numP (c : List UInt8) : Int × Int := (numS ((pieces 62 c).getD 0 []), numS ((pieces 62 c).getD 1 []))
theorem numP_pairT {p : Int × Int} (h : InR p.1 ∧ InR p.2) : numP (pairT p) = p := by
  unfold numP
  rw [pieces62 h]
  simp only [List.getD_cons_zero, List.getD_cons_succ]
  rw [numS_itoa (inR2 h.1).1 (inR2 h.1).2, numS_itoa (inR2 h.2).1 (inR2 h.2).2]
theorem map_back {f : List UInt8 → Int × Int} {ps : List (Int × Int)} (h : ∀ p, p ∈ ps → f (pairT p) = p) : (ps.map pairT).map f = ps := by
  rw [List.map_map]
  have : ∀ l : List (Int × Int), (∀ p, p ∈ l → f (pairT p) = p) → l.map (f ∘ pairT) = l := by
    intro l
    induction l with
    | nil => intro _; rfl
    | cons a r ih =>
      intro h
      rw [List.map_cons, ih fun x hx => h x (List.mem_cons_of_mem _ hx)]
      show f (pairT a) :: r = _
      rw [h a (by simp)]
  exact this ps h
theorem pairsT_inj {ps ps' : List (Int × Int)} (h : OkP ps) (h' : OkP ps') (e : pairsT ps = pairsT ps') : ps = ps' := by
  by_cases hn : ps = []
  · subst hn
    by_cases hn' : ps' = []
    · exact hn'.symm
    · exact absurd e.symm (pairsT_ne hn' h'.1.rng)
  · by_cases hn' : ps' = []
    · subst hn'
      exact absurd e (pairsT_ne hn h.1.rng)
    · have h1 := pairsT_pieces hn h.1.rng
      have h2 := pairsT_pieces hn' h'.1.rng
      rw [e, h2] at h1
      have h3 := congrArg (List.map numP) h1
      rw [map_back fun p hp => numP_pairT (h'.1.rng p hp), map_back fun p hp => numP_pairT (h.1.rng p hp)] at h3
      exact h3.symm
theorem ParsedP.one {s : List UInt8} {ps ps' : List (Int × Int)} {ok ok' : Bool} (h : ParsedP s ps ok) (h' : ParsedP s ps' ok') : ps = ps' ∧ ok = ok' := by
  rcases h with ⟨rfl, h1, h2⟩ | ⟨rfl, rfl, h2⟩ <;> rcases h' with ⟨rfl, g1, g2⟩ | ⟨rfl, rfl, g2⟩
  · exact ⟨pairsT_inj h1 g1 (h2.trans g2.symm), rfl⟩
  · exact absurd h2 (g2 _ h1)
  · exact absurd g2 (h2 _ g1)
  · exact ⟨rfl, rfl⟩
theorem ParsedP.len {s : List UInt8} {ps : List (Int × Int)} {ok : Bool} (h : ParsedP s ps ok) : ps.length ≤ 8 := by
  rcases h with ⟨_, h, _⟩ | ⟨_, rfl, _⟩
  · exact h.2
  · simp
theorem ok_nilP : OkP [] := ⟨Good.nil, by simp⟩
theorem parsedP_none : ParsedP noneT [] true := .inl ⟨rfl, ok_nilP, rfl⟩
/-- A text that stands for pairs, other than 'none', is theirs piece by piece. -/
theorem pieces_of {s : List UInt8} (hs : s ≠ noneT) {ps : List (Int × Int)} (h : OkP ps) (e : pairsT ps = s) : pieces 44 s = ps.map pairT := by
  have hn : ps ≠ [] := fun hn => by subst hn; exact hs (e.symm.trans rfl)
  rw [← e]
  exact pairsT_pieces hn h.1.rng
def twoB (c : List UInt8) : Bool := (pieces 62 c).length == 2
theorem twoB_pairT {p : Int × Int} (h : InR p.1 ∧ InR p.2) : twoB (pairT p) = true := by unfold twoB; rw [pieces62 h]; rfl
theorem spec_no1 {s c : List UInt8} (hs : s ≠ noneT) (hc : c ∈ pieces 44 s) (h2 : twoB c = false) : ParsedP s [] false :=
  .inr ⟨rfl, rfl, fun ps' h e => by
    rw [pieces_of hs h e] at hc
    obtain ⟨p, hp, rfl⟩ := List.mem_map.1 hc
    rw [twoB_pairT (h.1.rng p hp)] at h2
    cases h2⟩
theorem spec_no2 {s : ByteArray} {q : Bool} (hs : s.data.toList ≠ noneT) (hq : q = true ↔ OkP ((pieces 44 s.data.toList).map numP)) (h : fmtP ((pieces 44 s.data.toList).map numP) q ≠ s) : ParsedP s.data.toList [] false :=
  .inr ⟨rfl, rfl, fun ps' h' e => by
    have hp := pieces_of hs h' e
    have hm : (pieces 44 s.data.toList).map numP = ps' := by rw [hp]; exact map_back fun p hp => numP_pairT (h'.1.rng p hp)
    rw [hm] at h hq
    have := hq.2 h'
    subst this
    refine h (bytes_ext ?_)
    show pairsT ps' = _
    exact e⟩
theorem spec_yesP {s : ByteArray} {q : Bool} (hs : s.data.toList ≠ noneT) (hall : ∀ c ∈ pieces 44 s.data.toList, twoB c = true) (hq : q = true ↔ OkP ((pieces 44 s.data.toList).map numP)) (h : fmtP ((pieces 44 s.data.toList).map numP) q = s) : ParsedP s.data.toList ((pieces 44 s.data.toList).map numP) true := by
  cases q
  · have he : s.data.toList = [] := by rw [← h]; rfl
    have := hall [] (by rw [he]; simp [pieces])
    simp [twoB, pieces] at this
  · refine .inl ⟨rfl, hq.1 rfl, ?_⟩
    have := congrArg (fun b => b.data.toList) h
    exact this
def okC (c : List UInt8) : Bool := pOk (Lib.cut c [62]).1 && pOk (Lib.cut c [62]).2.1
def valC (c : List UInt8) : Int × Int := (pVal (Lib.cut c [62]).1, pVal (Lib.cut c [62]).2.1)
theorem okC_back {c : List UInt8} (h : okC c = true) : pairT (valC c) = c := by
  unfold okC at h
  rw [Bool.and_eq_true] at h
  rcases cut_back 62 c with ⟨_, e⟩ | ⟨_, e⟩
  · unfold pairT valC
    rw [ok_back h.1, ok_back h.2]
    exact e.symm
  · rw [e, ok_nil] at h
    cases h.2
theorem okC_pairT {p : Int × Int} (h : InR p.1 ∧ InR p.2) : okC (pairT p) = true ∧ valC (pairT p) = p := by
  unfold okC valC
  rw [cut62 h]
  obtain ⟨h1, h2⟩ := ok_itoa (inR2 h.1).1 (inR2 h.1).2
  obtain ⟨h3, h4⟩ := ok_itoa (inR2 h.2).1 (inR2 h.2).2
  simp only
  rw [h1, h2, h3, h4]
  exact ⟨rfl, rfl⟩
theorem impl_yesP {s : List UInt8} (hall : (pieces 44 s).all okC = true) (hok : OkP ((pieces 44 s).map valC)) : ParsedP s ((pieces 44 s).map valC) true := by
  refine .inl ⟨rfl, hok, ?_⟩
  obtain ⟨a, r, hp⟩ := pieces_ne 44 s
  have hne : (pieces 44 s).map valC ≠ [] := by rw [hp]; simp
  unfold pairsT
  rw [if_neg hne]
  have hb : ((pieces 44 s).map valC).map pairT = pieces 44 s := by
    rw [List.map_map]
    have : ∀ l : List (List UInt8), l.all okC = true → l.map (pairT ∘ valC) = l := by
      intro l
      induction l with
      | nil => intro _; rfl
      | cons a r ih =>
        intro h
        rw [List.all_cons, Bool.and_eq_true] at h
        rw [List.map_cons, ih h.2]
        show pairT (valC a) :: r = _
        rw [okC_back h.1]
    exact this _ hall
  rw [hb]
  exact join_pieces 44 s
theorem impl_noP {s : List UInt8} (hs : s ≠ noneT) (h : ¬ ((pieces 44 s).all okC = true ∧ OkP ((pieces 44 s).map valC))) : ParsedP s [] false :=
  .inr ⟨rfl, rfl, fun ps' h' e => by
    have hp := pieces_of hs h' e
    refine h ⟨?_, ?_⟩
    · rw [hp, List.all_eq_true]
      intro c hc
      obtain ⟨p, hp, rfl⟩ := List.mem_map.1 hc
      exact (okC_pairT (h'.1.rng p hp)).1
    · rw [hp, map_back fun p hp => (okC_pairT (h'.1.rng p hp)).2]
      exact h'⟩
/-- Where each piece holds something, there are few. -/
theorem few {s : List UInt8} (h : ∀ c ∈ pieces 44 s, 1 ≤ c.length) : 2 * (pieces 44 s).length ≤ s.length + 1 := by
  have h1 := pieces_len 44 s
  have : ∀ l : List (List UInt8), (∀ c ∈ l, 1 ≤ c.length) → l.length ≤ (l.map List.length).sum := by
    intro l
    induction l with
    | nil => intro _; simp
    | cons a r ih =>
      intro h
      have := ih fun c hc => h c (List.mem_cons_of_mem _ hc)
      have := h a (by simp)
      simp only [List.map_cons, List.sum_cons, List.length_cons]
      omega
  have := this _ h
  omega
theorem two_len {c : List UInt8} (h : twoB c = true) : 1 ≤ c.length := by
  cases c with
  | nil => simp [twoB, pieces] at h
  | cons a r => simp
theorem okC_len {c : List UInt8} (h : okC c = true) : 1 ≤ c.length := by
  cases c with
  | nil =>
    unfold okC at h
    rcases cut_back 62 [] with ⟨_, e⟩ | ⟨_, e⟩
    · have := congrArg List.length e; simp at this
    · rw [e, ok_nil] at h; simp at h
  | cons a r => simp
end Go.Proofs.YtghekfigfjhkeabDoor.num
namespace Go.Proofs.YtghekfigfjhkeabDoor.num
open Go.RowKit Go.ChangeShapes Go.WideShapes Go.Deep
set_option linter.unusedVariables false

/-- The five words. -/
def kwT : List (List UInt8) := [[108, 111, 119], [104, 105, 103, 104], [110, 101, 97, 114], [97, 109, 111, 110, 103], [111, 114, 100, 101, 114]]
def kwB (i : Nat) : ByteArray := ⟨(kwT.getD i []).toArray⟩
theorem gKw : Tryd.prog.globalNamed "loop.example/g01987/impl.kindWords" = some 0 := by kernel_rfl
theorem gKwType : (Tryd.prog.globals[0]?).map (·.type) = some 39 := by kernel_rfl
theorem cellsStr : Tryd.prog.cellsOf 9 = 1 := by kernel_rfl
/-- The variable holds them. -/
def Kw (w : World) : Prop := ∃ (b off c : Nat), w.cell? ⟨0, 0, none⟩ = some (.slice (some ⟨b, off, none⟩) 5 c) ∧ 0 < w.heap.size ∧ b < w.heap.size ∧ ∀ i, i < 5 → w.cell? ⟨b, off + i, none⟩ = some (.string (kwB i))
theorem Kw.below {w w' : World} (h : Kw w) (hb : Below w.heap.size w w') : Kw w' := by
  obtain ⟨b, off, c, h1, h2, h3, h4⟩ := h
  exact ⟨b, off, c, (hb.cell (p := ⟨0, 0, none⟩) h2).trans h1, Nat.lt_of_lt_of_le h2 hb.size, Nat.lt_of_lt_of_le h3 hb.size, fun i hi => (hb.cell (p := ⟨b, off + i, none⟩) h3).trans (h4 i hi)⟩
theorem kw_of {W : World} {rest : List (String × DataW Unit)} (h : laidMet Tryd.prog (("loop.example/g01987/impl.kindWords", .slice (kwT.map fun l => .lit (.string l)) []) :: rest) W) : Kw W := by
  obtain ⟨ps, ⟨g', t', cs, fuel, p, q, hg', ht', hvar, hd, _, _⟩, _⟩ := h
  obtain rfl := Option.some.inj (gKw.symm.trans hg')
  obtain rfl := Option.some.inj (gKwType.symm.trans ht')
  rcases open_strs Tryd.underlying39 Tryd.underlying9 cellsStr hd with ⟨hc, hx⟩ | ⟨a, len, cap, m, Sx, hc, _, hl, hm, hmm, hx, hcell⟩
  · simp at hx
  · simp only [Prod.mk.injEq, DataW.slice.injEq] at hx
    obtain ⟨⟨e1, e2⟩, _⟩ := hx
    have hlen : len = 5 := by
      have := congrArg List.length e1
      simpa [kwT] using this.symm
    subst hlen
    have hS : ∀ i, i < 5 → Sx i = kwB i := fun i hi => by
      have h1 := congrArg (fun l => l[i]?) e1
      simp only [List.getElem?_map, List.getElem?_range hi, Option.map_some] at h1
      have h2 : kwT[i]? = some (kwT.getD i []) := by
        rw [List.getD_eq_getElem?_getD, List.getElem?_eq_getElem (by simpa [kwT] using hi)]; rfl
      rw [h2] at h1
      simp only [Option.map_some, Option.some.injEq, DataW.lit.injEq, Lit.string.injEq] at h1
      apply bytes_ext
      unfold kwB
      simpa using h1.symm
    have hm5 : 5 ≤ m := by rw [hmm]; split <;> omega
    obtain ⟨b, off, rfl, hb, h0⟩ := add_flat (hcell 0 (by omega)).1 (hcell 0 (by omega)).1
    have hg0 : W.cell? ⟨0, 0, none⟩ = some (.slice (some ⟨b, off, none⟩) 5 cap) := by
      rw [World.var?_cell gKw hvar 0]
      have : cs = #[.slice (some ⟨b, off, none⟩) 5 cap] := by
        apply Array.ext'
        simpa using hc
      rw [this]; rfl
    refine ⟨b, off, cap, hg0, World.block_lt_of_cell? W _ hg0, hb, fun i hi => ?_⟩
    obtain ⟨b', off', e, _, h1⟩ := add_flat (hcell 0 (by omega)).1 (hcell i (by omega)).1
    injection e with e3 e4
    subst e3 e4
    rw [h1, hS i hi]
end Go.Proofs.YtghekfigfjhkeabDoor.num
namespace Go.Proofs.YtghekfigfjhkeabDoor.num
open Go.RowKit
set_option linter.unusedVariables false

/-- At least one value, all from 0 to 9, each less than the next. -/
def AscUp (l : List Int) : Prop := (∀ v ∈ l, InR v) ∧ ∀ i x y, l[i]? = some x → l[i + 1]? = some y → x < y
def Asc (l : List Int) : Prop := l ≠ [] ∧ AscUp l
theorem AscUp.nil : AscUp [] := ⟨by simp, by simp⟩
theorem ascUp_take {l : List Int} (h : AscUp l) (k : Nat) : AscUp (l.take k) :=
  ⟨fun v hv => h.1 v (List.mem_of_mem_take hv), fun i x y hx hy => by
    rw [List.getElem?_take] at hx hy
    split at hx
    · split at hy
      · exact h.2 i x y hx hy
      · cases hy
    · cases hx⟩
theorem ascUp_snoc {l : List Int} {k : Nat} {v : Int} (h : AscUp (l.take k)) (hv : l[k]? = some v) (hr : InR v) (ho : ∀ j u, k = j + 1 → l[j]? = some u → u < v) : AscUp (l.take (k + 1)) := by
  rw [ptake_at hv]
  have hk : k < l.length := (List.getElem?_eq_some_iff.1 hv).1
  have hlen : (l.take k).length = k := by rw [List.length_take]; omega
  refine ⟨fun x hx => ?_, fun i x y hx hy => ?_⟩
  · rcases List.mem_append.1 hx with hx | hx
    · exact h.1 x hx
    · rw [List.mem_singleton.1 hx]; exact hr
  · rcases Nat.lt_trichotomy (i + 1) k with h1 | h1 | h1
    · rw [List.getElem?_append_left (by omega)] at hx hy
      exact h.2 i x y hx hy
    · rw [List.getElem?_append_left (by omega), List.getElem?_take, if_pos (by omega)] at hx
      rw [List.getElem?_append_right (by omega), hlen] at hy
      rw [show i + 1 - k = 0 by omega] at hy
      simp at hy
      subst hy
      exact ho i x h1.symm hx
    · rw [List.getElem?_eq_none (by simp; omega)] at hy
      cases hy
theorem asc_bad {l : List Int} {k : Nat} {v u : Int} (hv : l[k + 1]? = some v) (hu : l[k]? = some u) (h : v ≤ u) : ¬ AscUp l := fun ha => by
  have := ha.2 k u v hu hv
  omega
theorem asc_next {l : List Int} {k j : Nat} {x y : Int} (hj : j + 1 = k) (hy : l[j]? = some y) (h : y < x) : ∀ j' u, k = j' + 1 → l[j']? = some u → u < x := fun j' u hj' hu => by
  obtain rfl : j' = j := by omega
  rw [hy] at hu
  cases hu
  exact h
/-- What IsWish asks. -/
structure IsW (d : WD) : Prop where
  f : 0 ≤ d.field ∧ d.field ≤ 2
  k : 0 ≤ d.kind ∧ d.kind ≤ 4
  v : if d.kind = 2 then InR d.value else d.value = 0
  l : if d.kind = 3 then Asc d.ls else d.ls = []
  p : if d.kind = 4 then OkP d.ps else d.ps = []
/-- The rank of a value from 0 to 9, for a wish of another kind than order. -/
def rankW (d : WD) (v : Int) : Int := if d.kind = 0 then v else if d.kind = 1 then 9 - v else if d.kind = 2 then (if v < d.value then d.value - v else v - d.value) else if v ∈ d.ls then 0 else 1
/-- The comparison of two values, for a valid wish. -/
def cmpW (d : WD) (a b : Int) : Int :=
  if d.kind = 4 then (if a = b then 0 else if rb d.ps a b = true then 1 else if rb d.ps b a = true then -1 else 2)
  else if rankW d a < rankW d b then 1 else if rankW d b < rankW d a then -1 else 0

theorem in_same (x lo hi : Int) (b : Bool) (hb : b = true ↔ lo ≤ x ∧ x ≤ hi) (w : World) :
    Calls Tryd.prog 41 #[.int .i64 x, .int .i64 lo, .int .i64 hi] w fun e w' => e = .returned (.bool b) ∧ w' = w :=
  (in_of x lo hi b hb w).mono fun _ _ h => ⟨h.1, h.2.symm⟩
theorem in_quiet {P : Program} {f : FuncId} {args : Array Value} {w : World} {m n : Nat} {v : Value} (h : Calls P f args (w.drewN (m + n)) fun e w' => e = .returned v ∧ w' = w.drewN (m + n)) : Calls P f args (w.drewN (m + n)) fun e w'' => e = .returned v ∧ ∃ n', w'' = w.drewN (m + n') :=
  h.mono fun _ _ ⟨he, hm⟩ => ⟨he, n, hm⟩
set_option maxRecDepth 20000 in
theorem ascS (w : World) (B : Nat) (A : Option Addr) (n c : Nat) (xs : List Int) (hi : Ints w B A n xs) (hn : n ≤ 1048576) (b : Bool) (hb : b = true ↔ Asc xs) :
    Calls Tryd.prog 42 #[.slice A n c] w fun e w' => e = .returned (.bool b) ∧ Below w.heap.size w w' := by
  have HX := Lib.hid hi
  have HB := Lib.hid hb
  clear hi hb
  have hno : ¬ AscUp xs → b = false := fun h => by
    cases b
    · rfl
    · exact absurd (HB.out.1 rfl).2 h
  have HNo := Lib.hid hno
  clear hno
  go_enter Tryd.func42, Tryd.ntmps42
  go_wp2
  go_loopw [3] (fun i wr => ∃ k : Nat, k ≤ n ∧ i = .int .i64 k ∧ AscUp (xs.take k) ∧ ∃ m, wr = w.drewN m) (fun i _ => n - (intOf i).toNat)
  case atStart => exact ⟨0, Nat.zero_le _, rfl, by rw [List.take_zero]; exact AscUp.nil, 0, rfl⟩
  case round =>
    obtain ⟨k, hk, rfl, hasc, m, rfl⟩ := hrel
    have HA := Lib.hid hasc
    clear hasc
    by_cases hlt : k < n
    · obtain ⟨b1, off, x, hA1, hb1, hat, hc⟩ := HX.out.at k hlt
      have HT := Lib.hid hat
      have hlt' : (k : Int) < (n : Int) := by omega
      obtain ⟨q, hq⟩ := bool_of (0 ≤ x ∧ x ≤ 9)
      have HQ := Lib.hid hq
      clear hat hq
      cases q
      · obtain rfl : b = false := HNo.out fun h => by have := HQ.out.2 (h.1 x (List.mem_of_getElem? HT.out)); cases this
        subst hA1
        go_wp2
        go_quiet ((go_at_call 41; refine in_quiet (in_same x 0 9 false HQ.out _)))
        go_wp2
        go_ret
        exact ⟨rfl, by rw [World.drewN_drewN]; exact below_drewN (Below.refl _ _) _⟩
      · have HD := Lib.hid (HQ.out.1 rfl)
        rcases Nat.eq_zero_or_pos k with h0 | h0
        · have HK := Lib.hid h0
          subst hA1
          clear h0
          have hk0 : decide (0 < k) = false := decide_eq_false (by have := HK.out; omega)
          go_wp2
          go_quiet ((go_at_call 41; refine in_quiet (in_same x 0 9 true ⟨fun _ => HD.out, fun _ => rfl⟩ _)))
          clear hk0
          go_wp2
          go_roundw
          case rel => exact ⟨k + 1, by omega, by go_num, ascUp_snoc HA.out HT.out HD.out (fun j u hj _ => by have := HK.out; omega), _, rfl⟩
          case measure => simp [intOf]; omega
        · obtain ⟨j, hj⟩ : ∃ j, j + 1 = k := ⟨k - 1, by omega⟩
          obtain ⟨b2, off2, y, hA2, hb2, hat2, hc2⟩ := HX.out.at j (by omega)
          obtain ⟨rfl, rfl⟩ : b1 = b2 ∧ off = off2 := by rw [hA1] at hA2; injection hA2 with h; injection h with h1 h2; exact ⟨h1, h2⟩
          have HT0 := Lib.hid hat2
          have HJ := Lib.hid hj
          have HK0 : Hid ((0 : Int) < (k : Int)) := by show _ < _; omega
          have hkj : (k : Int) - 1 = (j : Int) := by omega
          have hkw : IntKind.i64.wrap ((k : Int) - 1) = (j : Int) := by rw [hkj]; exact IntWalk.i64_in _ ⟨by omega, by omega⟩
          have hjw : IntKind.i64.wrap (j : Int) = (j : Int) := IntWalk.i64_in _ ⟨by omega, by omega⟩
          have hjn : (j : Int) < (n : Int) := by omega
          have hjn' : j < n := by omega
          have hk0 : decide (0 < k) = true := decide_eq_true (by have := HK0.out; omega)
          subst hA1
          clear h0 hj hat2 hA2
          by_cases hle : x ≤ y
          · obtain rfl : b = false := HNo.out (asc_bad (by rw [HJ.out]; exact HT.out) HT0.out hle)
            go_wp2
            go_quiet ((go_at_call 41; refine in_quiet (in_same x 0 9 true ⟨fun _ => HD.out, fun _ => rfl⟩ _)))
            clear hk0
            go_wp2
            go_ret
            exact ⟨rfl, by rw [World.drewN_drewN]; exact below_drewN (Below.refl _ _) _⟩
          · have HLe : Hid (y < x) := by show _ < _; omega
            go_wp2
            go_quiet ((go_at_call 41; refine in_quiet (in_same x 0 9 true ⟨fun _ => HD.out, fun _ => rfl⟩ _)))
            clear hk0
            go_wp2
            go_roundw
            case rel => exact ⟨k + 1, by omega, by go_num, ascUp_snoc HA.out HT.out HD.out (asc_next HJ.out HT0.out HLe.out), _, rfl⟩
            case measure => simp [intOf]; omega
    · obtain rfl : k = n := by omega
      have h := HA.out
      rw [ptake_all HX.out.1] at h
      have HH := Lib.hid h
      clear h
      by_cases h0 : (0 : Int) < (k : Int)
      · have hd : decide (0 < k) = true := by simp; omega
        obtain rfl : b = true := HB.out.2 ⟨fun e => by have := HX.out.1; rw [e] at this; simp at this; omega, HH.out⟩
        go_wp2
        go_ret
        exact ⟨by simp, below_drewN (Below.refl _ _) _⟩
      · obtain rfl : b = false := by
          cases b
          · rfl
          · exact absurd (List.length_eq_zero_iff.1 (by rw [HX.out.1]; omega)) (HB.out.1 rfl).1
        go_wp2
        go_ret
        exact ⟨by simp; omega, below_drewN (Below.refl _ _) _⟩
end Go.Proofs.YtghekfigfjhkeabDoor.num
namespace Go.Proofs.YtghekfigfjhkeabDoor.num
open Go.RowKit
set_option linter.unusedVariables false

theorem isW01 {k f v : Int} {ls : List Int} {ps : List (Int × Int)} (hk : k = 0 ∨ k = 1) (hf : 0 ≤ f ∧ f ≤ 2) : IsW ⟨k, f, v, ls, ps⟩ ↔ v = 0 ∧ ls = [] ∧ ps = [] := by
  constructor
  · intro ⟨_, _, h1, h2, h3⟩
    dsimp only at h1 h2 h3
    rw [if_neg (by omega)] at h1 h2 h3
    exact ⟨h1, h2, h3⟩
  · rintro ⟨rfl, rfl, rfl⟩
    exact ⟨hf, by dsimp only; omega, by rw [if_neg (by dsimp only; omega)], by rw [if_neg (by dsimp only; omega)], by rw [if_neg (by dsimp only; omega)]⟩
theorem isW2 {f v : Int} {ls : List Int} {ps : List (Int × Int)} (hf : 0 ≤ f ∧ f ≤ 2) : IsW ⟨2, f, v, ls, ps⟩ ↔ InR v ∧ ls = [] ∧ ps = [] := by
  constructor
  · intro ⟨_, _, h1, h2, h3⟩
    exact ⟨h1, h2, h3⟩
  · rintro ⟨h, rfl, rfl⟩
    exact ⟨hf, ⟨by show (0:Int) ≤ 2; decide, by show (2:Int) ≤ 4; decide⟩, h, rfl, rfl⟩
theorem isW3 {f v : Int} {ls : List Int} {ps : List (Int × Int)} (hf : 0 ≤ f ∧ f ≤ 2) : IsW ⟨3, f, v, ls, ps⟩ ↔ v = 0 ∧ Asc ls ∧ ps = [] := by
  constructor
  · intro ⟨_, _, h1, h2, h3⟩
    exact ⟨h1, h2, h3⟩
  · rintro ⟨rfl, h, rfl⟩
    exact ⟨hf, ⟨by show (0:Int) ≤ 3; decide, by show (3:Int) ≤ 4; decide⟩, rfl, h, rfl⟩
theorem isW4 {f v : Int} {ls : List Int} {ps : List (Int × Int)} (hf : 0 ≤ f ∧ f ≤ 2) : IsW ⟨4, f, v, ls, ps⟩ ↔ v = 0 ∧ ls = [] ∧ OkP ps := by
  constructor
  · intro ⟨_, _, h1, h2, h3⟩
    exact ⟨h1, h2, h3⟩
  · rintro ⟨rfl, rfl, h⟩
    exact ⟨hf, ⟨by show (0:Int) ≤ 4; decide, by show (4:Int) ≤ 4; decide⟩, rfl, rfl, h⟩

set_option maxRecDepth 20000 in
set_option maxHeartbeats 1600000 in
theorem sIsWish (w : World) (B : Nat) (t : Wi) (hi : WiIn w B t) (hB : B ≤ w.heap.size) (hn : t.Short) (b : Bool) (hb : b = true ↔ IsW t.dat) :
    Calls Tryd.prog 24 #[t.val] w fun e w' => e = .returned (.bool b) ∧ Below w.heap.size w w' := by
  obtain ⟨k, f, v, LA, Ln, Lc, ls, PA, Pn, Pc, ps⟩ := t
  obtain ⟨-, -, -, hl, hp⟩ := hi
  unfold Wi.val
  simp only [Wi.dat, Wi.Short] at hl hp hn hb ⊢
  have HL := Lib.hid hl
  have HP := Lib.hid hp
  have HB := Lib.hid hb
  have HN := Lib.hid hn
  have HB1 : Hid (∀ o : Obj, Below B w (w.alloc o)) := Lib.hid fun o => (Below.refl B w).alloc hB _
  have HW1 : Hid (∀ o : Obj, Below w.heap.size w (w.alloc o)) := Lib.hid fun o => (Below.refl _ w).alloc (Nat.le_refl _) _
  have HLn : Hid (ls = [] ↔ Ln = 0) := by
    show _ ↔ _
    rw [← hl.1, List.length_eq_zero_iff]
  have HPn : Hid (ps = [] ↔ ((Pn : Int) == 0) = true) := by
    show _ ↔ _
    rw [← hp.1, ← List.length_eq_zero_iff]
    simp
  clear hl hp hb hn
  have HNo : Hid (¬ IsW ⟨k, f, v, ls, ps⟩ → b = false) := Lib.hid fun h => by
    cases b
    · rfl
    · exact absurd (HB.out.1 rfl) h
  obtain ⟨qf, hqf⟩ := bool_of (0 ≤ f ∧ f ≤ 2)
  have HQF := Lib.hid hqf
  clear hqf
  cases qf
  · obtain rfl := HNo.out fun h => by have := HQF.out.2 h.f; cases this
    go_enter Tryd.func24, Tryd.ntmps24
    go_wp2_with fail
    refine (in_of f 0 2 false HQF.out _).mono ?_
    rintro e w1 ⟨rfl, rfl⟩
    go_wp2
    go_ret
    exact ⟨rfl, HW1.out _⟩
  · have HF := Lib.hid (HQF.out.1 rfl)
    clear HQF
    by_cases k0 : k = 0
    · subst k0
      by_cases hv : v = 0
      · subst hv
        by_cases hL : Ln = 0
        · have hL' : ((Ln : Int) == 0) = true := by simp [hL]
          have HLL := Lib.hid (HLn.out.2 hL)
          clear hL
          have HE : Hid (b = ((Pn : Int) == 0)) := Lib.hid (Bool.eq_iff_iff.2 (HB.out.trans ((isW01 (.inl rfl) HF.out).trans ⟨fun h => HPn.out.1 h.2.2, fun h => ⟨rfl, HLL.out, HPn.out.2 h⟩⟩)))
          go_enter Tryd.func24, Tryd.ntmps24
          go_wp2_with fail
          refine (in_of f 0 2 true ⟨fun _ => HF.out, fun _ => rfl⟩ _).mono ?_
          rintro e w1 ⟨rfl, rfl⟩
          go_wp2
          go_ret
          exact ⟨congrArg (fun x => Ending.returned (.bool x)) HE.out.symm, HW1.out _⟩
        · have hL' : ((Ln : Int) == 0) = false := by simp [hL]
          have HLL := Lib.hid hL
          clear hL
          obtain rfl := HNo.out fun h => HLL.out (HLn.out.1 ((isW01 (.inl rfl) HF.out).1 h).2.1)
          go_enter Tryd.func24, Tryd.ntmps24
          go_wp2_with fail
          refine (in_of f 0 2 true ⟨fun _ => HF.out, fun _ => rfl⟩ _).mono ?_
          rintro e w1 ⟨rfl, rfl⟩
          go_wp2
          go_ret
          exact ⟨rfl, HW1.out _⟩
      · have hv' : (v == 0) = false := by simpa using hv
        have HV := Lib.hid hv
        clear hv
        obtain rfl := HNo.out fun h => HV.out ((isW01 (.inl rfl) HF.out).1 h).1
        go_enter Tryd.func24, Tryd.ntmps24
        go_wp2_with fail
        refine (in_of f 0 2 true ⟨fun _ => HF.out, fun _ => rfl⟩ _).mono ?_
        rintro e w1 ⟨rfl, rfl⟩
        go_wp2
        go_ret
        exact ⟨rfl, HW1.out _⟩
    · by_cases k1 : k = 1
      · subst k1
        clear k0
        by_cases hv : v = 0
        · subst hv
          by_cases hL : Ln = 0
          · have hL' : ((Ln : Int) == 0) = true := by simp [hL]
            have HLL := Lib.hid (HLn.out.2 hL)
            clear hL
            have HE : Hid (b = ((Pn : Int) == 0)) := Lib.hid (Bool.eq_iff_iff.2 (HB.out.trans ((isW01 (.inr rfl) HF.out).trans ⟨fun h => HPn.out.1 h.2.2, fun h => ⟨rfl, HLL.out, HPn.out.2 h⟩⟩)))
            go_enter Tryd.func24, Tryd.ntmps24
            go_wp2_with fail
            refine (in_of f 0 2 true ⟨fun _ => HF.out, fun _ => rfl⟩ _).mono ?_
            rintro e w1 ⟨rfl, rfl⟩
            go_wp2
            go_ret
            exact ⟨congrArg (fun x => Ending.returned (.bool x)) HE.out.symm, HW1.out _⟩
          · have hL' : ((Ln : Int) == 0) = false := by simp [hL]
            have HLL := Lib.hid hL
            clear hL
            obtain rfl := HNo.out fun h => HLL.out (HLn.out.1 ((isW01 (.inr rfl) HF.out).1 h).2.1)
            go_enter Tryd.func24, Tryd.ntmps24
            go_wp2_with fail
            refine (in_of f 0 2 true ⟨fun _ => HF.out, fun _ => rfl⟩ _).mono ?_
            rintro e w1 ⟨rfl, rfl⟩
            go_wp2
            go_ret
            exact ⟨rfl, HW1.out _⟩
        · have hv' : (v == 0) = false := by simpa using hv
          have HV := Lib.hid hv
          clear hv
          obtain rfl := HNo.out fun h => HV.out ((isW01 (.inr rfl) HF.out).1 h).1
          go_enter Tryd.func24, Tryd.ntmps24
          go_wp2_with fail
          refine (in_of f 0 2 true ⟨fun _ => HF.out, fun _ => rfl⟩ _).mono ?_
          rintro e w1 ⟨rfl, rfl⟩
          go_wp2
          go_ret
          exact ⟨rfl, HW1.out _⟩
      · by_cases k2 : k = 2
        · subst k2
          clear k0 k1
          obtain ⟨qv, hqv⟩ := bool_of (0 ≤ v ∧ v ≤ 9)
          have HQV := Lib.hid hqv
          clear hqv
          cases qv
          · obtain rfl := HNo.out fun h => by have := HQV.out.2 ((isW2 HF.out).1 h).1; cases this
            go_enter Tryd.func24, Tryd.ntmps24
            go_wp2_with fail
            refine (in_of f 0 2 true ⟨fun _ => HF.out, fun _ => rfl⟩ _).mono ?_
            rintro e w1 ⟨rfl, rfl⟩
            go_wp2_with fail
            refine (in_of v 0 9 false HQV.out _).mono ?_
            rintro e w1 ⟨rfl, rfl⟩
            go_wp2
            go_ret
            exact ⟨rfl, HW1.out _⟩
          · have HV := Lib.hid (HQV.out.1 rfl)
            by_cases hL : Ln = 0
            · have hL' : ((Ln : Int) == 0) = true := by simp [hL]
              have HLL := Lib.hid (HLn.out.2 hL)
              clear hL
              have HE : Hid (b = ((Pn : Int) == 0)) := Lib.hid (Bool.eq_iff_iff.2 (HB.out.trans ((isW2 HF.out).trans ⟨fun h => HPn.out.1 h.2.2, fun h => ⟨HV.out, HLL.out, HPn.out.2 h⟩⟩)))
              go_enter Tryd.func24, Tryd.ntmps24
              go_wp2_with fail
              refine (in_of f 0 2 true ⟨fun _ => HF.out, fun _ => rfl⟩ _).mono ?_
              rintro e w1 ⟨rfl, rfl⟩
              go_wp2_with fail
              refine (in_of v 0 9 true ⟨fun _ => HV.out, fun _ => rfl⟩ _).mono ?_
              rintro e w1 ⟨rfl, rfl⟩
              go_wp2
              go_ret
              exact ⟨congrArg (fun x => Ending.returned (.bool x)) HE.out.symm, HW1.out _⟩
            · have hL' : ((Ln : Int) == 0) = false := by simp [hL]
              have HLL := Lib.hid hL
              clear hL
              obtain rfl := HNo.out fun h => HLL.out (HLn.out.1 ((isW2 HF.out).1 h).2.1)
              go_enter Tryd.func24, Tryd.ntmps24
              go_wp2_with fail
              refine (in_of f 0 2 true ⟨fun _ => HF.out, fun _ => rfl⟩ _).mono ?_
              rintro e w1 ⟨rfl, rfl⟩
              go_wp2_with fail
              refine (in_of v 0 9 true ⟨fun _ => HV.out, fun _ => rfl⟩ _).mono ?_
              rintro e w1 ⟨rfl, rfl⟩
              go_wp2
              go_ret
              exact ⟨rfl, HW1.out _⟩
        · by_cases k3 : k = 3
          · subst k3
            clear k0 k1 k2
            by_cases hv : v = 0
            · subst hv
              obtain ⟨ql, hql⟩ := bool_of (Asc ls)
              have HQL := Lib.hid hql
              clear hql
              cases ql
              · obtain rfl := HNo.out fun h => by have := HQL.out.2 ((isW3 HF.out).1 h).2.1; cases this
                go_enter Tryd.func24, Tryd.ntmps24
                go_wp2_with fail
                refine (in_of f 0 2 true ⟨fun _ => HF.out, fun _ => rfl⟩ _).mono ?_
                rintro e w1 ⟨rfl, rfl⟩
                go_wp2_with fail
                refine (ascS _ B LA Ln Lc ls (HL.out.below (HB1.out _)) HN.out.1 false HQL.out).mono ?_
                rintro e w1 ⟨rfl, hb1⟩
                have HBB := Lib.hid ((HW1.out _).trans (hb1.mono (by simp)))
                have c4 : w1.cell? ⟨w.heap.size, 4, none⟩ = some (.slice PA Pn Pc) := (hb1.cell (p := ⟨w.heap.size, 4, none⟩) (by simp)).trans (by rw [World.cell?_alloc_at _ _ _ _ rfl]; rfl)
                clear hb1
                go_wp2
                go_ret
                exact ⟨rfl, HBB.out⟩
              · have HAs := Lib.hid (HQL.out.1 rfl)
                clear HQL
                have HE : Hid (b = ((Pn : Int) == 0)) := Lib.hid (Bool.eq_iff_iff.2 (HB.out.trans ((isW3 HF.out).trans ⟨fun h => HPn.out.1 h.2.2, fun h => ⟨rfl, HAs.out, HPn.out.2 h⟩⟩)))
                go_enter Tryd.func24, Tryd.ntmps24
                go_wp2_with fail
                refine (in_of f 0 2 true ⟨fun _ => HF.out, fun _ => rfl⟩ _).mono ?_
                rintro e w1 ⟨rfl, rfl⟩
                go_wp2_with fail
                refine (ascS _ B LA Ln Lc ls (HL.out.below (HB1.out _)) HN.out.1 true ⟨fun _ => HAs.out, fun _ => rfl⟩).mono ?_
                rintro e w1 ⟨rfl, hb1⟩
                have HBB := Lib.hid ((HW1.out _).trans (hb1.mono (by simp)))
                have c4 : w1.cell? ⟨w.heap.size, 4, none⟩ = some (.slice PA Pn Pc) := (hb1.cell (p := ⟨w.heap.size, 4, none⟩) (by simp)).trans (by rw [World.cell?_alloc_at _ _ _ _ rfl]; rfl)
                clear hb1
                go_wp2
                go_ret
                exact ⟨congrArg (fun x => Ending.returned (.bool x)) HE.out.symm, HBB.out⟩
            · have hv' : (v == 0) = false := by simpa using hv
              have HV := Lib.hid hv
              clear hv
              obtain rfl := HNo.out fun h => HV.out ((isW3 HF.out).1 h).1
              go_enter Tryd.func24, Tryd.ntmps24
              go_wp2_with fail
              refine (in_of f 0 2 true ⟨fun _ => HF.out, fun _ => rfl⟩ _).mono ?_
              rintro e w1 ⟨rfl, rfl⟩
              go_wp2
              go_ret
              exact ⟨rfl, HW1.out _⟩
          · by_cases k4 : k = 4
            · subst k4
              clear k0 k1 k2 k3
              by_cases hv : v = 0
              · subst hv
                by_cases hL : Ln = 0
                · have hL' : ((Ln : Int) == 0) = true := by simp [hL]
                  have HLL := Lib.hid (HLn.out.2 hL)
                  clear hL
                  go_enter Tryd.func24, Tryd.ntmps24
                  go_wp2_with fail
                  refine (in_of f 0 2 true ⟨fun _ => HF.out, fun _ => rfl⟩ _).mono ?_
                  rintro e w1 ⟨rfl, rfl⟩
                  go_wp2_with fail
                  refine (sArePairs _ B PA Pn Pc ps (HP.out.below (HB1.out _)) (by simp; omega) HN.out.2 b (HB.out.trans ((isW4 HF.out).trans ⟨fun h => h.2.2, fun h => ⟨rfl, HLL.out, h⟩⟩))).mono ?_
                  rintro e w1 ⟨rfl, hb1⟩
                  have HBB := Lib.hid ((HW1.out _).trans (hb1.mono (by simp)))
                  clear hb1
                  go_wp2
                  go_ret
                  exact ⟨rfl, HBB.out⟩
                · have hL' : ((Ln : Int) == 0) = false := by simp [hL]
                  have HLL := Lib.hid hL
                  clear hL
                  obtain rfl := HNo.out fun h => HLL.out (HLn.out.1 ((isW4 HF.out).1 h).2.1)
                  go_enter Tryd.func24, Tryd.ntmps24
                  go_wp2_with fail
                  refine (in_of f 0 2 true ⟨fun _ => HF.out, fun _ => rfl⟩ _).mono ?_
                  rintro e w1 ⟨rfl, rfl⟩
                  go_wp2
                  go_ret
                  exact ⟨rfl, HW1.out _⟩
              · have hv' : (v == 0) = false := by simpa using hv
                have HV := Lib.hid hv
                clear hv
                obtain rfl := HNo.out fun h => HV.out ((isW4 HF.out).1 h).1
                go_enter Tryd.func24, Tryd.ntmps24
                go_wp2_with fail
                refine (in_of f 0 2 true ⟨fun _ => HF.out, fun _ => rfl⟩ _).mono ?_
                rintro e w1 ⟨rfl, rfl⟩
                go_wp2
                go_ret
                exact ⟨rfl, HW1.out _⟩
            · have f0 : (k == 0) = false := by simpa using k0
              have f1 : (k == 1) = false := by simpa using k1
              have f2 : (k == 2) = false := by simpa using k2
              have f3 : (k == 3) = false := by simpa using k3
              have f4 : (k == 4) = false := by simpa using k4
              obtain rfl := HNo.out fun h => by have := h.k; dsimp only at this; omega
              clear k0 k1 k2 k3 k4
              go_enter Tryd.func24, Tryd.ntmps24
              go_wp2_with fail
              refine (in_of f 0 2 true ⟨fun _ => HF.out, fun _ => rfl⟩ _).mono ?_
              rintro e w1 ⟨rfl, rfl⟩
              go_wp2
              go_ret
              exact ⟨rfl, HW1.out _⟩
end Go.Proofs.YtghekfigfjhkeabDoor.num
namespace Go.Proofs.YtghekfigfjhkeabDoor.num
open Go.RowKit
set_option linter.unusedVariables false

def intsT (l : List Int) : List UInt8 := Lib.join (l.map Lib.itoa) [44]
def preI (l : List Int) (k : Nat) : ByteArray := ⟨(intsT (l.take k)).toArray⟩
theorem preI_list (l : List Int) (k : Nat) : (preI l k).data.toList = intsT (l.take k) := rfl
theorem preI_zero (l : List Int) : preI l 0 = ⟨#[]⟩ := rfl
theorem preI_one {l : List Int} {x : Int} (h : l[0]? = some x) : (⟨#[]⟩ : ByteArray) ++ fmtB x = preI l 1 := by
  apply bytes_ext
  rw [preI_list, ptake_at (k := 0) h]
  simp [intsT, Lib.join_one, fmtB, ByteArray.data_append]
theorem preI_step {l : List Int} {k : Nat} {x : Int} (hk : 0 < k) (h : l[k]? = some x) : preI l k ++ ⟨#[44]⟩ ++ fmtB x = preI l (k + 1) := by
  have hlt : k < l.length := (List.getElem?_eq_some_iff.1 h).1
  apply bytes_ext
  rw [preI_list, ptake_at h]
  unfold intsT
  rw [List.map_append, List.map_cons, List.map_nil, join_snoc _ _ _ (by
    intro e
    have := congrArg List.length e
    rw [List.length_map, List.length_take, List.length_nil] at this
    omega)]
  simp [preI, intsT, fmtB, ByteArray.data_append]
theorem intsT_len {l : List Int} (h : ∀ v ∈ l, InR v) : (intsT l).length ≤ 3 * l.length := by
  have h1 := join_le (m := 2) 44 (l.map Lib.itoa) fun x hx => by
    obtain ⟨v, hv, rfl⟩ := List.mem_map.1 hx
    exact itoa_small (h v hv)
  rw [List.length_map] at h1
  unfold intsT
  omega
theorem preI_small {l : List Int} (h : ∀ v ∈ l, InR v) (k : Nat) : (preI l k).size ≤ 3 * k := by
  have h1 := intsT_len (l := l.take k) fun v hv => h v (List.mem_of_mem_take hv)
  have h2 : (preI l k).size = (intsT (l.take k)).length := by simp [preI, ByteArray.size]
  have h3 : (l.take k).length ≤ k := by rw [List.length_take]; omega
  omega
/-- What stands behind the field. -/
def restT (d : WD) : List UInt8 := if d.kind = 2 then 32 :: Lib.itoa d.value else if d.kind = 3 then 32 :: intsT d.ls else if d.kind = 4 then 32 :: pairsT d.ps else []
def wishT (d : WD) : List UInt8 := kwT.getD d.kind.toNat [] ++ 32 :: 102 :: (Lib.itoa d.field ++ restT d)
/-- What FormatWish answers. -/
def fmtW (d : WD) (q : Bool) : ByteArray := if q then ⟨(wishT d).toArray⟩ else ⟨#[]⟩
end Go.Proofs.YtghekfigfjhkeabDoor.num
namespace Go.Proofs.YtghekfigfjhkeabDoor.num
open Go.RowKit Go.Maps
set_option linter.unusedVariables false

def kI (v : Int) : Lit := .int .i64 v
theorem kI_inj {u v : Int} (h : kI u = kI v) : u = v := by unfold kI at h; injection h
theorem kI_key (v : Int) : WideAt.IsKeyLit (kI v) := trivial
theorem kI_same (u v : Int) : (kI u).sameKey (kI v) = (u == v) := by
  by_cases h : u = v
  · subst h
    rw [WideAt.sameKey_self (kI_key u)]
    simp
  · rw [sameKey_ne (fun e => h (kI_inj e))]
    simpa using h
/-- D's elements, key by key. -/
def Reads (D : DataW Unit) (f : Int → Option (DataW Unit)) : Prop := ∀ v : Int, (Lit.int .i64 v).wf = true → ∀ z, D.atKey (kI v) z = (f v).getD z
theorem Reads.has {D : DataW Unit} {f : Int → Option (DataW Unit)} (h : Reads D f) {v : Int} (hv : (Lit.int .i64 v).wf = true) : Maps.has D (kI v) = (f v).isSome := by
  cases e : f v with
  | none => exact has_false_of_atKey fun z => by rw [h v hv z, e]; rfl
  | some d => exact has_true_of_atKey fun z => by rw [h v hv z, e]; rfl
theorem Reads.of_at {D : DataW Unit} {f : Int → Option (DataW Unit)} (h : Reads D f) {v : Int} (hv : (Lit.int .i64 v).wf = true) {d : DataW Unit} (hat : ∀ z, D.atKey (kI v) z = d) : f v = some d := by
  cases e : f v with
  | none =>
    have h1 := (h v hv .nil).symm.trans (hat .nil)
    have h2 := (h v hv (.lit (.bool true))).symm.trans (hat _)
    rw [e] at h1 h2
    simp at h1 h2
    rw [← h1] at h2; cases h2
  | some d' =>
    have h1 := (h v hv .nil).symm.trans (hat .nil)
    rw [e] at h1
    simp at h1
    rw [h1]
theorem Reads.congr {D : DataW Unit} {f g : Int → Option (DataW Unit)} (h : Reads D f) (e : ∀ v, (Lit.int .i64 v).wf = true → f v = g v) : Reads D g := fun v hv z => by rw [← e v hv]; exact h v hv z
theorem Reads.put {D : DataW Unit} {f : Int → Option (DataW Unit)} (h : Reads D f) (hm : IsMap D) (v : Int) (d : DataW Unit) : Reads (D.put (kI v) d) (fun x => if x = v then some d else f x) := fun x hx z => by
  by_cases e : x = v
  · subst e
    rw [atKey_put_same hm (kI_key _)]
    show _ = (if x = x then some d else f x).getD z
    rw [if_pos rfl]; rfl
  · rw [atKey_put_other (fun e' => e (kI_inj e'))]
    show _ = (if x = v then some d else f x).getD z
    rw [if_neg e]; exact h x hx z
theorem Reads.del {D : DataW Unit} {f : Int → Option (DataW Unit)} (h : Reads D f) (v : Int) : Reads (D.del (kI v)) (fun x => if x = v then none else f x) := fun x hx z => by
  by_cases e : x = v
  · subst e
    rw [atKey_del_same]
    show _ = (if x = x then none else f x).getD z
    rw [if_pos rfl]; rfl
  · rw [atKey_del_other (fun e' => e (kI_inj e'))]
    show _ = (if x = v then none else f x).getD z
    rw [if_neg e]; exact h x hx z

section
variable {P : Program} {k : TypeId} {R : Value → Option (DataW Unit × List MemPlace)} {w w' : World} {b n : Nat} {f : Int → Option (DataW Unit)}
/-- Block b is a map of at most n entries that holds f. -/
def MapAt (P : Program) (k : TypeId) (R : Value → Option (DataW Unit × List MemPlace)) (w : World) (b n : Nat) (f : Int → Option (DataW Unit)) : Prop := ∃ D, w.ownsMap P k R b n D ∧ Reads D f
theorem MapAt.lt (h : MapAt P k R w b n f) : b < w.heap.size := by obtain ⟨D, h, _⟩ := h; exact h.lt
theorem MapAt.mono (h : MapAt P k R w b n f) {m : Nat} (hm : n ≤ m) : MapAt P k R w b m f := by obtain ⟨D, h, r⟩ := h; exact ⟨D, h.mono hm, r⟩
theorem MapAt.block (h : MapAt P k R w b n f) (hb : w'.heap[b]? = w.heap[b]?) : MapAt P k R w' b n f := by
  obtain ⟨D, ⟨es, clock, h1, h2⟩, r⟩ := h
  exact ⟨D, ⟨es, clock, hb.trans h1, h2⟩, r⟩
theorem MapAt.kept {row : Option Nat} (h : MapAt P k R w b n f) (hg : w.grownBy w' row) (hne : some b ≠ row) : MapAt P k R w' b n f := h.block (hg.block b h.lt hne)
theorem MapAt.alloc (h : MapAt P k R w b n f) (o : Obj) : MapAt P k R (w.alloc o) b n f := h.block (Below.heap_alloc _ _ _ h.lt)
theorem MapAt.congr (h : MapAt P k R w b n f) {g : Int → Option (DataW Unit)} (e : ∀ v, (Lit.int .i64 v).wf = true → f v = g v) : MapAt P k R w b n g := by obtain ⟨D, h, r⟩ := h; exact ⟨D, h, r.congr e⟩
theorem MapAt.made (w : World) : MapAt P k R (w.alloc (.map #[] 0)) w.heap.size 0 (fun _ => none) := ⟨.map [], World.ownsMap_made w P k R, fun _ _ _ => rfl⟩
/-- m[v]. -/
theorem MapAt.look {t e : TypeId} (h : MapAt P k R w b n f) (K : Keyed P k) (hk : P.underlying k = some (.int .i64)) (ht : P.underlying t = some (.map k e)) {z : Value} (hz : (zeroValue e).run P w = .ok z w) {zd : DataW Unit} {zp : List MemPlace} (hzd : R z = some (zd, zp)) {v : Int} (hv : (Lit.int .i64 v).wf = true) :
    ∃ val ps, (Instr.lookup t (.map (some b)) (.int .i64 v) false).run P w = .ok val w ∧ R val = some ((f v).getD zd, ps) := by
  obtain ⟨D, h, r⟩ := h
  obtain ⟨val, ps, h1, h2⟩ := h.lookup K ht hz hzd (kl := kI v) (keyOf_int_mk hk hv)
  exact ⟨val, ps, h1, by rw [h2, r v hv]⟩
/-- len(m) is 0 just where nothing is held. -/
theorem MapAt.len {t e : TypeId} (h : MapAt P k R w b n f) (hk : P.underlying k = some (.int .i64)) (K : Keyed P k) (ht : P.underlying t = some (.map k e)) (ty : TypeId) :
    ∃ m : Nat, (Builtin.len_ #[t] ty #[.map (some b)]).run P w = .ok (.int .i64 m) w ∧ (m = 0 ↔ ∀ v : Int, (Lit.int .i64 v).wf = true → f v = none) := by
  obtain ⟨D, h, r⟩ := h
  refine ⟨Maps.size D, h.len ht ty, ?_⟩
  obtain ⟨es, clock, hb, F, hs, rfl⟩ := h
  constructor
  · intro h0 v hv
    have hn := r.has hv
    have he : (es.toList.map (WideElems.rg P k R)).foldr DataW.insert [] = [] := List.eq_nil_of_length_eq_zero h0
    rw [he] at hn
    cases e : f v
    · rfl
    · rw [e] at hn; cases hn
  · intro hall
    refine Classical.byContradiction fun hne => ?_
    have : es.toList ≠ [] := fun e => hne (by rw [e]; rfl)
    obtain ⟨x, l, hx⟩ := List.exists_cons_of_ne_nil this
    have hxm : x ∈ es.toList := by rw [hx]; simp
    obtain ⟨y, hy⟩ := F.reads x hxm
    have hkey := WideElems.rd_key hy
    obtain ⟨v, _, hkl, hv⟩ := keyOf_int_inv hk hkey
    have h1 := r.has hv
    rw [hall v hv] at h1
    have h2 : Maps.has (.map ((es.toList.map (WideElems.rg P k R)).foldr DataW.insert [])) (kI v) = true := by
      refine List.any_eq_true.2 ⟨WideElems.rg P k R x, mem_sorted.2 (List.mem_map.2 ⟨x, hxm, rfl⟩), ?_⟩
      rw [WideElems.rg_of hy, hkl]
      exact WideAt.sameKey_self (kI_key v)
    rw [h2] at h1
    cases h1
end

section
variable {P : Program} {k : TypeId} {R : Value → Option (DataW Unit × List MemPlace)} (w : World) {b n : Nat} {f : Int → Option (DataW Unit)} {ops : Array Oper} {rest : List Oper} {o : Oper} {a : Act} {Q : Exit → Act → World → Prop}
/-- 'm[v] = x'. -/
theorem wp_put (hg : o.guard = none) (m x y : Operand) (t : TypeId) (hop : o.op = Op.mapUpdate t m x y) {e : TypeId} (K : Keyed P k) (hk : P.underlying k = some (.int .i64)) (ht : P.underlying t = some (.map k e))
    (hm : a.eval m = .map (some b)) (h : MapAt P k R w b n f) (hn : n < maxLen) (v : Int) (hx : a.eval x = .int .i64 v) (hv : (Lit.int .i64 v).wf = true) (val : Value) (hy : a.eval y = val) (d : DataW Unit) (ps : List MemPlace) (hval : R val = some (d, ps))
    (hK : ∀ w', MapAt P k R w' b (n + 1) (fun x => if x = v then some d else f x) → w.grownBy w' (some b) → w'.heap.size = w.heap.size → wpList P ops Q rest (a.put o.dst undef) w') :
    wpList P ops Q (o :: rest) a w := by
  obtain ⟨D, h, r⟩ := h
  refine wpList_mapUpdate_in w hg m x y t hop k e K ht R b n D hm h hn _ val (kI v) hx hy (keyOf_int_mk hk hv) d ps hval fun w' h' ht' => ?_
  refine hK w' ⟨_, h', r.put h.isMap v d⟩ ht'.grown ?_
  obtain ⟨_, _, _, _, _, rfl⟩ := ht'
  simp [Go.ChangeMaps.setBlock]
/-- 'delete(m, v)'. -/
theorem wp_del (hg : o.guard = none) (m x : Operand) (t : TypeId) (hop : o.op = Op.call { callee := Callee.builtin Builtin.delete, args := #[m, x], argTypes := #[t, k] }) {e : TypeId} (K : Keyed P k) (hk : P.underlying k = some (.int .i64)) (ht : P.underlying t = some (.map k e))
    (hm : a.eval m = .map (some b)) (h : MapAt P k R w b n f) (v : Int) (hx : a.eval x = .int .i64 v) (hv : (Lit.int .i64 v).wf = true)
    (hK : ∀ w', MapAt P k R w' b n (fun x => if x = v then none else f x) → w.grownBy w' (some b) → w'.heap.size = w.heap.size → wpList P ops Q rest (a.put o.dst (.tuple #[])) w') :
    wpList P ops Q (o :: rest) a w := by
  obtain ⟨D, h, r⟩ := h
  refine wpList_delete_own w hg m x t k hop e K ht R b n D hm h _ (kI v) hx (keyOf_int_mk hk hv) fun w' h' ht' => ?_
  refine hK w' ⟨_, h', r.del v⟩ ht'.grown ?_
  obtain ⟨_, _, _, _, _, rfl⟩ := ht'
  simp [Go.ChangeMaps.setBlock]

/-- A range over the map is under way: what is still to come, by key. -/
def RangeAt (P : Program) (k : TypeId) (R : Value → Option (DataW Unit × List MemPlace)) (w : World) (b r n : Nat) (f : Int → Option (DataW Unit)) (L : Int → Bool) (cnt : Nat) : Prop :=
  ∃ D left, w.ranges P k R b r n D left cnt ∧ Reads D f ∧ ∀ v, L v = left (kI v)
/-- 'range m'. -/
theorem wp_range (hg : o.guard = none) (m : Operand) (t : TypeId) (hop : o.op = Op.range t m) {e : TypeId} (K : Keyed P k) (ht : P.underlying t = some (.map k e))
    (hm : a.eval m = .map (some b)) (h : MapAt P k R w b n f)
    (hK : ∀ w' L cnt, RangeAt P k R w' b w.heap.size n f L cnt → (∀ v, (Lit.int .i64 v).wf = true → L v = (f v).isSome) → cnt ≤ n → w.grownBy w' none → w'.heap.size = w.heap.size + 1 → wpList P ops Q rest (a.put o.dst (.pointer (some ⟨w.heap.size, 0, none⟩))) w') :
    wpList P ops Q (o :: rest) a w := by
  obtain ⟨D, h, r⟩ := h
  refine wpList_range_own w hg m t hop k e K ht R b n D hm h fun w' h1 h2 h3 => ?_
  exact hK w' (fun v => Maps.has D (kI v)) _ ⟨D, _, h1, r, fun _ => rfl⟩ (fun v hv => r.has hv) h.size_le h2 h3
/-- The step. -/
theorem wp_next {β : Type} {r : Nat} {L : Int → Bool} {cnt : Nat} (hg : o.guard = none) (it : Operand) (hop : o.op = Op.next it false) (K : Keyed P k) (hk : P.underlying k = some (.int .i64)) (mkV : β → Value) (invV : ∀ v y, R v = some y → ∃ c, v = mkV c)
    (hit : a.eval it = .pointer (some ⟨r, 0, none⟩)) (h : RangeAt P k R w b r n f L cnt)
    (hDone : (∀ v, L v = false) → MapAt P k R w b n f → wpList P ops Q rest (a.put o.dst (.tuple #[.bool false])) w)
    (hMore : ∀ (x : Int) (c : β) (w' : World) (cnt' : Nat), (Lit.int .i64 x).wf = true → L x = true → (∃ d ps, R (mkV c) = some (d, ps) ∧ f x = some d) → RangeAt P k R w' b r n f (fun v => L v && !(v == x)) cnt' → cnt' < cnt →
      w.grownBy w' (some r) → w'.heap.size = w.heap.size → (Instr.entry (.pointer (some ⟨r, 0, none⟩))).run P w' = .ok (.tuple #[.int .i64 x, mkV c]) w' → wpList P ops Q rest (a.put o.dst (.tuple #[.bool true, .int .i64 x, mkV c])) w') :
    wpList P ops Q (o :: rest) a w := by
  obtain ⟨D, left, h, rd, hL⟩ := h
  refine wpList_next_ranges w hg it hop k K R (Value.int .i64) mkV (fun key kl hkey => by obtain ⟨x, rfl, _⟩ := keyOf_int_inv hk hkey; exact ⟨x, rfl⟩) invV b r n D left cnt hit h
    (fun _ hl => hDone (fun v => by rw [hL, hl]) ⟨D, h.owns, rd⟩) (fun x c kl y w' cnt' hkey hlk hv hat hrg hlt hgr hsz hen => ?_)
  obtain ⟨x', ex, rfl, hwx⟩ := keyOf_int_inv hk hkey
  cases ex
  exact hMore x c w' cnt' hwx (by rw [hL]; exact hlk) ⟨y.1, y.2, hv, rd.of_at hwx hat⟩ ⟨D, _, hrg, rd, fun v => by show (L v && !(v == x)) = (left (kI v) && !(kI v).sameKey (kI x)); rw [hL, kI_same]⟩ hlt hgr hsz hen
end
theorem RangeAt.kept {P : Program} {k : TypeId} {R : Value → Option (DataW Unit × List MemPlace)} {w w' : World} {b r n : Nat} {f : Int → Option (DataW Unit)} {L : Int → Bool} {cnt : Nat} {row : Option Nat}
    (h : RangeAt P k R w b r n f L cnt) (hg : w.grownBy w' row) (h1 : some b ≠ row) (h2 : some r ≠ row) : RangeAt P k R w' b r n f L cnt := by
  obtain ⟨D, left, h, rest⟩ := h
  exact ⟨D, left, h.kept hg h1 h2, rest⟩
theorem RangeAt.owns {P : Program} {k : TypeId} {R : Value → Option (DataW Unit × List MemPlace)} {w : World} {b r n : Nat} {f : Int → Option (DataW Unit)} {L : Int → Bool} {cnt : Nat} (h : RangeAt P k R w b r n f L cnt) : MapAt P k R w b n f := by
  obtain ⟨D, left, h, rd, _⟩ := h
  exact ⟨D, h.owns, rd⟩
theorem RangeAt.left_eq {P : Program} {k : TypeId} {R : Value → Option (DataW Unit × List MemPlace)} {w : World} {b r n : Nat} {f : Int → Option (DataW Unit)} {L : Int → Bool} {cnt : Nat} (h : RangeAt P k R w b r n f L cnt) : w.rangeLeft b r = cnt := by
  obtain ⟨D, left, h, _⟩ := h
  exact h.left_eq
theorem RangeAt.lt {P : Program} {k : TypeId} {R : Value → Option (DataW Unit × List MemPlace)} {w : World} {b r n : Nat} {f : Int → Option (DataW Unit)} {L : Int → Bool} {cnt : Nat} (h : RangeAt P k R w b r n f L cnt) : r < w.heap.size := by
  obtain ⟨D, left, h, _⟩ := h
  exact h.lt
theorem RangeAt.ne {P : Program} {k : TypeId} {R : Value → Option (DataW Unit × List MemPlace)} {w : World} {b r n : Nat} {f : Int → Option (DataW Unit)} {L : Int → Bool} {cnt : Nat} (h : RangeAt P k R w b r n f L cnt) : r ≠ b := by
  obtain ⟨D, left, h, _⟩ := h
  exact h.ne
end Go.Proofs.YtghekfigfjhkeabDoor.num
namespace Go.Proofs.YtghekfigfjhkeabDoor.num
open Go.RowKit Go.Maps
set_option linter.unusedVariables false

theorem keyInt : Keyed Tryd.prog 3 := int_keyed Tryd.underlying3
def setElem (v : Value) : Option (DataW Unit × List MemPlace) := match v with
  | .bool x => some (.lit (.bool x), [])
  | _ => none
def refElem (v : Value) : Option (DataW Unit × List MemPlace) := match v with
  | .map none => some (.lit (.int .i64 (-1)), [])
  | .map (some b) => some (.lit (.int .i64 b), [])
  | _ => none
def refLit : Option Nat → DataW Unit
  | none => .lit (.int .i64 (-1))
  | some b => .lit (.int .i64 b)
theorem refElem_map (o : Option Nat) : refElem (.map o) = some (refLit o, []) := by cases o <;> rfl
theorem refLit_inj {o o' : Option Nat} (h : refLit o = refLit o') : o = o' := by
  cases o <;> cases o' <;> simp [refLit] at h ⊢ <;> omega
theorem setElem_inv (v : Value) (y : DataW Unit × List MemPlace) (h : setElem v = some y) : ∃ c : Bool, v = .bool c := by
  unfold setElem at h
  split at h
  · exact ⟨_, rfl⟩
  · cases h
theorem refElem_inv (v : Value) (y : DataW Unit × List MemPlace) (h : refElem v = some y) : ∃ c : Option Nat, v = .map c := by
  unfold refElem at h
  split at h
  · exact ⟨_, rfl⟩
  · exact ⟨_, rfl⟩
  · cases h

def bit (S : Int → Bool) (v : Int) : Option (DataW Unit) := if S v then some (.lit (.bool true)) else none
/-- Block b is a map[int]bool that holds just the values of S, each with true. -/
def SetAt (w : World) (b n : Nat) (S : Int → Bool) : Prop := MapAt Tryd.prog 3 setElem w b n (bit S)
/-- Block b is a map from values to sets: M v is the element at v. -/
def OutAt (w : World) (b n : Nat) (M : Int → Option (Option Nat)) : Prop := MapAt Tryd.prog 3 refElem w b n (fun v => (M v).map refLit)
theorem bit_congr {S S' : Int → Bool} {v : Int} (h : S v = S' v) : bit S v = bit S' v := by unfold bit; rw [h]
/-- The element at v, as a place; nil where there is none. -/
def elt (M : Int → Option (Option Nat)) (v : Int) : Option Nat := (M v).getD none
theorem SetAt.congr {w : World} {b n : Nat} {S S' : Int → Bool} (h : SetAt w b n S) (e : ∀ v, (Lit.int .i64 v).wf = true → S v = S' v) : SetAt w b n S' := MapAt.congr h fun v hv => by unfold bit; rw [e v hv]
theorem SetAt.made (w : World) : SetAt (w.alloc (.map #[] 0)) w.heap.size 0 (fun _ => false) := MapAt.made w
theorem OutAt.made (w : World) : OutAt (w.alloc (.map #[] 0)) w.heap.size 0 (fun _ => none) := MapAt.made w
theorem zero_bool (w : World) : (zeroValue 4).run Tryd.prog w = .ok (.bool false) w := by kernel_rfl
theorem zero_set (w : World) : (zeroValue 107).run Tryd.prog w = .ok (.map none) w := by kernel_rfl
/-- s[v]. -/
theorem SetAt.look {w : World} {b n : Nat} {S : Int → Bool} (h : SetAt w b n S) (v : Int) (hv : (Lit.int .i64 v).wf = true) : (Instr.lookup 107 (.map (some b)) (.int .i64 v) false).run Tryd.prog w = .ok (.bool (S v)) w := by
  obtain ⟨val, ps, h1, h2⟩ := MapAt.look h keyInt Tryd.underlying3 Tryd.underlying107 (zero_bool w) (zd := .lit (.bool false)) (zp := []) rfl hv
  obtain ⟨c, rfl⟩ := setElem_inv _ _ h2
  rw [h1]
  unfold bit setElem at h2
  cases e : S v <;> rw [e] at h2 <;> simp at h2 <;> rw [h2.1]
theorem nil_look (w : World) (v : Int) (hv : (Lit.int .i64 v).wf = true) : (Instr.lookup 107 (.map none) (.int .i64 v) false).run Tryd.prog w = .ok (.bool false) w :=
  Maps.look_nil false keyInt Tryd.underlying107 (zero_bool w) (keyOf_int_mk Tryd.underlying3 hv)
theorem OutAt.look {w : World} {b n : Nat} {M : Int → Option (Option Nat)} (h : OutAt w b n M) (v : Int) (hv : (Lit.int .i64 v).wf = true) : (Instr.lookup 65 (.map (some b)) (.int .i64 v) false).run Tryd.prog w = .ok (.map (elt M v)) w := by
  obtain ⟨val, ps, h1, h2⟩ := MapAt.look h keyInt Tryd.underlying3 Tryd.underlying65 (zero_set w) (zd := refLit none) (zp := []) rfl hv
  obtain ⟨c, rfl⟩ := refElem_inv _ _ h2
  rw [h1]
  rw [refElem_map] at h2
  have h3 := congrArg Prod.fst (Option.some.inj h2)
  unfold elt
  cases e : M v with
  | none => rw [e] at h3; exact congrArg (fun c => Result.ok (Value.map c) w) (refLit_inj h3)
  | some o => rw [e] at h3; exact congrArg (fun c => Result.ok (Value.map c) w) (refLit_inj h3)
theorem nil_out (w : World) (v : Int) (hv : (Lit.int .i64 v).wf = true) : (Instr.lookup 65 (.map none) (.int .i64 v) false).run Tryd.prog w = .ok (.map none) w :=
  Maps.look_nil false keyInt Tryd.underlying65 (zero_set w) (keyOf_int_mk Tryd.underlying3 hv)
/-- A set that may be nil. -/
def OptSet (w : World) (o : Option Nat) (n : Nat) (S : Int → Bool) : Prop := match o with
  | none => ∀ v, S v = false
  | some b => SetAt w b n S
theorem OptSet.kept {w w' : World} {o : Option Nat} {n : Nat} {S : Int → Bool} {row : Option Nat} (h : OptSet w o n S) (hg : w.grownBy w' row) (hne : ∀ b, o = some b → some b ≠ row) : OptSet w' o n S := by
  cases o with
  | none => exact h
  | some b => exact MapAt.kept h hg (hne b rfl)
theorem OptSet.look {w : World} {o : Option Nat} {n : Nat} {S : Int → Bool} (h : OptSet w o n S) (v : Int) (hv : (Lit.int .i64 v).wf = true) : (Instr.lookup 107 (.map o) (.int .i64 v) false).run Tryd.prog w = .ok (.bool (S v)) w := by
  cases o with
  | none => rw [nil_look w v hv, h v]
  | some b => exact SetAt.look h v hv

section
variable (w : World) {b n : Nat} {ops : Array Oper} {rest : List Oper} {o : Oper} {a : Act} {Q : Exit → Act → World → Prop}
/-- The step of a range over a set. -/
theorem wp_next_set {S : Int → Bool} {r : Nat} {L : Int → Bool} {cnt : Nat} (hg : o.guard = none) (it : Operand) (hop : o.op = Op.next it false)
    (hit : a.eval it = .pointer (some ⟨r, 0, none⟩)) (h : RangeAt Tryd.prog 3 setElem w b r n (bit S) L cnt)
    (hDone : (∀ v, L v = false) → wpList Tryd.prog ops Q rest (a.put o.dst (.tuple #[.bool false])) w)
    (hMore : ∀ (x : Int) (w' : World) (cnt' : Nat), (Lit.int .i64 x).wf = true → L x = true → S x = true → RangeAt Tryd.prog 3 setElem w' b r n (bit S) (fun v => L v && !(v == x)) cnt' → cnt' < cnt →
      w.grownBy w' (some r) → w'.heap.size = w.heap.size → (Instr.entry (.pointer (some ⟨r, 0, none⟩))).run Tryd.prog w' = .ok (.tuple #[.int .i64 x, .bool true]) w' → wpList Tryd.prog ops Q rest (a.put o.dst (.tuple #[.bool true, .int .i64 x, .bool true])) w') :
    wpList Tryd.prog ops Q (o :: rest) a w :=
  wp_next w hg it hop keyInt Tryd.underlying3 Value.bool setElem_inv hit h (fun h1 _ => hDone h1) (fun x c w' cnt' h1 h2 h3 h4 h5 h6 h7 h8 => by
    obtain ⟨d, ps, e1, e2⟩ := h3
    unfold bit at e2
    cases e : S x
    · rw [e] at e2; cases e2
    · rw [e] at e2
      cases e2
      cases c
      · cases e1
      · exact hMore x w' cnt' h1 h2 e h4 h5 h6 h7 h8)
/-- An entry of a map of sets has come: at x, the element o. -/
structure Came (w w' : World) (b r n : Nat) (M : Int → Option (Option Nat)) (L : Int → Bool) (cnt cnt' : Nat) (x : Int) (o : Option Nat) : Prop where
  wf : (Lit.int .i64 x).wf = true
  left : L x = true
  elem : M x = some o
  range : RangeAt Tryd.prog 3 refElem w' b r n (fun v => (M v).map refLit) (fun v => L v && !(v == x)) cnt'
  lt : cnt' < cnt
  grown : w.grownBy w' (some r)
  size : w'.heap.size = w.heap.size
  entry : (Instr.entry (.pointer (some ⟨r, 0, none⟩))).run Tryd.prog w' = .ok (.tuple #[.int .i64 x, .map o]) w'
/-- The step of a range over a map of sets, all of them there. -/
theorem wp_next_ref {M : Int → Option Nat} {r : Nat} {L : Int → Bool} {cnt : Nat} (hg : o.guard = none) (it : Operand) (hop : o.op = Op.next it false)
    (hit : a.eval it = .pointer (some ⟨r, 0, none⟩)) (h : RangeAt Tryd.prog 3 refElem w b r n (fun v => (M v).map some |>.map refLit) L cnt)
    (hDone : (∀ v, L v = false) → wpList Tryd.prog ops Q rest (a.put o.dst (.tuple #[.bool false])) w)
    (hMore : ∀ (x : Int) (z : Nat) (w' : World) (cnt' : Nat), Came w w' b r n (fun v => (M v).map some) L cnt cnt' x (some z) → wpList Tryd.prog ops Q rest (a.put o.dst (.tuple #[.bool true, .int .i64 x, .map (some z)])) w') :
    wpList Tryd.prog ops Q (o :: rest) a w :=
  wp_next w hg it hop keyInt Tryd.underlying3 Value.map refElem_inv hit h (fun h1 _ => hDone h1) (fun x c w' cnt' h1 h2 h3 h4 h5 h6 h7 h8 => by
    obtain ⟨d, ps, e1, e2⟩ := h3
    rw [refElem_map] at e1
    cases e1
    cases e : M x with
    | none => simp [e] at e2
    | some z =>
      simp only [e, Option.map_some, Option.some.injEq] at e2
      obtain rfl := refLit_inj e2
      exact hMore x z w' cnt' ⟨h1, h2, by simp [e], h4, h5, h6, h7, h8⟩)
/-- The step of a range over a map of sets, some of them nil. -/
theorem wp_next_out {M : Int → Option (Option Nat)} {r : Nat} {L : Int → Bool} {cnt : Nat} (hg : o.guard = none) (it : Operand) (hop : o.op = Op.next it false)
    (hit : a.eval it = .pointer (some ⟨r, 0, none⟩)) (h : RangeAt Tryd.prog 3 refElem w b r n (fun v => (M v).map refLit) L cnt)
    (hDone : (∀ v, L v = false) → wpList Tryd.prog ops Q rest (a.put o.dst (.tuple #[.bool false])) w)
    (hMore : ∀ (x : Int) (w' : World) (cnt' : Nat), Came w w' b r n M L cnt cnt' x (elt M x) → wpList Tryd.prog ops Q rest (a.put o.dst (.tuple #[.bool true, .int .i64 x, .map (elt M x)])) w') :
    wpList Tryd.prog ops Q (o :: rest) a w :=
  wp_next w hg it hop keyInt Tryd.underlying3 Value.map refElem_inv hit h (fun h1 _ => hDone h1) (fun x c w' cnt' h1 h2 h3 h4 h5 h6 h7 h8 => by
    obtain ⟨d, ps, e1, e2⟩ := h3
    rw [refElem_map] at e1
    cases e1
    have hc : M x = some c := by
      cases e : M x with
      | none => simp [e] at e2
      | some c' =>
        simp only [e, Option.map_some, Option.some.injEq] at e2
        rw [refLit_inj e2]
    have he : elt M x = c := by unfold elt; rw [hc]; rfl
    subst he
    exact hMore x w' cnt' ⟨h1, h2, hc, h4, h5, h6, h7, h8⟩)
end

theorem copy_set (w : World) (bd bs nd ns : Nat) (S S' : Int → Bool) (hd : SetAt w bd nd S) (hs : SetAt w bs ns S') (hne : bd ≠ bs) (hroom : nd + ns ≤ 1048576) :
    Calls Tryd.prog 71 #[.map (some bd), .map (some bs)] w fun e w' => e = .returned (.tuple #[]) ∧ SetAt w' bd (nd + ns) (fun v => S v || S' v) ∧ w.grownBy w' (some bd) := by
  have hbd : bd < w.heap.size := MapAt.lt hd
  have hbs : bs < w.heap.size := MapAt.lt hs
  go_enter Tryd.func71, Tryd.ntmps71
  go_wp2_with (first
    | (at_range; refine wp_range _ rfl _ 107 rfl keyInt Tryd.underlying107 rfl hs ?_; intro w0 L0 cnt0 hrg0 hL0 hc0 hg0 hs0)
    | go_in)
  go_frame
  go_loopw [8] (fun _ wr => ∃ (L : Int → Bool) (cnt : Nat), RangeAt Tryd.prog 3 setElem wr bs w.heap.size ns (bit S') L cnt ∧ cnt ≤ ns ∧ SetAt wr bd (nd + (ns - cnt)) (fun v => S v || (S' v && !L v)) ∧ w.grownBy wr (some bd))
    (fun _ wr => wr.rangeLeft bs w.heap.size)
  case atStart =>
    refine ⟨_, _, hrg0, hc0, ((MapAt.kept hd hg0 (by simp)).mono (by omega)).congr fun v hv => ?_, hg0.but _⟩
    refine bit_congr ?_
    have := hL0 v hv
    unfold bit at this
    show S v = (S v || (S' v && !L0 v))
    rw [this]
    cases S v <;> cases S' v <;> rfl
  case round =>
    obtain ⟨L, cnt, hrg, hcn, hout, hgw⟩ := hrel
    go_wp2_with (first
      | (at_next; refine wp_next_set _ rfl _ rfl rfl hrg ?_ ?_)
      | go_in)
    · intro hl0
      go_wp2
      go_end0
      exact ⟨rfl, (MapAt.mono hout (by omega)).congr fun v _ => bit_congr (by simp [hl0]), hgw⟩
    · intro x w1 cnt1 hwx hlx hsx hrg1 hlt hg1 hs1 hen
      have hr1 := hrg.lt
      have hgr := hgw.size
      have hout1 := MapAt.kept hout hg1 (fun e => by have := Option.some.inj e; omega)
      have HSX := Lib.hid hsx
      have HL := Lib.hid hlx
      clear hsx hlx
      go_wp2_with (first
        | (at_mapUpdate; refine wp_put _ rfl _ _ _ 107 rfl keyInt Tryd.underlying3 Tryd.underlying107 rfl hout1 (by unfold maxLen; omega) x rfl hwx _ rfl (.lit (.bool true)) [] rfl ?_; intro w2 hout2 hg2 hs2; go_frame)
        | go_in)
      have hrg2 := hrg1.kept hg2 (fun e => hne (Option.some.inj e).symm) (fun e => by have := Option.some.inj e; omega)
      go_roundw
      case rel =>
        refine ⟨_, cnt1, hrg2, by omega, (MapAt.mono hout2 (by omega)).congr fun v hv => ?_, (hgw.andThen hg1 (fun j hj => .inl (by cases hj; exact Nat.le_refl _))).andThen hg2 (fun j hj => .inr hj)⟩
        show (if v = x then some (DataW.lit (Lit.bool true)) else bit (fun v => S v || (S' v && !L v)) v) = bit (fun v => S v || (S' v && !(L v && !(v == x)))) v
        by_cases e : v = x
        · subst e
          simp [bit, HSX.out]
        · have e' : (v == x) = false := by simpa using e
          simp [bit, e, e']
      case measure => rw [hrg2.left_eq, hrg.left_eq]; exact hlt

theorem copy_nil (w : World) (pd : Option Nat) :
    Calls Tryd.prog 71 #[.map pd, .map none] w fun e w' => e = .returned (.tuple #[]) ∧ w' = w.alloc (.mapIter none 0 #[] 0) := by
  have hrg := run_range_nilMap (P := Tryd.prog) w 107 _ _ Tryd.underlying107
  have hnx : ∀ ty, (Instr.next (.pointer (some ⟨w.heap.size, 0, none⟩)) false ty).run Tryd.prog (w.alloc (.mapIter none 0 #[] 0)) = _ := fun ty => run_next_nilMap _ ty 0 0 #[]
  go_enter Tryd.func71, Tryd.ntmps71
  go_wp2
  refine wp_loop_rounds 1 ?_
  rw [rounds_succ]
  go_wp2
  go_end0
  exact ⟨rfl, rfl⟩

theorem copy_of_set (w : World) (bd nd ns : Nat) (o : Option Nat) (S S' : Int → Bool) (hd : SetAt w bd nd S) (hs : OptSet w o ns S') (hne : o ≠ some bd) (hroom : nd + ns ≤ 1048576) :
    Calls Tryd.prog 71 #[.map (some bd), .map o] w fun e w' => e = .returned (.tuple #[]) ∧ SetAt w' bd (nd + ns) (fun v => S v || S' v) ∧ w.grownBy w' (some bd) := by
  cases o with
  | none =>
    refine (copy_nil w (some bd)).mono fun e w' ⟨he, hw⟩ => ?_
    subst hw
    refine ⟨he, ((MapAt.alloc hd _).mono (Nat.le_add_right _ _)).congr fun v _ => ?_, World.grownBy_alloc w _ _⟩
    refine bit_congr ?_
    show S v = (S v || S' v)
    rw [hs v]
    simp
  | some b => exact copy_set w bd b nd ns S S' hd hs (fun e => hne (by rw [e])) hroom
end Go.Proofs.YtghekfigfjhkeabDoor.num
namespace Go.Proofs.YtghekfigfjhkeabDoor.num
open Go.RowKit Go.Maps
set_option linter.unusedVariables false

/-- Block b of w is the map whose element at v (block M v) is the set of those a with R a v; all of it from block B on. -/
structure SetsR (w : World) (B b n : Nat) (M : Int → Option Nat) (R : Int → Int → Bool) : Prop where
  out : OutAt w b n (fun v => (M v).map some)
  low : B ≤ b
  has : ∀ v a, R a v = true → ∃ x, M v = some x
  rng : ∀ v x, M v = some x → InR v
  sets : ∀ v x, M v = some x → B ≤ x ∧ x ≠ b ∧ SetAt w x n (fun a => R a v)
  inj : ∀ v v' x, M v = some x → M v' = some x → v = v'
theorem SetsR.below {w w' : World} {B b n : Nat} {M : Int → Option Nat} {R : Int → Int → Bool} (h : SetsR w B b n M R) (hb : Below w.heap.size w w') : SetsR w' B b n M R :=
  ⟨MapAt.block h.out (hb.block _ (MapAt.lt h.out)), h.low, h.has, h.rng, fun v x hx => by
    obtain ⟨h1, h2, h3⟩ := h.sets v x hx
    exact ⟨h1, h2, MapAt.block h3 (hb.block _ (MapAt.lt h3))⟩, h.inj⟩
theorem SetsR.none {w : World} {B b n : Nat} {M : Int → Option Nat} {R : Int → Int → Bool} (h : SetsR w B b n M R) {v : Int} (hv : M v = none) (a : Int) : R a v = false := by
  cases e : R a v
  · rfl
  · obtain ⟨x, hx⟩ := h.has v a e
    rw [hv] at hx; cases hx
theorem elt_some (M : Int → Option Nat) (v : Int) : elt (fun v => (M v).map some) v = M v := by
  unfold elt
  cases e : M v <;> simp [e]
theorem SetsR.opt {w : World} {B b n : Nat} {M : Int → Option Nat} {R : Int → Int → Bool} (h : SetsR w B b n M R) (v : Int) : OptSet w (M v) n (fun a => R a v) := by
  cases e : M v with
  | none => exact fun a => h.none e a
  | some x => exact (h.sets v x e).2.2
theorem inR_wf {v : Int} (h : InR v) : (Lit.int .i64 v).wf = true := WalkArith.wf_i64 (by unfold InR at h; omega)

theorem eq_nil_yes (w : World) : (binOp BinOp.eql 107 (.map none) (.map none)).run Tryd.prog w = .ok (.bool true) w := by kernel_rfl
theorem eq_nil_no (w : World) (z : Nat) : (binOp BinOp.eql 107 (.map (some z)) (.map none)).run Tryd.prog w = .ok (.bool false) w := by kernel_rfl

theorem closes_of (w : World) (B b n : Nat) (M : Int → Option Nat) (R : Int → Int → Bool) (h : SetsR w B b n M R) (x y : Int) (hx : InR x) (hy : InR y) (q : Bool) (hq : q = true ↔ x = y ∨ R y x = true) :
    Calls Tryd.prog 58 #[.map (some b), .agg #[.int .i64 x, .int .i64 y]] w fun e w' => e = .returned (.bool q) ∧ Below w.heap.size w w' := by
  have HQ := Lib.hid hq
  have HS := Lib.hid h
  have HX := Lib.hid hx
  have HY := Lib.hid hy
  clear hq h hx hy
  by_cases he : x = y
  · subst he
    obtain rfl : q = true := HQ.out.2 (.inl rfl)
    go_enter Tryd.func58, Tryd.ntmps58
    go_wp2
    go_ret
    exact ⟨rfl, (Below.refl _ w).alloc (Nat.le_refl _) _⟩
  · have hne : (x == y) = false := by simpa using he
    obtain rfl : q = R y x := by
      rw [Bool.eq_iff_iff, HQ.out]
      exact ⟨fun h => h.resolve_left he, fun h => .inr h⟩
    have HE := Lib.hid he
    clear he HQ
    have hS1 := HS.out.below ((Below.refl w.heap.size w).alloc (Nat.le_refl _) (.cells #[.int .i64 x, .int .i64 y] 43))
    have e1 := hS1.out.look x (inR_wf HX.out)
    rw [elt_some] at e1
    have e2 := (hS1.opt x).look y (inR_wf HY.out)
    clear hS1
    go_enter Tryd.func58, Tryd.ntmps58
    go_wp2
    go_ret
    exact ⟨rfl, (Below.refl _ w).alloc (Nat.le_refl _) _⟩

/-- addPair's loop under way: the sets of those values that have come are the new ones. -/
structure AddInv (wr w : World) (B b pb r n : Nat) (x y : Int) (M : Int → Option Nat) (R : Int → Int → Bool) (L : Int → Bool) : Prop where
  low : Below B w wr
  box : wr.heap[pb]? = some (.cells #[.int .i64 x, .int .i64 y] 43)
  sets : ∀ v z, M v = some z → SetAt wr z (if L v then n else 2 * n + 1) (fun a => if L v then R a v else stepR R (x, y) a v)
  src : ∀ z, M x = some z → SetAt wr z n (fun a => R a x)
  ends : ∀ v z, M v = some z → B ≤ z ∧ z ≠ b ∧ z ≠ pb ∧ z < r
  pbr : pb < r ∧ B ≤ r ∧ B ≤ pb ∧ b < r ∧ B ≤ b ∧ b ≠ pb
/-- Blocks that are none of the sets, nor the pair's own, may turn. -/
theorem AddInv.kept {wr w1 w : World} {B b pb r n : Nat} {x y : Int} {M : Int → Option Nat} {R : Int → Int → Bool} {L : Int → Bool} (h : AddInv wr w B b pb r n x y M R L) (hg : wr.grownBy w1 (some r)) (hr : r < wr.heap.size) : AddInv w1 w B b pb r n x y M R L :=
  ⟨h.low.grown hg (by have := h.pbr; omega) (fun k hk => by cases hk; exact h.pbr.2.1), (hg.block pb (by have := h.pbr; omega) (fun e => by have := Option.some.inj e; have := h.pbr; omega)).trans h.box,
    fun v z hz => MapAt.kept (h.sets v z hz) hg (fun e => by have := Option.some.inj e; have := h.ends v z hz; omega),
    fun z hz => MapAt.kept (h.src z hz) hg (fun e => by have := Option.some.inj e; have := h.ends x z hz; omega), h.ends, h.pbr⟩
theorem AddInv.cells {wr w : World} {B b pb r n : Nat} {x y : Int} {M : Int → Option Nat} {R : Int → Int → Bool} {L : Int → Bool} (h : AddInv wr w B b pb r n x y M R L) : wr.cell? ⟨pb, 0, none⟩ = some (.int .i64 x) ∧ wr.cell? ⟨pb, 1, none⟩ = some (.int .i64 y) := by
  have := h.box
  constructor <;> simp [World.cell?, this]
/-- The value u has come, and nothing is to be done. -/
theorem AddInv.skip {wr w : World} {B b pb r n : Nat} {x y u : Int} {M : Int → Option Nat} {R : Int → Int → Bool} {L : Int → Bool} (h : AddInv wr w B b pb r n x y M R L) (hu : L u = true) (h1 : u ≠ y) (h2 : R y u = false) : AddInv wr w B b pb r n x y M R (fun v => L v && !(v == u)) :=
  ⟨h.low, h.box, fun v z hz => by
    have hs := h.sets v z hz
    by_cases e : v = u
    · subst e
      rw [hu] at hs
      refine (MapAt.mono hs (by simp; omega)).congr fun a _ => bit_congr ?_
      have h1' : (v == y) = false := by simpa using h1
      simp [stepR, h1', h2]
    · have e' : (v == u) = false := by simpa using e
      refine MapAt.congr (MapAt.mono hs (by simp [e'])) fun a _ => bit_congr (by simp [e']), h.src, h.ends, h.pbr⟩
/-- The value u has come, and its set has been written. -/
theorem AddInv.done {wr w' w : World} {B b pb r n z : Nat} {x y u : Int} {M : Int → Option Nat} {R : Int → Int → Bool} {L : Int → Bool} (h : AddInv wr w B b pb r n x y M R L) (hM : ∀ v v' x, M v = some x → M v' = some x → v = v') (hz : M u = some z) (hux : u ≠ x) (hc : u = y ∨ R y u = true)
    (hg : wr.grownBy w' (some z)) (hr : r < wr.heap.size) (hnew : SetAt w' z (2 * n + 1) (fun a => (if a = x then true else R a u) || R a x)) : AddInv w' w B b pb r n x y M R (fun v => L v && !(v == u)) := by
  have hze := h.ends u z hz
  refine ⟨h.low.grown hg (by have := h.pbr; omega) (fun k hk => by cases hk; exact hze.1), (hg.block pb (by have := h.pbr; omega) (fun e => by have := Option.some.inj e; omega)).trans h.box, fun v z' hz' => ?_, fun z' hz' => ?_, h.ends, h.pbr⟩
  · by_cases e : v = u
    · subst e
      obtain rfl : z = z' := Option.some.inj (hz.symm.trans hz')
      refine (MapAt.mono hnew (by simp)).congr fun a _ => bit_congr ?_
      have hcc : (v == y || R y v) = true := by
        rcases hc with rfl | hc
        · simp
        · simp [hc]
      simp only [BEq.rfl, Bool.not_true, Bool.and_false, Bool.false_eq_true, if_false, stepR, hcc, Bool.and_true]
      by_cases ea : a = x
      · subst ea; simp
      · have ea' : (a == x) = false := by simpa using ea
        simp [ea, ea']
    · have hzz : z' ≠ z := fun e' => e (hM _ _ z' hz' (e' ▸ hz))
      have e' : (v == u) = false := by simpa using e
      refine MapAt.congr (MapAt.mono (MapAt.kept (h.sets v z' hz') hg (fun e => hzz (Option.some.inj e))) (by simp [e'])) fun a _ => bit_congr (by simp [e'])
  · have hzz : z' ≠ z := fun e' => hux (hM _ _ z (hz) (e' ▸ hz'))
    exact MapAt.kept (h.src z' hz') hg (fun e => hzz (Option.some.inj e))
/-- All have come. -/
theorem AddInv.fin {wr w : World} {B b pb r n : Nat} {x y : Int} {M : Int → Option Nat} {R : Int → Int → Bool} {L : Int → Bool} (h : AddInv wr w B b pb r n x y M R L) (hl : ∀ v, L v = false) (hout : OutAt wr b n (fun v => (M v).map some))
    (hhas : ∀ v a, R a v = true → ∃ x, M v = some x) (hy : ∃ z, M y = some z) (hrng : ∀ v x, M v = some x → InR v) (hM : ∀ v v' x, M v = some x → M v' = some x → v = v') (m : Nat) (hm : 2 * n + 1 ≤ m) : SetsR wr B b m M (stepR R (x, y)) :=
  ⟨MapAt.mono hout (by omega), h.pbr.2.2.2.2.1, fun v a ha => by
    unfold stepR at ha
    simp only [Bool.or_eq_true, Bool.and_eq_true, beq_iff_eq] at ha
    rcases ha with ha | ⟨_, ha⟩
    · exact hhas v a ha
    · rcases ha with rfl | ha
      · exact hy
      · exact hhas v y ha, hrng, fun v z hz => by
    obtain ⟨h1, h2, _⟩ := h.ends v z hz
    refine ⟨h1, h2, (MapAt.mono (h.sets v z hz) (by simp [hl]; omega)).congr fun a _ => bit_congr (by simp [hl])⟩, hM⟩

set_option maxHeartbeats 2000000 in
theorem add_of (w : World) (B b n : Nat) (M : Int → Option Nat) (R : Int → Int → Bool) (h : SetsR w B b n M R) (hB : B ≤ w.heap.size) (hn : n ≤ 100000) (x y : Int) (hx : InR x) (hy : InR y) (hne : x ≠ y) (hR : R y x = false) :
    Calls Tryd.prog 59 #[.map (some b), .agg #[.int .i64 x, .int .i64 y]] w fun e w' => e = .returned (.tuple #[]) ∧ (∃ M', SetsR w' B b (2 * n + 3) M' (stepR R (x, y))) ∧ Below B w w' := by
  have HS := Lib.hid h
  have HX := Lib.hid hx
  have HY := Lib.hid hy
  have HNe := Lib.hid hne
  have HRf := Lib.hid hR
  have hb := MapAt.lt h.out
  have HB1 := Lib.hid ((Below.refl w.heap.size w).alloc (Nat.le_refl _) (.cells #[.int .i64 x, .int .i64 y] 43))
  have hS1 := h.below HB1.out
  have HS1 := Lib.hid hS1
  have e1 := hS1.out.look y (inR_wf hy)
  rw [elt_some] at e1
  clear h hx hy hne hR hS1
  rcases hMy : M y with _ | zy
  · rw [hMy] at e1
    have HMy0 := Lib.hid hMy
    clear hMy
    have eN := eq_nil_yes
    have hmm := @run_makeMap Tryd.prog
    go_enter Tryd.func59, Tryd.ntmps59
    go_upto_region 3 with (first
      | (at_mapUpdate; refine wp_put _ rfl _ _ _ 65 rfl keyInt Tryd.underlying3 Tryd.underlying65 rfl (MapAt.alloc HS1.out.out (.map #[] 0)) (by unfold maxLen; omega) y rfl (inR_wf HY.out) _ rfl (refLit (some (w.heap.size + 1))) [] rfl ?_; intro w2 hout2 hg2 hs2)
      | go_in)
    clear hmm eN
    obtain ⟨M1, hM1⟩ : ∃ M1 : Int → Option Nat, M1 = fun v => if v = y then some (w.heap.size + 1) else M v := ⟨_, rfl⟩
    obtain ⟨n1, hn1⟩ : ∃ n1, n1 = n + 1 := ⟨_, rfl⟩
    have hM1y : M1 y = some (w.heap.size + 1) := by rw [hM1]; simp
    have hM1o : ∀ v, v ≠ y → M1 v = M v := fun v hv => by rw [hM1]; simp [hv]
    clear hM1
    have Hout2 : Hid (OutAt w2 b n1 (fun v => (M1 v).map some)) := Lib.hid (by
      rw [hn1]
      refine MapAt.congr hout2 fun v _ => ?_
      by_cases e : v = y
      · subst e; simp [hM1y]
      · simp [e, hM1o v e])
    have hold : ∀ v z, M v = some z → z < w.heap.size := fun v z hz => MapAt.lt (HS.out.sets v z hz).2.2
    have hset : ∀ v z, M1 v = some z → B ≤ z ∧ z ≠ b ∧ z ≠ w.heap.size ∧ z < w2.heap.size ∧ SetAt w2 z n (fun a => R a v) := fun v z hz => by
      simp at hs2
      by_cases e : v = y
      · subst e
        rw [hM1y] at hz
        cases hz
        refine ⟨by omega, by omega, by omega, by omega, ?_⟩
        have h0 : SetAt ((w.alloc (.cells #[.int .i64 x, .int .i64 v] 43)).alloc (.map #[] 0)) (w.heap.size + 1) 0 (fun _ => false) := by
          have := SetAt.made (w.alloc (.cells #[.int .i64 x, .int .i64 v] 43))
          simpa using this
        refine (MapAt.mono (MapAt.kept h0 hg2 (fun e => by have := Option.some.inj e; omega)) (Nat.zero_le _)).congr fun a _ => bit_congr ?_
        exact (HS.out.none HMy0.out a).symm
      · rw [hM1o v e] at hz
        obtain ⟨h1, h2, h3⟩ := HS1.out.sets v z hz
        have h4 := hold v z hz
        exact ⟨h1, h2, by omega, by omega, MapAt.kept (MapAt.alloc h3 _) hg2 (fun e => h2 (Option.some.inj e))⟩
    have HInj : Hid (∀ v v' z, M1 v = some z → M1 v' = some z → v = v') := Lib.hid fun v v' z h1 h2 => by
      by_cases e : v = y
      · by_cases e' : v' = y
        · rw [e, e']
        · subst e
          rw [hM1y] at h1
          rw [hM1o v' e'] at h2
          have := hold v' z h2
          cases h1
          omega
      · rw [hM1o v e] at h1
        by_cases e' : v' = y
        · subst e'
          rw [hM1y] at h2
          have := hold v z h1
          cases h2
          omega
        · rw [hM1o v' e'] at h2
          exact HS.out.inj v v' z h1 h2
    have HHas : Hid (∀ v a, R a v = true → ∃ z, M1 v = some z) := Lib.hid fun v a ha => by
      by_cases e : v = y
      · subst e; exact ⟨_, hM1y⟩
      · rw [hM1o v e]; exact HS.out.has v a ha
    have HRng : Hid (∀ v z, M1 v = some z → InR v) := Lib.hid fun v z hz => by
      by_cases e : v = y
      · subst e; exact HY.out
      · rw [hM1o v e] at hz; exact HS.out.rng v z hz
    have HMy : Hid (∃ z, M1 y = some z) := Lib.hid ⟨_, hM1y⟩
    have hbox2 : w2.heap[w.heap.size]? = some (.cells #[.int .i64 x, .int .i64 y] 43) := by
      refine (hg2.block w.heap.size (by simp; omega) (fun e => by have := Option.some.inj e; omega)).trans ?_
      rw [Below.heap_alloc _ _ _ (by simp)]
      exact heap_alloc_new w _
    have hb2 : Below B w w2 := (((Below.refl B w).alloc hB _).alloc (by simp; omega) _).grown hg2 (by simp; omega) (fun k hk => by cases hk; exact HS.out.low)
    have hn1' : n1 ≤ 100001 := by omega
    have hn2 : 2 * n1 + 1 ≤ 2 * n + 3 := by omega
    have HInv : Hid (∀ w3 L0, w2.grownBy w3 none → w3.heap.size = w2.heap.size + 1 → (∀ v, (Lit.int .i64 v).wf = true → L0 v = ((M1 v).map some |>.map refLit).isSome) → AddInv w3 w B b w.heap.size w2.heap.size n1 x y M1 R L0) := Lib.hid fun w3 L0 hg0 hs0 hL0 => by
      have hsl := hb2.size
      have hbl := MapAt.lt Hout2.out
      refine ⟨hb2.grown hg0 (by omega) (fun k hk => by cases hk), (hg0.block w.heap.size (Array.getElem?_eq_some_iff.1 hbox2).1 (by simp)).trans hbox2, fun v z hz => ?_, fun z hz => ?_, fun v z hz => ?_, (Array.getElem?_eq_some_iff.1 hbox2).1, by omega, hB, hbl, HS.out.low, by omega⟩
      · have hLv : L0 v = true := by
          rw [hL0 v (inR_wf (HRng.out v z hz)), hz]; rfl
        rw [hLv]
        exact MapAt.mono (MapAt.kept (hset v z hz).2.2.2.2 hg0 (by simp)) (by simp; omega)
      · exact MapAt.mono (MapAt.kept (hset x z hz).2.2.2.2 hg0 (by simp)) (by omega)
      · obtain ⟨h1, h2, h3, h4, _⟩ := hset v z hz
        exact ⟨h1, h2, h3, h4⟩
    have HOut := Hout2
    clear hout2 hg2 hs2 hset hold hM1y hM1o hbox2 hb2 e1 HS1 HB1 hn1
    go_wp2_with (first
      | (at_range; refine wp_range _ rfl _ 65 rfl keyInt Tryd.underlying65 rfl HOut.out ?_; intro w3 L0 cnt0 hrg0 hL0 hc0 hg0 hs0)
      | go_in)
    try go_frame
    have HI0 := Lib.hid (HInv.out w3 L0 hg0 hs0 hL0)
    have HR0 := Lib.hid hrg0
    clear hrg0 hL0 hg0 hs0 HOut HInv
    go_loopw [17] (fun _ wr => ∃ (L : Int → Bool) (cnt : Nat), RangeAt Tryd.prog 3 refElem wr b w2.heap.size n1 (fun v => (M1 v).map some |>.map refLit) L cnt ∧ AddInv wr w B b w.heap.size w2.heap.size n1 x y M1 R L)
      (fun _ wr => wr.rangeLeft b w2.heap.size)
    case atStart => exact ⟨_, _, HR0.out, HI0.out⟩
    case round =>
      clear HR0 HI0
      obtain ⟨L, cnt, hrg, hinv⟩ := hrel
      have HV := Lib.hid hinv
      clear hinv
      go_wp2_with (first
        | (at_next; refine wp_next_ref _ rfl _ rfl rfl hrg ?_ ?_)
        | go_in)
      · intro hl0
        have HL := Lib.hid hl0
        clear hl0
        go_wp2
        go_end0
        exact ⟨rfl, ⟨M1, HV.out.fin HL.out hrg.owns HHas.out HMy.out HRng.out HInj.out _ (by omega)⟩, HV.out.low⟩
      · intro u z w4 cnt4 hcame
        have hr4 := hrg.lt
        have hz : M1 u = some z := by
          have := hcame.elem
          cases e : M1 u <;> simp [e] at this
          rw [this]
        have hlu := hcame.left
        have hrg4 := hcame.range
        have hlt4 := hcame.lt
        have hg4 := hcame.grown
        have hs4 := hcame.size
        have hen := hcame.entry
        clear hcame
        have HZ := Lib.hid hz
        have HLu := Lib.hid hlu
        have HV4 := Lib.hid (HV.out.kept hg4 hr4)
        obtain ⟨f0, f1⟩ := HV4.out.cells
        have hsz : SetAt w4 z n1 (fun a => R a u) := by
          have := HV4.out.sets u z hz
          rw [hlu] at this
          simpa using this
        have e1 := hsz.look y (inR_wf HY.out)
        have HSz := Lib.hid hsz
        have HR4 := Lib.hid hrg4
        have Hlt4 := Lib.hid hlt4
        have HR := Lib.hid hrg
        have hr5 : Hid (w2.heap.size < w4.heap.size) := Lib.hid (by rw [hs4]; exact hr4)
        clear hz hlu hrg hlt4 hg4 hs4 hr4 hrg4 hsz HV
        by_cases huy : u = y
        · obtain ⟨cc, hcc⟩ : ∃ cc : Bool, cc = R y u := ⟨_, rfl⟩
          rw [← hcc] at e1
          have HUY := Lib.hid (show u = y ∨ R y u = true from .inl huy)
          have hbe : (u == y) = true := by simpa using huy
          have HHuy := Lib.hid huy
          clear huy hcc
          go_upto_region 8 with (first
            | (at_mapUpdate; refine wp_put _ rfl _ _ _ 107 rfl keyInt Tryd.underlying3 Tryd.underlying107 rfl HSz.out (by unfold maxLen; omega) x rfl (inR_wf HX.out) _ rfl (.lit (.bool true)) [] rfl ?_; intro w5 hset5 hg5 hs5)
            | go_in)
          have hux : u ≠ x := fun e => by
            subst e
            rcases HUY.out with h | h
            · exact HNe.out h
            · rw [HRf.out] at h; cases h
          have HUX := Lib.hid hux
          have hzr := HV4.out.ends u z HZ.out
          have hbr := HV4.out.pbr
          have HR5 := Lib.hid (HR4.out.kept hg5 (fun e => by have := Option.some.inj e; omega) (fun e => by have := Option.some.inj e; omega))
          have e3 := OutAt.look (M := fun v => (M1 v).map some) HR5.out.owns x (inR_wf HX.out)
          rw [elt_some] at e3
          have f2 : w5.cell? ⟨w.heap.size, 0, none⟩ = some (.int .i64 x) := (World.cell?_of_block (hg5.block w.heap.size (by have := hr5.out; omega) (fun e => by have := Option.some.inj e; omega))).trans f0
          have hsrc : OptSet w5 (M1 x) n1 (fun a => R a x) := by
            cases e : M1 x with
            | none =>
              intro a
              cases e' : R a x
              · exact e'
              · obtain ⟨z', hz'⟩ := HHas.out x a e'
                rw [e] at hz'; cases hz'
            | some z' =>
              have hzz : z' ≠ z := fun e' => hux (HInj.out _ _ z HZ.out (e' ▸ e))
              exact MapAt.kept (HV4.out.src z' e) hg5 (fun e => hzz (Option.some.inj e))
          have HSrc := Lib.hid hsrc
          have Hg5 := Lib.hid hg5
          have Hset5 : Hid (SetAt w5 z (n1 + 1) (fun a => if a = x then true else R a u)) := Lib.hid (MapAt.congr hset5 fun a _ => by
            show (if a = x then some (DataW.lit (Lit.bool true)) else bit (fun a => R a u) a) = bit (fun a => if a = x then true else R a u) a
            by_cases e : a = x <;> simp [bit, e])
          have Hs5 := Lib.hid hs5
          clear hset5 hg5 hs5 hsrc hux hzr hbr f0 f1 e1 hen
          go_wp2_with fail
          refine (copy_of_set w5 z (n1 + 1) n1 (M1 x) _ _ Hset5.out HSrc.out (fun e => HUX.out (HInj.out _ _ z HZ.out e)) (by omega)).mono ?_
          rintro e w6 ⟨rfl, hset6, hg6⟩
          have HG6 := Lib.hid (Hg5.out.trans hg6)
          have HR6 := Lib.hid (HR5.out.kept hg6 (fun e => by have := Option.some.inj e; have := (HV4.out.ends u z HZ.out).2.1; omega) (fun e => by have := Option.some.inj e; have := (HV4.out.ends u z HZ.out).2.2.2; omega))
          have HSet6 := Lib.hid hset6
          clear hset6 hg6 e3 f2
          go_wp2
          go_roundw
          case rel => exact ⟨_, cnt4, HR6.out, HV4.out.done HInj.out HZ.out HUX.out HUY.out HG6.out hr5.out (MapAt.mono HSet6.out (by omega))⟩
          case measure => rw [HR6.out.left_eq, HR.out.left_eq]; exact Hlt4.out
        · have hbe : (u == y) = false := by simpa using huy
          have HHuy := Lib.hid huy
          clear huy
          cases hcc : R y u
          · rw [hcc] at e1
            have HCC := Lib.hid hcc
            clear hcc
            go_wp2
            go_roundw
            case rel => exact ⟨_, cnt4, HR4.out, HV4.out.skip HLu.out HHuy.out HCC.out⟩
            case measure => rw [HR4.out.left_eq, HR.out.left_eq]; exact Hlt4.out
          · rw [hcc] at e1
            have HUY := Lib.hid (show u = y ∨ R y u = true from .inr hcc)
            clear hcc
            go_upto_region 8 with (first
              | (at_mapUpdate; refine wp_put _ rfl _ _ _ 107 rfl keyInt Tryd.underlying3 Tryd.underlying107 rfl HSz.out (by unfold maxLen; omega) x rfl (inR_wf HX.out) _ rfl (.lit (.bool true)) [] rfl ?_; intro w5 hset5 hg5 hs5)
              | go_in)
            have hux : u ≠ x := fun e => by
              subst e
              rcases HUY.out with h | h
              · exact HNe.out h
              · rw [HRf.out] at h; cases h
            have HUX := Lib.hid hux
            have hzr := HV4.out.ends u z HZ.out
            have hbr := HV4.out.pbr
            have HR5 := Lib.hid (HR4.out.kept hg5 (fun e => by have := Option.some.inj e; omega) (fun e => by have := Option.some.inj e; omega))
            have e3 := OutAt.look (M := fun v => (M1 v).map some) HR5.out.owns x (inR_wf HX.out)
            rw [elt_some] at e3
            have f2 : w5.cell? ⟨w.heap.size, 0, none⟩ = some (.int .i64 x) := (World.cell?_of_block (hg5.block w.heap.size (by have := hr5.out; omega) (fun e => by have := Option.some.inj e; omega))).trans f0
            have hsrc : OptSet w5 (M1 x) n1 (fun a => R a x) := by
              cases e : M1 x with
              | none =>
                intro a
                cases e' : R a x
                · exact e'
                · obtain ⟨z', hz'⟩ := HHas.out x a e'
                  rw [e] at hz'; cases hz'
              | some z' =>
                have hzz : z' ≠ z := fun e' => hux (HInj.out _ _ z HZ.out (e' ▸ e))
                exact MapAt.kept (HV4.out.src z' e) hg5 (fun e => hzz (Option.some.inj e))
            have HSrc := Lib.hid hsrc
            have Hg5 := Lib.hid hg5
            have Hset5 : Hid (SetAt w5 z (n1 + 1) (fun a => if a = x then true else R a u)) := Lib.hid (MapAt.congr hset5 fun a _ => by
              show (if a = x then some (DataW.lit (Lit.bool true)) else bit (fun a => R a u) a) = bit (fun a => if a = x then true else R a u) a
              by_cases e : a = x <;> simp [bit, e])
            have Hs5 := Lib.hid hs5
            clear hset5 hg5 hs5 hsrc hux hzr hbr f0 f1 e1 hen
            go_wp2_with fail
            refine (copy_of_set w5 z (n1 + 1) n1 (M1 x) _ _ Hset5.out HSrc.out (fun e => HUX.out (HInj.out _ _ z HZ.out e)) (by omega)).mono ?_
            rintro e w6 ⟨rfl, hset6, hg6⟩
            have HG6 := Lib.hid (Hg5.out.trans hg6)
            have HR6 := Lib.hid (HR5.out.kept hg6 (fun e => by have := Option.some.inj e; have := (HV4.out.ends u z HZ.out).2.1; omega) (fun e => by have := Option.some.inj e; have := (HV4.out.ends u z HZ.out).2.2.2; omega))
            have HSet6 := Lib.hid hset6
            clear hset6 hg6 e3 f2
            go_wp2
            go_roundw
            case rel => exact ⟨_, cnt4, HR6.out, HV4.out.done HInj.out HZ.out HUX.out HUY.out HG6.out hr5.out (MapAt.mono HSet6.out (by omega))⟩
            case measure => rw [HR6.out.left_eq, HR.out.left_eq]; exact Hlt4.out
  · rw [hMy] at e1
    have HMy0 := Lib.hid hMy
    clear hMy
    obtain ⟨w2, hw2⟩ : ∃ w2, w2 = w.alloc (.cells #[.int .i64 x, .int .i64 y] 43) := ⟨_, rfl⟩
    have HW2 := Lib.hid hw2
    obtain ⟨M1, hM1⟩ : ∃ M1 : Int → Option Nat, M1 = M := ⟨_, rfl⟩
    obtain ⟨n1, hn1⟩ : ∃ n1, n1 = n := ⟨_, rfl⟩
    have Hout2 : Hid (OutAt w2 b n1 (fun v => (M1 v).map some)) := Lib.hid (by rw [hn1, hM1, hw2]; exact HS1.out.out)
    have hold : ∀ v z, M v = some z → z < w.heap.size := fun v z hz => MapAt.lt (HS.out.sets v z hz).2.2
    have hs2 : w2.heap.size = w.heap.size + 1 := by rw [hw2]; simp
    have hset : ∀ v z, M1 v = some z → B ≤ z ∧ z ≠ b ∧ z ≠ w.heap.size ∧ z < w2.heap.size ∧ SetAt w2 z n (fun a => R a v) := fun v z hz => by
      rw [hM1] at hz
      have h4 := hold v z hz
      obtain ⟨h1, h2, h3⟩ := HS1.out.sets v z hz
      exact ⟨h1, h2, by omega, by omega, by rw [hw2]; exact h3⟩
    have HInj : Hid (∀ v v' z, M1 v = some z → M1 v' = some z → v = v') := Lib.hid (by rw [hM1]; exact HS.out.inj)
    have HHas : Hid (∀ v a, R a v = true → ∃ z, M1 v = some z) := Lib.hid (by rw [hM1]; exact HS.out.has)
    have HRng : Hid (∀ v z, M1 v = some z → InR v) := Lib.hid (by rw [hM1]; exact HS.out.rng)
    have HMy : Hid (∃ z, M1 y = some z) := Lib.hid (by rw [hM1]; exact ⟨_, HMy0.out⟩)
    have hbox2 : w2.heap[w.heap.size]? = some (.cells #[.int .i64 x, .int .i64 y] 43) := by rw [hw2]; exact heap_alloc_new w _
    have hb2 : Below B w w2 := by rw [hw2]; exact (Below.refl B w).alloc hB _
    have hn1' : n1 ≤ 100001 := by omega
    have hn2 : 2 * n1 + 1 ≤ 2 * n + 3 := by omega
    have HInv : Hid (∀ w3 L0, w2.grownBy w3 none → w3.heap.size = w2.heap.size + 1 → (∀ v, (Lit.int .i64 v).wf = true → L0 v = ((M1 v).map some |>.map refLit).isSome) → AddInv w3 w B b w.heap.size w2.heap.size n1 x y M1 R L0) := Lib.hid fun w3 L0 hg0 hs0 hL0 => by
      have hsl := hb2.size
      have hbl := MapAt.lt Hout2.out
      refine ⟨hb2.grown hg0 (by omega) (fun k hk => by cases hk), (hg0.block w.heap.size (Array.getElem?_eq_some_iff.1 hbox2).1 (by simp)).trans hbox2, fun v z hz => ?_, fun z hz => ?_, fun v z hz => ?_, (Array.getElem?_eq_some_iff.1 hbox2).1, by omega, hB, hbl, HS.out.low, by omega⟩
      · have hLv : L0 v = true := by
          rw [hL0 v (inR_wf (HRng.out v z hz)), hz]; rfl
        rw [hLv]
        exact MapAt.mono (MapAt.kept (hset v z hz).2.2.2.2 hg0 (by simp)) (by simp; omega)
      · exact MapAt.mono (MapAt.kept (hset x z hz).2.2.2.2 hg0 (by simp)) (by omega)
      · obtain ⟨h1, h2, h3, h4, _⟩ := hset v z hz
        exact ⟨h1, h2, h3, h4⟩
    have HOut := Hout2
    clear hw2 hold hs2 hset hbox2 hb2 HS1 HB1 hn1 hM1
    have eN := eq_nil_no
    go_enter Tryd.func59, Tryd.ntmps59
    go_upto_region 3 with (fail)
    clear eN e1
    rw [← HW2.out]
    clear HW2
    go_wp2_with (first
      | (at_range; refine wp_range _ rfl _ 65 rfl keyInt Tryd.underlying65 rfl HOut.out ?_; intro w3 L0 cnt0 hrg0 hL0 hc0 hg0 hs0)
      | go_in)
    try go_frame
    have HI0 := Lib.hid (HInv.out w3 L0 hg0 hs0 hL0)
    have HR0 := Lib.hid hrg0
    clear hrg0 hL0 hg0 hs0 HOut HInv
    go_loopw [17] (fun _ wr => ∃ (L : Int → Bool) (cnt : Nat), RangeAt Tryd.prog 3 refElem wr b w2.heap.size n1 (fun v => (M1 v).map some |>.map refLit) L cnt ∧ AddInv wr w B b w.heap.size w2.heap.size n1 x y M1 R L)
      (fun _ wr => wr.rangeLeft b w2.heap.size)
    case atStart => exact ⟨_, _, HR0.out, HI0.out⟩
    case round =>
      clear HR0 HI0
      obtain ⟨L, cnt, hrg, hinv⟩ := hrel
      have HV := Lib.hid hinv
      clear hinv
      go_wp2_with (first
        | (at_next; refine wp_next_ref _ rfl _ rfl rfl hrg ?_ ?_)
        | go_in)
      · intro hl0
        have HL := Lib.hid hl0
        clear hl0
        go_wp2
        go_end0
        exact ⟨rfl, ⟨M1, HV.out.fin HL.out hrg.owns HHas.out HMy.out HRng.out HInj.out _ (by omega)⟩, HV.out.low⟩
      · intro u z w4 cnt4 hcame
        have hr4 := hrg.lt
        have hz : M1 u = some z := by
          have := hcame.elem
          cases e : M1 u <;> simp [e] at this
          rw [this]
        have hlu := hcame.left
        have hrg4 := hcame.range
        have hlt4 := hcame.lt
        have hg4 := hcame.grown
        have hs4 := hcame.size
        have hen := hcame.entry
        clear hcame
        have HZ := Lib.hid hz
        have HLu := Lib.hid hlu
        have HV4 := Lib.hid (HV.out.kept hg4 hr4)
        obtain ⟨f0, f1⟩ := HV4.out.cells
        have hsz : SetAt w4 z n1 (fun a => R a u) := by
          have := HV4.out.sets u z hz
          rw [hlu] at this
          simpa using this
        have e1 := hsz.look y (inR_wf HY.out)
        have HSz := Lib.hid hsz
        have HR4 := Lib.hid hrg4
        have Hlt4 := Lib.hid hlt4
        have HR := Lib.hid hrg
        have hr5 : Hid (w2.heap.size < w4.heap.size) := Lib.hid (by rw [hs4]; exact hr4)
        clear hz hlu hrg hlt4 hg4 hs4 hr4 hrg4 hsz HV
        by_cases huy : u = y
        · obtain ⟨cc, hcc⟩ : ∃ cc : Bool, cc = R y u := ⟨_, rfl⟩
          rw [← hcc] at e1
          have HUY := Lib.hid (show u = y ∨ R y u = true from .inl huy)
          have hbe : (u == y) = true := by simpa using huy
          have HHuy := Lib.hid huy
          clear huy hcc
          go_upto_region 8 with (first
            | (at_mapUpdate; refine wp_put _ rfl _ _ _ 107 rfl keyInt Tryd.underlying3 Tryd.underlying107 rfl HSz.out (by unfold maxLen; omega) x rfl (inR_wf HX.out) _ rfl (.lit (.bool true)) [] rfl ?_; intro w5 hset5 hg5 hs5)
            | go_in)
          have hux : u ≠ x := fun e => by
            subst e
            rcases HUY.out with h | h
            · exact HNe.out h
            · rw [HRf.out] at h; cases h
          have HUX := Lib.hid hux
          have hzr := HV4.out.ends u z HZ.out
          have hbr := HV4.out.pbr
          have HR5 := Lib.hid (HR4.out.kept hg5 (fun e => by have := Option.some.inj e; omega) (fun e => by have := Option.some.inj e; omega))
          have e3 := OutAt.look (M := fun v => (M1 v).map some) HR5.out.owns x (inR_wf HX.out)
          rw [elt_some] at e3
          have f2 : w5.cell? ⟨w.heap.size, 0, none⟩ = some (.int .i64 x) := (World.cell?_of_block (hg5.block w.heap.size (by have := hr5.out; omega) (fun e => by have := Option.some.inj e; omega))).trans f0
          have hsrc : OptSet w5 (M1 x) n1 (fun a => R a x) := by
            cases e : M1 x with
            | none =>
              intro a
              cases e' : R a x
              · exact e'
              · obtain ⟨z', hz'⟩ := HHas.out x a e'
                rw [e] at hz'; cases hz'
            | some z' =>
              have hzz : z' ≠ z := fun e' => hux (HInj.out _ _ z HZ.out (e' ▸ e))
              exact MapAt.kept (HV4.out.src z' e) hg5 (fun e => hzz (Option.some.inj e))
          have HSrc := Lib.hid hsrc
          have Hg5 := Lib.hid hg5
          have Hset5 : Hid (SetAt w5 z (n1 + 1) (fun a => if a = x then true else R a u)) := Lib.hid (MapAt.congr hset5 fun a _ => by
            show (if a = x then some (DataW.lit (Lit.bool true)) else bit (fun a => R a u) a) = bit (fun a => if a = x then true else R a u) a
            by_cases e : a = x <;> simp [bit, e])
          have Hs5 := Lib.hid hs5
          clear hset5 hg5 hs5 hsrc hux hzr hbr f0 f1 e1 hen
          go_wp2_with fail
          refine (copy_of_set w5 z (n1 + 1) n1 (M1 x) _ _ Hset5.out HSrc.out (fun e => HUX.out (HInj.out _ _ z HZ.out e)) (by omega)).mono ?_
          rintro e w6 ⟨rfl, hset6, hg6⟩
          have HG6 := Lib.hid (Hg5.out.trans hg6)
          have HR6 := Lib.hid (HR5.out.kept hg6 (fun e => by have := Option.some.inj e; have := (HV4.out.ends u z HZ.out).2.1; omega) (fun e => by have := Option.some.inj e; have := (HV4.out.ends u z HZ.out).2.2.2; omega))
          have HSet6 := Lib.hid hset6
          clear hset6 hg6 e3 f2
          go_wp2
          go_roundw
          case rel => exact ⟨_, cnt4, HR6.out, HV4.out.done HInj.out HZ.out HUX.out HUY.out HG6.out hr5.out (MapAt.mono HSet6.out (by omega))⟩
          case measure => rw [HR6.out.left_eq, HR.out.left_eq]; exact Hlt4.out
        · have hbe : (u == y) = false := by simpa using huy
          have HHuy := Lib.hid huy
          clear huy
          cases hcc : R y u
          · rw [hcc] at e1
            have HCC := Lib.hid hcc
            clear hcc
            go_wp2
            go_roundw
            case rel => exact ⟨_, cnt4, HR4.out, HV4.out.skip HLu.out HHuy.out HCC.out⟩
            case measure => rw [HR4.out.left_eq, HR.out.left_eq]; exact Hlt4.out
          · rw [hcc] at e1
            have HUY := Lib.hid (show u = y ∨ R y u = true from .inr hcc)
            clear hcc
            go_upto_region 8 with (first
              | (at_mapUpdate; refine wp_put _ rfl _ _ _ 107 rfl keyInt Tryd.underlying3 Tryd.underlying107 rfl HSz.out (by unfold maxLen; omega) x rfl (inR_wf HX.out) _ rfl (.lit (.bool true)) [] rfl ?_; intro w5 hset5 hg5 hs5)
              | go_in)
            have hux : u ≠ x := fun e => by
              subst e
              rcases HUY.out with h | h
              · exact HNe.out h
              · rw [HRf.out] at h; cases h
            have HUX := Lib.hid hux
            have hzr := HV4.out.ends u z HZ.out
            have hbr := HV4.out.pbr
            have HR5 := Lib.hid (HR4.out.kept hg5 (fun e => by have := Option.some.inj e; omega) (fun e => by have := Option.some.inj e; omega))
            have e3 := OutAt.look (M := fun v => (M1 v).map some) HR5.out.owns x (inR_wf HX.out)
            rw [elt_some] at e3
            have f2 : w5.cell? ⟨w.heap.size, 0, none⟩ = some (.int .i64 x) := (World.cell?_of_block (hg5.block w.heap.size (by have := hr5.out; omega) (fun e => by have := Option.some.inj e; omega))).trans f0
            have hsrc : OptSet w5 (M1 x) n1 (fun a => R a x) := by
              cases e : M1 x with
              | none =>
                intro a
                cases e' : R a x
                · exact e'
                · obtain ⟨z', hz'⟩ := HHas.out x a e'
                  rw [e] at hz'; cases hz'
              | some z' =>
                have hzz : z' ≠ z := fun e' => hux (HInj.out _ _ z HZ.out (e' ▸ e))
                exact MapAt.kept (HV4.out.src z' e) hg5 (fun e => hzz (Option.some.inj e))
            have HSrc := Lib.hid hsrc
            have Hg5 := Lib.hid hg5
            have Hset5 : Hid (SetAt w5 z (n1 + 1) (fun a => if a = x then true else R a u)) := Lib.hid (MapAt.congr hset5 fun a _ => by
              show (if a = x then some (DataW.lit (Lit.bool true)) else bit (fun a => R a u) a) = bit (fun a => if a = x then true else R a u) a
              by_cases e : a = x <;> simp [bit, e])
            have Hs5 := Lib.hid hs5
            clear hset5 hg5 hs5 hsrc hux hzr hbr f0 f1 e1 hen
            go_wp2_with fail
            refine (copy_of_set w5 z (n1 + 1) n1 (M1 x) _ _ Hset5.out HSrc.out (fun e => HUX.out (HInj.out _ _ z HZ.out e)) (by omega)).mono ?_
            rintro e w6 ⟨rfl, hset6, hg6⟩
            have HG6 := Lib.hid (Hg5.out.trans hg6)
            have HR6 := Lib.hid (HR5.out.kept hg6 (fun e => by have := Option.some.inj e; have := (HV4.out.ends u z HZ.out).2.1; omega) (fun e => by have := Option.some.inj e; have := (HV4.out.ends u z HZ.out).2.2.2; omega))
            have HSet6 := Lib.hid hset6
            clear hset6 hg6 e3 f2
            go_wp2
            go_roundw
            case rel => exact ⟨_, cnt4, HR6.out, HV4.out.done HInj.out HZ.out HUX.out HUY.out HG6.out hr5.out (MapAt.mono HSet6.out (by omega))⟩
            case measure => rw [HR6.out.left_eq, HR.out.left_eq]; exact Hlt4.out
end Go.Proofs.YtghekfigfjhkeabDoor.num
namespace Go.Proofs.YtghekfigfjhkeabDoor.num
open Go.RowKit Go.Maps
set_option linter.unusedVariables false

theorem lt_cell {w : World} {b o : Nat} {v : Value} (h : w.cell? ⟨b, o, none⟩ = some v) : b < w.heap.size := by
  rcases Nat.lt_or_ge b w.heap.size with h' | h'
  · exact h'
  · simp [World.cell?, Array.getElem?_eq_none h'] at h
theorem isValue_of (v : Int) (q : Bool) (hq : q = true ↔ InR v) (w : World) :
    Calls Tryd.prog 57 #[.int .i64 v] w fun e w' => e = .returned (.bool q) ∧ w = w' := by
  obtain rfl : q = (decide (0 ≤ v) && decide (v ≤ 9)) := by rw [Bool.eq_iff_iff, hq]; simp [InR]
  clear hq
  by_cases h1 : 0 ≤ v
  · go_enter Tryd.func57, Tryd.ntmps57
    go_wp2
    go_ret
    exact ⟨by simp [h1], rfl⟩
  · go_enter Tryd.func57, Tryd.ntmps57
    go_wp2
    go_ret
    exact ⟨by simp; omega, rfl⟩

/-- aboveSets under way: behind k pairs. -/
def AboveRel (ps : List (Int × Int)) (B b : Nat) (w : World) (k : Nat) (wr : World) : Prop :=
  Good (ps.take k) ∧ (∃ (n : Nat) (M : Int → Option Nat), n + 3 ≤ 3 * 2 ^ k ∧ SetsR wr B b n M (rb (ps.take k))) ∧ Below B w wr ∧ b < wr.heap.size
/-- What aboveSets answers. -/
def AboveP (ps : List (Int × Int)) (B : Nat) (q : Bool) (o : Option Nat) (w : World) : Prop :=
  (q = false → o = none) ∧ (q = true → ∃ (b n : Nat) (M : Int → Option Nat), o = some b ∧ n ≤ 765 ∧ SetsR w B b n M (rb ps))
theorem AboveP.below {ps : List (Int × Int)} {B : Nat} {q : Bool} {o : Option Nat} {w w' : World} (h : AboveP ps B q o w) (hb : Below w.heap.size w w') : AboveP ps B q o w' :=
  ⟨h.1, fun hq => by obtain ⟨b, n, M, h1, h2, h3⟩ := h.2 hq; exact ⟨b, n, M, h1, h2, h3.below hb⟩⟩
theorem rb_step (ps : List (Int × Int)) (k : Nat) (p : Int × Int) (h : ps[k]? = some p) : rb (ps.take (k + 1)) = stepR (rb (ps.take k)) p := by
  rw [ptake_at h]
  unfold rb
  rw [List.foldl_append]
  rfl
set_option maxHeartbeats 800000 in
theorem above_of (w : World) (B : Nat) (A : Option Addr) (n c : Nat) (ps : List (Int × Int)) (hi : Pairs w B A n ps) (hB : B ≤ w.heap.size) (hn : n ≤ 1048576) (q : Bool) (hq : q = true ↔ OkP ps) :
    Calls Tryd.prog 40 #[.slice A n c] w fun e w' => (∃ o, e = .returned (.tuple #[.map o, .bool q]) ∧ AboveP ps w.heap.size q o w') ∧ Below w.heap.size w w' := by
  have HX := Lib.hid hi
  have HQ := Lib.hid hq
  clear hi hq
  by_cases h8 : (n : Int) ≤ 8
  · have hmm := @run_makeMap Tryd.prog
    go_enter Tryd.func40, Tryd.ntmps40
    go_wp2
    clear hmm
    go_loopw [13] (fun i wr => ∃ k : Nat, k ≤ n ∧ i = .int .i64 k ∧ AboveRel ps w.heap.size w.heap.size w k wr) (fun i _ => n - (intOf i).toNat)
    case atStart =>
      refine ⟨0, Nat.zero_le _, rfl, Good.nil, ⟨0, fun _ => none, by decide, ?_⟩, (Below.refl _ _).alloc (Nat.le_refl _) _, by simp⟩
      exact ⟨OutAt.made w, Nat.le_refl _, (fun v a h => by cases h), (fun v x h => by cases h), (fun v x h => by cases h), (fun v v' x h => by cases h)⟩
    case round =>
      obtain ⟨k, hk, rfl, hgood, ⟨m, M, hm, hsets⟩, hbel, hbs⟩ := hrel
      have HG := Lib.hid hgood
      have HS := Lib.hid hsets
      have HB := Lib.hid hbel
      have HM := Lib.hid hm
      clear hgood hsets hm
      by_cases hlt : k < n
      · obtain ⟨b1, off, x, y, rfl, hb1, hat, hc1, hc2⟩ := HX.out.at k hlt
        have f1 := (hbel.cell (p := ⟨b1, off + k * 2, none⟩) (by exact Nat.lt_of_lt_of_le hb1 hB)).trans hc1
        have f2 := (hbel.cell (p := ⟨b1, off + k * 2 + 1, none⟩) (by exact Nat.lt_of_lt_of_le hb1 hB)).trans hc2
        have HT := Lib.hid hat
        obtain ⟨q1, hq1⟩ := bool_of (InR x)
        obtain ⟨q2, hq2⟩ := bool_of (InR y)
        have HQ1 := Lib.hid hq1
        have HQ2 := Lib.hid hq2
        have hbad : ¬ Good (ps.take (k + 1)) → q = false := fun h => by
          cases q
          · rfl
          · exact absurd (good_take (HQ.out.1 rfl).1 _) h
        have HBad := Lib.hid hbad
        have hgs := good_snoc (ps := ps.take k) (p := (x, y))
        rw [← ptake_at hat] at hgs
        have HGS := Lib.hid hgs
        clear hat hq1 hq2 hbad hgs hc1 hc2 hbel
        go_wp2_with fail
        refine (isValue_of x q1 HQ1.out _).mono ?_
        rintro e w1 ⟨rfl, hw1⟩
        have hb1' : Below wr.heap.size wr w1 := by
          rw [← hw1]
          exact (Below.refl _ wr).alloc (Nat.le_refl _) _
        have hcell : w1.cell? ⟨wr.heap.size, 0, none⟩ = some (.int .i64 x) ∧ w1.cell? ⟨wr.heap.size, 1, none⟩ = some (.int .i64 y) := by
          rw [← hw1]
          constructor <;> (rw [World.cell?_alloc_at _ _ _ _ rfl]; rfl)
        obtain ⟨g1, g2⟩ := hcell
        have HW := Lib.hid hb1'
        have HS1 := Lib.hid (HS.out.below hb1')
        clear f1 f2 hb1' hw1 HS
        cases q1
        · obtain rfl : q = false := HBad.out fun h => by
            have := HQ1.out.2 (HGS.out.1 h).2.1
            cases this
          go_wp2
          go_ret2
          exact ⟨⟨_, rfl, (fun _ => rfl), fun h => by cases h⟩, HB.out.trans (HW.out.mono HB.out.size)⟩
        · go_wp2_with fail
          refine (isValue_of y q2 HQ2.out _).mono ?_
          rintro e w2 ⟨rfl, rfl⟩
          cases q2
          · obtain rfl : q = false := HBad.out fun h => by
              have := HQ2.out.2 (HGS.out.1 h).2.2.1
              cases this
            go_wp2
            go_ret2
            exact ⟨⟨_, rfl, (fun _ => rfl), fun h => by cases h⟩, HB.out.trans (HW.out.mono HB.out.size)⟩
          · have HIX := Lib.hid (HQ1.out.1 (by first | rfl | trivial))
            have HIY := Lib.hid (HQ2.out.1 (by first | rfl | trivial))
            obtain ⟨q3, hq3⟩ := bool_of (x = y ∨ rb (ps.take k) y x = true)
            have HQ3 := Lib.hid hq3
            clear hq3
            go_wp2_with fail
            refine (closes_of w1 w.heap.size w.heap.size m M _ HS1.out x y HIX.out HIY.out q3 HQ3.out).mono ?_
            rintro e w2 ⟨rfl, hb2⟩
            have HW2 := Lib.hid (HW.out.trans (hb2.mono HW.out.size))
            have HS2 := Lib.hid (HS1.out.below hb2)
            have g3 := (hb2.cell (p := ⟨wr.heap.size, 0, none⟩) (by have := g1; exact lt_cell g1)).trans g1
            have g4 := (hb2.cell (p := ⟨wr.heap.size, 1, none⟩) (by exact lt_cell g1)).trans g2
            clear hb2 g1 g2 HS1 HW
            cases q3
            · have hne : x ≠ y := fun e => by have := HQ3.out.2 (.inl e); cases this
              have hrf : rb (ps.take k) y x = false := by
                cases e : rb (ps.take k) y x
                · rfl
                · have := HQ3.out.2 (.inr e); cases this
              have HNE := Lib.hid hne
              have HRF := Lib.hid hrf
              have hm1 : m ≤ 100000 := by
                have h1 := HM.out
                have h2 : 2 ^ k ≤ 2 ^ 8 := Nat.pow_le_pow_right (by decide) (by omega)
                omega
              clear hne hrf
              go_wp2_with fail
              refine (add_of w2 w.heap.size w.heap.size m M _ HS2.out (Nat.le_trans HB.out.size HW2.out.size) hm1 x y HIX.out HIY.out HNE.out HRF.out).mono ?_
              rintro e w3 ⟨rfl, hset, hb3⟩
              have HB3 := Lib.hid ((HB.out.trans (HW2.out.mono HB.out.size)).trans hb3)
              have HSet := Lib.hid hset
              clear hset hb3 g3 g4 HS2
              go_wp2
              go_roundw
              case rel =>
                obtain ⟨M', hM'⟩ := HSet.out
                refine ⟨k + 1, by omega, by go_num, HGS.out.2 ⟨HG.out, HIX.out, HIY.out, HNE.out, HRF.out⟩, ⟨2 * m + 3, M', ?_, ?_⟩, HB3.out, MapAt.lt hM'.out⟩
                · have h1 := HM.out
                  rw [Nat.pow_succ]; omega
                · rw [rb_step ps k (x, y) HT.out]; exact hM'
              case measure => simp [intOf]; omega
            · obtain rfl : q = false := HBad.out fun h => by
                have h1 := (HGS.out.1 h).2.2.2
                rcases HQ3.out.1 (by first | rfl | trivial) with e | e
                · exact h1.1 e
                · rw [h1.2] at e; cases e
              go_wp2
              go_ret2
              exact ⟨⟨_, rfl, (fun _ => rfl), fun h => by cases h⟩, HB.out.trans (HW2.out.mono HB.out.size)⟩
      · obtain rfl : k = n := by omega
        have hg := HG.out
        have hs := HS.out
        rw [ptake_all HX.out.1] at hg hs
        have hok : OkP ps := ⟨hg, by rw [HX.out.1]; omega⟩
        obtain rfl : q = true := HQ.out.2 hok
        have hm1 : m ≤ 765 := by
          have h1 := HM.out
          have h2 : 2 ^ k ≤ 2 ^ 8 := Nat.pow_le_pow_right (by decide) (by omega)
          omega
        have HSF := Lib.hid hs
        clear hg hs hok hbel
        go_wp2
        go_ret2
        exact ⟨⟨_, rfl, (fun h => by cases h), fun _ => ⟨_, m, M, rfl, hm1, HSF.out⟩⟩, HB.out⟩
  · obtain rfl : q = false := by
      cases q
      · rfl
      · have := (HQ.out.1 rfl).2
        rw [HX.out.1] at this
        omega
    go_enter Tryd.func40, Tryd.ntmps40
    go_wp2
    go_ret2
    exact ⟨⟨_, rfl, (fun _ => rfl), fun h => by cases h⟩, Below.refl _ _⟩
end Go.Proofs.YtghekfigfjhkeabDoor.num
namespace Go.Proofs.YtghekfigfjhkeabDoor.num
open Go.RowKit Go.Maps
set_option linter.unusedVariables false

/-- Two lookups, one behind the other, in what aboveSets answered. -/
theorem AboveP.look {ps : List (Int × Int)} {B : Nat} {q : Bool} {o : Option Nat} {w : World} (h : AboveP ps B q o w) {v a : Int} (hv : (Lit.int .i64 v).wf = true) (ha : (Lit.int .i64 a).wf = true) :
    ∃ o2, (Instr.lookup 65 (.map o) (.int .i64 v) false).run Tryd.prog w = .ok (.map o2) w ∧ (Instr.lookup 107 (.map o2) (.int .i64 a) false).run Tryd.prog w = .ok (.bool (q && rb ps a v)) w := by
  cases q
  · obtain rfl := h.1 rfl
    exact ⟨none, nil_out w v hv, by simpa using nil_look w a ha⟩
  · obtain ⟨b, n, M, rfl, _, hs⟩ := h.2 rfl
    refine ⟨M v, ?_, ?_⟩
    · have := OutAt.look hs.out v hv
      rw [elt_some] at this
      exact this
    · simpa using (hs.opt v).look a ha
theorem iArePairs (w : World) (B : Nat) (A : Option Addr) (n c : Nat) (ps : List (Int × Int)) (hi : Pairs w B A n ps) (hB : B ≤ w.heap.size) (hn : n ≤ 1048576) (q : Bool) (hq : q = true ↔ OkP ps) :
    Calls Tryd.prog 20 #[.slice A n c] w fun e w' => e = .returned (.bool q) ∧ Below w.heap.size w w' := by
  go_enter Tryd.func20, Tryd.ntmps20
  go_wp2_with fail
  refine (above_of w B A n c ps hi hB hn q hq).mono ?_
  rintro e w1 ⟨⟨o, rfl, _⟩, hb1⟩
  go_wp2
  go_ret
  exact ⟨rfl, hb1⟩
/-- The closure's first part, if there is one. -/
def cq (ps : List (Int × Int)) (q : Bool) (k : Nat) : List (Int × Int) := if q then clo ps k else []
theorem cq_zero (ps : List (Int × Int)) (q : Bool) : cq ps q 0 = [] := by cases q <;> rfl
theorem cq_succ (ps : List (Int × Int)) (q : Bool) {a b : Nat} (ha : a < 10) (hb : b < 10) : cq ps q (a * 10 + (b + 1)) = if (q && rb ps a b) = true then cq ps q (a * 10 + b) ++ [((a : Int), (b : Int))] else cq ps q (a * 10 + b) := by
  cases q
  · rfl
  · exact clo_succ ps ha hb
theorem cq_len (ps : List (Int × Int)) (q : Bool) (k : Nat) : (cq ps q k).length ≤ 100 := by
  cases q
  · simp [cq]
  · exact clo_len ps k
theorem nat_wf {k : Nat} (h : k ≤ 10) : (Lit.int .i64 (k : Int)).wf = true := WalkArith.wf_i64 (by omega)
theorem OwnP.low {w : World} {B B' : Nat} {v : Value} {l : List (Int × Int)} (h : OwnP w B v l) (hB : B' ≤ B) : OwnP w B' v l :=
  ⟨h.1, h.2.imp id fun ⟨g, cap, cur, h1, h2, h3⟩ => ⟨g, cap, cur, h1, Nat.le_trans hB h2, h3⟩⟩
end Go.Proofs.YtghekfigfjhkeabDoor.num
namespace Go.Proofs.YtghekfigfjhkeabDoor.num
open Go.RowKit Go.Maps
set_option linter.unusedVariables false
set_option linter.unusedSimpArgs false

theorem pair_bytes (x y : Int) : fmtB x ++ ⟨#[62]⟩ ++ fmtB y = ⟨(pairT (x, y)).toArray⟩ := by
  apply bytes_ext
  simp [pairT, fmtB, ByteArray.data_append]
theorem fmt_R {n : Int} (h : InR n) : (fmtB n).size ≤ 2 := fmt_small n (inR2 h).1 (inR2 h).2
set_option maxRecDepth 20000 in
set_option maxHeartbeats 1600000 in
theorem iFmtPair (w : World) (x y : Int) (hx : InR x) (hy : InR y) (hpow : Pow w) :
    Calls Tryd.prog 47 #[.agg #[.int .i64 x, .int .i64 y]] w fun e w' => e = .returned (.string ⟨(pairT (x, y)).toArray⟩) ∧ Below w.heap.size w w' := by
  have HPw := Lib.hid hpow
  have hfx := fmt_R hx
  have hfy := fmt_R hy
  have hx0 := inR2 hx
  have hy0 := inR2 hy
  have hcat1 : ¬ (9223372036854775807 < (fmtB x).size + 1) := by omega
  have hcat2 : ¬ (9223372036854775807 < (fmtB x).size + 1 + (fmtB y).size) := by omega
  clear hpow hx hy
  go_enter Tryd.func47, Tryd.ntmps47
  go_wp2
  obtain ⟨wg, hwg⟩ : ∃ wg, wg = w.alloc (.cells #[.int .i64 x, .int .i64 y] 43) := ⟨_, rfl⟩
  rw [← hwg]
  have HB1 : Hid (Below w.heap.size w wg) := Lib.hid (by rw [hwg]; exact (Below.refl _ w).alloc (Nat.le_refl _) _)
  have hg : w.heap.size < wg.heap.size := by rw [hwg]; simp
  have q0 : wg.cell? ⟨w.heap.size, 0, none⟩ = some (.int .i64 x) := by rw [hwg]; exact World.cell?_alloc_at _ _ _ _ rfl
  have q1 : wg.cell? ⟨w.heap.size, 1, none⟩ = some (.int .i64 y) := by rw [hwg]; exact World.cell?_alloc_at _ _ _ _ rfl
  clear hwg
  have hs0 : Below wg.heap.size wg wg.drew ∧ wg.drew.cell? ⟨w.heap.size, 0, none⟩ = some (.int .i64 x) ∧ wg.drew.cell? ⟨w.heap.size, 1, none⟩ = some (.int .i64 y) := ⟨(Below.refl _ _).drew, q0, q1⟩
  refine wp_region_held (S := fun w' => Below wg.heap.size wg w' ∧ w'.cell? ⟨w.heap.size, 0, none⟩ = some (.int .i64 x) ∧ w'.cell? ⟨w.heap.size, 1, none⟩ = some (.int .i64 y)) (by kernel_rfl) ?_
  change wpAnyH _ _ _ _ _ _ _ _ (World.drew _)
  refine takeY 3 (i := 0) (v := ?v0a) rfl rfl (by kernel_rfl) (by kernel_rfl) (by kernel_rfl) (fun _ _ _ h => h) (by kernel_rfl) ?y0a hs0 ?_
  case y0a =>
    intro w' hw'; (try dsimp only at hw'); obtain ⟨e0, e1, e2⟩ := hw'; go_simp; try with_reducible rfl
  simp only [Act.put, List.setIfInBounds_toArray, List.set_cons_zero, List.set_cons_succ]
  refine takeY 4 (i := 1) (v := ?v1a) rfl rfl (by kernel_rfl) (by kernel_rfl) (by kernel_rfl) (fun _ _ _ h => h) (by kernel_rfl) ?y1a hs0 ?_
  case y1a =>
    intro w' hw'; (try dsimp only at hw'); obtain ⟨e0, e1, e2⟩ := hw'; go_simp; try with_reducible rfl
  simp only [Act.put, List.setIfInBounds_toArray, List.set_cons_zero, List.set_cons_succ]
  refine takeY 7 (i := 4) (v := ?v4a) rfl rfl (by kernel_rfl) (by kernel_rfl) (by kernel_rfl) (fun _ _ _ h => h) (by kernel_rfl) ?y4a hs0 ?_
  case y4a =>
    intro w' hw'; (try dsimp only at hw'); obtain ⟨e0, e1, e2⟩ := hw'; go_simp; try with_reducible rfl
  simp only [Act.put, List.setIfInBounds_toArray, List.set_cons_zero, List.set_cons_succ]
  refine takeY 8 (i := 5) (v := ?v5a) rfl rfl (by kernel_rfl) (by kernel_rfl) (by kernel_rfl) (fun _ _ _ h => h) (by kernel_rfl) ?y5a hs0 ?_
  case y5a =>
    intro w' hw'; (try dsimp only at hw'); obtain ⟨e0, e1, e2⟩ := hw'; go_simp; try with_reducible rfl
  simp only [Act.put, List.setIfInBounds_toArray, List.set_cons_zero, List.set_cons_succ]
  refine wpAnyH_ready (rs := [2]) (by kernel_rfl) (by simp) ?_
  refine AllReadyH.cons rfl (fun K hK => ?_) AllReadyH.nil
  go_simp; go_at_call 30; refine (iFormat x (by omega) (by omega) _ (HPw.out.below HB1.out.drew)).mono ?_; rintro e w3 ⟨rfl, h3⟩; replace h3 := (Below.refl wg.heap.size wg).drew.trans (h3.mono (Nat.le_refl _))
  refine hK.out _ _ ⟨h3, (h3.cell (p := ⟨w.heap.size, 0, none⟩) hg).trans q0, (h3.cell (p := ⟨w.heap.size, 1, none⟩) hg).trans q1⟩ (fun hS1 => ?_)
  clear hK K
  try simp only [Act.put, List.setIfInBounds_toArray, List.set_cons_zero, List.set_cons_succ]
  refine takeY 6 (i := 3) (v := ?v3a) rfl rfl (by kernel_rfl) (by kernel_rfl) (by kernel_rfl) (fun _ _ _ h => h) (by kernel_rfl) ?y3a hS1 ?_
  case y3a =>
    intro w' hw'; (try dsimp only at hw'); obtain ⟨e0, e1, e2⟩ := hw'; go_simp; try with_reducible rfl
  simp only [Act.put, List.setIfInBounds_toArray, List.set_cons_zero, List.set_cons_succ]
  refine wpAnyH_ready (rs := [6]) (by kernel_rfl) (by simp) ?_
  refine AllReadyH.cons rfl (fun K hK => ?_) AllReadyH.nil
  go_simp; go_at_call 30; refine (iFormat y (by omega) (by omega) _ (HPw.out.below (HB1.out.trans (h3.mono HB1.out.size)))).mono ?_; rintro e w4 ⟨rfl, h4⟩; replace h4 := h3.trans (h4.mono h3.size)
  refine hK.out _ _ ⟨h4, (h4.cell (p := ⟨w.heap.size, 0, none⟩) hg).trans q0, (h4.cell (p := ⟨w.heap.size, 1, none⟩) hg).trans q1⟩ (fun hS2 => ?_)
  clear hK K
  try simp only [Act.put, List.setIfInBounds_toArray, List.set_cons_zero, List.set_cons_succ]
  refine takeY 10 (i := 7) (v := ?v7a) rfl rfl (by kernel_rfl) (by kernel_rfl) (by kernel_rfl) (fun _ _ _ h => h) (by kernel_rfl) ?y7a hS2 ?_
  case y7a =>
    intro w' hw'; (try dsimp only at hw'); obtain ⟨e0, e1, e2⟩ := hw'; go_simp; try with_reducible rfl
  simp only [Act.put, List.setIfInBounds_toArray, List.set_cons_zero, List.set_cons_succ]
  refine takeY 2 (i := 8) (v := ?v8a) rfl rfl (by kernel_rfl) (by kernel_rfl) (by kernel_rfl) (fun _ _ _ h => h) (by kernel_rfl) ?y8a hS2 ?_
  case y8a =>
    intro w' hw'; (try dsimp only at hw'); obtain ⟨e0, e1, e2⟩ := hw'; go_simp; try with_reducible rfl
  simp only [Act.put, List.setIfInBounds_toArray, List.set_cons_zero, List.set_cons_succ]
  refine wpAnyH_done (by kernel_rfl) ?_ _
  clear hcat1 hcat2 hfx hfy
  go_wp2
  go_ret
  exact ⟨by rw [← pair_bytes]; rfl, HB1.out.trans (h4.mono HB1.out.size)⟩

def wordP (ps : List (Int × Int)) (j : Nat) : ByteArray := ⟨(pairT (ps.getD j (0, 0))).toArray⟩
theorem wordP_at {ps : List (Int × Int)} {k : Nat} {p : Int × Int} (h : ps[k]? = some p) : wordP ps k = ⟨(pairT p).toArray⟩ := by
  unfold wordP
  rw [List.getD_eq_getElem?_getD, h]; rfl
set_option maxHeartbeats 1600000 in
theorem iJoinP (w : World) (B : Nat) (A : Option Addr) (n cc : Nat) (ps : List (Int × Int)) (hi : Pairs w B A n ps) (hB : B ≤ w.heap.size) (h8 : n ≤ 8) (h : ∀ p, p ∈ ps → InR p.1 ∧ InR p.2) (hpow : Pow w) :
    Calls Tryd.prog 46 #[.slice A n cc, .string ⟨#[44]⟩, .func (.func 47) #[] #[]] w fun e w' => e = .returned (.string ⟨(Lib.join (ps.map pairT) [44]).toArray⟩) ∧ Below w.heap.size w w' := by
  have hmk := run_make_row' (P := Tryd.prog) 39 9 (.string ⟨#[]⟩) 16 Tryd.underlying39 info_string rfl .i64 .i64 n (by omega) (by omega)
  have HX := Lib.hid hi
  have HP := Lib.hid hpow
  have HR0 := Lib.hid h
  clear hi hpow h
  go_enter Tryd.func46, Tryd.ntmps46
  go_wp2
  clear hmk
  go_loopw [15] (fun i wr => ∃ k : Nat, k ≤ n ∧ i = .int .i64 k ∧ wr.rowIs w.heap.size 9 n (fun j => if j < k then .string (wordP ps j) else .string ⟨#[]⟩) ∧ Below w.heap.size w wr) (fun i _ => n - (intOf i).toNat)
  case atStart =>
    exact ⟨0, Nat.zero_le _, rfl, by simpa using World.rowIs_made w (.string ⟨#[]⟩) n 9, (Below.refl _ _).alloc (Nat.le_refl _) _⟩
  case round =>
    obtain ⟨k, hk, rfl, hrow, hbel⟩ := hrel
    have HR := Lib.hid hrow
    have HB := Lib.hid hbel
    by_cases hlt : k < n
    · obtain ⟨b1, off, x, y, rfl, hb1, hat, hc1, hc2⟩ := HX.out.at k hlt
      have f1 := (hbel.cell (p := ⟨b1, off + k * 2, none⟩) (by exact Nat.lt_of_lt_of_le hb1 hB)).trans hc1
      have f2 := (hbel.cell (p := ⟨b1, off + k * 2 + 1, none⟩) (by exact Nat.lt_of_lt_of_le hb1 hB)).trans hc2
      have HT := Lib.hid hat
      have HRng := Lib.hid (HR0.out (x, y) (List.mem_of_getElem? hat))
      have hx1 := hbel.alloc hbel.size (.cells #[.int .i64 x, .int .i64 y] 43)
      have hx2 := (Below.refl wr.heap.size wr).alloc (Nat.le_refl _) (.cells #[.int .i64 x, .int .i64 y] 43)
      have HX1 := Lib.hid hx1
      have HX2 := Lib.hid hx2
      have hlt' : (k : Int) < (n : Int) := by omega
      clear hrow hbel hc1 hc2 hat hx1 hx2
      go_wp2_with fail
      refine (iFmtPair _ x y HRng.out.1 HRng.out.2 (HP.out.below HX1.out)).mono ?_
      rintro e w1 ⟨rfl, hb⟩
      have HB2 := Lib.hid (HX2.out.trans (hb.mono HX2.out.size))
      have hrow1 := rowIs_below HR.out HB2.out (World.rowIs.lt HR.out)
      have g1 : w1.cell? ⟨w.heap.size, k, none⟩ = some (.string ⟨#[]⟩) := by rw [World.rowIs.cell hrow1 hlt, if_neg (by omega)]
      have g2 := World.rowIs.frozen hrow1 k
      have HR1 := Lib.hid hrow1
      have HB1 := Lib.hid (HX1.out.trans (hb.mono HX1.out.size))
      clear hb hrow1 f1 f2
      go_wp2
      go_roundw
      case rel =>
        refine ⟨k + 1, by omega, by go_num, (World.rowIs.set HR1.out k (.string ⟨(pairT (x, y)).toArray⟩)).congr (fun j _ => ?_), HB1.out.setCell (Nat.le_refl _) _⟩
        by_cases h1 : j = k
        · subst h1; rw [if_pos rfl, if_pos (by omega), wordP_at HT.out]
        · by_cases h2 : j < k
          · rw [if_neg h1, if_pos h2, if_pos (by omega)]
          · rw [if_neg h1, if_neg h2, if_neg (by omega)]
      case measure => simp [intOf]; omega
    · obtain rfl : k = n := by omega
      obtain ⟨xs, hxs⟩ : ∃ xs : List ByteArray, xs = ps.map fun p => ⟨(pairT p).toArray⟩ := ⟨_, rfl⟩
      have hxl : xs.length = k := by rw [hxs, List.length_map]; exact HX.out.1
      have hmap : xs.map (·.data.toList) = ps.map pairT := by rw [hxs, List.map_map]; rfl
      have hcells : ∀ (j : Nat) x, xs[j]? = some x → wr.cell? ⟨w.heap.size, 0 + j, none⟩ = some (.string x) := by
        intro j x hx
        have hj : j < k := by
          rcases Nat.lt_or_ge j xs.length with h' | h'
          · omega
          · rw [List.getElem?_eq_none h'] at hx; cases hx
        rw [hxs, List.getElem?_map] at hx
        obtain ⟨p, hp, rfl⟩ := Option.map_eq_some_iff.1 hx
        rw [Nat.zero_add, World.rowIs.cell hrow hj, if_pos hj, wordP_at hp]
      have hsz : (Lib.join (xs.map (·.data.toList)) (⟨#[44]⟩ : ByteArray).data.toList).length ≤ 140737488355328 := by
        rw [hmap]
        have := join_le (m := 5) 44 (ps.map pairT) fun x hx => by
          obtain ⟨p, hp, rfl⟩ := List.mem_map.1 hx
          exact pairT_len (HR0.out p hp)
        rw [List.length_map, HX.out.1] at this
        show (Lib.join (ps.map pairT) [44]).length ≤ _
        omega
      have hJ := Tryd.strings_Join w.heap.size 0 k xs ⟨#[44]⟩ wr hcells (World.rowIs.lt hrow) (by omega) (by omega) hsz
      rw [hxl, hmap] at hJ
      have HJ := Lib.hid hJ
      clear hrow hbel hcells hJ hsz hmap hxl hxs
      go_wp2_with fail
      refine HJ.out.mono ?_
      rintro e w1 ⟨rfl, hb⟩
      have HB1 := Lib.hid (HB.out.trans (hb.mono HB.out.size))
      clear hb
      go_wp2
      go_ret
      exact ⟨rfl, HB1.out⟩

theorem OkP.n8 {w : World} {B : Nat} {A : Option Addr} {n : Nat} {ps : List (Int × Int)} (h : OkP ps) (hi : Pairs w B A n ps) : n ≤ 8 := by have := h.2; have := hi.1; omega
set_option maxHeartbeats 1600000 in
theorem iFmtP (w : World) (B : Nat) (A : Option Addr) (n c : Nat) (ps : List (Int × Int)) (hi : Pairs w B A n ps) (hB : B ≤ w.heap.size) (hn : n ≤ 1048576) (q : Bool) (hq : q = true ↔ OkP ps) (hpow : Pow w) :
    Calls Tryd.prog 32 #[.slice A n c] w fun e w' => e = .returned (.string (fmtP ps q)) ∧ Below w.heap.size w w' := by
  have HX := Lib.hid hi
  have HQ := Lib.hid hq
  have HP := Lib.hid hpow
  clear hi hq hpow
  go_enter Tryd.func32, Tryd.ntmps32
  go_wp2_with fail
  refine (iArePairs w B A n c ps HX.out hB hn q HQ.out).mono ?_
  rintro e w1 ⟨rfl, hb1⟩
  have HB1 := Lib.hid hb1
  clear hb1
  cases q
  · go_wp2
    go_ret
    exact ⟨rfl, HB1.out⟩
  · have hok := HQ.out.1 (by first | rfl | trivial)
    have h8 := hok.n8 HX.out
    have HOk := Lib.hid hok
    clear hok
    by_cases h0 : n = 0
    · have hps : Hid (ps = []) := Lib.hid (List.eq_nil_of_length_eq_zero (HX.out.1.trans h0))
      subst h0
      go_wp2
      go_ret
      exact ⟨by rw [hps.out]; rfl, HB1.out⟩
    · have hps : Hid (ps ≠ []) := Lib.hid fun e => h0 (by rw [← HX.out.1, e]; rfl)
      have hne : ((n : Int) == 0) = false := by simpa using h0
      go_wp2_with fail
      refine (iJoinP w1 B A n c ps (HX.out.below (HB1.out.mono hB)) (Nat.le_trans hB HB1.out.size) h8 HOk.out.1.rng (HP.out.below HB1.out)).mono ?_
      rintro e w2 ⟨rfl, hb2⟩
      have HB2 := Lib.hid (HB1.out.trans (hb2.mono HB1.out.size))
      clear hb2
      go_wp2
      go_ret
      exact ⟨by unfold fmtP pairsT; rw [if_pos rfl, if_neg hps.out]; rfl, HB2.out⟩

set_option maxRecDepth 20000 in
set_option maxHeartbeats 3200000 in
theorem sFmtP (w : World) (B : Nat) (A : Option Addr) (n c : Nat) (ps : List (Int × Int)) (hi : Pairs w B A n ps) (hB : B ≤ w.heap.size) (hn : n ≤ 1048576) (q : Bool) (hq : q = true ↔ OkP ps) :
    Calls Tryd.prog 17 #[.slice A n c] w fun e w' => e = .returned (.string (fmtP ps q)) ∧ Below w.heap.size w w' := by
  have HX := Lib.hid hi
  have HQ := Lib.hid hq
  clear hi hq
  go_enter Tryd.func17, Tryd.ntmps17
  go_wp2_with fail
  refine (sArePairs w B A n c ps HX.out hB hn q HQ.out).mono ?_
  rintro e w1 ⟨rfl, hb1⟩
  have HB1 := Lib.hid hb1
  clear hb1
  cases q
  · go_wp2
    go_ret
    exact ⟨rfl, HB1.out⟩
  · have hok := HQ.out.1 (by first | rfl | trivial)
    have h8 := hok.n8 HX.out
    have HOk := Lib.hid hok
    clear hok
    go_wp2
    go_loopw [3, 4] (fun s i wr => ∃ k : Nat, k ≤ n ∧ i = .int .i64 k ∧ s = .string (preP ps k) ∧ Below w.heap.size w wr) (fun _ i _ => n - (intOf i).toNat)
    case atStart => exact ⟨0, Nat.zero_le _, rfl, rfl, HB1.out⟩
    case round =>
      clear HB1
      obtain ⟨k, hk, rfl, rfl, hbel⟩ := hrel
      have HB := Lib.hid hbel
      have hpre := preP_small HOk.out.1.rng k
      by_cases hlt : k < n
      · obtain ⟨b1, off, x, y, rfl, hb1, hat, hc1, hc2⟩ := HX.out.at k hlt
        have f1 := (hbel.cell (p := ⟨b1, off + k * 2, none⟩) (by exact Nat.lt_of_lt_of_le hb1 hB)).trans hc1
        have f2 := (hbel.cell (p := ⟨b1, off + k * 2 + 1, none⟩) (by exact Nat.lt_of_lt_of_le hb1 hB)).trans hc2
        have hl1 : b1 < wr.heap.size := Nat.lt_of_lt_of_le hb1 (Nat.le_trans hB hbel.size)
        have hrng := HOk.out.1.rng (x, y) (List.mem_of_getElem? hat)
        have hfx := fmt_R hrng.1
        have hfy := fmt_R hrng.2
        obtain ⟨hx0, hx1⟩ := inR2 hrng.1
        obtain ⟨hy0, hy1⟩ := inR2 hrng.2
        have hlt' : (k : Int) < (n : Int) := by omega
        dsimp only at hfx hfy hx0 hx1 hy0 hy1
        by_cases hk0 : k = 0
        · have hstep : preP ps k ++ fmtB x ++ ⟨#[62]⟩ ++ fmtB y = preP ps (k + 1) := by
            subst hk0
            rw [preP_zero]
            exact preP_one hat
          obtain ⟨sb, hsb⟩ : ∃ sb : ByteArray, sb = preP ps k := ⟨_, rfl⟩
          rw [← hsb] at hstep hpre ⊢
          have HStep := Lib.hid hstep
          have hsz : sb.size ≤ 50 := by omega
          have hkn : ¬ ((0 : Int) < (k : Int)) := by omega
          clear hsb hat hrng hc1 hc2 hbel hpre hstep hk0
          go_wp2
          clear hkn
          have hc1 : ¬ (9223372036854775807 < sb.size + (fmtB x).size) := by omega
          have hc2 : ¬ (9223372036854775807 < sb.size + (fmtB x).size + 1) := by omega
          have hc3 : ¬ (9223372036854775807 < sb.size + (fmtB x).size + 1 + (fmtB y).size) := by omega
          have hs0 : Below wr.heap.size wr wr.drew ∧ wr.drew.cell? ⟨b1, off + k * 2, none⟩ = some (.int .i64 x) ∧ wr.drew.cell? ⟨b1, off + k * 2 + 1, none⟩ = some (.int .i64 y) := ⟨(Below.refl _ _).drew, f1, f2⟩
          refine wp_region_held (S := fun w' => Below wr.heap.size wr w' ∧ w'.cell? ⟨b1, off + k * 2, none⟩ = some (.int .i64 x) ∧ w'.cell? ⟨b1, off + k * 2 + 1, none⟩ = some (.int .i64 y)) (by kernel_rfl) ?_
          change wpAnyH _ _ _ _ _ _ _ _ (World.drew _)
          refine takeY 18 (i := 0) (v := ?v0b) rfl rfl (by kernel_rfl) (by kernel_rfl) (by kernel_rfl) (fun _ _ _ h => h) (by kernel_rfl) ?y0b hs0 ?_
          case y0b =>
            intro w' hw'; (try dsimp only at hw'); obtain ⟨e0, e1, e2⟩ := hw'; go_simp; try with_reducible rfl
          simp only [Act.put, List.setIfInBounds_toArray, List.set_cons_zero, List.set_cons_succ]
          refine takeY 19 (i := 1) (v := ?v1b) rfl rfl (by kernel_rfl) (by kernel_rfl) (by kernel_rfl) (fun _ _ _ h => h) (by kernel_rfl) ?y1b hs0 ?_
          case y1b =>
            intro w' hw'; (try dsimp only at hw'); obtain ⟨e0, e1, e2⟩ := hw'; go_simp; try with_reducible rfl
          simp only [Act.put, List.setIfInBounds_toArray, List.set_cons_zero, List.set_cons_succ]
          refine takeY 20 (i := 2) (v := ?v2b) rfl rfl (by kernel_rfl) (by kernel_rfl) (by kernel_rfl) (fun _ _ _ h => h) (by kernel_rfl) ?y2b hs0 ?_
          case y2b =>
            intro w' hw'; (try dsimp only at hw'); obtain ⟨e0, e1, e2⟩ := hw'; go_simp; try with_reducible rfl
          simp only [Act.put, List.setIfInBounds_toArray, List.set_cons_zero, List.set_cons_succ]
          refine takeY 21 (i := 3) (v := ?v3b) rfl rfl (by kernel_rfl) (by kernel_rfl) (by kernel_rfl) (fun _ _ _ h => h) (by kernel_rfl) ?y3b hs0 ?_
          case y3b =>
            intro w' hw'; (try dsimp only at hw'); obtain ⟨e0, e1, e2⟩ := hw'; go_simp; try with_reducible rfl
          simp only [Act.put, List.setIfInBounds_toArray, List.set_cons_zero, List.set_cons_succ]
          refine takeY 22 (i := 4) (v := ?v4b) rfl rfl (by kernel_rfl) (by kernel_rfl) (by kernel_rfl) (fun _ _ _ h => h) (by kernel_rfl) ?y4b hs0 ?_
          case y4b =>
            intro w' hw'; (try dsimp only at hw'); obtain ⟨e0, e1, e2⟩ := hw'; go_simp; try with_reducible rfl
          simp only [Act.put, List.setIfInBounds_toArray, List.set_cons_zero, List.set_cons_succ]
          refine takeY 23 (i := 5) (v := ?v5b) rfl rfl (by kernel_rfl) (by kernel_rfl) (by kernel_rfl) (fun _ _ _ h => h) (by kernel_rfl) ?y5b hs0 ?_
          case y5b =>
            intro w' hw'; (try dsimp only at hw'); obtain ⟨e0, e1, e2⟩ := hw'; go_simp; try with_reducible rfl
          simp only [Act.put, List.setIfInBounds_toArray, List.set_cons_zero, List.set_cons_succ]
          refine takeY 27 (i := 9) (v := ?v9b) rfl rfl (by kernel_rfl) (by kernel_rfl) (by kernel_rfl) (fun _ _ _ h => h) (by kernel_rfl) ?y9b hs0 ?_
          case y9b =>
            intro w' hw'; (try dsimp only at hw'); obtain ⟨e0, e1, e2⟩ := hw'; go_simp; try with_reducible rfl
          simp only [Act.put, List.setIfInBounds_toArray, List.set_cons_zero, List.set_cons_succ]
          refine takeY 28 (i := 10) (v := ?v10b) rfl rfl (by kernel_rfl) (by kernel_rfl) (by kernel_rfl) (fun _ _ _ h => h) (by kernel_rfl) ?y10b hs0 ?_
          case y10b =>
            intro w' hw'; (try dsimp only at hw'); obtain ⟨e0, e1, e2⟩ := hw'; go_simp; try with_reducible rfl
          simp only [Act.put, List.setIfInBounds_toArray, List.set_cons_zero, List.set_cons_succ]
          refine takeY 29 (i := 11) (v := ?v11b) rfl rfl (by kernel_rfl) (by kernel_rfl) (by kernel_rfl) (fun _ _ _ h => h) (by kernel_rfl) ?y11b hs0 ?_
          case y11b =>
            intro w' hw'; (try dsimp only at hw'); obtain ⟨e0, e1, e2⟩ := hw'; go_simp; try with_reducible rfl
          simp only [Act.put, List.setIfInBounds_toArray, List.set_cons_zero, List.set_cons_succ]
          refine takeY 30 (i := 12) (v := ?v12b) rfl rfl (by kernel_rfl) (by kernel_rfl) (by kernel_rfl) (fun _ _ _ h => h) (by kernel_rfl) ?y12b hs0 ?_
          case y12b =>
            intro w' hw'; (try dsimp only at hw'); obtain ⟨e0, e1, e2⟩ := hw'; go_simp; try with_reducible rfl
          simp only [Act.put, List.setIfInBounds_toArray, List.set_cons_zero, List.set_cons_succ]
          refine takeY 31 (i := 13) (v := ?v13b) rfl rfl (by kernel_rfl) (by kernel_rfl) (by kernel_rfl) (fun _ _ _ h => h) (by kernel_rfl) ?y13b hs0 ?_
          case y13b =>
            intro w' hw'; (try dsimp only at hw'); obtain ⟨e0, e1, e2⟩ := hw'; go_simp; try with_reducible rfl
          simp only [Act.put, List.setIfInBounds_toArray, List.set_cons_zero, List.set_cons_succ]
          refine wpAnyH_ready (rs := [6]) (by kernel_rfl) (by simp) ?_
          refine AllReadyH.cons rfl (fun K hK => ?_) AllReadyH.nil
          go_simp; go_at_call 25; refine (sFormat x (by omega) (by omega) _).mono ?_; rintro e w3 ⟨rfl, h3⟩; replace h3 := (Below.refl wr.heap.size wr).drew.trans (h3.mono (Nat.le_refl _))
          refine hK.out _ _ ⟨h3, (h3.cell (p := ⟨b1, off + k * 2, none⟩) hl1).trans f1, (h3.cell (p := ⟨b1, off + k * 2 + 1, none⟩) hl1).trans f2⟩ (fun hS1 => ?_)
          clear hK K
          try simp only [Act.put, List.setIfInBounds_toArray, List.set_cons_zero, List.set_cons_succ]
          refine takeY 25 (i := 7) (v := ?v7b) rfl rfl (by kernel_rfl) (by kernel_rfl) (by kernel_rfl) (fun _ _ _ h => h) (by kernel_rfl) ?y7b hS1 ?_
          case y7b =>
            intro w' hw'; (try dsimp only at hw'); obtain ⟨e0, e1, e2⟩ := hw'; go_simp; try with_reducible rfl
          simp only [Act.put, List.setIfInBounds_toArray, List.set_cons_zero, List.set_cons_succ]
          refine takeY 26 (i := 8) (v := ?v8b) rfl rfl (by kernel_rfl) (by kernel_rfl) (by kernel_rfl) (fun _ _ _ h => h) (by kernel_rfl) ?y8b hS1 ?_
          case y8b =>
            intro w' hw'; (try dsimp only at hw'); obtain ⟨e0, e1, e2⟩ := hw'; go_simp; try with_reducible rfl
          simp only [Act.put, List.setIfInBounds_toArray, List.set_cons_zero, List.set_cons_succ]
          refine wpAnyH_ready (rs := [14]) (by kernel_rfl) (by simp) ?_
          refine AllReadyH.cons rfl (fun K hK => ?_) AllReadyH.nil
          go_simp; go_at_call 25; refine (sFormat y (by omega) (by omega) _).mono ?_; rintro e w4 ⟨rfl, h4⟩; replace h4 := h3.trans (h4.mono h3.size)
          refine hK.out _ _ ⟨h4, (h4.cell (p := ⟨b1, off + k * 2, none⟩) hl1).trans f1, (h4.cell (p := ⟨b1, off + k * 2 + 1, none⟩) hl1).trans f2⟩ (fun hS2 => ?_)
          clear hK K
          try simp only [Act.put, List.setIfInBounds_toArray, List.set_cons_zero, List.set_cons_succ]
          refine takeY 33 (i := 15) (v := ?v15b) rfl rfl (by kernel_rfl) (by kernel_rfl) (by kernel_rfl) (fun _ _ _ h => h) (by kernel_rfl) ?y15b hS2 ?_
          case y15b =>
            intro w' hw'; (try dsimp only at hw'); obtain ⟨e0, e1, e2⟩ := hw'; go_simp; try with_reducible rfl
          simp only [Act.put, List.setIfInBounds_toArray, List.set_cons_zero, List.set_cons_succ]
          refine takeY 3 (i := 16) (v := ?v16b) rfl rfl (by kernel_rfl) (by kernel_rfl) (by kernel_rfl) (fun _ _ _ h => h) (by kernel_rfl) ?y16b hS2 ?_
          case y16b =>
            intro w' hw'; (try dsimp only at hw'); obtain ⟨e0, e1, e2⟩ := hw'; go_simp; try with_reducible rfl
          simp only [Act.put, List.setIfInBounds_toArray, List.set_cons_zero, List.set_cons_succ]
          refine wpAnyH_done (by kernel_rfl) ?_ _
          have HB' := Lib.hid (HB.out.trans (h4.mono HB.out.size))
          clear hc1 hc2 hc3 hs0 hS1 hS2 h3 h4 f1 f2 HB
          go_wp2
          go_roundw
          case rel => exact ⟨k + 1, by omega, by go_num, by rw [← HStep.out], HB'.out⟩
          case measure => simp [intOf]; omega
        · have HStep := Lib.hid (preP_step (by omega) hat)
          have hkp : (0 : Int) < (k : Int) := by omega
          have hc0 : ¬ (9223372036854775807 < (preP ps k).size + 1) := by omega
          obtain ⟨sb, hsb⟩ : ∃ sb : ByteArray, sb = preP ps k ++ ⟨#[44]⟩ := ⟨_, rfl⟩
          have hsz : sb.size ≤ 50 := by
            rw [hsb, ByteArray.size_append]
            have : (⟨#[44]⟩ : ByteArray).size = 1 := rfl
            omega
          rw [← hsb] at HStep
          clear hat hrng hc1 hc2 hbel hpre
          go_wp2
          rw [← hsb]
          clear hsb hc0
          have hc1 : ¬ (9223372036854775807 < sb.size + (fmtB x).size) := by omega
          have hc2 : ¬ (9223372036854775807 < sb.size + (fmtB x).size + 1) := by omega
          have hc3 : ¬ (9223372036854775807 < sb.size + (fmtB x).size + 1 + (fmtB y).size) := by omega
          have hs0 : Below wr.heap.size wr wr.drew ∧ wr.drew.cell? ⟨b1, off + k * 2, none⟩ = some (.int .i64 x) ∧ wr.drew.cell? ⟨b1, off + k * 2 + 1, none⟩ = some (.int .i64 y) := ⟨(Below.refl _ _).drew, f1, f2⟩
          refine wp_region_held (S := fun w' => Below wr.heap.size wr w' ∧ w'.cell? ⟨b1, off + k * 2, none⟩ = some (.int .i64 x) ∧ w'.cell? ⟨b1, off + k * 2 + 1, none⟩ = some (.int .i64 y)) (by kernel_rfl) ?_
          change wpAnyH _ _ _ _ _ _ _ _ (World.drew _)
          refine takeY 18 (i := 0) (v := ?v0c) rfl rfl (by kernel_rfl) (by kernel_rfl) (by kernel_rfl) (fun _ _ _ h => h) (by kernel_rfl) ?y0c hs0 ?_
          case y0c =>
            intro w' hw'; (try dsimp only at hw'); obtain ⟨e0, e1, e2⟩ := hw'; go_simp; try with_reducible rfl
          simp only [Act.put, List.setIfInBounds_toArray, List.set_cons_zero, List.set_cons_succ]
          refine takeY 19 (i := 1) (v := ?v1c) rfl rfl (by kernel_rfl) (by kernel_rfl) (by kernel_rfl) (fun _ _ _ h => h) (by kernel_rfl) ?y1c hs0 ?_
          case y1c =>
            intro w' hw'; (try dsimp only at hw'); obtain ⟨e0, e1, e2⟩ := hw'; go_simp; try with_reducible rfl
          simp only [Act.put, List.setIfInBounds_toArray, List.set_cons_zero, List.set_cons_succ]
          refine takeY 20 (i := 2) (v := ?v2c) rfl rfl (by kernel_rfl) (by kernel_rfl) (by kernel_rfl) (fun _ _ _ h => h) (by kernel_rfl) ?y2c hs0 ?_
          case y2c =>
            intro w' hw'; (try dsimp only at hw'); obtain ⟨e0, e1, e2⟩ := hw'; go_simp; try with_reducible rfl
          simp only [Act.put, List.setIfInBounds_toArray, List.set_cons_zero, List.set_cons_succ]
          refine takeY 21 (i := 3) (v := ?v3c) rfl rfl (by kernel_rfl) (by kernel_rfl) (by kernel_rfl) (fun _ _ _ h => h) (by kernel_rfl) ?y3c hs0 ?_
          case y3c =>
            intro w' hw'; (try dsimp only at hw'); obtain ⟨e0, e1, e2⟩ := hw'; go_simp; try with_reducible rfl
          simp only [Act.put, List.setIfInBounds_toArray, List.set_cons_zero, List.set_cons_succ]
          refine takeY 22 (i := 4) (v := ?v4c) rfl rfl (by kernel_rfl) (by kernel_rfl) (by kernel_rfl) (fun _ _ _ h => h) (by kernel_rfl) ?y4c hs0 ?_
          case y4c =>
            intro w' hw'; (try dsimp only at hw'); obtain ⟨e0, e1, e2⟩ := hw'; go_simp; try with_reducible rfl
          simp only [Act.put, List.setIfInBounds_toArray, List.set_cons_zero, List.set_cons_succ]
          refine takeY 23 (i := 5) (v := ?v5c) rfl rfl (by kernel_rfl) (by kernel_rfl) (by kernel_rfl) (fun _ _ _ h => h) (by kernel_rfl) ?y5c hs0 ?_
          case y5c =>
            intro w' hw'; (try dsimp only at hw'); obtain ⟨e0, e1, e2⟩ := hw'; go_simp; try with_reducible rfl
          simp only [Act.put, List.setIfInBounds_toArray, List.set_cons_zero, List.set_cons_succ]
          refine takeY 27 (i := 9) (v := ?v9c) rfl rfl (by kernel_rfl) (by kernel_rfl) (by kernel_rfl) (fun _ _ _ h => h) (by kernel_rfl) ?y9c hs0 ?_
          case y9c =>
            intro w' hw'; (try dsimp only at hw'); obtain ⟨e0, e1, e2⟩ := hw'; go_simp; try with_reducible rfl
          simp only [Act.put, List.setIfInBounds_toArray, List.set_cons_zero, List.set_cons_succ]
          refine takeY 28 (i := 10) (v := ?v10c) rfl rfl (by kernel_rfl) (by kernel_rfl) (by kernel_rfl) (fun _ _ _ h => h) (by kernel_rfl) ?y10c hs0 ?_
          case y10c =>
            intro w' hw'; (try dsimp only at hw'); obtain ⟨e0, e1, e2⟩ := hw'; go_simp; try with_reducible rfl
          simp only [Act.put, List.setIfInBounds_toArray, List.set_cons_zero, List.set_cons_succ]
          refine takeY 29 (i := 11) (v := ?v11c) rfl rfl (by kernel_rfl) (by kernel_rfl) (by kernel_rfl) (fun _ _ _ h => h) (by kernel_rfl) ?y11c hs0 ?_
          case y11c =>
            intro w' hw'; (try dsimp only at hw'); obtain ⟨e0, e1, e2⟩ := hw'; go_simp; try with_reducible rfl
          simp only [Act.put, List.setIfInBounds_toArray, List.set_cons_zero, List.set_cons_succ]
          refine takeY 30 (i := 12) (v := ?v12c) rfl rfl (by kernel_rfl) (by kernel_rfl) (by kernel_rfl) (fun _ _ _ h => h) (by kernel_rfl) ?y12c hs0 ?_
          case y12c =>
            intro w' hw'; (try dsimp only at hw'); obtain ⟨e0, e1, e2⟩ := hw'; go_simp; try with_reducible rfl
          simp only [Act.put, List.setIfInBounds_toArray, List.set_cons_zero, List.set_cons_succ]
          refine takeY 31 (i := 13) (v := ?v13c) rfl rfl (by kernel_rfl) (by kernel_rfl) (by kernel_rfl) (fun _ _ _ h => h) (by kernel_rfl) ?y13c hs0 ?_
          case y13c =>
            intro w' hw'; (try dsimp only at hw'); obtain ⟨e0, e1, e2⟩ := hw'; go_simp; try with_reducible rfl
          simp only [Act.put, List.setIfInBounds_toArray, List.set_cons_zero, List.set_cons_succ]
          refine wpAnyH_ready (rs := [6]) (by kernel_rfl) (by simp) ?_
          refine AllReadyH.cons rfl (fun K hK => ?_) AllReadyH.nil
          go_simp; go_at_call 25; refine (sFormat x (by omega) (by omega) _).mono ?_; rintro e w3 ⟨rfl, h3⟩; replace h3 := (Below.refl wr.heap.size wr).drew.trans (h3.mono (Nat.le_refl _))
          refine hK.out _ _ ⟨h3, (h3.cell (p := ⟨b1, off + k * 2, none⟩) hl1).trans f1, (h3.cell (p := ⟨b1, off + k * 2 + 1, none⟩) hl1).trans f2⟩ (fun hS1 => ?_)
          clear hK K
          try simp only [Act.put, List.setIfInBounds_toArray, List.set_cons_zero, List.set_cons_succ]
          refine takeY 25 (i := 7) (v := ?v7c) rfl rfl (by kernel_rfl) (by kernel_rfl) (by kernel_rfl) (fun _ _ _ h => h) (by kernel_rfl) ?y7c hS1 ?_
          case y7c =>
            intro w' hw'; (try dsimp only at hw'); obtain ⟨e0, e1, e2⟩ := hw'; go_simp; try with_reducible rfl
          simp only [Act.put, List.setIfInBounds_toArray, List.set_cons_zero, List.set_cons_succ]
          refine takeY 26 (i := 8) (v := ?v8c) rfl rfl (by kernel_rfl) (by kernel_rfl) (by kernel_rfl) (fun _ _ _ h => h) (by kernel_rfl) ?y8c hS1 ?_
          case y8c =>
            intro w' hw'; (try dsimp only at hw'); obtain ⟨e0, e1, e2⟩ := hw'; go_simp; try with_reducible rfl
          simp only [Act.put, List.setIfInBounds_toArray, List.set_cons_zero, List.set_cons_succ]
          refine wpAnyH_ready (rs := [14]) (by kernel_rfl) (by simp) ?_
          refine AllReadyH.cons rfl (fun K hK => ?_) AllReadyH.nil
          go_simp; go_at_call 25; refine (sFormat y (by omega) (by omega) _).mono ?_; rintro e w4 ⟨rfl, h4⟩; replace h4 := h3.trans (h4.mono h3.size)
          refine hK.out _ _ ⟨h4, (h4.cell (p := ⟨b1, off + k * 2, none⟩) hl1).trans f1, (h4.cell (p := ⟨b1, off + k * 2 + 1, none⟩) hl1).trans f2⟩ (fun hS2 => ?_)
          clear hK K
          try simp only [Act.put, List.setIfInBounds_toArray, List.set_cons_zero, List.set_cons_succ]
          refine takeY 33 (i := 15) (v := ?v15c) rfl rfl (by kernel_rfl) (by kernel_rfl) (by kernel_rfl) (fun _ _ _ h => h) (by kernel_rfl) ?y15c hS2 ?_
          case y15c =>
            intro w' hw'; (try dsimp only at hw'); obtain ⟨e0, e1, e2⟩ := hw'; go_simp; try with_reducible rfl
          simp only [Act.put, List.setIfInBounds_toArray, List.set_cons_zero, List.set_cons_succ]
          refine takeY 3 (i := 16) (v := ?v16c) rfl rfl (by kernel_rfl) (by kernel_rfl) (by kernel_rfl) (fun _ _ _ h => h) (by kernel_rfl) ?y16c hS2 ?_
          case y16c =>
            intro w' hw'; (try dsimp only at hw'); obtain ⟨e0, e1, e2⟩ := hw'; go_simp; try with_reducible rfl
          simp only [Act.put, List.setIfInBounds_toArray, List.set_cons_zero, List.set_cons_succ]
          refine wpAnyH_done (by kernel_rfl) ?_ _
          have HB' := Lib.hid (HB.out.trans (h4.mono HB.out.size))
          clear hc1 hc2 hc3 hs0 hS1 hS2 h3 h4 f1 f2 HB
          go_wp2
          go_roundw
          case rel => exact ⟨k + 1, by omega, by go_num, by rw [← HStep.out], HB'.out⟩
          case measure => simp [intOf]; omega
      · obtain rfl : k = n := by omega
        clear hbel hpre
        by_cases h0 : k = 0
        · have hps : Hid (ps = []) := Lib.hid (List.eq_nil_of_length_eq_zero (HX.out.1.trans h0))
          subst h0
          rw [preP_zero]
          go_wp2
          go_ret
          exact ⟨by rw [hps.out]; rfl, HB.out⟩
        · have hps : ps ≠ [] := fun e => h0 (by rw [← HX.out.1, e]; rfl)
          obtain ⟨h1, h2, h3⟩ := preP_all HX.out.1 hps
          rw [h1]
          obtain ⟨sb, hsb⟩ : ∃ sb : ByteArray, sb = fmtP ps true := ⟨_, rfl⟩
          rw [← hsb] at h2 h3 ⊢
          have HSb := Lib.hid hsb
          clear hsb h1 hps
          go_wp2
          go_ret
          exact ⟨by rw [← HSb.out]; rfl, HB.out⟩
end Go.Proofs.YtghekfigfjhkeabDoor.num
namespace Go.Proofs.YtghekfigfjhkeabDoor.num
open Go.RowKit
set_option linter.unusedVariables false

theorem fmt_R' {n : Int} (h : InR n) : (fmtB n).size ≤ 2 := fmt_small n (inR2 h).1 (inR2 h).2
set_option maxHeartbeats 1600000 in
theorem sInts (w : World) (B : Nat) (A : Option Addr) (n c : Nat) (l : List Int) (hi : Ints w B A n l) (hB : B ≤ w.heap.size) (hn : n ≤ 1048576) (h : ∀ v ∈ l, InR v) :
    Calls Tryd.prog 26 #[.slice A n c] w fun e w' => e = .returned (.string ⟨(intsT l).toArray⟩) ∧ Below w.heap.size w w' := by
  have HX := Lib.hid hi
  have HR := Lib.hid h
  clear hi h
  go_enter Tryd.func26, Tryd.ntmps26
  go_wp2
  go_loopw [3, 4] (fun s i wr => ∃ k : Nat, k ≤ n ∧ i = .int .i64 k ∧ s = .string (preI l k) ∧ Below w.heap.size w wr) (fun _ i _ => n - (intOf i).toNat)
  case atStart => exact ⟨0, Nat.zero_le _, rfl, rfl, Below.refl _ _⟩
  case round =>
    obtain ⟨k, hk, rfl, rfl, hbel⟩ := hrel
    have HB := Lib.hid hbel
    have hpre := preI_small HR.out k
    by_cases hlt : k < n
    · obtain ⟨b1, off, x, rfl, hb1, hat, hc1⟩ := HX.out.at k hlt
      have f1 := (hbel.cell (p := ⟨b1, off + k, none⟩) (by exact Nat.lt_of_lt_of_le hb1 hB)).trans hc1
      have hrng := HR.out x (List.mem_of_getElem? hat)
      have hfx := fmt_R' hrng
      obtain ⟨hx0, hx1⟩ := inR2 hrng
      have hlt' : (k : Int) < (n : Int) := by omega
      by_cases hk0 : k = 0
      · have hstep : preI l k ++ fmtB x = preI l (k + 1) := by
          subst hk0
          rw [preI_zero]
          exact preI_one hat
        obtain ⟨sb, hsb⟩ : ∃ sb : ByteArray, sb = preI l k := ⟨_, rfl⟩
        rw [← hsb] at hstep hpre ⊢
        have HStep := Lib.hid hstep
        have hsz : sb.size ≤ 3145728 := by omega
        have hkn : ¬ ((0 : Int) < (k : Int)) := by omega
        clear hsb hat hrng hc1 hbel hpre hstep hk0
        go_wp2_with fail
        refine (sFormat x (by omega) (by omega) _).mono ?_
        rintro e w1 ⟨rfl, hb⟩
        have HB1 := Lib.hid (HB.out.trans (hb.mono HB.out.size))
        have hc1 : ¬ (9223372036854775807 < sb.size + (fmtB x).size) := by omega
        clear hb f1 hkn
        go_wp2
        go_roundw
        case rel => exact ⟨k + 1, by omega, by go_num, by rw [HStep.out], HB1.out⟩
        case measure => simp [intOf]; omega
      · have hstep : preI l k ++ ⟨#[44]⟩ ++ fmtB x = preI l (k + 1) := preI_step (by omega) hat
        obtain ⟨sb, hsb⟩ : ∃ sb : ByteArray, sb = preI l k := ⟨_, rfl⟩
        rw [← hsb] at hstep hpre ⊢
        have HStep := Lib.hid hstep
        have hsz : sb.size ≤ 3145728 := by omega
        have hkn : (0 : Int) < (k : Int) := by omega
        have hc0 : ¬ (9223372036854775807 < sb.size + 1) := by omega
        have hc1 : ¬ (9223372036854775807 < sb.size + 1 + (fmtB x).size) := by omega
        clear hsb hat hrng hbel hpre hstep hk0
        go_wp2_with fail
        refine (sFormat x (by omega) (by omega) _).mono ?_
        rintro e w1 ⟨rfl, hb⟩
        have HB1 := Lib.hid (HB.out.trans (hb.mono HB.out.size))
        clear hb f1 hkn
        go_wp2
        go_roundw
        case rel => exact ⟨k + 1, by omega, by go_num, by rw [HStep.out], HB1.out⟩
        case measure => simp [intOf]; omega
    · obtain rfl : k = n := by omega
      clear hbel hpre
      go_wp2
      go_ret
      exact ⟨by unfold preI; rw [ptake_all HX.out.1]; rfl, HB.out⟩

def wordI (l : List Int) (j : Nat) : ByteArray := fmtB (l.getD j 0)
theorem wordI_at {l : List Int} {k : Nat} {x : Int} (h : l[k]? = some x) : wordI l k = fmtB x := by
  unfold wordI
  rw [List.getD_eq_getElem?_getD, h]; rfl
set_option maxHeartbeats 1600000 in
theorem iInts (w : World) (B : Nat) (A : Option Addr) (n cc : Nat) (l : List Int) (hi : Ints w B A n l) (hB : B ≤ w.heap.size) (hn : n ≤ 1048576) (h : ∀ v ∈ l, InR v) (hpow : Pow w) :
    Calls Tryd.prog 31 #[.slice A n cc, .string ⟨#[44]⟩, .func (.func 30) #[] #[]] w fun e w' => e = .returned (.string ⟨(intsT l).toArray⟩) ∧ Below w.heap.size w w' := by
  have hmk := run_make_row' (P := Tryd.prog) 39 9 (.string ⟨#[]⟩) 16 Tryd.underlying39 info_string rfl .i64 .i64 n (by omega) (by omega)
  have HX := Lib.hid hi
  have HP := Lib.hid hpow
  have HR0 := Lib.hid h
  clear hi hpow h
  go_enter Tryd.func31, Tryd.ntmps31
  go_wp2
  clear hmk
  go_loopw [15] (fun i wr => ∃ k : Nat, k ≤ n ∧ i = .int .i64 k ∧ wr.rowIs w.heap.size 9 n (fun j => if j < k then .string (wordI l j) else .string ⟨#[]⟩) ∧ Below w.heap.size w wr) (fun i _ => n - (intOf i).toNat)
  case atStart =>
    exact ⟨0, Nat.zero_le _, rfl, by simpa using World.rowIs_made w (.string ⟨#[]⟩) n 9, (Below.refl _ _).alloc (Nat.le_refl _) _⟩
  case round =>
    obtain ⟨k, hk, rfl, hrow, hbel⟩ := hrel
    have HR := Lib.hid hrow
    have HB := Lib.hid hbel
    by_cases hlt : k < n
    · obtain ⟨b1, off, x, rfl, hb1, hat, hc1⟩ := HX.out.at k hlt
      have f1 := (hbel.cell (p := ⟨b1, off + k, none⟩) (by exact Nat.lt_of_lt_of_le hb1 hB)).trans hc1
      have HT := Lib.hid hat
      have hrng := HR0.out x (List.mem_of_getElem? hat)
      obtain ⟨hx0, hx1⟩ := inR2 hrng
      have hlt' : (k : Int) < (n : Int) := by omega
      clear hrow hbel hc1 hat hrng
      go_wp2_with fail
      refine (iFormat x (by omega) (by omega) _ (HP.out.below HB.out)).mono ?_
      rintro e w1 ⟨rfl, hb⟩
      have HB2 := Lib.hid hb
      have hrow1 := rowIs_below HR.out HB2.out (World.rowIs.lt HR.out)
      have g1 : w1.cell? ⟨w.heap.size, k, none⟩ = some (.string ⟨#[]⟩) := by rw [World.rowIs.cell hrow1 hlt, if_neg (by omega)]
      have g2 := World.rowIs.frozen hrow1 k
      have HR1 := Lib.hid hrow1
      have HB1 := Lib.hid (HB.out.trans (hb.mono HB.out.size))
      clear hb hrow1 f1
      go_wp2
      go_roundw
      case rel =>
        refine ⟨k + 1, by omega, by go_num, (World.rowIs.set HR1.out k (.string (fmtB x))).congr (fun j _ => ?_), HB1.out.setCell (Nat.le_refl _) _⟩
        by_cases h1 : j = k
        · subst h1; rw [if_pos rfl, if_pos (by omega), wordI_at HT.out]
        · by_cases h2 : j < k
          · rw [if_neg h1, if_pos h2, if_pos (by omega)]
          · rw [if_neg h1, if_neg h2, if_neg (by omega)]
      case measure => simp [intOf]; omega
    · obtain rfl : k = n := by omega
      obtain ⟨xs, hxs⟩ : ∃ xs : List ByteArray, xs = l.map fmtB := ⟨_, rfl⟩
      have hxl : xs.length = k := by rw [hxs, List.length_map]; exact HX.out.1
      have hmap : xs.map (·.data.toList) = l.map Lib.itoa := by rw [hxs, List.map_map]; rfl
      have hcells : ∀ (j : Nat) x, xs[j]? = some x → wr.cell? ⟨w.heap.size, 0 + j, none⟩ = some (.string x) := by
        intro j x hx
        have hj : j < k := by
          rcases Nat.lt_or_ge j xs.length with h' | h'
          · omega
          · rw [List.getElem?_eq_none h'] at hx; cases hx
        rw [hxs, List.getElem?_map] at hx
        obtain ⟨p, hp, rfl⟩ := Option.map_eq_some_iff.1 hx
        rw [Nat.zero_add, World.rowIs.cell hrow hj, if_pos hj, wordI_at hp]
      have hsz : (Lib.join (xs.map (·.data.toList)) (⟨#[44]⟩ : ByteArray).data.toList).length ≤ 140737488355328 := by
        rw [hmap]
        have := intsT_len HR0.out
        rw [HX.out.1] at this
        show (intsT l).length ≤ _
        omega
      have hJ : Calls Tryd.prog 33 #[.slice (some ⟨w.heap.size, 0, none⟩) k k, .string ⟨#[44]⟩] wr fun e w' => e = .returned (.string ⟨(intsT l).toArray⟩) ∧ Below wr.heap.size wr w' := by
        have h0 := Tryd.strings_Join w.heap.size 0 k xs ⟨#[44]⟩ wr hcells (World.rowIs.lt hrow) (by omega) (by omega) hsz
        rw [hxl, hmap] at h0
        exact h0
      have HJ := Lib.hid hJ
      clear hrow hbel hcells hJ hsz hmap hxl hxs
      go_wp2_with fail
      refine HJ.out.mono ?_
      rintro e w1 ⟨rfl, hb⟩
      have HB1 := Lib.hid (HB.out.trans (hb.mono HB.out.size))
      clear hb
      go_wp2
      go_ret
      exact ⟨rfl, HB1.out⟩
end Go.Proofs.YtghekfigfjhkeabDoor.num
namespace Go.Proofs.YtghekfigfjhkeabDoor.num
open Go.RowKit
set_option linter.unusedVariables false

/-- The cells of a box of five that the call laid, behind calls. -/
theorem box5 {w w' : World} {v0 v1 v2 v3 v4 : Value} {T : TypeId} (hb : Below (w.alloc (.cells #[v0, v1, v2, v3, v4] T)).heap.size (w.alloc (.cells #[v0, v1, v2, v3, v4] T)) w') :
    w'.cell? ⟨w.heap.size, 0, none⟩ = some v0 ∧ w'.cell? ⟨w.heap.size, 1, none⟩ = some v1 ∧ w'.cell? ⟨w.heap.size, 2, none⟩ = some v2 ∧ w'.cell? ⟨w.heap.size, 3, none⟩ = some v3 ∧ w'.cell? ⟨w.heap.size, 4, none⟩ = some v4 ∧ w.heap.size < w'.heap.size := by
  have hc : ∀ j v, #[v0, v1, v2, v3, v4][j]? = some v → w'.cell? ⟨w.heap.size, j, none⟩ = some v := fun j v h => (hb.cell (p := ⟨w.heap.size, j, none⟩) (by simp)).trans (by rw [World.cell?_alloc_at _ _ _ _ rfl]; exact h)
  exact ⟨hc 0 _ rfl, hc 1 _ rfl, hc 2 _ rfl, hc 3 _ rfl, hc 4 _ rfl, by have := hb.size; simp at this; omega⟩

theorem IsW.val2 {d : WD} (h : IsW d) (hk : d.kind = 2) : InR d.value := by have := h.v; rwa [if_pos hk] at this
theorem rankW3 {f x v : Int} {ls : List Int} {ps : List (Int × Int)} : rankW ⟨3, f, x, ls, ps⟩ v = if v ∈ ls then 0 else 1 := rfl
theorem rankW2 {f x v : Int} {ls : List Int} {ps : List (Int × Int)} : rankW ⟨2, f, x, ls, ps⟩ v = if v < x then x - v else v - x := rfl
theorem rankW_le {d : WD} (hw : IsW d) (h4 : d.kind ≠ 4) {x : Int} (hx : InR x) : 0 ≤ rankW d x ∧ rankW d x ≤ 9 := by
  have hv := fun hk => hw.val2 hk
  have hk := hw.k
  obtain ⟨x0, x9⟩ := hx
  unfold rankW
  split
  · omega
  · split
    · omega
    · split
      · rename_i h
        obtain ⟨v0, v9⟩ := hv h
        split <;> omega
      · split <;> omega
end Go.Proofs.YtghekfigfjhkeabDoor.num
namespace Go.Proofs.YtghekfigfjhkeabDoor.num
open Go.RowKit
set_option linter.unusedVariables false
set_option linter.unusedSimpArgs false

theorem fmtW_ext {d : WD} {b : ByteArray} (h : b.data.toList = wishT d) : b = fmtW d true := by
  apply bytes_ext
  rw [h]
  simp [fmtW]
theorem wishT0 {f v : Int} {ls : List Int} {ps : List (Int × Int)} : wishT ⟨0, f, v, ls, ps⟩ = [108, 111, 119] ++ 32 :: 102 :: Lib.itoa f := by
  show [108, 111, 119] ++ 32 :: 102 :: (Lib.itoa f ++ []) = _
  rw [List.append_nil]
theorem wishT1 {f v : Int} {ls : List Int} {ps : List (Int × Int)} : wishT ⟨1, f, v, ls, ps⟩ = [104, 105, 103, 104] ++ 32 :: 102 :: Lib.itoa f := by
  show [104, 105, 103, 104] ++ 32 :: 102 :: (Lib.itoa f ++ []) = _
  rw [List.append_nil]
theorem wishT2 {f v : Int} {ls : List Int} {ps : List (Int × Int)} : wishT ⟨2, f, v, ls, ps⟩ = [110, 101, 97, 114] ++ 32 :: 102 :: (Lib.itoa f ++ 32 :: Lib.itoa v) := rfl
theorem wishT3 {f v : Int} {ls : List Int} {ps : List (Int × Int)} : wishT ⟨3, f, v, ls, ps⟩ = [97, 109, 111, 110, 103] ++ 32 :: 102 :: (Lib.itoa f ++ 32 :: intsT ls) := rfl
theorem wishT4 {f v : Int} {ls : List Int} {ps : List (Int × Int)} : wishT ⟨4, f, v, ls, ps⟩ = [111, 114, 100, 101, 114] ++ 32 :: 102 :: (Lib.itoa f ++ 32 :: pairsT ps) := rfl
theorem pairsT_len {ps : List (Int × Int)} (h : OkP ps) : (pairsT ps).length ≤ 60 := by
  unfold pairsT
  split
  · decide
  · have := join_le (m := 5) 44 (ps.map pairT) fun x hx => by
      obtain ⟨p, hp, rfl⟩ := List.mem_map.1 hx
      exact pairT_len (h.1.rng p hp)
    rw [List.length_map] at this
    have := h.2
    omega
theorem IsW.asc {d : WD} (h : IsW d) (hk : d.kind = 3) : Asc d.ls := by have := h.l; rwa [if_pos hk] at this
theorem IsW.okp {d : WD} (h : IsW d) (hk : d.kind = 4) : OkP d.ps := by have := h.p; rwa [if_pos hk] at this
set_option maxRecDepth 20000 in
set_option maxHeartbeats 1600000 in
theorem sFmtW (w : World) (B : Nat) (t : Wi) (hi : WiIn w B t) (hB : B ≤ w.heap.size) (hn : t.Short) (q : Bool) (hq : q = true ↔ IsW t.dat) :
    Calls Tryd.prog 11 #[t.val] w fun e w' => e = .returned (.string (fmtW t.dat q)) ∧ Below w.heap.size w w' := by
  have HI := Lib.hid hi
  have HQ := Lib.hid hq
  have HB1 : Hid (∀ o : Obj, Below B w (w.alloc o)) := Lib.hid fun o => (Below.refl B w).alloc hB _
  have HW1 : Hid (∀ o : Obj, Below w.heap.size w (w.alloc o)) := Lib.hid fun o => (Below.refl _ w).alloc (Nat.le_refl _) _
  have HS : Hid (∀ w1 : World, WiIn w1 B t → B ≤ w1.heap.size → Calls Tryd.prog 24 #[t.val] w1 fun e w' => e = .returned (.bool q) ∧ Below w1.heap.size w1 w') := Lib.hid fun w1 h1 h2 => sIsWish w1 B t h1 h2 hn q hq
  have HN := Lib.hid hn
  clear hi hq hn
  obtain ⟨k, f, v, LA, Ln, Lc, ls, PA, Pn, Pc, ps⟩ := t
  unfold Wi.val at HS ⊢
  simp only [Wi.dat] at HQ ⊢
  have CALL := HS
  cases q
  · go_enter Tryd.func11, Tryd.ntmps11
    go_wp2_with fail
    refine (HS.out _ (HI.out.below (HB1.out _)) (by simp; omega)).mono ?_
    rintro e w1 ⟨rfl, hb1⟩
    have HBB := Lib.hid ((HW1.out _).trans (hb1.mono (by simp)))
    clear hb1
    go_wp2
    go_ret
    exact ⟨rfl, HBB.out⟩
  · have HW := Lib.hid (HQ.out.1 rfl)
    have hk := HW.out.k
    have hf := HW.out.f
    have hv : k = 2 → InR v := fun h => HW.out.val2 h
    have ha : k = 3 → Asc ls := fun h => HW.out.asc h
    have ho : k = 4 → OkP ps := fun h => HW.out.okp h
    have HP : Hid (Pairs w B PA Pn ps) := Lib.hid HI.out.p
    have HL : Hid (Ints w B LA Ln ls) := Lib.hid HI.out.l
    have HNN : Hid (Ln ≤ 1048576 ∧ Pn ≤ 1048576) := Lib.hid HN.out
    have hff : (fmtB f).size ≤ 2 := fmt_R' ⟨hf.1, by have := hf.2; dsimp only at this; omega⟩
    have hf1 : -9223372036854775808 ≤ f := by have := hf.1; dsimp only at this; omega
    have hf2 : f ≤ 9223372036854775807 := by have := hf.2; dsimp only at this; omega
    dsimp only at hk
    clear hf HQ CALL HN
    rcases (show k = 0 ∨ k = 1 ∨ k = 2 ∨ k = 3 ∨ k = 4 by omega) with rfl | rfl | rfl | rfl | rfl
    · clear hk hv ha ho
      go_enter Tryd.func11, Tryd.ntmps11
      go_wp2_with fail
      refine (HS.out _ (HI.out.below (HB1.out _)) (by simp; omega)).mono ?_
      rintro e w1 ⟨rfl, hb1⟩
      obtain ⟨c0, c1, c2, c3, c4, hg⟩ := box5 hb1
      have HBB := Lib.hid (And.intro ((HW1.out _).trans (hb1.mono (by simp))) ((HB1.out _).trans (hb1.mono (by simp; omega))))
      clear hb1
      go_wp2_with fail
      refine (sFormat f hf1 hf2 _).mono ?_
      rintro e w2 ⟨rfl, hb2⟩
      have d0 := (hb2.cell (p := ⟨w.heap.size, 0, none⟩) hg).trans c0
      have d2 := (hb2.cell (p := ⟨w.heap.size, 2, none⟩) hg).trans c2
      have d3 := (hb2.cell (p := ⟨w.heap.size, 3, none⟩) hg).trans c3
      have d4 := (hb2.cell (p := ⟨w.heap.size, 4, none⟩) hg).trans c4
      have HB2 := Lib.hid (And.intro (HBB.out.1.trans (hb2.mono HBB.out.1.size)) (HBB.out.2.trans (hb2.mono (Nat.le_trans hB HBB.out.1.size))))
      clear hb2 c0 c1 c2 c3 c4
      go_wp2
      go_ret
      refine ⟨congrArg (fun x => Ending.returned (.string x)) (fmtW_ext ?_), HB2.out.1⟩
      rw [wishT0]
      simp [fmtB, ByteArray.data_append]
    · clear hk hv ha ho
      go_enter Tryd.func11, Tryd.ntmps11
      go_wp2_with fail
      refine (HS.out _ (HI.out.below (HB1.out _)) (by simp; omega)).mono ?_
      rintro e w1 ⟨rfl, hb1⟩
      obtain ⟨c0, c1, c2, c3, c4, hg⟩ := box5 hb1
      have HBB := Lib.hid (And.intro ((HW1.out _).trans (hb1.mono (by simp))) ((HB1.out _).trans (hb1.mono (by simp; omega))))
      clear hb1
      go_wp2_with fail
      refine (sFormat f hf1 hf2 _).mono ?_
      rintro e w2 ⟨rfl, hb2⟩
      have d0 := (hb2.cell (p := ⟨w.heap.size, 0, none⟩) hg).trans c0
      have d2 := (hb2.cell (p := ⟨w.heap.size, 2, none⟩) hg).trans c2
      have d3 := (hb2.cell (p := ⟨w.heap.size, 3, none⟩) hg).trans c3
      have d4 := (hb2.cell (p := ⟨w.heap.size, 4, none⟩) hg).trans c4
      have HB2 := Lib.hid (And.intro (HBB.out.1.trans (hb2.mono HBB.out.1.size)) (HBB.out.2.trans (hb2.mono (Nat.le_trans hB HBB.out.1.size))))
      clear hb2 c0 c1 c2 c3 c4
      go_wp2
      go_ret
      refine ⟨congrArg (fun x => Ending.returned (.string x)) (fmtW_ext ?_), HB2.out.1⟩
      rw [wishT1]
      simp [fmtB, ByteArray.data_append]
    · obtain ⟨v0, v9⟩ := hv rfl
      clear hk hv ha ho
      have hfv : (fmtB v).size ≤ 2 := fmt_R' ⟨v0, v9⟩
      go_enter Tryd.func11, Tryd.ntmps11
      go_wp2_with fail
      refine (HS.out _ (HI.out.below (HB1.out _)) (by simp; omega)).mono ?_
      rintro e w1 ⟨rfl, hb1⟩
      obtain ⟨c0, c1, c2, c3, c4, hg⟩ := box5 hb1
      have HBB := Lib.hid (And.intro ((HW1.out _).trans (hb1.mono (by simp))) ((HB1.out _).trans (hb1.mono (by simp; omega))))
      clear hb1
      go_wp2_with fail
      refine (sFormat f hf1 hf2 _).mono ?_
      rintro e w2 ⟨rfl, hb2⟩
      have d0 := (hb2.cell (p := ⟨w.heap.size, 0, none⟩) hg).trans c0
      have d2 := (hb2.cell (p := ⟨w.heap.size, 2, none⟩) hg).trans c2
      have d3 := (hb2.cell (p := ⟨w.heap.size, 3, none⟩) hg).trans c3
      have d4 := (hb2.cell (p := ⟨w.heap.size, 4, none⟩) hg).trans c4
      have HB2 := Lib.hid (And.intro (HBB.out.1.trans (hb2.mono HBB.out.1.size)) (HBB.out.2.trans (hb2.mono (Nat.le_trans hB HBB.out.1.size))))
      clear hb2 c0 c1 c2 c3 c4
      go_wp2_with fail
      refine (sFormat v (by omega) (by omega) _).mono ?_
      rintro e w3 ⟨rfl, hb3⟩
      have HB3 := Lib.hid (HB2.out.1.trans (hb3.mono HB2.out.1.size))
      clear hb3 d0 d2 d3 d4
      go_wp2
      go_ret
      refine ⟨congrArg (fun x => Ending.returned (.string x)) (fmtW_ext ?_), HB3.out⟩
      rw [wishT2]
      simp [fmtB, fmtP, ByteArray.data_append]
    · have hasc := ha rfl
      have HA := Lib.hid hasc.2.1
      have hln := HNN.out.1
      have hlen := HL.out.1
      have hT := intsT_len HA.out
      clear hk hv ha ho hasc
      go_enter Tryd.func11, Tryd.ntmps11
      go_wp2_with fail
      refine (HS.out _ (HI.out.below (HB1.out _)) (by simp; omega)).mono ?_
      rintro e w1 ⟨rfl, hb1⟩
      obtain ⟨c0, c1, c2, c3, c4, hg⟩ := box5 hb1
      have HBB := Lib.hid (And.intro ((HW1.out _).trans (hb1.mono (by simp))) ((HB1.out _).trans (hb1.mono (by simp; omega))))
      clear hb1
      go_wp2_with fail
      refine (sFormat f hf1 hf2 _).mono ?_
      rintro e w2 ⟨rfl, hb2⟩
      have d0 := (hb2.cell (p := ⟨w.heap.size, 0, none⟩) hg).trans c0
      have d2 := (hb2.cell (p := ⟨w.heap.size, 2, none⟩) hg).trans c2
      have d3 := (hb2.cell (p := ⟨w.heap.size, 3, none⟩) hg).trans c3
      have d4 := (hb2.cell (p := ⟨w.heap.size, 4, none⟩) hg).trans c4
      have HB2 := Lib.hid (And.intro (HBB.out.1.trans (hb2.mono HBB.out.1.size)) (HBB.out.2.trans (hb2.mono (Nat.le_trans hB HBB.out.1.size))))
      clear hb2 c0 c1 c2 c3 c4
      go_wp2_with fail
      refine (sInts _ B LA Ln Lc ls (HL.out.below HB2.out.2) (Nat.le_trans hB HB2.out.1.size) HNN.out.1 HA.out).mono ?_
      rintro e w3 ⟨rfl, hb3⟩
      have HB3 := Lib.hid (HB2.out.1.trans (hb3.mono HB2.out.1.size))
      clear hb3 d0 d2 d3 d4
      have hsz : (⟨(intsT ls).toArray⟩ : ByteArray).size ≤ 3145728 := by
        show (intsT ls).toArray.size ≤ _
        rw [List.size_toArray]
        omega
      go_wp2
      go_ret
      refine ⟨congrArg (fun x => Ending.returned (.string x)) (fmtW_ext ?_), HB3.out⟩
      rw [wishT3]
      simp [fmtB, fmtP, ByteArray.data_append]
    · have hok := ho rfl
      have HOk := Lib.hid hok
      have hT := pairsT_len hok
      clear hk hv ha ho hok
      go_enter Tryd.func11, Tryd.ntmps11
      go_wp2_with fail
      refine (HS.out _ (HI.out.below (HB1.out _)) (by simp; omega)).mono ?_
      rintro e w1 ⟨rfl, hb1⟩
      obtain ⟨c0, c1, c2, c3, c4, hg⟩ := box5 hb1
      have HBB := Lib.hid (And.intro ((HW1.out _).trans (hb1.mono (by simp))) ((HB1.out _).trans (hb1.mono (by simp; omega))))
      clear hb1
      go_wp2_with fail
      refine (sFormat f hf1 hf2 _).mono ?_
      rintro e w2 ⟨rfl, hb2⟩
      have d0 := (hb2.cell (p := ⟨w.heap.size, 0, none⟩) hg).trans c0
      have d2 := (hb2.cell (p := ⟨w.heap.size, 2, none⟩) hg).trans c2
      have d3 := (hb2.cell (p := ⟨w.heap.size, 3, none⟩) hg).trans c3
      have d4 := (hb2.cell (p := ⟨w.heap.size, 4, none⟩) hg).trans c4
      have HB2 := Lib.hid (And.intro (HBB.out.1.trans (hb2.mono HBB.out.1.size)) (HBB.out.2.trans (hb2.mono (Nat.le_trans hB HBB.out.1.size))))
      clear hb2 c0 c1 c2 c3 c4
      go_wp2_with fail
      refine (sFmtP _ B PA Pn Pc ps (HP.out.below HB2.out.2) (Nat.le_trans hB HB2.out.1.size) HNN.out.2 true ⟨fun _ => HOk.out, fun _ => rfl⟩).mono ?_
      rintro e w3 ⟨rfl, hb3⟩
      have HB3 := Lib.hid (HB2.out.1.trans (hb3.mono HB2.out.1.size))
      clear hb3 d0 d2 d3 d4
      have hsz : (fmtP ps true).size ≤ 60 := by
        show (pairsT ps).toArray.size ≤ _
        rw [List.size_toArray]
        omega
      go_wp2
      go_ret
      refine ⟨congrArg (fun x => Ending.returned (.string x)) (fmtW_ext ?_), HB3.out⟩
      rw [wishT4]
      simp [fmtB, fmtP, ByteArray.data_append]
end Go.Proofs.YtghekfigfjhkeabDoor.num
namespace Go.Proofs.YtghekfigfjhkeabDoor.num
open Go.RowKit Go.Maps
set_option linter.unusedVariables false


set_option maxRecDepth 20000 in
theorem iList (w : World) (B : Nat) (A : Option Addr) (n c : Nat) (xs : List Int) (hi : Ints w B A n xs) (hn : n ≤ 1048576) (b : Bool) (hb : b = true ↔ Asc xs) :
    Calls Tryd.prog 61 #[.slice A n c] w fun e w' => e = .returned (.bool b) ∧ w' = w := by
  have HX := Lib.hid hi
  have HB := Lib.hid hb
  clear hi hb
  have HNo : Hid (¬ AscUp xs → b = false) := Lib.hid fun h => by
    cases b
    · rfl
    · exact absurd (HB.out.1 rfl).2 h
  go_enter Tryd.func61, Tryd.ntmps61
  go_wp2
  go_loopw [7] (fun i wr => ∃ k : Nat, k ≤ n ∧ i = .int .i64 k ∧ AscUp (xs.take k) ∧ wr = w) (fun i _ => n - (intOf i).toNat)
  case atStart => exact ⟨0, Nat.zero_le _, rfl, by rw [List.take_zero]; exact AscUp.nil, rfl⟩
  case round =>
    obtain ⟨k, hk, rfl, hasc, rfl⟩ := hrel
    have HA := Lib.hid hasc
    clear hasc
    by_cases hlt : k < n
    · obtain ⟨b1, off, x, hA1, hb1, hat, hc⟩ := HX.out.at k hlt
      have HT := Lib.hid hat
      have hlt' : (k : Int) < (n : Int) := by omega
      obtain ⟨q, hq⟩ := bool_of (InR x)
      have HQ := Lib.hid hq
      clear hat hq
      cases q
      · obtain rfl : b = false := HNo.out fun h => by have := HQ.out.2 (h.1 x (List.mem_of_getElem? HT.out)); cases this
        subst hA1
        go_wp2_with fail
        refine (isValue_of x false HQ.out _).mono ?_
        rintro e w1 ⟨rfl, rfl⟩
        go_wp2
        go_ret
        exact ⟨rfl, rfl⟩
      · have HD := Lib.hid (HQ.out.1 rfl)
        rcases Nat.eq_zero_or_pos k with h0 | h0
        · have HK := Lib.hid h0
          subst hA1
          clear h0
          have hk0 : decide (0 < k) = false := decide_eq_false (by have := HK.out; omega)
          go_wp2_with fail
          refine (isValue_of x true ⟨fun _ => HD.out, fun _ => rfl⟩ _).mono ?_
          rintro e w1 ⟨rfl, rfl⟩
          go_wp2
          clear hk0
          go_roundw
          case rel => exact ⟨k + 1, by omega, by go_num, ascUp_snoc HA.out HT.out HD.out (fun j u hj _ => by have := HK.out; omega), by first | rfl | trivial⟩
          case measure => simp [intOf]; omega
        · obtain ⟨j, hj⟩ : ∃ j, j + 1 = k := ⟨k - 1, by omega⟩
          obtain ⟨b2, off2, y, hA2, hb2, hat2, hc2⟩ := HX.out.at j (by omega)
          obtain ⟨rfl, rfl⟩ : b1 = b2 ∧ off = off2 := by rw [hA1] at hA2; injection hA2 with h; injection h with h1 h2; exact ⟨h1, h2⟩
          have HT0 := Lib.hid hat2
          have HJ := Lib.hid hj
          have HK0 : Hid ((0 : Int) < (k : Int)) := by show _ < _; omega
          have hkj : (k : Int) - 1 = (j : Int) := by omega
          have hkw : IntKind.i64.wrap ((k : Int) - 1) = (j : Int) := by rw [hkj]; exact IntWalk.i64_in _ ⟨by omega, by omega⟩
          have hjw : IntKind.i64.wrap (j : Int) = (j : Int) := IntWalk.i64_in _ ⟨by omega, by omega⟩
          have hjn : (j : Int) < (n : Int) := by omega
          have hjn' : j < n := by omega
          have hk0 : decide (0 < k) = true := decide_eq_true (by have := HK0.out; omega)
          subst hA1
          clear h0 hj hat2 hA2
          by_cases hle : x ≤ y
          · obtain rfl : b = false := HNo.out (asc_bad (by rw [HJ.out]; exact HT.out) HT0.out hle)
            go_wp2_with fail
            refine (isValue_of x true ⟨fun _ => HD.out, fun _ => rfl⟩ _).mono ?_
            rintro e w1 ⟨rfl, rfl⟩
            go_wp2
            go_ret
            exact ⟨rfl, rfl⟩
          · have HLe : Hid (y < x) := by show _ < _; omega
            go_wp2_with fail
            refine (isValue_of x true ⟨fun _ => HD.out, fun _ => rfl⟩ _).mono ?_
            rintro e w1 ⟨rfl, rfl⟩
            go_wp2
            clear hk0
            go_roundw
            case rel => exact ⟨k + 1, by omega, by go_num, ascUp_snoc HA.out HT.out HD.out (asc_next HJ.out HT0.out HLe.out), by first | rfl | trivial⟩
            case measure => simp [intOf]; omega
    · obtain rfl : k = n := by omega
      have h := HA.out
      rw [ptake_all HX.out.1] at h
      have HH := Lib.hid h
      clear h
      by_cases h0 : (0 : Int) < (k : Int)
      · have hd : decide (0 < k) = true := by simp; omega
        obtain rfl : b = true := HB.out.2 ⟨fun e => by have := HX.out.1; rw [e] at this; simp at this; omega, HH.out⟩
        go_wp2
        go_ret
        exact ⟨by simp, rfl⟩
      · obtain rfl : b = false := by
          cases b
          · rfl
          · exact absurd (List.length_eq_zero_iff.1 (by rw [HX.out.1]; omega)) (HB.out.1 rfl).1
        go_wp2
        go_ret
        exact ⟨by simp; omega, rfl⟩

set_option maxRecDepth 20000 in
theorem iOther (w : World) (t : Wi) (hl : t.Ln ≤ 1048576) (hp : t.Pn ≤ 1048576) (q : Bool) (hq : q = true ↔ (t.kind ≠ 2 ∧ t.value ≠ 0) ∨ (t.kind ≠ 3 ∧ t.Ln ≠ 0) ∨ (t.kind ≠ 4 ∧ t.Pn ≠ 0)) :
    Calls Tryd.prog 60 #[t.val] w fun e w' => e = .returned (.bool q) ∧ Below w.heap.size w w' := by
  obtain ⟨k, f, v, LA, Ln, Lc, ls, PA, Pn, Pc, ps⟩ := t
  unfold Wi.val
  simp only [] at hl hp hq ⊢
  have HW1 : Hid (∀ o : Obj, Below w.heap.size w (w.alloc o)) := Lib.hid fun o => (Below.refl _ w).alloc (Nat.le_refl _) _
  by_cases k2 : k = 2
  · subst k2
    by_cases hL : Ln = 0
    · have hL' : decide (0 < Ln) = false := by simp [hL]
      have hL2 : ¬ ((0 : Int) < (Ln : Int)) := by omega
      by_cases hP : Pn = 0
      · have hP' : decide (0 < Pn) = false := by simp [hP]
        have hP2 : ¬ ((0 : Int) < (Pn : Int)) := by omega
        obtain rfl : q = false := by
          cases q
          · rfl
          · exact absurd (hq.1 rfl) (by omega)
        clear hq hL hP
        go_enter Tryd.func60, Tryd.ntmps60
        go_wp2
        go_ret
        exact ⟨by first | rfl | simp, HW1.out _⟩
      · have hP' : decide (0 < Pn) = true := by simp; omega
        have hP2 : (0 : Int) < (Pn : Int) := by omega
        obtain rfl : q = true := hq.2 (by omega)
        clear hq hL hP
        go_enter Tryd.func60, Tryd.ntmps60
        go_wp2
        go_ret
        exact ⟨by first | rfl | simp, HW1.out _⟩
    · have hL' : decide (0 < Ln) = true := by simp; omega
      have hL2 : (0 : Int) < (Ln : Int) := by omega
      obtain rfl : q = true := hq.2 (by omega)
      clear hq hL
      go_enter Tryd.func60, Tryd.ntmps60
      go_wp2
      go_ret
      exact ⟨by first | rfl | simp, HW1.out _⟩
  · by_cases k3 : k = 3
    · subst k3
      clear k2
      by_cases hv : v = 0
      · have hv' : (v != 0) = false := by simp [hv]
        by_cases hP : Pn = 0
        · have hP' : decide (0 < Pn) = false := by simp [hP]
          have hP2 : ¬ ((0 : Int) < (Pn : Int)) := by omega
          obtain rfl : q = false := by
            cases q
            · rfl
            · exact absurd (hq.1 rfl) (by omega)
          clear hq hv hP
          go_enter Tryd.func60, Tryd.ntmps60
          go_wp2
          go_ret
          exact ⟨by first | rfl | simp, HW1.out _⟩
        · have hP' : decide (0 < Pn) = true := by simp; omega
          have hP2 : (0 : Int) < (Pn : Int) := by omega
          obtain rfl : q = true := hq.2 (by omega)
          clear hq hv hP
          go_enter Tryd.func60, Tryd.ntmps60
          go_wp2
          go_ret
          exact ⟨by first | rfl | simp, HW1.out _⟩
      · have hv' : (v != 0) = true := by simp [hv]
        obtain rfl : q = true := hq.2 (by omega)
        clear hq hv
        go_enter Tryd.func60, Tryd.ntmps60
        go_wp2
        go_ret
        exact ⟨by first | rfl | simp, HW1.out _⟩
    · by_cases k4 : k = 4
      · subst k4
        clear k2 k3
        by_cases hv : v = 0
        · have hv' : (v != 0) = false := by simp [hv]
          by_cases hL : Ln = 0
          · have hL' : decide (0 < Ln) = false := by simp [hL]
            have hL2 : ¬ ((0 : Int) < (Ln : Int)) := by omega
            obtain rfl : q = false := by
              cases q
              · rfl
              · exact absurd (hq.1 rfl) (by omega)
            clear hq hv hL
            go_enter Tryd.func60, Tryd.ntmps60
            go_wp2
            go_ret
            exact ⟨by first | rfl | simp, HW1.out _⟩
          · have hL' : decide (0 < Ln) = true := by simp; omega
            have hL2 : (0 : Int) < (Ln : Int) := by omega
            obtain rfl : q = true := hq.2 (by omega)
            clear hq hv hL
            go_enter Tryd.func60, Tryd.ntmps60
            go_wp2
            go_ret
            exact ⟨by first | rfl | simp, HW1.out _⟩
        · have hv' : (v != 0) = true := by simp [hv]
          obtain rfl : q = true := hq.2 (by omega)
          clear hq hv
          go_enter Tryd.func60, Tryd.ntmps60
          go_wp2
          go_ret
          exact ⟨by first | rfl | simp, HW1.out _⟩
      · have f2 : (k != 2) = true := by simpa using k2
        have f3 : (k != 3) = true := by simpa using k3
        have f4 : (k != 4) = true := by simpa using k4
        by_cases hv : v = 0
        · have hv' : (v != 0) = false := by simp [hv]
          by_cases hL : Ln = 0
          · have hL' : decide (0 < Ln) = false := by simp [hL]
            have hL2 : ¬ ((0 : Int) < (Ln : Int)) := by omega
            by_cases hP : Pn = 0
            · have hP' : decide (0 < Pn) = false := by simp [hP]
              have hP2 : ¬ ((0 : Int) < (Pn : Int)) := by omega
              obtain rfl : q = false := by
                cases q
                · rfl
                · exact absurd (hq.1 rfl) (by omega)
              clear hq k2 k3 k4 hv hL hP
              go_enter Tryd.func60, Tryd.ntmps60
              go_wp2
              go_ret
              exact ⟨by first | rfl | simp, HW1.out _⟩
            · have hP' : decide (0 < Pn) = true := by simp; omega
              have hP2 : (0 : Int) < (Pn : Int) := by omega
              obtain rfl : q = true := hq.2 (by omega)
              clear hq k2 k3 k4 hv hL hP
              go_enter Tryd.func60, Tryd.ntmps60
              go_wp2
              go_ret
              exact ⟨by first | rfl | simp, HW1.out _⟩
          · have hL' : decide (0 < Ln) = true := by simp; omega
            have hL2 : (0 : Int) < (Ln : Int) := by omega
            obtain rfl : q = true := hq.2 (by omega)
            clear hq k2 k3 k4 hv hL
            go_enter Tryd.func60, Tryd.ntmps60
            go_wp2
            go_ret
            exact ⟨by first | rfl | simp, HW1.out _⟩
        · have hv' : (v != 0) = true := by simp [hv]
          obtain rfl : q = true := hq.2 (by omega)
          clear hq k2 k3 k4 hv
          go_enter Tryd.func60, Tryd.ntmps60
          go_wp2
          go_ret
          exact ⟨by first | rfl | simp, HW1.out _⟩
end Go.Proofs.YtghekfigfjhkeabDoor.num
namespace Go.Proofs.YtghekfigfjhkeabDoor.num
open Go.RowKit

def nearI (b : Int) : Value := .iface 97 (.agg #[.int .i64 b])
def amongI (A : Option Addr) (n c : Nat) : Value := .iface 99 (.agg #[.slice A n c])
def orderI (o : Option Nat) : Value := .iface 101 (.agg #[.map o])
end Go.Proofs.YtghekfigfjhkeabDoor.num
namespace Go.Proofs.YtghekfigfjhkeabDoor.num
open Go.RowKit Go.Maps
set_option linter.unusedVariables false

/-- v is the taste of the valid wish t. -/
def TasteAt (w : World) (t : Wi) (v : Value) : Prop :=
  (t.kind ≠ 4 ∧ ∃ b, InR b ∧ v = nearI b ∧ ∀ x, InR x → rankW t.dat x = if x < b then b - x else x - b) ∨
  (t.kind ≠ 4 ∧ v = amongI t.LA t.Ln t.Lc ∧ ∀ x, rankW t.dat x = if x ∈ t.ls then 0 else 1) ∨
  (t.kind = 4 ∧ ∃ o B, v = orderI o ∧ AboveP t.ps B true o w)
theorem TasteAt.below {w w' : World} {t : Wi} {v : Value} (h : TasteAt w t v) (hb : Below w.heap.size w w') : TasteAt w' t v := by
  rcases h with h | h | ⟨h, o, B, e, a⟩
  · exact .inl h
  · exact .inr (.inl h)
  · exact .inr (.inr ⟨h, o, B, e, a.below hb⟩)
theorem value_same (v : Int) (q : Bool) (hq : q = true ↔ InR v) (w : World) :
    Calls Tryd.prog 57 #[.int .i64 v] w fun e w' => e = .returned (.bool q) ∧ w' = w :=
  (isValue_of v q hq w).mono fun _ _ h => ⟨h.1, h.2.symm⟩

/-- .. and what it holds lies from block lo on. -/
def TasteFrom (w : World) (lo : Nat) (t : Wi) (v : Value) : Prop :=
  (t.kind ≠ 4 ∧ ∃ b, InR b ∧ v = nearI b ∧ ∀ x, InR x → rankW t.dat x = if x < b then b - x else x - b) ∨
  (t.kind ≠ 4 ∧ v = amongI t.LA t.Ln t.Lc ∧ ∀ x, rankW t.dat x = if x ∈ t.ls then 0 else 1) ∨
  (t.kind = 4 ∧ ∃ o B, lo ≤ B ∧ v = orderI o ∧ AboveP t.ps B true o w)
theorem TasteFrom.at' {w : World} {lo : Nat} {t : Wi} {v : Value} (h : TasteFrom w lo t v) : TasteAt w t v := by
  rcases h with h | h | ⟨h, o, B, _, e, a⟩
  · exact .inl h
  · exact .inr (.inl h)
  · exact .inr (.inr ⟨h, o, B, e, a⟩)
theorem TasteFrom.low {w : World} {lo lo' : Nat} {t : Wi} {v : Value} (h : TasteFrom w lo t v) (hl : lo' ≤ lo) : TasteFrom w lo' t v := by
  rcases h with h | h | ⟨h, o, B, hB, e, a⟩
  · exact .inl h
  · exact .inr (.inl h)
  · exact .inr (.inr ⟨h, o, B, Nat.le_trans hl hB, e, a⟩)
theorem AboveP.kept {ps : List (Int × Int)} {B : Nat} {q : Bool} {o : Option Nat} {w w' : World} (h : AboveP ps B q o w) (hb : ∀ k, B ≤ k → k < w.heap.size → w'.heap[k]? = w.heap[k]?) : AboveP ps B q o w' :=
  ⟨h.1, fun hq => by
    obtain ⟨b, n, M, h1, h2, h3⟩ := h.2 hq
    exact ⟨b, n, M, h1, h2, MapAt.block h3.out (hb _ h3.low (MapAt.lt h3.out)), h3.low, h3.has, h3.rng, fun v x hx => by
      obtain ⟨g1, g2, g3⟩ := h3.sets v x hx
      exact ⟨g1, g2, MapAt.block g3 (hb _ g1 (MapAt.lt g3))⟩, h3.inj⟩⟩
theorem TasteFrom.kept {w w' : World} {lo : Nat} {t : Wi} {v : Value} (h : TasteFrom w lo t v) (hb : ∀ k, lo ≤ k → k < w.heap.size → w'.heap[k]? = w.heap[k]?) : TasteFrom w' lo t v := by
  rcases h with h | h | ⟨h, o, B, hB, e, a⟩
  · exact .inl h
  · exact .inr (.inl h)
  · exact .inr (.inr ⟨h, o, B, hB, e, a.kept fun k hk => hb k (Nat.le_trans hB hk)⟩)
/-- An interface's value. -/
def IfV (v : Value) : Prop := v = .nilIface ∨ ∃ T x, v = .iface T x
set_option maxRecDepth 20000 in
set_option maxHeartbeats 1600000 in
theorem taste_ofV (w : World) (B : Nat) (t : Wi) (hi : WiIn w B t) (hB : B ≤ w.heap.size) (hn : t.Short) (q : Bool) (hq : q = true ↔ IsW t.dat) :
    Calls Tryd.prog 44 #[t.val] w fun e w' => (∃ v, e = .returned (.tuple #[v, .bool q]) ∧ (q = true → TasteFrom w' w.heap.size t v) ∧ IfV v) ∧ Below w.heap.size w w' := by
  have HO : Hid (∀ (w1 : World) (p : Bool), (p = true ↔ (t.kind ≠ 2 ∧ t.value ≠ 0) ∨ (t.kind ≠ 3 ∧ t.Ln ≠ 0) ∨ (t.kind ≠ 4 ∧ t.Pn ≠ 0)) → Calls Tryd.prog 60 #[t.val] w1 fun e w' => e = .returned (.bool p) ∧ Below w1.heap.size w1 w') := Lib.hid fun w1 p hp => iOther w1 t hn.1 hn.2 p hp
  obtain ⟨k, f, v, LA, Ln, Lc, ls, PA, Pn, Pc, ps⟩ := t
  obtain ⟨-, -, -, hl, hp⟩ := hi
  unfold Wi.val at HO ⊢
  simp only [Wi.dat, Wi.Short] at hl hp hn hq HO ⊢
  have HL := Lib.hid hl
  have HP := Lib.hid hp
  have HQ := Lib.hid hq
  have HN := Lib.hid hn
  have HB1 : Hid (∀ o : Obj, Below B w (w.alloc o)) := Lib.hid fun o => (Below.refl B w).alloc hB _
  have HW1 : Hid (∀ o : Obj, Below w.heap.size w (w.alloc o)) := Lib.hid fun o => (Below.refl _ w).alloc (Nat.le_refl _) _
  have HLn : Hid (ls = [] ↔ Ln = 0) := by
    show _ ↔ _
    rw [← hl.1, List.length_eq_zero_iff]
  have HPn : Hid (ps = [] ↔ Pn = 0) := by
    show _ ↔ _
    rw [← hp.1, List.length_eq_zero_iff]
  clear hl hp hq hn
  have HNo : Hid (¬ IsW ⟨k, f, v, ls, ps⟩ → q = false) := Lib.hid fun h => by
    cases q
    · rfl
    · exact absurd (HQ.out.1 rfl) h
  by_cases f0 : f < 0
  · obtain rfl := HNo.out fun h => by have := h.f.1; dsimp only at this; omega
    go_enter Tryd.func44, Tryd.ntmps44
    go_wp2
    go_ret2
    first | exact ⟨⟨_, rfl, fun h => (by cases h), .inl rfl⟩, HW1.out _⟩ | exact ⟨⟨_, rfl, .inl rfl⟩, HW1.out _⟩
  by_cases f3 : 3 ≤ f
  · obtain rfl := HNo.out fun h => by have := h.f.2; dsimp only at this; omega
    go_enter Tryd.func44, Tryd.ntmps44
    go_wp2
    go_ret2
    first | exact ⟨⟨_, rfl, fun h => (by cases h), .inl rfl⟩, HW1.out _⟩ | exact ⟨⟨_, rfl, .inl rfl⟩, HW1.out _⟩
  have HF : Hid (0 ≤ f ∧ f ≤ 2) := Lib.hid ⟨by omega, by omega⟩
  obtain ⟨p, hp⟩ := bool_of ((k ≠ 2 ∧ v ≠ 0) ∨ (k ≠ 3 ∧ Ln ≠ 0) ∨ (k ≠ 4 ∧ Pn ≠ 0))
  have HPp := Lib.hid hp
  clear hp
  cases p
  · have HK2 : Hid (k ≠ 2 → v = 0) := Lib.hid fun h => by
      by_cases hv : v = 0
      · exact hv
      · have := HPp.out.2 (.inl ⟨h, hv⟩); cases this
    have HK3 : Hid (k ≠ 3 → ls = []) := Lib.hid fun h => by
      by_cases hv : Ln = 0
      · exact HLn.out.2 hv
      · have := HPp.out.2 (.inr (.inl ⟨h, hv⟩)); cases this
    have HK4 : Hid (k ≠ 4 → ps = []) := Lib.hid fun h => by
      by_cases hv : Pn = 0
      · exact HPn.out.2 hv
      · have := HPp.out.2 (.inr (.inr ⟨h, hv⟩)); cases this
    by_cases k0 : k = 0
    · subst k0
      obtain rfl := HQ.out.2 ((isW01 (.inl rfl) HF.out).2 ⟨HK2.out (by decide), HK3.out (by decide), HK4.out (by decide)⟩)
      have HT : Hid (∀ w', TasteFrom w' w.heap.size ⟨0, f, v, LA, Ln, Lc, ls, PA, Pn, Pc, ps⟩ (nearI 0)) := Lib.hid fun w' => .inl ⟨by show (0 : Int) ≠ 4; decide, 0, ⟨by decide, by decide⟩, rfl, fun x hx => by
        have h0 := hx.1
        have h9 := hx.2
        have e : rankW (Wi.dat ⟨0, f, v, LA, Ln, Lc, ls, PA, Pn, Pc, ps⟩) x = x := rfl
        rw [e]
        split <;> omega⟩
      go_enter Tryd.func44, Tryd.ntmps44
      go_wp2_with fail
      refine (HO.out _ false HPp.out).mono ?_
      rintro e w1 ⟨rfl, hb1⟩
      obtain ⟨c0, c1, c2, c3, c4, hg⟩ := box5 hb1
      have HBB := Lib.hid (And.intro ((HW1.out _).trans (hb1.mono (by simp))) ((HB1.out _).trans (hb1.mono (by simp; omega))))
      clear hb1
      go_wp2
      go_ret2
      exact ⟨⟨_, rfl, fun _ => HT.out _, by first | exact .inl rfl | exact .inr ⟨_, _, rfl⟩⟩, HBB.out.1⟩
    · by_cases k1 : k = 1
      · subst k1
        clear k0
        obtain rfl := HQ.out.2 ((isW01 (.inr rfl) HF.out).2 ⟨HK2.out (by decide), HK3.out (by decide), HK4.out (by decide)⟩)
        have HT : Hid (∀ w', TasteFrom w' w.heap.size ⟨1, f, v, LA, Ln, Lc, ls, PA, Pn, Pc, ps⟩ (nearI 9)) := Lib.hid fun w' => .inl ⟨by show (1 : Int) ≠ 4; decide, 9, ⟨by decide, by decide⟩, rfl, fun x hx => by
          have h0 := hx.1
          have h9 := hx.2
          have e : rankW (Wi.dat ⟨1, f, v, LA, Ln, Lc, ls, PA, Pn, Pc, ps⟩) x = 9 - x := rfl
          rw [e]
          split <;> omega⟩
        go_enter Tryd.func44, Tryd.ntmps44
        go_wp2_with fail
        refine (HO.out _ false HPp.out).mono ?_
        rintro e w1 ⟨rfl, hb1⟩
        obtain ⟨c0, c1, c2, c3, c4, hg⟩ := box5 hb1
        have HBB := Lib.hid (And.intro ((HW1.out _).trans (hb1.mono (by simp))) ((HB1.out _).trans (hb1.mono (by simp; omega))))
        clear hb1
        go_wp2
        go_ret2
        exact ⟨⟨_, rfl, fun _ => HT.out _, by first | exact .inl rfl | exact .inr ⟨_, _, rfl⟩⟩, HBB.out.1⟩
      · by_cases k2 : k = 2
        · subst k2
          clear k0 k1
          obtain ⟨qv, hqv⟩ := bool_of (InR v)
          obtain rfl : qv = q := by
            rw [Bool.eq_iff_iff, HQ.out, hqv, isW2 HF.out]
            exact ⟨fun h => ⟨h, HK3.out (by decide), HK4.out (by decide)⟩, fun h => h.1⟩
          have HV := Lib.hid hqv
          clear hqv
          go_enter Tryd.func44, Tryd.ntmps44
          go_wp2_with fail
          refine (HO.out _ false HPp.out).mono ?_
          rintro e w1 ⟨rfl, hb1⟩
          obtain ⟨c0, c1, c2, c3, c4, hg⟩ := box5 hb1
          have HBB := Lib.hid (And.intro ((HW1.out _).trans (hb1.mono (by simp))) ((HB1.out _).trans (hb1.mono (by simp; omega))))
          clear hb1
          go_wp2
          go_quiet ((go_at_call 57; refine Calls.quiet_of_same (value_same v qv HV.out _)))
          go_wp2
          go_ret2
          refine ⟨⟨_, rfl, fun h => .inl ⟨by show (2 : Int) ≠ 4; decide, v, HV.out.1 (by first | exact h | trivial), rfl, fun x hx => rfl⟩, by first | exact .inl rfl | exact .inr ⟨_, _, rfl⟩⟩, below_drewN HBB.out.1 _⟩
        · by_cases k3 : k = 3
          · subst k3
            clear k0 k1 k2
            obtain ⟨ql, hql⟩ := bool_of (Asc ls)
            obtain rfl : ql = q := by
              rw [Bool.eq_iff_iff, HQ.out, hql, isW3 HF.out]
              exact ⟨fun h => ⟨HK2.out (by decide), h, HK4.out (by decide)⟩, fun h => h.2.1⟩
            have HV := Lib.hid hql
            clear hql
            go_enter Tryd.func44, Tryd.ntmps44
            go_wp2_with fail
            refine (HO.out _ false HPp.out).mono ?_
            rintro e w1 ⟨rfl, hb1⟩
            obtain ⟨c0, c1, c2, c3, c4, hg⟩ := box5 hb1
            have HBB := Lib.hid (And.intro ((HW1.out _).trans (hb1.mono (by simp))) ((HB1.out _).trans (hb1.mono (by simp; omega))))
            clear hb1
            go_wp2
            go_quiet ((go_at_call 61; refine Calls.quiet_of_same (iList _ B LA Ln Lc ls (HL.out.below (below_drewN HBB.out.2 _)) HN.out.1 ql HV.out)))
            go_wp2
            go_ret2
            exact ⟨⟨_, rfl, fun h => .inr (.inl ⟨by show (3 : Int) ≠ 4; decide, rfl, fun x => rfl⟩), by first | exact .inl rfl | exact .inr ⟨_, _, rfl⟩⟩, below_drewN HBB.out.1 _⟩
          · by_cases k4 : k = 4
            · subst k4
              clear k0 k1 k2 k3
              have HV : Hid (q = true ↔ OkP ps) := Lib.hid (by
                rw [HQ.out, isW4 HF.out]
                exact ⟨fun h => h.2.2, fun h => ⟨HK2.out (by decide), HK3.out (by decide), h⟩⟩)
              go_enter Tryd.func44, Tryd.ntmps44
              go_wp2_with fail
              refine (HO.out _ false HPp.out).mono ?_
              rintro e w1 ⟨rfl, hb1⟩
              obtain ⟨c0, c1, c2, c3, c4, hg⟩ := box5 hb1
              have HBB := Lib.hid (And.intro ((HW1.out _).trans (hb1.mono (by simp))) ((HB1.out _).trans (hb1.mono (by simp; omega))))
              clear hb1
              go_wp2_with fail
              refine (above_of _ B PA Pn Pc ps (HP.out.below HBB.out.2) (by omega) HN.out.2 q HV.out).mono ?_
              rintro e w2 ⟨⟨o, rfl, hab⟩, hb2⟩
              have HAB := Lib.hid hab
              have HSz := Lib.hid HBB.out.1.size
              have HBC := Lib.hid (HBB.out.1.trans (hb2.mono HBB.out.1.size))
              clear hb2 hab c0 c1 c2 c3 c4
              go_wp2
              go_ret2
              exact ⟨⟨_, rfl, fun h => .inr (.inr ⟨rfl, o, _, HSz.out, rfl, h ▸ HAB.out⟩), by first | exact .inl rfl | exact .inr ⟨_, _, rfl⟩⟩, HBC.out⟩
            · have f0 : (k == 0) = false := by simpa using k0
              have f1 : (k == 1) = false := by simpa using k1
              have f2 : (k == 2) = false := by simpa using k2
              have f3 : (k == 3) = false := by simpa using k3
              have f4 : (k == 4) = false := by simpa using k4
              obtain rfl := HNo.out fun h => by have := h.k; dsimp only at this; omega
              clear k0 k1 k2 k3 k4
              go_enter Tryd.func44, Tryd.ntmps44
              go_wp2_with fail
              refine (HO.out _ false HPp.out).mono ?_
              rintro e w1 ⟨rfl, hb1⟩
              obtain ⟨c0, c1, c2, c3, c4, hg⟩ := box5 hb1
              have HBB := Lib.hid (And.intro ((HW1.out _).trans (hb1.mono (by simp))) ((HB1.out _).trans (hb1.mono (by simp; omega))))
              clear hb1
              go_wp2
              go_ret2
              first | exact ⟨⟨_, rfl, fun h => (by cases h), .inl rfl⟩, HBB.out.1⟩ | exact ⟨⟨_, rfl, .inl rfl⟩, HBB.out.1⟩
  · obtain rfl := HNo.out fun h => by
      have hv := h.v
      have hl := h.l
      have hp := h.p
      dsimp only at hv hl hp
      rcases HPp.out.1 rfl with ⟨h1, h2⟩ | ⟨h1, h2⟩ | ⟨h1, h2⟩
      · rw [if_neg h1] at hv; exact h2 hv
      · rw [if_neg h1] at hl; exact h2 (HLn.out.1 hl)
      · rw [if_neg h1] at hp; exact h2 (HPn.out.1 hp)
    have HPt := Lib.hid (HPp.out.1 rfl)
    clear HPp
    go_enter Tryd.func44, Tryd.ntmps44
    go_wp2_with fail
    refine (HO.out _ true ⟨fun _ => HPt.out, fun _ => rfl⟩).mono ?_
    rintro e w1 ⟨rfl, hb1⟩
    have HBB := Lib.hid ((HW1.out _).trans (hb1.mono (by simp)))
    clear hb1
    go_wp2
    go_ret2
    first | exact ⟨⟨_, rfl, fun h => (by cases h), .inl rfl⟩, HBB.out⟩ | exact ⟨⟨_, rfl, .inl rfl⟩, HBB.out⟩
theorem taste_of (w : World) (B : Nat) (t : Wi) (hi : WiIn w B t) (hB : B ≤ w.heap.size) (hn : t.Short) (q : Bool) (hq : q = true ↔ IsW t.dat) :
    Calls Tryd.prog 44 #[t.val] w fun e w' => (∃ v, e = .returned (.tuple #[v, .bool q]) ∧ (q = true → TasteAt w' t v)) ∧ Below w.heap.size w w' :=
  (taste_ofV w B t hi hB hn q hq).mono fun _ _ ⟨⟨v, h1, h2, _⟩, h3⟩ => ⟨⟨v, h1, fun h => (h2 h).at'⟩, h3⟩
end Go.Proofs.YtghekfigfjhkeabDoor.num
namespace Go.Proofs.YtghekfigfjhkeabDoor.num
open Go.RowKit Go.Maps
set_option linter.unusedVariables false

set_option maxRecDepth 20000 in
theorem iIsWish (w : World) (B : Nat) (t : Wi) (hi : WiIn w B t) (hB : B ≤ w.heap.size) (hn : t.Short) (q : Bool) (hq : q = true ↔ IsW t.dat) :
    Calls Tryd.prog 29 #[t.val] w fun e w' => e = .returned (.bool q) ∧ Below w.heap.size w w' := by
  have HI := Lib.hid hi
  have HS := Lib.hid (fun (w1 : World) h1 h2 => taste_of w1 B t h1 h2 hn q hq)
  clear hi hq
  obtain ⟨k, f, v, LA, Ln, Lc, ls, PA, Pn, Pc, ps⟩ := t
  unfold Wi.val at HS ⊢
  go_enter Tryd.func29, Tryd.ntmps29
  go_wp2_with fail
  first
    | refine (HS.out _ HI.out hB).mono ?_
    | refine (HS.out _ (HI.out.below ((Below.refl B w).alloc hB _)) (by simp; omega)).mono ?_
  rintro e w1 ⟨⟨tv, rfl, -⟩, hb1⟩
  go_wp2
  go_ret
  first
    | exact ⟨rfl, hb1⟩
    | exact ⟨rfl, ((Below.refl _ w).alloc (Nat.le_refl _) _).trans (hb1.mono (by simp))⟩

end Go.Proofs.YtghekfigfjhkeabDoor.num
namespace Go.Proofs.YtghekfigfjhkeabDoor.num
open Go.RowKit

theorem digit_of (r : Int) (b : Bool) (hb : b = true ↔ 48 ≤ r ∧ r ≤ 57) (w : World) :
    Calls Tryd.prog 56 #[.int .i32 r] w fun e w' => e = .returned (.bool b) ∧ w = w' := by
  obtain rfl : b = (decide (48 ≤ r) && decide (r ≤ 57)) := by rw [Bool.eq_iff_iff]; simpa using hb
  clear hb
  by_cases h1 : 48 ≤ r
  · go_enter Tryd.func56, Tryd.ntmps56
    go_wp2
    go_ret
    exact ⟨by simp [h1], rfl⟩
  · go_enter Tryd.func56, Tryd.ntmps56
    go_wp2
    go_ret
    exact ⟨by simp; omega, rfl⟩
theorem cut_dash (s : ByteArray) (w : World) :
    Calls Tryd.prog 55 #[.string s, .string ⟨#[45]⟩] w fun e w' => e = .returned (.tuple #[.string ⟨(dgs s.data.toList).toArray⟩, .bool (dash s.data.toList)]) ∧ w = w' :=
  (Tryd.strings_CutPrefix s ⟨#[45]⟩ w).mono fun e w' ⟨he, hw⟩ => by
    refine ⟨?_, hw.symm⟩
    rw [he]
    show Ending.returned (.tuple #[.string ⟨(Lib.trimPrefix s.data.toList [45]).toArray⟩, .bool (Lib.hasPrefix s.data.toList [45])]) = _
    rw [hasDash, trimDash]
theorem decode_hi (s : ByteArray) (pos : Nat) (h : pos < s.size) (hb : 128 ≤ (s[pos]).toNat) : 128 ≤ (Utf8.decode s pos).1 := by
  have e : s.get! pos = s[pos]'h := by simp [ByteArray.get!, getElem!_pos, h]; rfl
  rw [Lib.decode_at, e]
  unfold Lib.decodeN
  rw [if_neg (by omega)]
  repeat' split
  all_goals first | assumption | (simp only; omega) | decide
theorem isD_at (t : ByteArray) (pos : Nat) (h : pos < t.size) (hb : isD t[pos] = false) (l : List UInt8) (hl : t.data.toList = l) : ¬ l.all isD = true := by
  subst hl
  intro ha
  have hm : t[pos] ∈ t.data.toList := by simp; exact Array.getElem_mem (xs := t.data) h
  have := List.all_eq_true.1 ha _ hm
  rw [hb] at this; cases this
theorem eq_text (m : Int) (s : ByteArray) (b : Bool) (hb : b = true ↔ Lib.itoa m = s.data.toList) : ((fmtB m).toList == s.toList) = b := by
  rw [ByteArray.toList_eq, ByteArray.toList_eq, Bool.eq_iff_iff, beq_iff_eq, hb]; rfl

set_option maxRecDepth 20000 in
set_option maxHeartbeats 400000 in
theorem iParse (s : ByteArray) (_hs : s.size ≤ 1048576) (w : World) (hpow : Pow w) :
    Calls Tryd.prog 39 #[.string s] w fun e w' => e = .returned (.tuple #[.int .i64 (pVal s.data.toList), .bool (pOk s.data.toList)]) ∧ Below w.heap.size w w' := by
  have HP := Lib.hid hpow
  clear hpow
  go_enter Tryd.func39, Tryd.ntmps39
  go_wp2_with fail
  refine (cut_dash s _).mono ?_
  rintro e w1 ⟨rfl, rfl⟩
  generalize ht : (⟨(dgs s.data.toList).toArray⟩ : ByteArray) = t
  have HT : Hid (t.data.toList = dgs s.data.toList) := by subst ht; show _ = _; rfl
  clear ht
  by_cases hlen : t.size ≤ 9
  · generalize hd : dash s.data.toList = d
    have HD := Lib.hid hd
    clear hd
    go_wp2
    go_loopw [6] (fun v wr => ∃ pos m : Nat, pos ≤ t.size ∧ v = .int .i64 m ∧ m ≤ 999999999 ∧ Hid (m = scanV (t.data.toList.take pos)) ∧ Hid ((t.data.toList.take pos).all isD = true) ∧ wr.heap[w.heap.size]? = some (.stringIter t pos) ∧ Below w.heap.size w wr) (fun _ wr => t.size - wr.iterPos w.heap.size)
    case atStart => exact ⟨0, 0, Nat.zero_le _, rfl, by omega, rfl, rfl, World.iter_heap w t 0, (Below.refl _ _).alloc (Nat.le_refl _) _⟩
    case round =>
      obtain ⟨pos, m, hp, rfl, hm, HM, HA, hit, hbel⟩ := hrel
      have HI := Lib.hid hit
      by_cases hlt : pos < t.size
      · by_cases hlow : (t[pos]).toNat < 128
        · have hnext := fun ty => Lib.run_next_ascii_at (P := Tryd.prog) wr w.heap.size t pos ty hit hlt hlow
          clear hit
          have hbel1 := Lib.below_iterAt hbel (Nat.le_refl _) t (pos + 1)
          cases hx : isD t[pos]
          · have HU := Lib.hid (pOk_p1 s.data.toList (fun h => isD_at t pos hlt hx _ HT.out h.2))
            have hnd : ¬ (48 ≤ t[pos].toNat ∧ t[pos].toNat ≤ 57) := of_decide_eq_false hx
            have HX := Lib.hid hx
            clear hx hbel
            go_wp2_with fail
            refine (digit_of _ false (by simp; omega) _).mono ?_
            rintro e wa ⟨rfl, rfl⟩
            go_wp2
            go_ret2
            refine ⟨?_, hbel1⟩
            rw [HU.out.1, HU.out.2]; rfl
          · have hdi : 48 ≤ t[pos].toNat ∧ t[pos].toNat ≤ 57 := of_decide_eq_true hx
            obtain ⟨hd1, hd2⟩ := hdi
            have hstep : scanV (t.data.toList.take (pos + 1)) = 10 * m + (t[pos].toNat - 48) := by
              rw [take_snoc t pos hlt, scanV_snoc, ← HM.out, dstep, hx]; rfl
            have hle := scanV_le9 (t.data.toList.take (pos + 1)) (by have := List.length_take_le (pos + 1) t.data.toList; omega)
            have hm2 : 10 * m + (t[pos].toNat - 48) ≤ 999999999 := by rw [← hstep]; exact hle
            have HS := Lib.hid hstep
            have hall : (t.data.toList.take (pos + 1)).all isD = true := by rw [take_snoc t pos hlt, List.all_append, HA.out]; simp [hx]
            have HA2 := Lib.hid hall
            have HX := Lib.hid hx
            have HPos : Hid (wr.iterPos w.heap.size = pos) := by show _ = _; simp [World.iterPos, HI.out]
            have HT1 := Lib.hid (Lib.iterAt_heap wr _ _ pos (pos + 1) HI.out)
            clear hx hbel hstep hle hall
            go_wp2_with fail
            refine (digit_of _ true (by simp; omega) _).mono ?_
            rintro e wa ⟨rfl, rfl⟩
            go_wp2
            go_roundw
            case rel => exact ⟨pos + 1, 10 * m + (t[pos].toNat - 48), by omega, by go_num, hm2, HS.out.symm, HA2.out, HT1.out, hbel1⟩
            case measure =>
              have h2 := HPos.out
              have h3 : (wr.iterAt w.heap.size t (pos + 1)).iterPos w.heap.size = pos + 1 := by simp [World.iterPos, HT1.out]
              omega
        · have hnext := fun ty => Lib.run_next_any_at (P := Tryd.prog) wr w.heap.size t pos ty hit hlt
          have hd := decode_hi t pos hlt (by omega)
          have HU := Lib.hid (pOk_p1 s.data.toList (fun h => isD_at t pos hlt (by simp [isD]; omega) _ HT.out h.2))
          have hbel1 := Lib.below_iterAt hbel (Nat.le_refl _) t (pos + (Utf8.decode t pos).2)
          clear hit hbel
          go_wp2_with fail
          refine (digit_of _ false (by simp; omega) _).mono ?_
          rintro e wa ⟨rfl, rfl⟩
          go_wp2
          go_ret2
          refine ⟨?_, hbel1⟩
          rw [HU.out.1, HU.out.2]; rfl
      · have hnext := fun ty => Lib.run_next_end_at (P := Tryd.prog) wr w.heap.size t pos ty hit hlt
        clear hit
        obtain rfl : pos = t.size := by omega
        have hfull : t.data.toList.take t.size = t.data.toList := List.take_of_length_le (by rw [Array.length_toList]; exact Nat.le_refl _)
        have HM2 : Hid (m = scanV (dgs s.data.toList)) := by show _ = _; rw [HM.out, hfull, HT.out]
        have HA2 : Hid ((dgs s.data.toList).all isD = true) := by have := HA.out; rw [hfull, HT.out] at this; exact this
        have HL2 : Hid ((dgs s.data.toList).length ≤ 9) := by show _ ≤ _; rw [← HT.out, Array.length_toList]; exact hlen
        clear hfull
        cases d
        · have hsg : signed s.data.toList (scanV (dgs s.data.toList)) = (m : Int) := by unfold signed; rw [HD.out, ← HM2.out]; rfl
          by_cases hb : Lib.itoa ((m : Int)) = s.data.toList
          · have hq := eq_text ((m : Int)) s true (by simp [hb])
            have HU := Lib.hid (pOk_p2 s.data.toList HL2.out HA2.out true (by rw [hsg]; simp [hb]))
            have HG := Lib.hid hsg
            clear hb hsg
            go_wp2_with fail
            refine (iFormat ((m : Int)) (by omega) (by omega) _ (HP.out.below hbel)).mono ?_
            rintro e wb ⟨rfl, hb1⟩
            go_wp2
            go_ret2
            refine ⟨?_, hbel.trans (hb1.mono hbel.size)⟩
            rw [HU.out.1, HU.out.2, HG.out]; rfl
          · have hq := eq_text ((m : Int)) s false (by simp [hb])
            have HU := Lib.hid (pOk_p2 s.data.toList HL2.out HA2.out false (by rw [hsg]; simp [hb]))
            have HG := Lib.hid hsg
            clear hb hsg
            go_wp2_with fail
            refine (iFormat ((m : Int)) (by omega) (by omega) _ (HP.out.below hbel)).mono ?_
            rintro e wb ⟨rfl, hb1⟩
            go_wp2
            go_ret2
            refine ⟨?_, hbel.trans (hb1.mono hbel.size)⟩
            rw [HU.out.1, HU.out.2]; rfl
        · have hsg : signed s.data.toList (scanV (dgs s.data.toList)) = -(m : Int) := by unfold signed; rw [HD.out, ← HM2.out]; rfl
          by_cases hb : Lib.itoa (-(m : Int)) = s.data.toList
          · have hq := eq_text (-(m : Int)) s true (by simp [hb])
            have HU := Lib.hid (pOk_p2 s.data.toList HL2.out HA2.out true (by rw [hsg]; simp [hb]))
            have HG := Lib.hid hsg
            clear hb hsg
            go_wp2_with fail
            refine (iFormat (-(m : Int)) (by omega) (by omega) _ (HP.out.below hbel)).mono ?_
            rintro e wb ⟨rfl, hb1⟩
            go_wp2
            go_ret2
            refine ⟨?_, hbel.trans (hb1.mono hbel.size)⟩
            rw [HU.out.1, HU.out.2, HG.out]; rfl
          · have hq := eq_text (-(m : Int)) s false (by simp [hb])
            have HU := Lib.hid (pOk_p2 s.data.toList HL2.out HA2.out false (by rw [hsg]; simp [hb]))
            have HG := Lib.hid hsg
            clear hb hsg
            go_wp2_with fail
            refine (iFormat (-(m : Int)) (by omega) (by omega) _ (HP.out.below hbel)).mono ?_
            rintro e wb ⟨rfl, hb1⟩
            go_wp2
            go_ret2
            refine ⟨?_, hbel.trans (hb1.mono hbel.size)⟩
            rw [HU.out.1, HU.out.2]; rfl
  · have HU := Lib.hid (pOk_p1 s.data.toList (fun h => hlen (by have := h.1; rw [← HT.out, Array.length_toList] at this; exact this)))
    go_wp2
    go_ret2
    refine ⟨?_, Below.refl _ _⟩
    rw [HU.out.1, HU.out.2]; rfl
end Go.Proofs.YtghekfigfjhkeabDoor.num
