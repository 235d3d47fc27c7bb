/-
  FormatItem, the model's and the program's: contracts.
-/
import Derived.Test.YtghekfigfjhkeabGreatDoorItoa
import Derived.Test.YtghekfigfjhkeabGreatDoorItemImpl
import Derived.Lib.Join
namespace Go.Proofs.YtghekfigfjhkeabGreatDoor.num
open Go.RowKit
set_option linter.unusedSimpArgs false

instance (d : Int × List Int) : Decidable (IsP d) := by unfold IsP; infer_instance
def listB (xs : List Int) : ByteArray := ⟨(Lib.join (xs.map Lib.itoa) [44]).toArray⟩
/-- An item's text. -/
def textB (d : Int × List Int) : ByteArray := if IsP d then fmtB d.1 ++ ⟨#[58]⟩ ++ listB d.2 else ⟨#[]⟩
theorem textB_no {d : Int × List Int} (h : ¬ IsP d) : textB d = ⟨#[]⟩ := if_neg h
theorem textB_yes {d : Int × List Int} (h : IsP d) : textB d = fmtB d.1 ++ ⟨#[58]⟩ ++ listB d.2 := if_pos h
theorem isP_parts {id a b c : Int} (h : IsP (id, [a, b, c])) : (0 ≤ id ∧ id ≤ 99) ∧ (0 ≤ a ∧ a ≤ 9) ∧ (0 ≤ b ∧ b ≤ 9) ∧ (0 ≤ c ∧ c ≤ 9) := by
  simp only [IsP, List.mem_cons, List.not_mem_nil, or_false] at h
  exact ⟨h.2.1, h.1 a (.inl rfl), h.1 b (.inr (.inl rfl)), h.1 c (.inr (.inr rfl))⟩
theorem fmt_small (n : Int) (h0 : 0 ≤ n) (h1 : n ≤ 99) : (fmtB n).size ≤ 2 := by
  show (Lib.itoa n).toArray.size ≤ 2
  obtain ⟨u, rfl⟩ : ∃ u : Nat, n = u := ⟨n.toNat, by omega⟩
  rw [List.size_toArray]
  by_cases h : u = 0
  · subst h
    have : Lib.itoa ((0 : Nat) : Int) = [48] := by simp [Lib.itoa, Lib.decDigits]
    rw [this]; decide
  · rw [itoa_pos u (by omega)]
    exact dec0_len 2 u (by omega)
theorem list3 (a b c : Int) : listB [a, b, c] = fmtB a ++ ⟨#[44]⟩ ++ fmtB b ++ ⟨#[44]⟩ ++ fmtB c := by
  unfold listB fmtB
  rw [List.map_cons, List.map_cons, List.map_cons, List.map_nil, Lib.join_cons]
  simp [Lib.joinTail, ByteArray.mk_append_mk]
theorem listB_small {a b c : Int} (h : (0 ≤ a ∧ a ≤ 9) ∧ (0 ≤ b ∧ b ≤ 9) ∧ (0 ≤ c ∧ c ≤ 9)) : (listB [a, b, c]).size ≤ 50 := by
  rw [list3]
  have h1 := fmt_small a h.1.1 (by omega)
  have h2 := fmt_small b h.2.1.1 (by omega)
  have h3 := fmt_small c h.2.2.1 (by omega)
  simp only [ByteArray.size_append]
  have : (⟨#[44]⟩ : ByteArray).size = 1 := rfl
  omega

/-- The model's text behind k rounds. -/
def preB (a b c : Int) : Nat → ByteArray
  | 0 => ⟨#[]⟩
  | 1 => fmtB a
  | 2 => fmtB a ++ ⟨#[44]⟩ ++ fmtB b
  | _ => fmtB a ++ ⟨#[44]⟩ ++ fmtB b ++ ⟨#[44]⟩ ++ fmtB c
theorem empty_append (x : ByteArray) : (⟨#[]⟩ : ByteArray) ++ x = x := by
  obtain ⟨⟨x⟩⟩ := x
  simp [ByteArray.mk_append_mk]

theorem sList (w : World) (B : Nat) (A : Option Addr) (cc : Nat) (a b c : Int) (hi : Ints w B A 3 [a, b, c]) (hB : B ≤ w.heap.size) (h : (0 ≤ a ∧ a ≤ 9) ∧ (0 ≤ b ∧ b ≤ 9) ∧ (0 ≤ c ∧ c ≤ 9)) :
    Calls Tryz.prog 26 #[.slice A 3 cc] w fun e w' => e = .returned (.string (listB [a, b, c])) ∧ Below w.heap.size w w' := by
  have HX := Lib.hid hi
  have ka := fmt_small a h.1.1 (by omega)
  have kb := fmt_small b h.2.1.1 (by omega)
  have kc := fmt_small c h.2.2.1 (by omega)
  have H := Lib.hid h
  have HL := Lib.hid (list3 a b c)
  have hz : (⟨#[]⟩ : ByteArray).size = 0 := rfl
  have ho : (⟨#[44]⟩ : ByteArray).size = 1 := rfl
  have HZ := Lib.hid (And.intro hz ho)
  clear hi h hz ho
  go_enter Tryz.func26, Tryz.ntmps26
  go_wp2
  go_loopw [3, 4] (fun s i wr => ∃ k : Nat, k ≤ 3 ∧ i = .int .i64 k ∧ s = .string (preB a b c k) ∧ Below w.heap.size w wr) (fun _ i _ => 3 - (intOf i).toNat)
  case atStart => exact ⟨0, by decide, rfl, rfl, Below.refl _ _⟩
  case round =>
    obtain ⟨k, hk, rfl, rfl, hbel⟩ := hrel
    have HB := Lib.hid hbel
    rcases (show k = 0 ∨ k = 1 ∨ k = 2 ∨ k = 3 by omega) with rfl | rfl | rfl | rfl
    · obtain ⟨b1, off, rfl, hb1, hc⟩ := HX.out.2 0 (by decide)
      have f1 := (hbel.cell (p := ⟨b1, off + 0, none⟩) (by exact Nat.lt_of_lt_of_le hb1 hB)).trans hc
      simp only [Nat.add_zero, List.getD_cons_zero] at f1
      clear hc hbel
      unfold preB
      go_wp2_with fail
      refine (sFormat a (by have := H.out; omega) (by have := H.out; omega) _).mono ?_
      rintro e w1 ⟨rfl, hb⟩
      have HB1 := Lib.hid (HB.out.trans (hb.mono HB.out.size))
      clear hb
      go_wp2
      go_roundw
      case rel => exact ⟨1, by decide, rfl, by first | rfl | (rw [empty_append]; rfl) | (simp [preB, empty_append]), HB1.out⟩
      case measure => simp [intOf]
    · obtain ⟨b1, off, rfl, hb1, hc⟩ := HX.out.2 1 (by decide)
      have f1 := (hbel.cell (p := ⟨b1, off + 1, none⟩) (by exact Nat.lt_of_lt_of_le hb1 hB)).trans hc
      simp only [List.getD_cons_zero, List.getD_cons_succ] at f1
      clear hc hbel
      unfold preB
      go_wp2_with fail
      refine (sFormat b (by have := H.out; omega) (by have := H.out; omega) _).mono ?_
      rintro e w1 ⟨rfl, hb⟩
      have HB1 := Lib.hid (HB.out.trans (hb.mono HB.out.size))
      clear hb
      go_wp2
      go_roundw
      case rel => exact ⟨2, by decide, rfl, by first | rfl | simp [preB], HB1.out⟩
      case measure => simp [intOf]
    · obtain ⟨b1, off, rfl, hb1, hc⟩ := HX.out.2 2 (by decide)
      have f1 := (hbel.cell (p := ⟨b1, off + 2, none⟩) (by exact Nat.lt_of_lt_of_le hb1 hB)).trans hc
      simp only [List.getD_cons_zero, List.getD_cons_succ] at f1
      clear hc hbel
      unfold preB
      go_wp2_with fail
      refine (sFormat c (by have := H.out; omega) (by have := H.out; omega) _).mono ?_
      rintro e w1 ⟨rfl, hb⟩
      have HB1 := Lib.hid (HB.out.trans (hb.mono HB.out.size))
      clear hb
      go_wp2
      go_roundw
      case rel => exact ⟨3, by decide, rfl, by first | rfl | simp [preB], HB1.out⟩
      case measure => simp [intOf]
    · clear hbel
      unfold preB
      go_wp2
      go_ret
      exact ⟨by rw [HL.out]; rfl, HB.out⟩

theorem info_string : (Tryz.prog.info? 9).map (fun i => (i.zero, i.size, i.bytes)) = some (some (.string ⟨#[]⟩), 1, 16) := by kernel_rfl
theorem iJoin (w : World) (B : Nat) (A : Option Addr) (cc : Nat) (a b c : Int) (hi : Ints w B A 3 [a, b, c]) (hB : B ≤ w.heap.size) (h : (0 ≤ a ∧ a ≤ 9) ∧ (0 ≤ b ∧ b ≤ 9) ∧ (0 ≤ c ∧ c ≤ 9)) (hpow : Pow w) :
    Calls Tryz.prog 35 #[.slice A 3 cc, .string ⟨#[44]⟩, .func (.func 34) #[] #[]] w fun e w' => e = .returned (.string (listB [a, b, c])) ∧ Below w.heap.size w w' := by
  have hmk := run_make_row' (P := Tryz.prog) 31 9 (.string ⟨#[]⟩) 16 Tryz.underlying31 info_string rfl .i64 .i64 3 (by decide) (by decide)
  have hmk' : ∀ w : World, (Instr.makeSlice 31 (.int .i64 3) (.int .i64 3)).run Tryz.prog w = .ok (.slice (some ⟨w.heap.size, 0, none⟩) 3 3) (w.alloc (.cells (madeCells #[.string ⟨#[]⟩] 3) 9)) := hmk
  have HX := Lib.hid hi
  have HP := Lib.hid hpow
  have H := Lib.hid h
  clear hi hpow h hmk
  go_enter Tryz.func35, Tryz.ntmps35
  go_wp2
  clear hmk'
  go_loopw [15] (fun i wr => ∃ k : Nat, k ≤ 3 ∧ i = .int .i64 k ∧ wr.rowIs w.heap.size 9 3 (fun j => if j < k then .string (fmtB ([a, b, c].getD j 0)) else .string ⟨#[]⟩) ∧ Below w.heap.size w wr) (fun i _ => 3 - (intOf i).toNat)
  case atStart =>
    exact ⟨0, by decide, rfl, by simpa using World.rowIs_made w (.string ⟨#[]⟩) 3 9, (Below.refl _ _).alloc (Nat.le_refl _) _⟩
  case round =>
    obtain ⟨k, hk, rfl, hrow, hbel⟩ := hrel
    have HR := Lib.hid hrow
    have HB := Lib.hid hbel
    by_cases hlt : k < 3
    · obtain ⟨b1, off, rfl, hb1, hc⟩ := HX.out.2 k hlt
      have f1 := (hbel.cell (p := ⟨b1, off + k, none⟩) (by exact Nat.lt_of_lt_of_le hb1 hB)).trans hc
      obtain ⟨v, hv⟩ : ∃ v, [a, b, c].getD k 0 = v := ⟨_, rfl⟩
      rw [hv] at f1
      have hvr : 0 ≤ v ∧ v ≤ 9 := by
        have := H.out
        rcases (show k = 0 ∨ k = 1 ∨ k = 2 by omega) with rfl | rfl | rfl <;> subst hv <;> simp only [List.getD_cons_zero, List.getD_cons_succ] <;> omega
      have HV := Lib.hid hv
      have hlt' : (k : Int) < 3 := by omega
      clear hrow hbel hc hv
      go_wp2_with fail
      refine (iFormat v (by omega) (by omega) _ (HP.out.below HB.out)).mono ?_
      rintro e w1 ⟨rfl, hb⟩
      have hrow1 := rowIs_below HR.out hb (World.rowIs.lt HR.out)
      have g1 : w1.cell? ⟨w.heap.size, k, none⟩ = some (.string ⟨#[]⟩) := by rw [World.rowIs.cell hrow1 hlt, if_neg (by omega)]
      have g2 := World.rowIs.frozen hrow1 k
      have HR1 := Lib.hid hrow1
      have HB1 := Lib.hid (HB.out.trans (hb.mono HB.out.size))
      clear hb hrow1
      go_wp2
      go_roundw
      case rel =>
        refine ⟨k + 1, by omega, by go_num, (World.rowIs.set HR1.out k (.string (fmtB v))).congr (fun j _ => ?_), HB1.out.setCell (Nat.le_refl _) _⟩
        by_cases h1 : j = k
        · subst h1; rw [if_pos rfl, if_pos (by omega), HV.out]
        · by_cases h2 : j < k
          · rw [if_neg h1, if_pos h2, if_pos (by omega)]
          · rw [if_neg h1, if_neg h2, if_neg (by omega)]
      case measure => simp [intOf]; omega
    · obtain rfl : k = 3 := by omega
      have hcells : ∀ (j : Nat) x, [fmtB a, fmtB b, fmtB c][j]? = some x → wr.cell? ⟨w.heap.size, 0 + j, none⟩ = some (.string x) := by
        intro j x hx
        have hj : j < 3 := by
          rcases Nat.lt_or_ge j 3 with h' | h'
          · exact h'
          · rw [List.getElem?_eq_none (by simpa using h')] at hx; cases hx
        rw [Nat.zero_add, World.rowIs.cell hrow hj, if_pos hj]
        rcases (show j = 0 ∨ j = 1 ∨ j = 2 by omega) with rfl | rfl | rfl <;> simp at hx <;> subst hx <;> rfl
      have HC := Lib.hid hcells
      have HLt := Lib.hid (World.rowIs.lt hrow)
      have HE : Hid ((⟨(Lib.join ([fmtB a, fmtB b, fmtB c].map (·.data.toList)) (⟨#[44]⟩ : ByteArray).data.toList).toArray⟩ : ByteArray) = listB [a, b, c]) := Lib.hid rfl
      have HS : Hid ((Lib.join ([fmtB a, fmtB b, fmtB c].map (·.data.toList)) (⟨#[44]⟩ : ByteArray).data.toList).length ≤ 140737488355328) := Lib.hid (by
        have h1 := listB_small H.out
        have h2 : (listB [a, b, c]).size = (Lib.join ([fmtB a, fmtB b, fmtB c].map (·.data.toList)) (⟨#[44]⟩ : ByteArray).data.toList).length := by simp [listB, fmtB, ByteArray.size]
        omega)
      clear hrow hbel hcells
      go_wp2_with fail
      refine (Tryz.strings_Join w.heap.size 0 3 [fmtB a, fmtB b, fmtB c] ⟨#[44]⟩ wr HC.out HLt.out (by simp) (by simp) HS.out).mono ?_
      rintro e w1 ⟨rfl, hb⟩
      have HB1 := Lib.hid (HB.out.trans (hb.mono HB.out.size))
      clear hb
      go_wp2
      go_ret
      exact ⟨by rw [← HE.out]; rfl, HB1.out⟩

end Go.Proofs.YtghekfigfjhkeabGreatDoor.num
