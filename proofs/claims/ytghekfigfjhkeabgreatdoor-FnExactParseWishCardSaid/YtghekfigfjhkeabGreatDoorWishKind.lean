/-
  The program's kindOf, the model's l4Field.
-/
import Derived.Test.YtghekfigfjhkeabGreatDoorWishParse
import Derived.Test.YtghekfigfjhkeabGreatDoorWishKw
import Derived.Test.YtghekfigfjhkeabGreatDoorItemCut
namespace Go.Proofs.YtghekfigfjhkeabGreatDoor.num
open Go.RowKit
set_option linter.unusedVariables false
set_option linter.unusedSimpArgs false

theorem kwB_list (i : Nat) : (kwB i).data.toList = kwT.getD i [] := by simp [kwB]
theorem kw_beq (i : Nat) (s : ByteArray) (b : Bool) (h : b = true ↔ s.data.toList = kwT.getD i []) : ((kwB i).toList == s.toList) = b := by
  rw [ByteArray.toList_eq, ByteArray.toList_eq, kwB_list]
  cases b
  · have : ¬ kwT.getD i [] = s.data.toList := fun e => by
      have := h.2 e.symm
      cases this
    exact beq_eq_false_iff_ne.2 this
  · exact beq_iff_eq.2 (h.1 rfl).symm
/-- The first words that a text is not. -/
def NotYet (s : List UInt8) (k : Nat) : Prop := ∀ i, i < k → s ≠ kwT.getD i []
theorem kindI_none {s : List UInt8} (h : NotYet s 5) : kindI s = -1 := by
  unfold kindI
  rw [if_neg (h 0 (by omega)), if_neg (h 1 (by omega)), if_neg (h 2 (by omega)), if_neg (h 3 (by omega)), if_neg (h 4 (by omega))]
theorem kindI_at {s : List UInt8} {k : Nat} (h : NotYet s k) (hk : k < 5) (e : s = kwT.getD k []) : kindI s = k := by
  unfold kindI
  rcases (show k = 0 ∨ k = 1 ∨ k = 2 ∨ k = 3 ∨ k = 4 by omega) with rfl | rfl | rfl | rfl | rfl
  · rw [if_pos e]; rfl
  · rw [if_neg (h 0 (by omega)), if_pos e]; rfl
  · rw [if_neg (h 0 (by omega)), if_neg (h 1 (by omega)), if_pos e]; rfl
  · rw [if_neg (h 0 (by omega)), if_neg (h 1 (by omega)), if_neg (h 2 (by omega)), if_pos e]; rfl
  · rw [if_neg (h 0 (by omega)), if_neg (h 1 (by omega)), if_neg (h 2 (by omega)), if_neg (h 3 (by omega)), if_pos e]; rfl

set_option maxRecDepth 20000 in
theorem kindOf_c (s : ByteArray) (w : World) (hkw : Kw w) :
    Calls Tryz.prog 28 #[.string s] w fun e w' => e = .returned (.int .i64 (kindI s.data.toList)) ∧ Below w.heap.size w w' := by
  obtain ⟨kb, ko, kc, k0, kg, kh, k1⟩ := hkw
  have HK := Lib.hid k1
  clear k1
  go_enter Tryz.func28, Tryz.ntmps28
  go_wp2
  go_loopw [7] (fun iv wr => ∃ k : Nat, k ≤ 5 ∧ iv = .int .i64 k ∧ NotYet s.data.toList k ∧ Below w.heap.size w wr) (fun iv _ => 5 - (intOf iv).toNat)
  case atStart => exact ⟨0, by omega, rfl, fun i hi => by omega, Below.refl _ _⟩
  case round =>
    obtain ⟨k, hk, rfl, hny, hbel⟩ := hrel
    have HN := Lib.hid hny
    have HB := Lib.hid hbel
    clear hny hbel
    by_cases hk5 : k < 5
    · obtain ⟨b, hb⟩ := bool_of (s.data.toList = kwT.getD k [])
      have hcell : wr.cell? ⟨kb, ko + k, none⟩ = some (.string (kwB k)) := (HB.out.cell (p := ⟨kb, ko + k, none⟩) kh).trans (HK.out k hk5)
      have he := kw_beq k s b hb
      have HBb := Lib.hid hb
      have hd : decide ((k : Int) < 5) = true := by simp; omega
      clear hb
      have hny' : b = false → NotYet s.data.toList (k + 1) := fun e i hi => by
        rcases Nat.lt_or_ge i k with h | h
        · exact HN.out i h
        · obtain rfl : i = k := by omega
          intro e2
          rw [HBb.out.2 e2] at e
          cases e
      have hyes : b = true → kindI s.data.toList = k := fun e => kindI_at HN.out hk5 (HBb.out.1 e)
      have HNy := Lib.hid hny'
      have HYe := Lib.hid hyes
      clear hny' hyes HBb
      cases b
      · go_wp2
        go_roundw
        case rel => exact ⟨k + 1, by omega, by go_num, HNy.out rfl, HB.out⟩
        case measure => simp [intOf]; omega
      · go_wp2
        go_ret
        exact ⟨by rw [HYe.out trivial]; rfl, HB.out⟩
    · have hd : decide ((k : Int) < 5) = false := by simp; omega
      go_wp2
      go_ret
      obtain rfl : k = 5 := by omega
      exact ⟨by rw [kindI_none HN.out]; rfl, HB.out⟩

theorem first_ne (s : ByteArray) (h : 0 < s.size) (b : Bool) (hb : b = true ↔ s[0] = 102) : ((s[0].toNat : Int) != 102) = !b := by
  cases b
  · have : ¬ s[0] = 102 := fun e => by have := hb.2 e; cases this
    have h2 : (s[0].toNat : Int) ≠ 102 := fun e => this (UInt8.toNat_inj.1 (by show s[0].toNat = 102; omega))
    simpa using h2
  · rw [hb.1 rfl]; rfl
theorem head_at (s : ByteArray) (h : 0 < s.size) : s.data.toList.head? = some s[0] := by
  rw [List.head?_eq_getElem?, List.getElem?_eq_getElem (by rw [list_len]; exact h)]
  rfl
theorem tail_of (s : ByteArray) (hs : s.size ≤ 1048576) : (s.extract 1 s.size).size ≤ 1048576 ∧ (s.extract 1 s.size).data.toList = s.data.toList.tail := by
  refine ⟨by simp; omega, ?_⟩
  rw [Lib.extract_data]
  have h : s.data.toList.length = s.size := list_len s
  rw [List.take_of_length_le (by rw [List.length_drop]; omega), List.drop_one]
theorem fS_cases (s : ByteArray) (h : ¬ s.size < 2) (h0 : 0 < s.size) : (¬ s[0] = 102 → fS s.data.toList = -1) ∧ (s[0] = 102 → fS s.data.toList = numS s.data.toList.tail) := by
  have hl := list_len s
  unfold fS
  rw [head_at s (by omega)]
  refine ⟨fun e => if_pos (.inr (by simpa using e)), fun e => if_neg ?_⟩
  rw [e]
  simp
  omega

set_option maxRecDepth 20000 in
theorem sField (s : ByteArray) (hs : s.size ≤ 1048576) (w : World) :
    Calls Tryz.prog 10 #[.string s] w fun e w' => e = .returned (.int .i64 (fS s.data.toList)) ∧ Below w.heap.size w w' := by
  by_cases h2 : s.size < 2
  · have hd : decide ((s.size : Int) < 2) = true := by simp; omega
    have he : fS s.data.toList = -1 := by unfold fS; rw [if_pos (.inl (by rw [list_len]; exact h2))]
    rw [he]
    clear h2 he
    go_enter Tryz.func10, Tryz.ntmps10
    go_wp2
    go_ret
    exact ⟨rfl, Below.refl _ _⟩
  · have hd : decide ((s.size : Int) < 2) = false := by simp; omega
    have h0 : 0 < s.size := by omega
    have HF := Lib.hid (fS_cases s h2 h0)
    obtain ⟨b, hb⟩ := bool_of (s[0] = 102)
    have HBb := Lib.hid hb
    have e1 : ((s[0].toNat : Int) != 102) = !b := first_ne s h0 b hb
    have HX : Hid ((s.extract 1 s.size).size ≤ 1048576 ∧ (s.extract 1 s.size).data.toList = s.data.toList.tail) := Lib.hid (tail_of s hs)
    clear hb h2
    cases b
    · simp only [Bool.not_false] at e1
      go_enter Tryz.func10, Tryz.ntmps10
      go_wp2
      go_ret
      exact ⟨by rw [HF.out.1 (fun e => by have := HBb.out.2 e; cases this)]; rfl, Below.refl _ _⟩
    simp only [Bool.not_true] at e1
    go_enter Tryz.func10, Tryz.ntmps10
    go_wp2_with fail
    refine (sNum (s.extract 1 s.size) HX.out.1 _).mono ?_
    rintro e w1 ⟨rfl, hb⟩
    rw [HX.out.2]
    have HB := Lib.hid hb
    have hv := HF.out.2 (HBb.out.1 trivial)
    have HV := Lib.hid hv
    clear hb hv
    go_wp2
    go_ret
    exact ⟨by rw [HV.out]; rfl, HB.out⟩
end Go.Proofs.YtghekfigfjhkeabGreatDoor.num
