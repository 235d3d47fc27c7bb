/-
  FormatItem, the model's and the program's: contracts.
-/
import Derived.Test.YtadjoiahllekdaaGreatDoorItoa
import Derived.Test.YtadjoiahllekdaaGreatDoorItemImpl
import Derived.Lib.Join
namespace Go.Proofs.YtadjoiahllekdaaGreatDoor.num
set_option maxRecDepth 20000
open Go.RowKit
set_option linter.unusedSimpArgs false

instance (d : Int × List Int) : Decidable (IsP d) := by unfold IsP; infer_instance
def listB (xs : List Int) : ByteArray := ⟨(Lib.join (xs.map Lib.itoa) [44]).toArray⟩
/-- An item's text. -/
def textB (d : Int × List Int) : ByteArray := if IsP d then fmtB d.1 ++ ⟨#[58]⟩ ++ listB d.2 else ⟨#[]⟩
theorem textB_no {d : Int × List Int} (h : ¬ IsP d) : textB d = ⟨#[]⟩ := if_neg h
theorem textB_yes {d : Int × List Int} (h : IsP d) : textB d = fmtB d.1 ++ ⟨#[58]⟩ ++ listB d.2 := if_pos h
theorem isP_parts {id a b c : Int} (h : IsP (id, [a, b, c])) : (0 ≤ id ∧ id ≤ 99) ∧ (0 ≤ a ∧ a ≤ 9) ∧ (0 ≤ b ∧ b ≤ 9) ∧ (0 ≤ c ∧ c ≤ 9) := by
  simp only [IsP, List.mem_cons, List.not_mem_nil, or_false] at h
  exact ⟨h.2.1, h.1 a (.inl rfl), h.1 b (.inr (.inl rfl)), h.1 c (.inr (.inr rfl))⟩
theorem fmt_small (n : Int) (h0 : 0 ≤ n) (h1 : n ≤ 99) : (fmtB n).size ≤ 2 := by
  show (Lib.itoa n).toArray.size ≤ 2
  obtain ⟨u, rfl⟩ : ∃ u : Nat, n = u := ⟨n.toNat, by omega⟩
  rw [List.size_toArray]
  by_cases h : u = 0
  · subst h
    have : Lib.itoa ((0 : Nat) : Int) = [48] := by simp [Lib.itoa, Lib.decDigits]
    rw [this]; decide
  · rw [itoa_pos u (by omega)]
    exact dec0_len 2 u (by omega)
theorem list3 (a b c : Int) : listB [a, b, c] = fmtB a ++ ⟨#[44]⟩ ++ fmtB b ++ ⟨#[44]⟩ ++ fmtB c := by
  unfold listB fmtB
  rw [List.map_cons, List.map_cons, List.map_cons, List.map_nil, Lib.join_cons]
  simp [Lib.joinTail, ByteArray.mk_append_mk]
theorem listB_small {a b c : Int} (h : (0 ≤ a ∧ a ≤ 9) ∧ (0 ≤ b ∧ b ≤ 9) ∧ (0 ≤ c ∧ c ≤ 9)) : (listB [a, b, c]).size ≤ 50 := by
  rw [list3]
  have h1 := fmt_small a h.1.1 (by omega)
  have h2 := fmt_small b h.2.1.1 (by omega)
  have h3 := fmt_small c h.2.2.1 (by omega)
  simp only [ByteArray.size_append]
  have : (⟨#[44]⟩ : ByteArray).size = 1 := rfl
  omega

/-- The model's text behind k rounds. -/
def preB (a b c : Int) : Nat → ByteArray
  | 0 => ⟨#[]⟩
  | 1 => fmtB a
  | 2 => fmtB a ++ ⟨#[44]⟩ ++ fmtB b
  | _ => fmtB a ++ ⟨#[44]⟩ ++ fmtB b ++ ⟨#[44]⟩ ++ fmtB c
theorem empty_append (x : ByteArray) : (⟨#[]⟩ : ByteArray) ++ x = x := by
  obtain ⟨⟨x⟩⟩ := x
  simp [ByteArray.mk_append_mk]

theorem sList (w : World) (B : Nat) (A : Option Addr) (cc : Nat) (a b c : Int) (hi : Ints w B A 3 [a, b, c]) (hB : B ≤ w.heap.size) (h : (0 ≤ a ∧ a ≤ 9) ∧ (0 ≤ b ∧ b ≤ 9) ∧ (0 ≤ c ∧ c ≤ 9)) :
    Calls Tryz.prog 58 #[.slice A 3 cc] w fun e w' => e = .returned (.string (listB [a, b, c])) ∧ Below w.heap.size w w' := by
  have HX := Lib.hid hi
  have ka := fmt_small a h.1.1 (by omega)
  have kb := fmt_small b h.2.1.1 (by omega)
  have kc := fmt_small c h.2.2.1 (by omega)
  have H := Lib.hid h
  have HL := Lib.hid (list3 a b c)
  have hz : (⟨#[]⟩ : ByteArray).size = 0 := rfl
  have ho : (⟨#[44]⟩ : ByteArray).size = 1 := rfl
  have HZ := Lib.hid (And.intro hz ho)
  clear hi h hz ho
  go_enter Tryz.func58, Tryz.ntmps58
  go_wp2
  go_loopw [3, 4] (fun s i wr => ∃ k : Nat, k ≤ 3 ∧ i = .int .i64 k ∧ s = .string (preB a b c k) ∧ Below w.heap.size w wr) (fun _ i _ => 3 - (intOf i).toNat)
  case atStart => exact ⟨0, by decide, rfl, rfl, Below.refl _ _⟩
  case round =>
    obtain ⟨k, hk, rfl, rfl, hbel⟩ := hrel
    have HB := Lib.hid hbel
    rcases (show k = 0 ∨ k = 1 ∨ k = 2 ∨ k = 3 by omega) with rfl | rfl | rfl | rfl
    · obtain ⟨b1, off, rfl, hb1, hc⟩ := HX.out.2 0 (by decide)
      have f1 := (hbel.cell (p := ⟨b1, off + 0, none⟩) (by exact Nat.lt_of_lt_of_le hb1 hB)).trans hc
      simp only [Nat.add_zero, List.getD_cons_zero] at f1
      clear hc hbel
      unfold preB
      go_wp2_with fail
      refine (sFormat a (by have := H.out; omega) (by have := H.out; omega) _).mono ?_
      rintro e w1 ⟨rfl, hb⟩
      have HB1 := Lib.hid (HB.out.trans (hb.mono HB.out.size))
      clear hb
      go_wp2
      go_roundw
      case rel => exact ⟨1, by decide, rfl, by first | rfl | (rw [empty_append]; rfl) | (simp [preB, empty_append]), HB1.out⟩
      case measure => simp [intOf]
    · obtain ⟨b1, off, rfl, hb1, hc⟩ := HX.out.2 1 (by decide)
      have f1 := (hbel.cell (p := ⟨b1, off + 1, none⟩) (by exact Nat.lt_of_lt_of_le hb1 hB)).trans hc
      simp only [List.getD_cons_zero, List.getD_cons_succ] at f1
      clear hc hbel
      unfold preB
      go_wp2_with fail
      refine (sFormat b (by have := H.out; omega) (by have := H.out; omega) _).mono ?_
      rintro e w1 ⟨rfl, hb⟩
      have HB1 := Lib.hid (HB.out.trans (hb.mono HB.out.size))
      clear hb
      go_wp2
      go_roundw
      case rel => exact ⟨2, by decide, rfl, by first | rfl | simp [preB], HB1.out⟩
      case measure => simp [intOf]
    · obtain ⟨b1, off, rfl, hb1, hc⟩ := HX.out.2 2 (by decide)
      have f1 := (hbel.cell (p := ⟨b1, off + 2, none⟩) (by exact Nat.lt_of_lt_of_le hb1 hB)).trans hc
      simp only [List.getD_cons_zero, List.getD_cons_succ] at f1
      clear hc hbel
      unfold preB
      go_wp2_with fail
      refine (sFormat c (by have := H.out; omega) (by have := H.out; omega) _).mono ?_
      rintro e w1 ⟨rfl, hb⟩
      have HB1 := Lib.hid (HB.out.trans (hb.mono HB.out.size))
      clear hb
      go_wp2
      go_roundw
      case rel => exact ⟨3, by decide, rfl, by first | rfl | simp [preB], HB1.out⟩
      case measure => simp [intOf]
    · clear hbel
      unfold preB
      go_wp2
      go_ret
      exact ⟨by rw [HL.out]; rfl, HB.out⟩

theorem info_string : (Tryz.prog.info? 9).map (fun i => (i.zero, i.size, i.bytes)) = some (some (.string ⟨#[]⟩), 1, 16) := by kernel_rfl
theorem iJoin (w : World) (B : Nat) (A : Option Addr) (cc : Nat) (a b c : Int) (hi : Ints w B A 3 [a, b, c]) (hB : B ≤ w.heap.size) (h : (0 ≤ a ∧ a ≤ 9) ∧ (0 ≤ b ∧ b ≤ 9) ∧ (0 ≤ c ∧ c ≤ 9)) (hpow : Pow w) :
    Calls Tryz.prog 47 #[.slice A 3 cc, .string ⟨#[44]⟩, .func (.func 46) #[] #[]] w fun e w' => e = .returned (.string (listB [a, b, c])) ∧ Below w.heap.size w w' := by
  have hmk := run_make_row' (P := Tryz.prog) 86 9 (.string ⟨#[]⟩) 16 Tryz.underlying86 info_string rfl .i64 .i64 3 (by decide) (by decide)
  have hmk' : ∀ w : World, (Instr.makeSlice 86 (.int .i64 3) (.int .i64 3)).run Tryz.prog w = .ok (.slice (some ⟨w.heap.size, 0, none⟩) 3 3) (w.alloc (.cells (madeCells #[.string ⟨#[]⟩] 3) 9)) := hmk
  have HX := Lib.hid hi
  have HP := Lib.hid hpow
  have H := Lib.hid h
  clear hi hpow h hmk
  go_enter Tryz.func47, Tryz.ntmps47
  go_wp2
  clear hmk'
  go_loopw [15] (fun i wr => ∃ k : Nat, k ≤ 3 ∧ i = .int .i64 k ∧ wr.rowIs w.heap.size 9 3 (fun j => if j < k then .string (fmtB ([a, b, c].getD j 0)) else .string ⟨#[]⟩) ∧ Below w.heap.size w wr) (fun i _ => 3 - (intOf i).toNat)
  case atStart =>
    exact ⟨0, by decide, rfl, by simpa using World.rowIs_made w (.string ⟨#[]⟩) 3 9, (Below.refl _ _).alloc (Nat.le_refl _) _⟩
  case round =>
    obtain ⟨k, hk, rfl, hrow, hbel⟩ := hrel
    have HR := Lib.hid hrow
    have HB := Lib.hid hbel
    by_cases hlt : k < 3
    · obtain ⟨b1, off, rfl, hb1, hc⟩ := HX.out.2 k hlt
      have f1 := (hbel.cell (p := ⟨b1, off + k, none⟩) (by exact Nat.lt_of_lt_of_le hb1 hB)).trans hc
      obtain ⟨v, hv⟩ : ∃ v, [a, b, c].getD k 0 = v := ⟨_, rfl⟩
      rw [hv] at f1
      have hvr : 0 ≤ v ∧ v ≤ 9 := by
        have := H.out
        rcases (show k = 0 ∨ k = 1 ∨ k = 2 by omega) with rfl | rfl | rfl <;> subst hv <;> simp only [List.getD_cons_zero, List.getD_cons_succ] <;> omega
      have HV := Lib.hid hv
      have hlt' : (k : Int) < 3 := by omega
      clear hrow hbel hc hv
      go_wp2_with fail
      refine (iFormat v (by omega) (by omega) _ (HP.out.below HB.out)).mono ?_
      rintro e w1 ⟨rfl, hb⟩
      have hrow1 := rowIs_below HR.out hb (World.rowIs.lt HR.out)
      have g1 : w1.cell? ⟨w.heap.size, k, none⟩ = some (.string ⟨#[]⟩) := by rw [World.rowIs.cell hrow1 hlt, if_neg (by omega)]
      have g2 := World.rowIs.frozen hrow1 k
      have HR1 := Lib.hid hrow1
      have HB1 := Lib.hid (HB.out.trans (hb.mono HB.out.size))
      clear hb hrow1
      go_wp2
      go_roundw
      case rel =>
        refine ⟨k + 1, by omega, by go_num, (World.rowIs.set HR1.out k (.string (fmtB v))).congr (fun j _ => ?_), HB1.out.setCell (Nat.le_refl _) _⟩
        by_cases h1 : j = k
        · subst h1; rw [if_pos rfl, if_pos (by omega), HV.out]
        · by_cases h2 : j < k
          · rw [if_neg h1, if_pos h2, if_pos (by omega)]
          · rw [if_neg h1, if_neg h2, if_neg (by omega)]
      case measure => simp [intOf]; omega
    · obtain rfl : k = 3 := by omega
      have hcells : ∀ (j : Nat) x, [fmtB a, fmtB b, fmtB c][j]? = some x → wr.cell? ⟨w.heap.size, 0 + j, none⟩ = some (.string x) := by
        intro j x hx
        have hj : j < 3 := by
          rcases Nat.lt_or_ge j 3 with h' | h'
          · exact h'
          · rw [List.getElem?_eq_none (by simpa using h')] at hx; cases hx
        rw [Nat.zero_add, World.rowIs.cell hrow hj, if_pos hj]
        rcases (show j = 0 ∨ j = 1 ∨ j = 2 by omega) with rfl | rfl | rfl <;> simp at hx <;> subst hx <;> rfl
      have HC := Lib.hid hcells
      have HLt := Lib.hid (World.rowIs.lt hrow)
      have HE : Hid ((⟨(Lib.join ([fmtB a, fmtB b, fmtB c].map (·.data.toList)) (⟨#[44]⟩ : ByteArray).data.toList).toArray⟩ : ByteArray) = listB [a, b, c]) := Lib.hid rfl
      have HS : Hid ((Lib.join ([fmtB a, fmtB b, fmtB c].map (·.data.toList)) (⟨#[44]⟩ : ByteArray).data.toList).length ≤ 140737488355328) := Lib.hid (by
        have h1 := listB_small H.out
        have h2 : (listB [a, b, c]).size = (Lib.join ([fmtB a, fmtB b, fmtB c].map (·.data.toList)) (⟨#[44]⟩ : ByteArray).data.toList).length := by simp [listB, fmtB, ByteArray.size]
        omega)
      clear hrow hbel hcells
      go_wp2_with fail
      refine (Tryz.strings_Join w.heap.size 0 3 [fmtB a, fmtB b, fmtB c] ⟨#[44]⟩ wr HC.out HLt.out (by simp) (by simp) HS.out).mono ?_
      rintro e w1 ⟨rfl, hb⟩
      have HB1 := Lib.hid (HB.out.trans (hb.mono HB.out.size))
      clear hb
      go_wp2
      go_ret
      exact ⟨by rw [← HE.out]; rfl, HB1.out⟩

set_option maxRecDepth 20000 in
set_option maxHeartbeats 1600000 in
theorem sFmt (w : World) (B : Nat) (t : It) (hi : Ints w B t.A t.n t.xs) (hB : B ≤ w.heap.size) (hn : t.n ≤ 1048576) :
    Calls Tryz.prog 12 #[t.val] w fun e w' => e = .returned (.string (textB t.dat)) ∧ Below w.heap.size w w' := by
  obtain ⟨id, A, n, cc, xs⟩ := t
  unfold It.val
  simp only [] at hi hn ⊢
  have HI := Lib.hid hi
  obtain ⟨q, hq⟩ := bool_of (IsP (id, xs))
  have HQ := Lib.hid hq
  clear hi hq
  go_enter Tryz.func12, Tryz.ntmps12
  go_wp2_with fail
  refine (sIsItem _ B ⟨id, A, n, cc, xs⟩ (HI.out.below ((Below.refl B w).alloc hB _)) (by simp; omega) hn q HQ.out).mono ?_
  rintro e w1 ⟨rfl, hb1⟩
  have hx := (Below.refl w.heap.size w).alloc (Nat.le_refl _) (.cells #[.int .i64 id, .slice A n cc] 26)
  have HB1 := Lib.hid (hx.trans (hb1.mono (by simp)))
  cases q
  · have HT : Hid (textB (id, xs) = ⟨#[]⟩) := Lib.hid (textB_no (fun h => by have := HQ.out.2 h; cases this))
    clear hb1 hx
    go_wp2
    go_ret
    exact ⟨by show Ending.returned (.string ⟨#[]⟩) = _; simp only [It.dat]; rw [HT.out], HB1.out⟩
  · have HP := Lib.hid (HQ.out.1 rfl)
    obtain ⟨a, b, c, rfl⟩ := three_of HP.out.2.2
    obtain rfl : n = 3 := HI.out.1.symm
    have hd : (0 ≤ id ∧ id ≤ 99) ∧ (0 ≤ a ∧ a ≤ 9) ∧ (0 ≤ b ∧ b ≤ 9) ∧ (0 ≤ c ∧ c ≤ 9) := isP_parts HP.out
    obtain ⟨⟨h1, h2⟩, ha, hb, hc⟩ := hd
    have HABC := Lib.hid (And.intro ha (And.intro hb hc))
    clear ha hb hc
    obtain ⟨wg, hwg⟩ : ∃ wg, wg = w1 := ⟨_, rfl⟩
    rw [← hwg] at hb1 HB1 ⊢
    clear hwg
    have hg : w.heap.size < wg.heap.size := by have := hb1.size; simp at this; omega
    have q0 : wg.cell? ⟨w.heap.size, 0, none⟩ = some (.int .i64 id) := (hb1.cell (p := ⟨w.heap.size, 0, none⟩) (by simp)).trans (World.cell?_alloc_at _ _ _ _ rfl)
    have q1 : wg.cell? ⟨w.heap.size, 1, none⟩ = some (.slice A 3 cc) := (hb1.cell (p := ⟨w.heap.size, 1, none⟩) (by simp)).trans (World.cell?_alloc_at _ _ _ _ rfl)
    have HI1 := Lib.hid (HI.out.below (HB1.out.drew.mono hB))
    have HF := Lib.hid (fmt_small id h1 h2)
    have hf := HF.out
    have hl : (listB [a, b, c]).size ≤ 50 := listB_small HABC.out
    have hcat1 : ¬ (9223372036854775807 < (fmtB id).size + 1) := by omega
    have hcat2 : ¬ (9223372036854775807 < (fmtB id).size + 1 + (listB [a, b, c]).size) := by omega
    clear hb1 hx
    go_wp2
    have hs0 : Below wg.heap.size wg wg.drew ∧ wg.drew.cell? ⟨w.heap.size, 0, none⟩ = some (.int .i64 id) ∧ wg.drew.cell? ⟨w.heap.size, 1, none⟩ = some (.slice A 3 cc) := ⟨(Below.refl _ _).drew, q0, q1⟩
    refine wp_region_held (S := fun w' => Below wg.heap.size wg w' ∧ w'.cell? ⟨w.heap.size, 0, none⟩ = some (.int .i64 id) ∧ w'.cell? ⟨w.heap.size, 1, none⟩ = some (.slice A 3 cc)) (by kernel_rfl) ?_
    change wpAnyH _ _ _ _ _ _ _ _ (World.drew _)
    refine takeY 6 (i := 0) (v := ?v0a) rfl rfl (by kernel_rfl) (by kernel_rfl) (by kernel_rfl) (fun _ _ _ h => h) (by kernel_rfl) ?y0a hs0 ?_
    case y0a =>
      intro w' hw'; (try dsimp only at hw'); obtain ⟨e0, e1, e2⟩ := hw'; go_simp; try with_reducible rfl
    simp only [Act.put, List.setIfInBounds_toArray, List.set_cons_zero, List.set_cons_succ]
    refine takeY 7 (i := 1) (v := ?v1a) rfl rfl (by kernel_rfl) (by kernel_rfl) (by kernel_rfl) (fun _ _ _ h => h) (by kernel_rfl) ?y1a hs0 ?_
    case y1a =>
      intro w' hw'; (try dsimp only at hw'); obtain ⟨e0, e1, e2⟩ := hw'; go_simp; try with_reducible rfl
    simp only [Act.put, List.setIfInBounds_toArray, List.set_cons_zero, List.set_cons_succ]
    refine takeY 10 (i := 4) (v := ?v4a) rfl rfl (by kernel_rfl) (by kernel_rfl) (by kernel_rfl) (fun _ _ _ h => h) (by kernel_rfl) ?y4a hs0 ?_
    case y4a =>
      intro w' hw'; (try dsimp only at hw'); obtain ⟨e0, e1, e2⟩ := hw'; go_simp; try with_reducible rfl
    simp only [Act.put, List.setIfInBounds_toArray, List.set_cons_zero, List.set_cons_succ]
    refine takeY 11 (i := 5) (v := ?v5a) rfl rfl (by kernel_rfl) (by kernel_rfl) (by kernel_rfl) (fun _ _ _ h => h) (by kernel_rfl) ?y5a hs0 ?_
    case y5a =>
      intro w' hw'; (try dsimp only at hw'); obtain ⟨e0, e1, e2⟩ := hw'; go_simp; try with_reducible rfl
    simp only [Act.put, List.setIfInBounds_toArray, List.set_cons_zero, List.set_cons_succ]
    refine wpAnyH_ready (rs := [2]) (by kernel_rfl) (by simp) ?_
    refine AllReadyH.cons rfl (fun K hK => ?_) AllReadyH.nil
    go_simp; go_at_call 57; refine (sFormat id (by omega) (by omega) _).mono ?_; rintro e w3 ⟨rfl, h3⟩; replace h3 := (Below.refl wg.heap.size wg).drew.trans (h3.mono (Nat.le_refl _))
    refine hK.out _ _ ⟨h3, (h3.cell (p := ⟨w.heap.size, 0, none⟩) hg).trans q0, (h3.cell (p := ⟨w.heap.size, 1, none⟩) hg).trans q1⟩ (fun hS1 => ?_)
    clear hK K
    try simp only [Act.put, List.setIfInBounds_toArray, List.set_cons_zero, List.set_cons_succ]
    refine takeY 9 (i := 3) (v := ?v3a) rfl rfl (by kernel_rfl) (by kernel_rfl) (by kernel_rfl) (fun _ _ _ h => h) (by kernel_rfl) ?y3a hS1 ?_
    case y3a =>
      intro w' hw'; (try dsimp only at hw'); obtain ⟨e0, e1, e2⟩ := hw'; go_simp; try with_reducible rfl
    simp only [Act.put, List.setIfInBounds_toArray, List.set_cons_zero, List.set_cons_succ]
    refine wpAnyH_ready (rs := [6]) (by kernel_rfl) (by simp) ?_
    refine AllReadyH.cons rfl (fun K hK => ?_) AllReadyH.nil
    go_simp; go_at_call 58; refine (sList _ B A cc a b c (HI.out.below ((HB1.out.trans (h3.mono HB1.out.size)).mono hB)) (Nat.le_trans hB (Nat.le_trans HB1.out.size h3.size)) HABC.out).mono ?_; rintro e w4 ⟨rfl, h4⟩; replace h4 := h3.trans (h4.mono h3.size)
    refine hK.out _ _ ⟨h4, (h4.cell (p := ⟨w.heap.size, 0, none⟩) hg).trans q0, (h4.cell (p := ⟨w.heap.size, 1, none⟩) hg).trans q1⟩ (fun hS2 => ?_)
    clear hK K
    try simp only [Act.put, List.setIfInBounds_toArray, List.set_cons_zero, List.set_cons_succ]
    refine takeY 13 (i := 7) (v := ?v7a) rfl rfl (by kernel_rfl) (by kernel_rfl) (by kernel_rfl) (fun _ _ _ h => h) (by kernel_rfl) ?y7a hS2 ?_
    case y7a =>
      intro w' hw'; (try dsimp only at hw'); obtain ⟨e0, e1, e2⟩ := hw'; go_simp; try with_reducible rfl
    simp only [Act.put, List.setIfInBounds_toArray, List.set_cons_zero, List.set_cons_succ]
    refine takeY 2 (i := 8) (v := ?v8a) rfl rfl (by kernel_rfl) (by kernel_rfl) (by kernel_rfl) (fun _ _ _ h => h) (by kernel_rfl) ?y8a hS2 ?_
    case y8a =>
      intro w' hw'; (try dsimp only at hw'); obtain ⟨e0, e1, e2⟩ := hw'; go_simp; try with_reducible rfl
    simp only [Act.put, List.setIfInBounds_toArray, List.set_cons_zero, List.set_cons_succ]
    refine wpAnyH_done (by kernel_rfl) ?_ _
    clear hcat1 hcat2 hf hl
    go_wp2
    go_ret
    exact ⟨by simp only [It.dat]; rw [textB_yes HP.out]; rfl, HB1.out.trans (h4.mono HB1.out.size)⟩
set_option maxRecDepth 20000 in
set_option maxHeartbeats 1600000 in
theorem iFmt (w : World) (B : Nat) (t : It) (hi : Ints w B t.A t.n t.xs) (hB : B ≤ w.heap.size) (hpow : Pow w) :
    Calls Tryz.prog 7 #[t.val] w fun e w' => e = .returned (.string (textB t.dat)) ∧ Below w.heap.size w w' := by
  obtain ⟨id, A, n, cc, xs⟩ := t
  unfold It.val
  simp only [] at hi ⊢
  have HI := Lib.hid hi
  have HPw := Lib.hid hpow
  clear hpow
  obtain ⟨q, hq⟩ := bool_of (IsP (id, xs))
  have HQ := Lib.hid hq
  clear hi hq
  go_enter Tryz.func7, Tryz.ntmps7
  go_wp2_with fail
  refine (iIsItem _ B ⟨id, A, n, cc, xs⟩ (HI.out.below ((Below.refl B w).alloc hB _)) (by simp; omega) q HQ.out).mono ?_
  rintro e w1 ⟨rfl, hb1⟩
  have hx := (Below.refl w.heap.size w).alloc (Nat.le_refl _) (.cells #[.int .i64 id, .slice A n cc] 26)
  have HB1 := Lib.hid (hx.trans (hb1.mono (by simp)))
  cases q
  · have HT : Hid (textB (id, xs) = ⟨#[]⟩) := Lib.hid (textB_no (fun h => by have := HQ.out.2 h; cases this))
    clear hb1 hx
    go_wp2
    go_ret
    exact ⟨by show Ending.returned (.string ⟨#[]⟩) = _; simp only [It.dat]; rw [HT.out], HB1.out⟩
  · have HP := Lib.hid (HQ.out.1 rfl)
    obtain ⟨a, b, c, rfl⟩ := three_of HP.out.2.2
    obtain rfl : n = 3 := HI.out.1.symm
    have hd : (0 ≤ id ∧ id ≤ 99) ∧ (0 ≤ a ∧ a ≤ 9) ∧ (0 ≤ b ∧ b ≤ 9) ∧ (0 ≤ c ∧ c ≤ 9) := isP_parts HP.out
    obtain ⟨⟨h1, h2⟩, ha, hb, hc⟩ := hd
    have HABC := Lib.hid (And.intro ha (And.intro hb hc))
    clear ha hb hc
    obtain ⟨wg, hwg⟩ : ∃ wg, wg = w1 := ⟨_, rfl⟩
    rw [← hwg] at hb1 HB1 ⊢
    clear hwg
    have hg : w.heap.size < wg.heap.size := by have := hb1.size; simp at this; omega
    have q0 : wg.cell? ⟨w.heap.size, 0, none⟩ = some (.int .i64 id) := (hb1.cell (p := ⟨w.heap.size, 0, none⟩) (by simp)).trans (World.cell?_alloc_at _ _ _ _ rfl)
    have q1 : wg.cell? ⟨w.heap.size, 1, none⟩ = some (.slice A 3 cc) := (hb1.cell (p := ⟨w.heap.size, 1, none⟩) (by simp)).trans (World.cell?_alloc_at _ _ _ _ rfl)
    have HI1 := Lib.hid (HI.out.below (HB1.out.drew.mono hB))
    have HF := Lib.hid (fmt_small id h1 h2)
    have hf := HF.out
    have hl : (listB [a, b, c]).size ≤ 50 := listB_small HABC.out
    have hcat1 : ¬ (9223372036854775807 < (fmtB id).size + 1) := by omega
    have hcat2 : ¬ (9223372036854775807 < (fmtB id).size + 1 + (listB [a, b, c]).size) := by omega
    clear hb1 hx
    go_wp2
    have hs0 : Below wg.heap.size wg wg.drew ∧ wg.drew.cell? ⟨w.heap.size, 0, none⟩ = some (.int .i64 id) ∧ wg.drew.cell? ⟨w.heap.size, 1, none⟩ = some (.slice A 3 cc) := ⟨(Below.refl _ _).drew, q0, q1⟩
    refine wp_region_held (S := fun w' => Below wg.heap.size wg w' ∧ w'.cell? ⟨w.heap.size, 0, none⟩ = some (.int .i64 id) ∧ w'.cell? ⟨w.heap.size, 1, none⟩ = some (.slice A 3 cc)) (by kernel_rfl) ?_
    change wpAnyH _ _ _ _ _ _ _ _ (World.drew _)
    refine takeY 6 (i := 0) (v := ?v0b) rfl rfl (by kernel_rfl) (by kernel_rfl) (by kernel_rfl) (fun _ _ _ h => h) (by kernel_rfl) ?y0b hs0 ?_
    case y0b =>
      intro w' hw'; (try dsimp only at hw'); obtain ⟨e0, e1, e2⟩ := hw'; go_simp; try with_reducible rfl
    simp only [Act.put, List.setIfInBounds_toArray, List.set_cons_zero, List.set_cons_succ]
    refine takeY 7 (i := 1) (v := ?v1b) rfl rfl (by kernel_rfl) (by kernel_rfl) (by kernel_rfl) (fun _ _ _ h => h) (by kernel_rfl) ?y1b hs0 ?_
    case y1b =>
      intro w' hw'; (try dsimp only at hw'); obtain ⟨e0, e1, e2⟩ := hw'; go_simp; try with_reducible rfl
    simp only [Act.put, List.setIfInBounds_toArray, List.set_cons_zero, List.set_cons_succ]
    refine takeY 10 (i := 4) (v := ?v4b) rfl rfl (by kernel_rfl) (by kernel_rfl) (by kernel_rfl) (fun _ _ _ h => h) (by kernel_rfl) ?y4b hs0 ?_
    case y4b =>
      intro w' hw'; (try dsimp only at hw'); obtain ⟨e0, e1, e2⟩ := hw'; go_simp; try with_reducible rfl
    simp only [Act.put, List.setIfInBounds_toArray, List.set_cons_zero, List.set_cons_succ]
    refine takeY 11 (i := 5) (v := ?v5b) rfl rfl (by kernel_rfl) (by kernel_rfl) (by kernel_rfl) (fun _ _ _ h => h) (by kernel_rfl) ?y5b hs0 ?_
    case y5b =>
      intro w' hw'; (try dsimp only at hw'); obtain ⟨e0, e1, e2⟩ := hw'; go_simp; try with_reducible rfl
    simp only [Act.put, List.setIfInBounds_toArray, List.set_cons_zero, List.set_cons_succ]
    refine wpAnyH_ready (rs := [2]) (by kernel_rfl) (by simp) ?_
    refine AllReadyH.cons rfl (fun K hK => ?_) AllReadyH.nil
    go_simp; go_at_call 46; refine (iFormat id (by omega) (by omega) _ (HPw.out.below HB1.out.drew)).mono ?_; rintro e w3 ⟨rfl, h3⟩; replace h3 := (Below.refl wg.heap.size wg).drew.trans (h3.mono (Nat.le_refl _))
    refine hK.out _ _ ⟨h3, (h3.cell (p := ⟨w.heap.size, 0, none⟩) hg).trans q0, (h3.cell (p := ⟨w.heap.size, 1, none⟩) hg).trans q1⟩ (fun hS1 => ?_)
    clear hK K
    try simp only [Act.put, List.setIfInBounds_toArray, List.set_cons_zero, List.set_cons_succ]
    refine takeY 9 (i := 3) (v := ?v3b) rfl rfl (by kernel_rfl) (by kernel_rfl) (by kernel_rfl) (fun _ _ _ h => h) (by kernel_rfl) ?y3b hS1 ?_
    case y3b =>
      intro w' hw'; (try dsimp only at hw'); obtain ⟨e0, e1, e2⟩ := hw'; go_simp; try with_reducible rfl
    simp only [Act.put, List.setIfInBounds_toArray, List.set_cons_zero, List.set_cons_succ]
    refine wpAnyH_ready (rs := [6]) (by kernel_rfl) (by simp) ?_
    refine AllReadyH.cons rfl (fun K hK => ?_) AllReadyH.nil
    go_simp; go_at_call 47; refine (iJoin _ B A cc a b c (HI.out.below ((HB1.out.trans (h3.mono HB1.out.size)).mono hB)) (Nat.le_trans hB (Nat.le_trans HB1.out.size h3.size)) HABC.out (HPw.out.below (HB1.out.trans (h3.mono HB1.out.size)))).mono ?_; rintro e w4 ⟨rfl, h4⟩; replace h4 := h3.trans (h4.mono h3.size)
    refine hK.out _ _ ⟨h4, (h4.cell (p := ⟨w.heap.size, 0, none⟩) hg).trans q0, (h4.cell (p := ⟨w.heap.size, 1, none⟩) hg).trans q1⟩ (fun hS2 => ?_)
    clear hK K
    try simp only [Act.put, List.setIfInBounds_toArray, List.set_cons_zero, List.set_cons_succ]
    refine takeY 13 (i := 7) (v := ?v7b) rfl rfl (by kernel_rfl) (by kernel_rfl) (by kernel_rfl) (fun _ _ _ h => h) (by kernel_rfl) ?y7b hS2 ?_
    case y7b =>
      intro w' hw'; (try dsimp only at hw'); obtain ⟨e0, e1, e2⟩ := hw'; go_simp; try with_reducible rfl
    simp only [Act.put, List.setIfInBounds_toArray, List.set_cons_zero, List.set_cons_succ]
    refine takeY 2 (i := 8) (v := ?v8b) rfl rfl (by kernel_rfl) (by kernel_rfl) (by kernel_rfl) (fun _ _ _ h => h) (by kernel_rfl) ?y8b hS2 ?_
    case y8b =>
      intro w' hw'; (try dsimp only at hw'); obtain ⟨e0, e1, e2⟩ := hw'; go_simp; try with_reducible rfl
    simp only [Act.put, List.setIfInBounds_toArray, List.set_cons_zero, List.set_cons_succ]
    refine wpAnyH_done (by kernel_rfl) ?_ _
    clear hcat1 hcat2 hf hl
    go_wp2
    go_ret
    exact ⟨by simp only [It.dat]; rw [textB_yes HP.out]; rfl, HB1.out.trans (h4.mono HB1.out.size)⟩
end Go.Proofs.YtadjoiahllekdaaGreatDoor.num
