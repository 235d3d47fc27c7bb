/-
  The model's IsWish: its contract.
-/
import Derived.Test.YtceiocdemhkcdaaGreatWishSpec
import Derived.Test.YtceiocdemhkcdaaGreatItemSpec
namespace Go.Proofs.YtceiocdemhkcdaaGreat.num
set_option maxRecDepth 20000
open Go.RowKit
set_option linter.unusedVariables false

theorem isW01 {k f v : Int} {ls : List Int} {ps : List (Int × Int)} (hk : k = 0 ∨ k = 1) (hf : 0 ≤ f ∧ f ≤ 2) : IsW ⟨k, f, v, ls, ps⟩ ↔ v = 0 ∧ ls = [] ∧ ps = [] := by
  constructor
  · intro ⟨_, _, h1, h2, h3⟩
    dsimp only at h1 h2 h3
    rw [if_neg (by omega)] at h1 h2 h3
    exact ⟨h1, h2, h3⟩
  · rintro ⟨rfl, rfl, rfl⟩
    exact ⟨hf, by dsimp only; omega, by rw [if_neg (by dsimp only; omega)], by rw [if_neg (by dsimp only; omega)], by rw [if_neg (by dsimp only; omega)]⟩
theorem isW2 {f v : Int} {ls : List Int} {ps : List (Int × Int)} (hf : 0 ≤ f ∧ f ≤ 2) : IsW ⟨2, f, v, ls, ps⟩ ↔ InR v ∧ ls = [] ∧ ps = [] := by
  constructor
  · intro ⟨_, _, h1, h2, h3⟩
    exact ⟨h1, h2, h3⟩
  · rintro ⟨h, rfl, rfl⟩
    exact ⟨hf, ⟨by show (0:Int) ≤ 2; decide, by show (2:Int) ≤ 4; decide⟩, h, rfl, rfl⟩
theorem isW3 {f v : Int} {ls : List Int} {ps : List (Int × Int)} (hf : 0 ≤ f ∧ f ≤ 2) : IsW ⟨3, f, v, ls, ps⟩ ↔ v = 0 ∧ Asc ls ∧ ps = [] := by
  constructor
  · intro ⟨_, _, h1, h2, h3⟩
    exact ⟨h1, h2, h3⟩
  · rintro ⟨rfl, h, rfl⟩
    exact ⟨hf, ⟨by show (0:Int) ≤ 3; decide, by show (3:Int) ≤ 4; decide⟩, rfl, h, rfl⟩
theorem isW4 {f v : Int} {ls : List Int} {ps : List (Int × Int)} (hf : 0 ≤ f ∧ f ≤ 2) : IsW ⟨4, f, v, ls, ps⟩ ↔ v = 0 ∧ ls = [] ∧ OkP ps := by
  constructor
  · intro ⟨_, _, h1, h2, h3⟩
    exact ⟨h1, h2, h3⟩
  · rintro ⟨rfl, rfl, h⟩
    exact ⟨hf, ⟨by show (0:Int) ≤ 4; decide, by show (4:Int) ≤ 4; decide⟩, rfl, rfl, h⟩

set_option maxRecDepth 20000 in
set_option maxHeartbeats 1600000 in
theorem sIsWish (w : World) (B : Nat) (t : Wi) (hi : WiIn w B t) (hB : B ≤ w.heap.size) (hn : t.Short) (b : Bool) (hb : b = true ↔ IsW t.dat) :
    Calls Tryz.prog 96 #[t.val] w fun e w' => e = .returned (.bool b) ∧ Below w.heap.size w w' := by
  obtain ⟨k, f, v, LA, Ln, Lc, ls, PA, Pn, Pc, ps⟩ := t
  obtain ⟨-, -, -, hl, hp⟩ := hi
  unfold Wi.val
  simp only [Wi.dat, Wi.Short] at hl hp hn hb ⊢
  have HL := Lib.hid hl
  have HP := Lib.hid hp
  have HB := Lib.hid hb
  have HN := Lib.hid hn
  have HB1 : Hid (∀ o : Obj, Below B w (w.alloc o)) := Lib.hid fun o => (Below.refl B w).alloc hB _
  have HW1 : Hid (∀ o : Obj, Below w.heap.size w (w.alloc o)) := Lib.hid fun o => (Below.refl _ w).alloc (Nat.le_refl _) _
  have HLn : Hid (ls = [] ↔ Ln = 0) := by
    show _ ↔ _
    rw [← hl.1, List.length_eq_zero_iff]
  have HPn : Hid (ps = [] ↔ ((Pn : Int) == 0) = true) := by
    show _ ↔ _
    rw [← hp.1, ← List.length_eq_zero_iff]
    simp
  clear hl hp hb hn
  have HNo : Hid (¬ IsW ⟨k, f, v, ls, ps⟩ → b = false) := Lib.hid fun h => by
    cases b
    · rfl
    · exact absurd (HB.out.1 rfl) h
  obtain ⟨qf, hqf⟩ := bool_of (0 ≤ f ∧ f ≤ 2)
  have HQF := Lib.hid hqf
  clear hqf
  cases qf
  · obtain rfl := HNo.out fun h => by have := HQF.out.2 h.f; cases this
    go_enter Tryz.func96, Tryz.ntmps96
    go_wp2_with fail
    refine (in_of f 0 2 false HQF.out _).mono ?_
    rintro e w1 ⟨rfl, rfl⟩
    go_wp2
    go_ret
    exact ⟨rfl, HW1.out _⟩
  · have HF := Lib.hid (HQF.out.1 rfl)
    clear HQF
    by_cases k0 : k = 0
    · subst k0
      by_cases hv : v = 0
      · subst hv
        by_cases hL : Ln = 0
        · have hL' : ((Ln : Int) == 0) = true := by simp [hL]
          have HLL := Lib.hid (HLn.out.2 hL)
          clear hL
          have HE : Hid (b = ((Pn : Int) == 0)) := Lib.hid (Bool.eq_iff_iff.2 (HB.out.trans ((isW01 (.inl rfl) HF.out).trans ⟨fun h => HPn.out.1 h.2.2, fun h => ⟨rfl, HLL.out, HPn.out.2 h⟩⟩)))
          go_enter Tryz.func96, Tryz.ntmps96
          go_wp2_with fail
          refine (in_of f 0 2 true ⟨fun _ => HF.out, fun _ => rfl⟩ _).mono ?_
          rintro e w1 ⟨rfl, rfl⟩
          go_wp2
          go_ret
          exact ⟨congrArg (fun x => Ending.returned (.bool x)) HE.out.symm, HW1.out _⟩
        · have hL' : ((Ln : Int) == 0) = false := by simp [hL]
          have HLL := Lib.hid hL
          clear hL
          obtain rfl := HNo.out fun h => HLL.out (HLn.out.1 ((isW01 (.inl rfl) HF.out).1 h).2.1)
          go_enter Tryz.func96, Tryz.ntmps96
          go_wp2_with fail
          refine (in_of f 0 2 true ⟨fun _ => HF.out, fun _ => rfl⟩ _).mono ?_
          rintro e w1 ⟨rfl, rfl⟩
          go_wp2
          go_ret
          exact ⟨rfl, HW1.out _⟩
      · have hv' : (v == 0) = false := by simpa using hv
        have HV := Lib.hid hv
        clear hv
        obtain rfl := HNo.out fun h => HV.out ((isW01 (.inl rfl) HF.out).1 h).1
        go_enter Tryz.func96, Tryz.ntmps96
        go_wp2_with fail
        refine (in_of f 0 2 true ⟨fun _ => HF.out, fun _ => rfl⟩ _).mono ?_
        rintro e w1 ⟨rfl, rfl⟩
        go_wp2
        go_ret
        exact ⟨rfl, HW1.out _⟩
    · by_cases k1 : k = 1
      · subst k1
        clear k0
        by_cases hv : v = 0
        · subst hv
          by_cases hL : Ln = 0
          · have hL' : ((Ln : Int) == 0) = true := by simp [hL]
            have HLL := Lib.hid (HLn.out.2 hL)
            clear hL
            have HE : Hid (b = ((Pn : Int) == 0)) := Lib.hid (Bool.eq_iff_iff.2 (HB.out.trans ((isW01 (.inr rfl) HF.out).trans ⟨fun h => HPn.out.1 h.2.2, fun h => ⟨rfl, HLL.out, HPn.out.2 h⟩⟩)))
            go_enter Tryz.func96, Tryz.ntmps96
            go_wp2_with fail
            refine (in_of f 0 2 true ⟨fun _ => HF.out, fun _ => rfl⟩ _).mono ?_
            rintro e w1 ⟨rfl, rfl⟩
            go_wp2
            go_ret
            exact ⟨congrArg (fun x => Ending.returned (.bool x)) HE.out.symm, HW1.out _⟩
          · have hL' : ((Ln : Int) == 0) = false := by simp [hL]
            have HLL := Lib.hid hL
            clear hL
            obtain rfl := HNo.out fun h => HLL.out (HLn.out.1 ((isW01 (.inr rfl) HF.out).1 h).2.1)
            go_enter Tryz.func96, Tryz.ntmps96
            go_wp2_with fail
            refine (in_of f 0 2 true ⟨fun _ => HF.out, fun _ => rfl⟩ _).mono ?_
            rintro e w1 ⟨rfl, rfl⟩
            go_wp2
            go_ret
            exact ⟨rfl, HW1.out _⟩
        · have hv' : (v == 0) = false := by simpa using hv
          have HV := Lib.hid hv
          clear hv
          obtain rfl := HNo.out fun h => HV.out ((isW01 (.inr rfl) HF.out).1 h).1
          go_enter Tryz.func96, Tryz.ntmps96
          go_wp2_with fail
          refine (in_of f 0 2 true ⟨fun _ => HF.out, fun _ => rfl⟩ _).mono ?_
          rintro e w1 ⟨rfl, rfl⟩
          go_wp2
          go_ret
          exact ⟨rfl, HW1.out _⟩
      · by_cases k2 : k = 2
        · subst k2
          clear k0 k1
          obtain ⟨qv, hqv⟩ := bool_of (0 ≤ v ∧ v ≤ 9)
          have HQV := Lib.hid hqv
          clear hqv
          cases qv
          · obtain rfl := HNo.out fun h => by have := HQV.out.2 ((isW2 HF.out).1 h).1; cases this
            go_enter Tryz.func96, Tryz.ntmps96
            go_wp2_with fail
            refine (in_of f 0 2 true ⟨fun _ => HF.out, fun _ => rfl⟩ _).mono ?_
            rintro e w1 ⟨rfl, rfl⟩
            go_wp2_with fail
            refine (in_of v 0 9 false HQV.out _).mono ?_
            rintro e w1 ⟨rfl, rfl⟩
            go_wp2
            go_ret
            exact ⟨rfl, HW1.out _⟩
          · have HV := Lib.hid (HQV.out.1 rfl)
            by_cases hL : Ln = 0
            · have hL' : ((Ln : Int) == 0) = true := by simp [hL]
              have HLL := Lib.hid (HLn.out.2 hL)
              clear hL
              have HE : Hid (b = ((Pn : Int) == 0)) := Lib.hid (Bool.eq_iff_iff.2 (HB.out.trans ((isW2 HF.out).trans ⟨fun h => HPn.out.1 h.2.2, fun h => ⟨HV.out, HLL.out, HPn.out.2 h⟩⟩)))
              go_enter Tryz.func96, Tryz.ntmps96
              go_wp2_with fail
              refine (in_of f 0 2 true ⟨fun _ => HF.out, fun _ => rfl⟩ _).mono ?_
              rintro e w1 ⟨rfl, rfl⟩
              go_wp2_with fail
              refine (in_of v 0 9 true ⟨fun _ => HV.out, fun _ => rfl⟩ _).mono ?_
              rintro e w1 ⟨rfl, rfl⟩
              go_wp2
              go_ret
              exact ⟨congrArg (fun x => Ending.returned (.bool x)) HE.out.symm, HW1.out _⟩
            · have hL' : ((Ln : Int) == 0) = false := by simp [hL]
              have HLL := Lib.hid hL
              clear hL
              obtain rfl := HNo.out fun h => HLL.out (HLn.out.1 ((isW2 HF.out).1 h).2.1)
              go_enter Tryz.func96, Tryz.ntmps96
              go_wp2_with fail
              refine (in_of f 0 2 true ⟨fun _ => HF.out, fun _ => rfl⟩ _).mono ?_
              rintro e w1 ⟨rfl, rfl⟩
              go_wp2_with fail
              refine (in_of v 0 9 true ⟨fun _ => HV.out, fun _ => rfl⟩ _).mono ?_
              rintro e w1 ⟨rfl, rfl⟩
              go_wp2
              go_ret
              exact ⟨rfl, HW1.out _⟩
        · by_cases k3 : k = 3
          · subst k3
            clear k0 k1 k2
            by_cases hv : v = 0
            · subst hv
              obtain ⟨ql, hql⟩ := bool_of (Asc ls)
              have HQL := Lib.hid hql
              clear hql
              cases ql
              · obtain rfl := HNo.out fun h => by have := HQL.out.2 ((isW3 HF.out).1 h).2.1; cases this
                go_enter Tryz.func96, Tryz.ntmps96
                go_wp2_with fail
                refine (in_of f 0 2 true ⟨fun _ => HF.out, fun _ => rfl⟩ _).mono ?_
                rintro e w1 ⟨rfl, rfl⟩
                go_wp2_with fail
                refine (ascS _ B LA Ln Lc ls (HL.out.below (HB1.out _)) HN.out.1 false HQL.out).mono ?_
                rintro e w1 ⟨rfl, hb1⟩
                have HBB := Lib.hid ((HW1.out _).trans (hb1.mono (by simp)))
                have c4 : w1.cell? ⟨w.heap.size, 4, none⟩ = some (.slice PA Pn Pc) := (hb1.cell (p := ⟨w.heap.size, 4, none⟩) (by simp)).trans (by rw [World.cell?_alloc_at _ _ _ _ rfl]; rfl)
                clear hb1
                go_wp2
                go_ret
                exact ⟨rfl, HBB.out⟩
              · have HAs := Lib.hid (HQL.out.1 rfl)
                clear HQL
                have HE : Hid (b = ((Pn : Int) == 0)) := Lib.hid (Bool.eq_iff_iff.2 (HB.out.trans ((isW3 HF.out).trans ⟨fun h => HPn.out.1 h.2.2, fun h => ⟨rfl, HAs.out, HPn.out.2 h⟩⟩)))
                go_enter Tryz.func96, Tryz.ntmps96
                go_wp2_with fail
                refine (in_of f 0 2 true ⟨fun _ => HF.out, fun _ => rfl⟩ _).mono ?_
                rintro e w1 ⟨rfl, rfl⟩
                go_wp2_with fail
                refine (ascS _ B LA Ln Lc ls (HL.out.below (HB1.out _)) HN.out.1 true ⟨fun _ => HAs.out, fun _ => rfl⟩).mono ?_
                rintro e w1 ⟨rfl, hb1⟩
                have HBB := Lib.hid ((HW1.out _).trans (hb1.mono (by simp)))
                have c4 : w1.cell? ⟨w.heap.size, 4, none⟩ = some (.slice PA Pn Pc) := (hb1.cell (p := ⟨w.heap.size, 4, none⟩) (by simp)).trans (by rw [World.cell?_alloc_at _ _ _ _ rfl]; rfl)
                clear hb1
                go_wp2
                go_ret
                exact ⟨congrArg (fun x => Ending.returned (.bool x)) HE.out.symm, HBB.out⟩
            · have hv' : (v == 0) = false := by simpa using hv
              have HV := Lib.hid hv
              clear hv
              obtain rfl := HNo.out fun h => HV.out ((isW3 HF.out).1 h).1
              go_enter Tryz.func96, Tryz.ntmps96
              go_wp2_with fail
              refine (in_of f 0 2 true ⟨fun _ => HF.out, fun _ => rfl⟩ _).mono ?_
              rintro e w1 ⟨rfl, rfl⟩
              go_wp2
              go_ret
              exact ⟨rfl, HW1.out _⟩
          · by_cases k4 : k = 4
            · subst k4
              clear k0 k1 k2 k3
              by_cases hv : v = 0
              · subst hv
                by_cases hL : Ln = 0
                · have hL' : ((Ln : Int) == 0) = true := by simp [hL]
                  have HLL := Lib.hid (HLn.out.2 hL)
                  clear hL
                  go_enter Tryz.func96, Tryz.ntmps96
                  go_wp2_with fail
                  refine (in_of f 0 2 true ⟨fun _ => HF.out, fun _ => rfl⟩ _).mono ?_
                  rintro e w1 ⟨rfl, rfl⟩
                  go_wp2_with fail
                  refine (sArePairs _ B PA Pn Pc ps (HP.out.below (HB1.out _)) (by simp; omega) HN.out.2 b (HB.out.trans ((isW4 HF.out).trans ⟨fun h => h.2.2, fun h => ⟨rfl, HLL.out, h⟩⟩))).mono ?_
                  rintro e w1 ⟨rfl, hb1⟩
                  have HBB := Lib.hid ((HW1.out _).trans (hb1.mono (by simp)))
                  clear hb1
                  go_wp2
                  go_ret
                  exact ⟨rfl, HBB.out⟩
                · have hL' : ((Ln : Int) == 0) = false := by simp [hL]
                  have HLL := Lib.hid hL
                  clear hL
                  obtain rfl := HNo.out fun h => HLL.out (HLn.out.1 ((isW4 HF.out).1 h).2.1)
                  go_enter Tryz.func96, Tryz.ntmps96
                  go_wp2_with fail
                  refine (in_of f 0 2 true ⟨fun _ => HF.out, fun _ => rfl⟩ _).mono ?_
                  rintro e w1 ⟨rfl, rfl⟩
                  go_wp2
                  go_ret
                  exact ⟨rfl, HW1.out _⟩
              · have hv' : (v == 0) = false := by simpa using hv
                have HV := Lib.hid hv
                clear hv
                obtain rfl := HNo.out fun h => HV.out ((isW4 HF.out).1 h).1
                go_enter Tryz.func96, Tryz.ntmps96
                go_wp2_with fail
                refine (in_of f 0 2 true ⟨fun _ => HF.out, fun _ => rfl⟩ _).mono ?_
                rintro e w1 ⟨rfl, rfl⟩
                go_wp2
                go_ret
                exact ⟨rfl, HW1.out _⟩
            · have f0 : (k == 0) = false := by simpa using k0
              have f1 : (k == 1) = false := by simpa using k1
              have f2 : (k == 2) = false := by simpa using k2
              have f3 : (k == 3) = false := by simpa using k3
              have f4 : (k == 4) = false := by simpa using k4
              obtain rfl := HNo.out fun h => by have := h.k; dsimp only at this; omega
              clear k0 k1 k2 k3 k4
              go_enter Tryz.func96, Tryz.ntmps96
              go_wp2_with fail
              refine (in_of f 0 2 true ⟨fun _ => HF.out, fun _ => rfl⟩ _).mono ?_
              rintro e w1 ⟨rfl, rfl⟩
              go_wp2
              go_ret
              exact ⟨rfl, HW1.out _⟩
end Go.Proofs.YtceiocdemhkcdaaGreat.num
