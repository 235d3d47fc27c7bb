/-
  The program's WeightLists: all lists of weights, rows of the call's own.
-/
import Derived.Test.YtjjlhiaghjipcaaRowsI
namespace Go.Proofs.Ytjjlhiaghjipcaa.num
set_option maxRecDepth 20000
open Go.RowKit
set_option linter.unusedVariables false
set_option linter.unusedSimpArgs false

/-- The lists behind i lists of the level before and m weights of the next. -/
def levK (j i m : Nat) : List (List Int) := ((lev j).take i).flatMap (fun l => [l ++ [0], l ++ [1], l ++ [2], l ++ [3]]) ++ (List.range m).map fun v => ((lev j)[i]?.getD []) ++ [((v : Nat) : Int)]
theorem levK_zero (j : Nat) : levK j 0 0 = [] := by simp [levK]
theorem levK_more (j i m : Nat) {l : List Int} (h : (lev j)[i]? = some l) : levK j i (m + 1) = levK j i m ++ [l ++ [(m : Int)]] := by
  unfold levK
  rw [List.range_succ, List.map_append, ← List.append_assoc, h]
  rfl
theorem levK_next (j i : Nat) {l : List Int} (h : (lev j)[i]? = some l) : levK j i 4 = levK j (i + 1) 0 := by
  unfold levK
  rw [take_at h, List.flatMap_append, h]
  simp [List.range_succ]
theorem levK_done (j : Nat) : levK j (lev j).length 0 = lev (j + 1) := by
  unfold levK
  rw [List.take_length]
  simp [lev]
theorem lev_small : ∀ j, j ≤ 3 → (lev j).length ≤ 64 := by
  intro j hj
  rw [lev_len]
  rcases (show j = 0 ∨ j = 1 ∨ j = 2 ∨ j = 3 by omega) with rfl | rfl | rfl | rfl <;> decide
theorem lev_each : ∀ j, j ≤ 3 → ∀ l ∈ lev j, l.length ≤ 3 := by
  intro j hj
  rcases (show j = 0 ∨ j = 1 ∨ j = 2 ∨ j = 3 by omega) with rfl | rfl | rfl | rfl <;> decide
theorem levK_len (j i m : Nat) (hj : j ≤ 2) (hi : i ≤ (lev j).length) (hm : m ≤ 4) : (levK j i m).length ≤ 300 := by
  have h1 := lev_small j (by omega)
  have h2 : ((lev j).take i).length ≤ 64 := by rw [List.length_take]; omega
  have h3 : ∀ L : List (List Int), (L.flatMap (fun l => [l ++ [(0 : Int)], l ++ [1], l ++ [2], l ++ [3]])).length = L.length * 4 := by
    intro L
    induction L with
    | nil => rfl
    | cons a r ih => rw [List.flatMap_cons, List.length_append, ih, List.length_cons]; simp; omega
  unfold levK
  rw [List.length_append, h3, List.length_map, List.length_range]
  omega
set_option maxRecDepth 20000 in
set_option maxHeartbeats 3200000 in
theorem iWL (w : World) :
    Calls Try.prog 15 #[] w fun e w' => (∃ b off c rows, e = .returned (.slice (some ⟨b, off, none⟩) 63 c) ∧ 63 ≤ c ∧ c ≤ maxLen ∧ xsR rows = wl ∧ RowsV w' w.heap.size (some ⟨b, off, none⟩) 63 rows) ∧ Below w.heap.size w w' := by
  have H0 : Hid (OwnR (w.alloc (.cells #[.slice none 0 0] 25)) w.heap.size (.slice (some ⟨w.heap.size, 0, none⟩) 1 1) [⟨none, 0, 0, []⟩]) := Lib.hid ⟨⟨rfl, .inr ⟨w.heap.size, 1, #[.slice none 0 0], rfl, Nat.le_refl _, heap_alloc_new w _, Nat.le_refl _, by decide, rfl, rfl⟩⟩, fun k x hk => by
      rcases k with _ | k
      · simp at hk; subst hk; exact ownI_nil _ _
      · simp at hk, fun k x b hk hb => by
      rcases k with _ | k
      · simp at hk; subst hk; cases hb
      · simp at hk, fun i j x y b hij hi hj => by
      rcases j with _ | j
      · omega
      · simp at hj⟩
  have HBz : Hid (Below w.heap.size w (w.alloc (.cells #[.slice none 0 0] 25))) := Lib.hid ((Below.refl _ w).alloc (Nat.le_refl _) _)
  go_enter Try.func15, Try.ntmps15
  go_wp2
  go_loopw [1, 7] (fun v iv wr => ∃ (j : Nat) (V : Value) (rows : List IR), j ≤ 3 ∧ iv = .int .i64 j ∧ V = v ∧ xsR rows = lev j ∧ OwnR wr w.heap.size V rows ∧ Below w.heap.size w wr) (fun _ iv _ => 3 - (intOf iv).toNat)
  case atStart => exact ⟨0, _, _, by decide, rfl, rfl, rfl, H0.out, HBz.out⟩
  case round =>
    obtain ⟨j, V, rows, hj, rfl, rfl, hx, hown, hbel⟩ := hrel
    obtain ⟨wo, rfl⟩ : ∃ wo, wo = wr := ⟨_, rfl⟩
    have HX := Lib.hid hx
    have HO := Lib.hid hown
    have HB := Lib.hid hbel
    obtain ⟨A, c, hV, hlc, hcm⟩ := hown.r.shape
    have hlen : rows.length = (lev j).length := by rw [← hx]; simp [xsR]
    have HLen := Lib.hid hlen
    clear hx hown hbel hlen
    subst hV
    by_cases hlt : j < 3
    · have hlt' : (j : Int) < 3 := by omega
      have hrl : rows.length ≤ 64 := by rw [HLen.out]; exact lev_small j (by omega)
      have HRd := Lib.hid (HO.out.r.read irC_len)
      go_wp2
      go_loopw [2, 11] (fun v iv wq => ∃ (i : Nat) (V : Value) (out : List IR), i ≤ rows.length ∧ iv = .int .i64 i ∧ V = v ∧ xsR out = levK j i 0 ∧ OwnR wq wo.heap.size V out ∧ Below wo.heap.size wo wq) (fun _ iv _ => rows.length - (intOf iv).toNat)
      case atStart => exact ⟨0, _, [], Nat.zero_le _, rfl, rfl, by rw [levK_zero]; rfl, OwnX.nil _ _, Below.refl _ _⟩
      case round =>
        obtain ⟨i, V, out, hi, rfl, rfl, hx, hown, hbel⟩ := hrel
        have HX1 := Lib.hid hx
        have HO1 := Lib.hid hown
        have HB1 := Lib.hid hbel
        clear hx hown
        by_cases hit : i < rows.length
        · obtain ⟨b, off, y, hA, hb, hat, hd⟩ := ir_at HRd.out hit
          subst hA
          have f0 := (hbel.cell (p := ⟨b, off + i, none⟩) hb).trans hd
          have hit' : (i : Int) < (rows.length : Int) := by omega
          have hyl : (lev j)[i]? = some y.xs := by rw [← HX.out]; unfold xsR; rw [List.getElem?_map, hat]; rfl
          have HYl := Lib.hid hyl
          have HYx : Hid (OwnI wo w.heap.size y.val y.xs) := Lib.hid (HO.out.x i y hat)
          have hy3 : y.xs.length ≤ 3 := lev_each j (by omega) _ (mem_of_at hyl)
          have HCl : Hid (∀ W, Below wo.heap.size wo W → Calls Try.prog 55 #[.slice y.A y.n y.c] W fun e w' => ∃ v, e = .returned v ∧ OwnI w' W.heap.size v y.xs ∧ Below W.heap.size W w') := Lib.hid fun W hW => cloneI W wo.heap.size y.A y.n y.c y.xs ((ownI_at HYx.out).below hW) hW.size (by have := (ownI_at HYx.out).1; omega)
          clear hd hat hyl hbel
          go_wp2
          clear f0
          go_loopw [2, 15] (fun v iv wq => ∃ (m : Nat) (V : Value) (out : List IR), m ≤ 4 ∧ iv = .int .i64 m ∧ V = v ∧ xsR out = levK j i m ∧ OwnR wq wo.heap.size V out ∧ Below wo.heap.size wo wq) (fun _ iv _ => 4 - (intOf iv).toNat)
          case atStart => exact ⟨0, _, out, by decide, rfl, rfl, HX1.out, HO1.out, HB1.out⟩
          case round =>
            obtain ⟨m, V, out, hm, rfl, rfl, hx, hown, hbel⟩ := hrel
            have HX2 := Lib.hid hx
            have HO2 := Lib.hid hown
            have HB2 := Lib.hid hbel
            have HLo : Hid (out.length ≤ 300) := Lib.hid (by
              have h1 := congrArg List.length hx
              have h2 := levK_len j i m (by omega) (by rw [← HLen.out]; exact hi) hm
              simp only [xsR, List.length_map] at h1
              omega)
            clear hx hown hbel HO1 HX1
            by_cases hmt : m < 4
            · have hmt' : (m : Int) < 4 := by omega
              go_wp2_with fail
              refine (HCl.out _ HB2.out).mono ?_
              rintro e w2 ⟨v3, rfl, ho3, hb2⟩
              have HO3 := Lib.hid ho3
              have HB3 := Lib.hid hb2
              have HO23 := Lib.hid (HO2.out.below hb2)
              have HB23 := Lib.hid (below_on HB2.out hb2)
              clear ho3 hb2
              go_wp2_with (at_builtin; refine wp_appI1 w2 (by rfl) (.tmp 20) (.tmp 22) (by rfl) _ _ _ (by rfl) HO3.out _ (m : Int) (by rfl) 1 (by rfl) (by omega) HB3.out.size ?_)
              rintro v4 w3 ho4 hg4 hat4
              obtain ⟨A4, n4, c4, hv4, -⟩ := ho4.ints
              subst hv4
              have hb3 : Below wr.heap.size wr w3 := HB3.out.grown hg4 HB3.out.size (fun k hk => ownI_lows HO3.out k hk)
              have HO24 := Lib.hid (HO2.out.below hb3)
              have HB24 := Lib.hid (below_on HB2.out hb3)
              have HY4 : Hid (OwnI w3 wo.heap.size (IR.val ⟨A4, n4, c4, y.xs ++ [(m : Int)]⟩) (y.xs ++ [(m : Int)])) := Lib.hid (ownI_lower ho4 HB2.out.size)
              have HAp : Hid (∀ b, (IR.val ⟨A4, n4, c4, y.xs ++ [(m : Int)]⟩).ownBlock = some b → ¬ hasX IRK V out b) := Lib.hid fun b h1 h2 => by
                have h3 := (HO2.out.has_in h2).2
                have h4 := ownI_lows ho4 b h1
                omega
              clear ho4 hg4 hat4 hb3 HO3 HO23 HB23
              go_wp2_with (at_builtin; refine wp_appR w3 (by rfl) (.tmp 18) (.tmp 24) (by rfl) wo.heap.size V out (by rfl) HO24.out ⟨A4, n4, c4, y.xs ++ [(m : Int)]⟩ HY4.out HAp.out _ (by rfl) 1 (by rfl) (by have := HLo.out; omega) HB24.out.size ?_)
              rintro v5 w4 ho5 hg5 hb5
              have HO5 := Lib.hid ho5
              have HB5 := Lib.hid (HB24.out.trans hb5)
              clear ho5 hg5 hb5
              go_wp2
              go_roundw
              case rel => exact ⟨m + 1, v5, out ++ [⟨A4, n4, c4, y.xs ++ [(m : Int)]⟩], by omega, by go_num, rfl, by rw [levK_more j i m HYl.out, ← HX2.out]; simp [xsR], HO5.out, HB5.out⟩
              case measure => simp [intOf]; omega
            · obtain rfl : m = 4 := by omega
              go_wp2
              go_roundw
              case rel => exact ⟨i + 1, V, out, by omega, by go_num, rfl, by rw [HX2.out, levK_next j i HYl.out], HO2.out, HB2.out⟩
              case measure => simp [intOf]; omega
        · obtain rfl : i = rows.length := by omega
          have e : levK j rows.length 0 = lev (j + 1) := by rw [HLen.out]; exact levK_done j
          have HE := Lib.hid e
          clear hbel e
          go_wp2
          go_roundw
          case rel => exact ⟨j + 1, V, out, by omega, by go_num, rfl, by rw [HX1.out, HE.out], HO1.out.low HB.out.size, below_on HB.out HB1.out⟩
          case measure => simp [intOf]; omega
    · obtain rfl : j = 3 := by omega
      have h64 : rows.length = 64 := HLen.out
      obtain ⟨g, rfl⟩ : ∃ g, A = some ⟨g, 0, none⟩ := by
        rcases HO.out.r.row with ⟨e, he⟩ | ⟨g, cap, F, e, _⟩
        · rw [he] at h64; simp at h64
        · injection e with e1 e2 e3
          exact ⟨g, e1⟩
      rw [h64] at hlc
      have HV := HO.out.view
      rw [h64] at HV
      have HV2 := Lib.hid (HV.tail (by decide))
      have HXt : Hid (xsR rows.tail = wl) := Lib.hid (by unfold xsR; rw [List.map_tail]; show (xsR rows).tail = wl; rw [HX.out]; exact lev_three)
      have HCm := Lib.hid hcm
      have hcm' : (c : Int) ≤ 9223372036854775807 := by unfold maxLen at hcm; omega
      have hlc' : (64 : Int) ≤ (c : Int) := by omega
      have h1f : ¬ c = 1 := by omega
      clear HV hcm HO HX
      rw [h64]
      go_wp2
      go_ret
      exact ⟨⟨g, 1, c - 1, rows.tail, rfl, by omega, by have := HCm.out; unfold maxLen at this ⊢; omega, HXt.out, HV2.out⟩, HB.out⟩
end Go.Proofs.Ytjjlhiaghjipcaa.num
