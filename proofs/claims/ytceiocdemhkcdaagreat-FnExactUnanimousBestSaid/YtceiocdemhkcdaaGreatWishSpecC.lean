/-
  The model's rank and comparison of values, for a wish.
-/
import Derived.Test.YtceiocdemhkcdaaGreatWishSpecB
namespace Go.Proofs.YtceiocdemhkcdaaGreat.num
set_option maxRecDepth 20000
open Go.RowKit
set_option linter.unusedVariables false

/-- The cells of a box of five that the call laid, behind calls. -/
theorem box5 {w w' : World} {v0 v1 v2 v3 v4 : Value} {T : TypeId} (hb : Below (w.alloc (.cells #[v0, v1, v2, v3, v4] T)).heap.size (w.alloc (.cells #[v0, v1, v2, v3, v4] T)) w') :
    w'.cell? ⟨w.heap.size, 0, none⟩ = some v0 ∧ w'.cell? ⟨w.heap.size, 1, none⟩ = some v1 ∧ w'.cell? ⟨w.heap.size, 2, none⟩ = some v2 ∧ w'.cell? ⟨w.heap.size, 3, none⟩ = some v3 ∧ w'.cell? ⟨w.heap.size, 4, none⟩ = some v4 ∧ w.heap.size < w'.heap.size := by
  have hc : ∀ j v, #[v0, v1, v2, v3, v4][j]? = some v → w'.cell? ⟨w.heap.size, j, none⟩ = some v := fun j v h => (hb.cell (p := ⟨w.heap.size, j, none⟩) (by simp)).trans (by rw [World.cell?_alloc_at _ _ _ _ rfl]; exact h)
  exact ⟨hc 0 _ rfl, hc 1 _ rfl, hc 2 _ rfl, hc 3 _ rfl, hc 4 _ rfl, by have := hb.size; simp at this; omega⟩

theorem IsW.val2 {d : WD} (h : IsW d) (hk : d.kind = 2) : InR d.value := by have := h.v; rwa [if_pos hk] at this
theorem rankW3 {f x v : Int} {ls : List Int} {ps : List (Int × Int)} : rankW ⟨3, f, x, ls, ps⟩ v = if v ∈ ls then 0 else 1 := rfl
theorem rankW2 {f x v : Int} {ls : List Int} {ps : List (Int × Int)} : rankW ⟨2, f, x, ls, ps⟩ v = if v < x then x - v else v - x := rfl
set_option maxRecDepth 20000 in
theorem sRank (w : World) (B : Nat) (t : Wi) (hi : WiIn w B t) (hB : B ≤ w.heap.size) (hn : t.Short) (hw : IsW t.dat) (h4 : t.kind ≠ 4) (x : Int) (hx : InR x) :
    Calls Tryz.prog 138 #[t.val, .int .i64 x] w fun e w' => e = .returned (.int .i64 (rankW t.dat x)) ∧ Below w.heap.size w w' := by
  have hv := fun hk => hw.val2 hk
  have hk := hw.k
  obtain ⟨k, f, v, LA, Ln, Lc, ls, PA, Pn, Pc, ps⟩ := t
  obtain ⟨-, -, -, hl, hp⟩ := hi
  unfold Wi.val
  simp only [Wi.dat, Wi.Short] at hl hp hn hk hv h4 ⊢
  obtain ⟨x0, x9⟩ := hx
  have HL := Lib.hid hl
  have HN := Lib.hid hn
  have HB1 : Hid (∀ o : Obj, Below B w (w.alloc o)) := Lib.hid fun o => (Below.refl B w).alloc hB _
  have HW1 : Hid (∀ o : Obj, Below w.heap.size w (w.alloc o)) := Lib.hid fun o => (Below.refl _ w).alloc (Nat.le_refl _) _
  clear hl hp hn hw
  rcases (show k = 0 ∨ k = 1 ∨ k = 2 ∨ k = 3 by omega) with rfl | rfl | rfl | rfl
  · clear hv hk h4
    go_enter Tryz.func138, Tryz.ntmps138
    go_wp2
    go_ret
    exact ⟨rfl, HW1.out _⟩
  · clear hv hk h4
    go_enter Tryz.func138, Tryz.ntmps138
    go_wp2
    go_ret
    exact ⟨rfl, HW1.out _⟩
  · obtain ⟨v0, v9⟩ := hv rfl
    clear hk h4 hv
    rw [rankW2]
    by_cases hxv : x < v
    · rw [if_pos hxv]
      go_enter Tryz.func138, Tryz.ntmps138
      go_wp2
      go_ret
      exact ⟨rfl, HW1.out _⟩
    · rw [if_neg hxv]
      go_enter Tryz.func138, Tryz.ntmps138
      go_wp2
      go_ret
      exact ⟨rfl, HW1.out _⟩
  · clear hv hk h4
    obtain ⟨q, hq⟩ := bool_of (x ∈ ls)
    have HQ := Lib.hid hq
    have hr : rankW ⟨3, f, v, ls, ps⟩ x = if q = true then 0 else 1 := by
      rw [rankW3]
      simp only [hq]
    have HR := Lib.hid hr
    clear hq hr
    go_enter Tryz.func138, Tryz.ntmps138
    go_wp2_with fail
    refine (has_of _ B LA Ln Lc ls (HL.out.below (HB1.out _)) (by have := HN.out.1; omega) x q HQ.out).mono ?_
    rintro e w1 ⟨rfl, rfl⟩
    cases q
    · go_wp2
      go_ret
      exact ⟨congrArg (fun x => Ending.returned (.int .i64 x)) HR.out.symm, HW1.out _⟩
    · go_wp2
      go_ret
      exact ⟨congrArg (fun x => Ending.returned (.int .i64 x)) HR.out.symm, HW1.out _⟩

theorem rankW_le {d : WD} (hw : IsW d) (h4 : d.kind ≠ 4) {x : Int} (hx : InR x) : 0 ≤ rankW d x ∧ rankW d x ≤ 9 := by
  have hv := fun hk => hw.val2 hk
  have hk := hw.k
  obtain ⟨x0, x9⟩ := hx
  unfold rankW
  split
  · omega
  · split
    · omega
    · split
      · rename_i h
        obtain ⟨v0, v9⟩ := hv h
        split <;> omega
      · split <;> omega
set_option maxRecDepth 20000 in
theorem sCmp (w : World) (B : Nat) (t : Wi) (hi : WiIn w B t) (hB : B ≤ w.heap.size) (hn : t.Short) (hw : IsW t.dat) (x y : Int) (hx : InR x) (hy : InR y) :
    Calls Tryz.prog 108 #[t.val, .int .i64 x, .int .i64 y] w fun e w' => e = .returned (.int .i64 (cmpW t.dat x y)) ∧ Below w.heap.size w w' := by
  have HI := Lib.hid hi
  have HW := Lib.hid hw
  have HN := Lib.hid hn
  have HB1 : Hid (∀ o : Obj, Below B w (w.alloc o)) := Lib.hid fun o => (Below.refl B w).alloc hB _
  have HW1 : Hid (∀ o : Obj, Below w.heap.size w (w.alloc o)) := Lib.hid fun o => (Below.refl _ w).alloc (Nat.le_refl _) _
  have HX := Lib.hid hx
  have HY := Lib.hid hy
  clear hi hw hn hx hy
  by_cases h4 : t.kind = 4
  · obtain ⟨k, f, v, LA, Ln, Lc, ls, PA, Pn, Pc, ps⟩ := t
    simp only [] at h4
    subst h4
    unfold Wi.val
    simp only [Wi.dat]
    have HP : Hid (Pairs w B PA Pn ps) := Lib.hid HI.out.p
    have HNP : Hid (Pn ≤ 1048576) := Lib.hid HN.out.2
    clear HI HW HN
    by_cases he : x = y
    · subst he
      go_enter Tryz.func108, Tryz.ntmps108
      go_wp2
      go_ret
      exact ⟨by simp [cmpW], HW1.out _⟩
    · have he' : (x == y) = false := by simpa using he
      have HE := Lib.hid he
      clear he
      obtain ⟨q1, hq1⟩ : ∃ q, q = rb ps x y := ⟨_, rfl⟩
      obtain ⟨q2, hq2⟩ : ∃ q, q = rb ps y x := ⟨_, rfl⟩
      have HC : Hid (cmpW ⟨4, f, v, ls, ps⟩ x y = if q1 = true then 1 else if q2 = true then -1 else 2) := Lib.hid (by
        unfold cmpW
        rw [if_pos rfl, if_neg HE.out, hq1, hq2])
      have HQ1 : Hid (q1 = true ↔ Reach ps x y) := Lib.hid (by rw [hq1, rb_iff])
      have HQ2 : Hid (q2 = true ↔ Reach ps y x) := Lib.hid (by rw [hq2, rb_iff])
      clear hq1 hq2
      go_enter Tryz.func108, Tryz.ntmps108
      go_wp2_with fail
      refine (reach_of _ B PA Pn Pc ps (HP.out.below (HB1.out _)) (by simp; omega) HNP.out x y q1 HQ1.out).mono ?_
      rintro e w1 ⟨rfl, hb1⟩
      obtain ⟨-, -, -, -, c4, hg⟩ := box5 hb1
      have HBB := Lib.hid (And.intro ((HW1.out _).trans (hb1.mono (by simp))) ((HB1.out _).trans (hb1.mono (by simp; omega))))
      clear hb1
      cases q1
      · go_wp2_with fail
        refine (reach_of _ B PA Pn Pc ps (HP.out.below HBB.out.2) (by omega) HNP.out y x q2 HQ2.out).mono ?_
        rintro e w2 ⟨rfl, hb2⟩
        have HBC := Lib.hid (HBB.out.1.trans (hb2.mono HBB.out.1.size))
        clear hb2 c4
        cases q2
        · go_wp2
          go_ret
          exact ⟨congrArg (fun x => Ending.returned (.int .i64 x)) HC.out.symm, HBC.out⟩
        · go_wp2
          go_ret
          exact ⟨congrArg (fun x => Ending.returned (.int .i64 x)) HC.out.symm, HBC.out⟩
      · go_wp2
        go_ret
        exact ⟨congrArg (fun x => Ending.returned (.int .i64 x)) HC.out.symm, HBB.out.1⟩
  · obtain ⟨rx, hrx⟩ : ∃ r, r = rankW t.dat x := ⟨_, rfl⟩
    obtain ⟨ry, hry⟩ : ∃ r, r = rankW t.dat y := ⟨_, rfl⟩
    have HC : Hid (cmpW t.dat x y = if rx < ry then 1 else if ry < rx then -1 else 0) := Lib.hid (by
      unfold cmpW
      rw [if_neg (show ¬ t.dat.kind = 4 from h4), hrx, hry])
    have bx := rankW_le HW.out h4 HX.out
    have by' := rankW_le HW.out h4 HY.out
    rw [← hrx] at bx
    rw [← hry] at by'
    have HRX : Hid (∀ w1 : World, WiIn w1 B t → B ≤ w1.heap.size → Calls Tryz.prog 138 #[t.val, .int .i64 x] w1 fun e w' => e = .returned (.int .i64 rx) ∧ Below w1.heap.size w1 w') := Lib.hid fun w1 h1 h2 => by
      rw [hrx]; exact sRank w1 B t h1 h2 HN.out HW.out h4 x HX.out
    have HRY : Hid (∀ w1 : World, WiIn w1 B t → B ≤ w1.heap.size → Calls Tryz.prog 138 #[t.val, .int .i64 y] w1 fun e w' => e = .returned (.int .i64 ry) ∧ Below w1.heap.size w1 w') := Lib.hid fun w1 h1 h2 => by
      rw [hry]; exact sRank w1 B t h1 h2 HN.out HW.out h4 y HY.out
    clear hrx hry
    obtain ⟨k, f, v, LA, Ln, Lc, ls, PA, Pn, Pc, ps⟩ := t
    unfold Wi.val at HRX HRY ⊢
    simp only [Wi.dat] at HC ⊢
    have h4' : (k == 4) = false := by simpa using h4
    clear h4 HW HN
    have HBX := Lib.hid bx
    have HBY := Lib.hid by'
    obtain ⟨b1, b2⟩ := bx
    obtain ⟨b3, b4⟩ := by'
    go_enter Tryz.func108, Tryz.ntmps108
    go_wp2_with fail
    refine (HRX.out _ (HI.out.below (HB1.out _)) (by simp; omega)).mono ?_
    rintro e w1 ⟨rfl, hb1⟩
    obtain ⟨c0, c1, c2, c3, c4, hg⟩ := box5 hb1
    have HBB := Lib.hid (And.intro ((HW1.out _).trans (hb1.mono (by simp))) ((HB1.out _).trans (hb1.mono (by simp; omega))))
    clear hb1
    go_wp2_with fail
    refine (HRY.out _ (HI.out.below HBB.out.2) (by omega)).mono ?_
    rintro e w2 ⟨rfl, hb2⟩
    have HBC := Lib.hid (HBB.out.1.trans (hb2.mono HBB.out.1.size))
    clear hb2 c0 c1 c2 c3 c4
    by_cases hlt : rx < ry
    · go_wp2
      go_ret
      exact ⟨congrArg (fun x => Ending.returned (.int .i64 x)) (HC.out.trans (by rw [if_pos (by omega)])).symm, HBC.out⟩
    · by_cases hgt : ry < rx
      · go_wp2
        go_ret
        exact ⟨congrArg (fun x => Ending.returned (.int .i64 x)) (HC.out.trans (by rw [if_neg (by omega), if_pos (by omega)])).symm, HBC.out⟩
      · go_wp2
        go_ret
        exact ⟨congrArg (fun x => Ending.returned (.int .i64 x)) (HC.out.trans (by rw [if_neg (by omega), if_neg (by omega)])).symm, HBC.out⟩
end Go.Proofs.YtceiocdemhkcdaaGreat.num
