/- Contracts of functions that the laws of this chapter call, packed. -/
import Derived.Test.YtceiocdemhkcdaaGreatItemSpec
import Derived.Test.YtceiocdemhkcdaaGreatRegion
import Derived.Test.YtceiocdemhkcdaaGreatUbA
import Derived.Test.YtceiocdemhkcdaaGreatVotMem
import Derived.Test.YtceiocdemhkcdaaGreatItemImpl
import Derived.Test.YtceiocdemhkcdaaGreatOwnInt
import Derived.Test.YtceiocdemhkcdaaGreatItemIds
import Derived.Test.YtceiocdemhkcdaaGreatPairSpecB
import Derived.StillTailTactics
import Derived.Test.YtceiocdemhkcdaaGreatLawRes
import Derived.Test.YtceiocdemhkcdaaGreatWishImpl
import Derived.Test.YtceiocdemhkcdaaGreatPairMark
import Derived.Test.YtceiocdemhkcdaaGreatPairMarkI
import Derived.BigQuiet
import Derived.Deep.Cut
import Derived.Deep.CutRange
import Derived.ChangeSame
import Derived.Conc.Holds
import Derived.Handed
import Derived.Test.YtceiocdemhkcdaaGreatRows
namespace Go.Proofs.YtceiocdemhkcdaaGreat.num
set_option maxRecDepth 20000
open Go.RowKit
set_option linter.unusedSimpArgs false

/-- The first k numbers rise. -/
def Rise (l : List Int) (k : Nat) : Prop := ∀ j, 0 < j → j < k → l.getD (j - 1) 0 < l.getD j 0
theorem Rise.zero (l : List Int) : Rise l 0 := fun j _ h => by omega
theorem Rise.step {l : List Int} {k : Nat} (h : Rise l k) (h1 : 0 < k → l.getD (k - 1) 0 < l.getD k 0) : Rise l (k + 1) := fun j h0 hj => by
  by_cases e : j = k
  · subst e; exact h1 h0
  · exact h j h0 (by omega)
/-- What makes a list of items. -/
def AreP (ds : List (Int × List Int)) : Prop := (∀ d ∈ ds, IsP d) ∧ Rise (ds.map (·.1)) ds.length ∧ ds.length ≤ 16
theorem id_at {its : List It} {k : Nat} {t : It} (h : its[k]? = some t) : ((its.map It.dat).map (·.1)).getD k 0 = t.id := by
  simp [List.getD_eq_getElem?_getD, h, It.dat]
theorem dat_mem {its : List It} {k : Nat} {t : It} (h : its[k]? = some t) : t.dat ∈ its.map It.dat := List.mem_map.2 ⟨t, mem_of_at h, rfl⟩

/-- IsItem in a world that still bears what held of w0 below its end. -/
theorem sIsItem_in (w0 w : World) (B : Nat) (t : It) (hi : Ints w0 B t.A t.n t.xs) (hB : B ≤ w0.heap.size) (hw : Below w0.heap.size w0 w) (hn : t.n ≤ 1048576) (b : Bool) (hb : b = true ↔ IsP t.dat) :
    Calls Tryz.prog 131 #[t.val] w fun e w' => e = .returned (.bool b) ∧ Below w0.heap.size w0 w' :=
  (sIsItem w B t (hi.below (hw.mono hB)) (Nat.le_trans hB hw.size) hn b hb).mono fun _ _ ⟨he, h⟩ => ⟨he, hw.trans (h.mono hw.size)⟩

theorem are_step {its : List It} {k : Nat} {t : It} (hat : its[k]? = some t) (h : ∀ u ∈ its.take k, IsP u.dat) (h1 : IsP t.dat) : ∀ u ∈ its.take (k + 1), IsP u.dat := by
  rw [take_at hat]
  intro u hu
  rcases List.mem_append.1 hu with h2 | h2
  · exact h u h2
  · obtain rfl := List.mem_singleton.1 h2
    exact h1

set_option maxRecDepth 20000 in
set_option maxHeartbeats 1600000 in
theorem sAre (w : World) (B : Nat) (A : Option Addr) (n c : Nat) (its : List It) (hi : Items w B A n its) (hB : B ≤ w.heap.size) (hn : n ≤ 1048576) (hN : ∀ t ∈ its, t.n ≤ 1048576) (b : Bool) (hb : b = true ↔ AreP (its.map It.dat)) :
    Calls Tryz.prog 94 #[.slice A n c] w fun e w' => e = .returned (.bool b) ∧ Below w.heap.size w w' := by
  have HX := Lib.hid hi
  have HN := Lib.hid hN
  have HBo := Lib.hid hb
  clear hi hN hb
  go_enter Tryz.func94, Tryz.ntmps94
  go_wp2
  go_loopw [3] (fun i wr => ∃ k : Nat, k ≤ n ∧ i = .int .i64 k ∧ (∀ t ∈ its.take k, IsP t.dat) ∧ Rise ((its.map It.dat).map (·.1)) k ∧ Below w.heap.size w wr) (fun i _ => n - (intOf i).toNat)
  case atStart => exact ⟨0, Nat.zero_le _, rfl, by simp, Rise.zero _, Below.refl _ _⟩
  case round =>
    obtain ⟨k, hk, rfl, hall, hrise, hbel⟩ := hrel
    have HA := Lib.hid hall
    have HR := Lib.hid hrise
    have HB := Lib.hid hbel
    clear hall hrise
    by_cases hlt : k < n
    · obtain ⟨b1, off, t, hA1, hb1, hat, hc1, hd1, hx⟩ := HX.out.at k hlt
      have f1 := (hbel.cell (p := ⟨b1, off + k * 2, none⟩) (by exact Nat.lt_of_lt_of_le hb1 hB)).trans hc1
      have f2 := (hbel.cell (p := ⟨b1, off + k * 2 + 1, none⟩) (by exact Nat.lt_of_lt_of_le hb1 hB)).trans hd1
      have HI := Lib.hid (hx.below (hbel.mono hB))
      have HAt := Lib.hid hat
      have htn := Lib.hid (HN.out t (mem_of_at hat))
      have hsz := Lib.hid hbel.size
      have hlt' : (k : Int) < (n : Int) := by omega
      obtain ⟨q, hq⟩ := bool_of (IsP t.dat)
      have HQ := Lib.hid hq
      clear hc1 hd1 hx hat hq
      cases q
      · have HF : Hid (b = false) := by
          show _ = _
          cases b
          · rfl
          · exact absurd ((HBo.out.1 rfl).1 _ (dat_mem HAt.out)) (fun h => by have := HQ.out.2 h; cases this)
        subst hA1
        clear hbel
        go_wp2
        have hs0 : Below wr.heap.size wr wr.drew ∧ wr.drew.cell? ⟨b1, off + k * 2, none⟩ = some (.int .i64 t.id) ∧ wr.drew.cell? ⟨b1, off + k * 2 + 1, none⟩ = some (.slice t.A t.n t.c) := ⟨(Below.refl _ _).drew, f1, f2⟩
        refine wp_region_held (S := fun w' => Below wr.heap.size wr w' ∧ w'.cell? ⟨b1, off + k * 2, none⟩ = some (.int .i64 t.id) ∧ w'.cell? ⟨b1, off + k * 2 + 1, none⟩ = some (.slice t.A t.n t.c)) (by kernel_rfl) ?_
        change wpAnyH _ _ _ _ _ _ _ _ (World.drew _)
        refine takeY 10 (i := 0) (v := ?v0a) rfl rfl (by kernel_rfl) (by kernel_rfl) (by kernel_rfl) (fun _ _ _ h => h) (by kernel_rfl) ?y0a hs0 ?_
        case y0a =>
          intro w' hw'; (try dsimp only at hw'); obtain ⟨e0, e1, e2⟩ := hw'; go_simp; try with_reducible rfl
        simp only [Act.put, List.setIfInBounds_toArray, List.set_cons_zero, List.set_cons_succ]
        refine takeY 11 (i := 1) (v := ?v1a) rfl rfl (by kernel_rfl) (by kernel_rfl) (by kernel_rfl) (fun _ _ _ h => h) (by kernel_rfl) ?y1a hs0 ?_
        case y1a =>
          intro w' hw'; (try dsimp only at hw'); obtain ⟨e0, e1, e2⟩ := hw'; go_simp; try with_reducible rfl
        simp only [Act.put, List.setIfInBounds_toArray, List.set_cons_zero, List.set_cons_succ]
        refine takeY 12 (i := 2) (v := ?v2a) rfl rfl (by kernel_rfl) (by kernel_rfl) (by kernel_rfl) (fun _ _ _ h => h) (by kernel_rfl) ?y2a hs0 ?_
        case y2a =>
          intro w' hw'; (try dsimp only at hw'); obtain ⟨e0, e1, e2⟩ := hw'; go_simp; try with_reducible rfl
        simp only [Act.put, List.setIfInBounds_toArray, List.set_cons_zero, List.set_cons_succ]
        refine takeY 13 (i := 3) (v := ?v3a) rfl rfl (by kernel_rfl) (by kernel_rfl) (by kernel_rfl) (fun _ _ _ h => h) (by kernel_rfl) ?y3a hs0 ?_
        case y3a =>
          intro w' hw'; (try dsimp only at hw'); obtain ⟨e0, e1, e2⟩ := hw'; go_simp; try with_reducible rfl
        simp only [Act.put, List.setIfInBounds_toArray, List.set_cons_zero, List.set_cons_succ]
        refine wpAnyH_ready (rs := [4]) (by kernel_rfl) (by simp) ?_
        refine AllReadyH.cons rfl (fun K hK => ?_) AllReadyH.nil
        go_simp; go_at_call 131; refine (sIsItem_in wr _ B t HI.out (Nat.le_trans hB hsz.out) (Below.refl _ _).drew htn.out false HQ.out).mono ?_; rintro e w3 ⟨rfl, hb3⟩
        refine hK.out _ _ ⟨hb3, (hb3.cell (p := ⟨b1, off + k * 2, none⟩) (by exact Nat.lt_of_lt_of_le hb1 (Nat.le_trans hB hsz.out))).trans f1, (hb3.cell (p := ⟨b1, off + k * 2 + 1, none⟩) (by exact Nat.lt_of_lt_of_le hb1 (Nat.le_trans hB hsz.out))).trans f2⟩ (fun hS1 => ?_)
        clear hK K
        try simp only [Act.put, List.setIfInBounds_toArray, List.set_cons_zero, List.set_cons_succ]
        refine takeY 15 (i := 5) (v := ?v5a) rfl rfl (by kernel_rfl) (by kernel_rfl) (by kernel_rfl) (fun _ _ _ h => h) (by kernel_rfl) ?y5a hS1 ?_
        case y5a =>
          intro w' hw'; (try dsimp only at hw'); obtain ⟨e0, e1, e2⟩ := hw'; go_simp; try with_reducible rfl
        simp only [Act.put, List.setIfInBounds_toArray, List.set_cons_zero, List.set_cons_succ]
        refine takeY 16 (i := 6) (v := ?v6a) rfl rfl (by kernel_rfl) (by kernel_rfl) (by kernel_rfl) (fun _ _ _ h => h) (by kernel_rfl) ?y6a hS1 ?_
        case y6a =>
          intro w' hw'; (try dsimp only at hw'); obtain ⟨e0, e1, e2⟩ := hw'; go_simp; try with_reducible rfl
        simp only [Act.put, List.setIfInBounds_toArray, List.set_cons_zero, List.set_cons_succ]
        refine takeU 17 (i := 7) rfl rfl (by kernel_rfl) (by kernel_rfl) (by kernel_rfl) (fun _ _ _ h => h) (by kernel_rfl) hS1 ?_
        simp only [Act.put, List.setIfInBounds_toArray, List.set_cons_zero, List.set_cons_succ]
        refine takeU 18 (i := 8) rfl rfl (by kernel_rfl) (by kernel_rfl) (by kernel_rfl) (fun _ _ _ h => h) (by kernel_rfl) hS1 ?_
        simp only [Act.put, List.setIfInBounds_toArray, List.set_cons_zero, List.set_cons_succ]
        refine takeU 19 (i := 9) rfl rfl (by kernel_rfl) (by kernel_rfl) (by kernel_rfl) (fun _ _ _ h => h) (by kernel_rfl) hS1 ?_
        simp only [Act.put, List.setIfInBounds_toArray, List.set_cons_zero, List.set_cons_succ]
        refine takeU 20 (i := 10) rfl rfl (by kernel_rfl) (by kernel_rfl) (by kernel_rfl) (fun _ _ _ h => h) (by kernel_rfl) hS1 ?_
        simp only [Act.put, List.setIfInBounds_toArray, List.set_cons_zero, List.set_cons_succ]
        refine takeU 21 (i := 11) rfl rfl (by kernel_rfl) (by kernel_rfl) (by kernel_rfl) (fun _ _ _ h => h) (by kernel_rfl) hS1 ?_
        simp only [Act.put, List.setIfInBounds_toArray, List.set_cons_zero, List.set_cons_succ]
        refine takeU 22 (i := 12) rfl rfl (by kernel_rfl) (by kernel_rfl) (by kernel_rfl) (fun _ _ _ h => h) (by kernel_rfl) hS1 ?_
        simp only [Act.put, List.setIfInBounds_toArray, List.set_cons_zero, List.set_cons_succ]
        refine takeU 23 (i := 13) rfl rfl (by kernel_rfl) (by kernel_rfl) (by kernel_rfl) (fun _ _ _ h => h) (by kernel_rfl) hS1 ?_
        simp only [Act.put, List.setIfInBounds_toArray, List.set_cons_zero, List.set_cons_succ]
        refine takeU 24 (i := 14) rfl rfl (by kernel_rfl) (by kernel_rfl) (by kernel_rfl) (fun _ _ _ h => h) (by kernel_rfl) hS1 ?_
        simp only [Act.put, List.setIfInBounds_toArray, List.set_cons_zero, List.set_cons_succ]
        refine takeU 25 (i := 15) rfl rfl (by kernel_rfl) (by kernel_rfl) (by kernel_rfl) (fun _ _ _ h => h) (by kernel_rfl) hS1 ?_
        simp only [Act.put, List.setIfInBounds_toArray, List.set_cons_zero, List.set_cons_succ]
        refine takeU 26 (i := 16) rfl rfl (by kernel_rfl) (by kernel_rfl) (by kernel_rfl) (fun _ _ _ h => h) (by kernel_rfl) hS1 ?_
        simp only [Act.put, List.setIfInBounds_toArray, List.set_cons_zero, List.set_cons_succ]
        refine takeU 27 (i := 17) rfl rfl (by kernel_rfl) (by kernel_rfl) (by kernel_rfl) (fun _ _ _ h => h) (by kernel_rfl) hS1 ?_
        simp only [Act.put, List.setIfInBounds_toArray, List.set_cons_zero, List.set_cons_succ]
        refine takeU 28 (i := 18) rfl rfl (by kernel_rfl) (by kernel_rfl) (by kernel_rfl) (fun _ _ _ h => h) (by kernel_rfl) hS1 ?_
        simp only [Act.put, List.setIfInBounds_toArray, List.set_cons_zero, List.set_cons_succ]
        refine takeU 29 (i := 19) rfl rfl (by kernel_rfl) (by kernel_rfl) (by kernel_rfl) (fun _ _ _ h => h) (by kernel_rfl) hS1 ?_
        simp only [Act.put, List.setIfInBounds_toArray, List.set_cons_zero, List.set_cons_succ]
        refine takeU 30 (i := 20) rfl rfl (by kernel_rfl) (by kernel_rfl) (by kernel_rfl) (fun _ _ _ h => h) (by kernel_rfl) hS1 ?_
        simp only [Act.put, List.setIfInBounds_toArray, List.set_cons_zero, List.set_cons_succ]
        refine takeU 31 (i := 21) rfl rfl (by kernel_rfl) (by kernel_rfl) (by kernel_rfl) (fun _ _ _ h => h) (by kernel_rfl) hS1 ?_
        simp only [Act.put, List.setIfInBounds_toArray, List.set_cons_zero, List.set_cons_succ]
        refine takeU 32 (i := 22) rfl rfl (by kernel_rfl) (by kernel_rfl) (by kernel_rfl) (fun _ _ _ h => h) (by kernel_rfl) hS1 ?_
        simp only [Act.put, List.setIfInBounds_toArray, List.set_cons_zero, List.set_cons_succ]
        refine takeY 33 (i := 23) (v := ?v23a) rfl rfl (by kernel_rfl) (by kernel_rfl) (by kernel_rfl) (fun _ _ _ h => h) (by kernel_rfl) ?y23a hS1 ?_
        case y23a =>
          intro w' hw'; (try dsimp only at hw'); obtain ⟨e0, e1, e2⟩ := hw'; go_simp; try with_reducible rfl
        simp only [Act.put, List.setIfInBounds_toArray, List.set_cons_zero, List.set_cons_succ]
        refine wpAnyH_done (by kernel_rfl) ?_ _
        go_wp2
        go_ret
        exact ⟨HF.out.symm ▸ rfl, HB.out.trans (hb3.mono hsz.out)⟩
      · have HD := Lib.hid (HQ.out.1 rfl)
        rcases Nat.eq_zero_or_pos k with h0 | h0
        · have HK := Lib.hid h0
          subst hA1
          clear hbel h0
          go_wp2
          have hk0 : decide (0 < k) = false := decide_eq_false (by have := HK.out; omega)
          have hs0 : Below wr.heap.size wr wr.drew ∧ wr.drew.cell? ⟨b1, off + k * 2, none⟩ = some (.int .i64 t.id) ∧ wr.drew.cell? ⟨b1, off + k * 2 + 1, none⟩ = some (.slice t.A t.n t.c) := ⟨(Below.refl _ _).drew, f1, f2⟩
          refine wp_region_held (S := fun w' => Below wr.heap.size wr w' ∧ w'.cell? ⟨b1, off + k * 2, none⟩ = some (.int .i64 t.id) ∧ w'.cell? ⟨b1, off + k * 2 + 1, none⟩ = some (.slice t.A t.n t.c)) (by kernel_rfl) ?_
          change wpAnyH _ _ _ _ _ _ _ _ (World.drew _)
          refine takeY 10 (i := 0) (v := ?v0b) rfl rfl (by kernel_rfl) (by kernel_rfl) (by kernel_rfl) (fun _ _ _ h => h) (by kernel_rfl) ?y0b hs0 ?_
          case y0b =>
            intro w' hw'; (try dsimp only at hw'); obtain ⟨e0, e1, e2⟩ := hw'; go_simp; try with_reducible rfl
          simp only [Act.put, List.setIfInBounds_toArray, List.set_cons_zero, List.set_cons_succ]
          refine takeY 11 (i := 1) (v := ?v1b) rfl rfl (by kernel_rfl) (by kernel_rfl) (by kernel_rfl) (fun _ _ _ h => h) (by kernel_rfl) ?y1b hs0 ?_
          case y1b =>
            intro w' hw'; (try dsimp only at hw'); obtain ⟨e0, e1, e2⟩ := hw'; go_simp; try with_reducible rfl
          simp only [Act.put, List.setIfInBounds_toArray, List.set_cons_zero, List.set_cons_succ]
          refine takeY 12 (i := 2) (v := ?v2b) rfl rfl (by kernel_rfl) (by kernel_rfl) (by kernel_rfl) (fun _ _ _ h => h) (by kernel_rfl) ?y2b hs0 ?_
          case y2b =>
            intro w' hw'; (try dsimp only at hw'); obtain ⟨e0, e1, e2⟩ := hw'; go_simp; try with_reducible rfl
          simp only [Act.put, List.setIfInBounds_toArray, List.set_cons_zero, List.set_cons_succ]
          refine takeY 13 (i := 3) (v := ?v3b) rfl rfl (by kernel_rfl) (by kernel_rfl) (by kernel_rfl) (fun _ _ _ h => h) (by kernel_rfl) ?y3b hs0 ?_
          case y3b =>
            intro w' hw'; (try dsimp only at hw'); obtain ⟨e0, e1, e2⟩ := hw'; go_simp; try with_reducible rfl
          simp only [Act.put, List.setIfInBounds_toArray, List.set_cons_zero, List.set_cons_succ]
          refine wpAnyH_ready (rs := [4]) (by kernel_rfl) (by simp) ?_
          refine AllReadyH.cons rfl (fun K hK => ?_) AllReadyH.nil
          go_simp; go_at_call 131; refine (sIsItem_in wr _ B t HI.out (Nat.le_trans hB hsz.out) (Below.refl _ _).drew htn.out true ⟨fun _ => HD.out, fun _ => rfl⟩).mono ?_; rintro e w3 ⟨rfl, hb3⟩
          refine hK.out _ _ ⟨hb3, (hb3.cell (p := ⟨b1, off + k * 2, none⟩) (by exact Nat.lt_of_lt_of_le hb1 (Nat.le_trans hB hsz.out))).trans f1, (hb3.cell (p := ⟨b1, off + k * 2 + 1, none⟩) (by exact Nat.lt_of_lt_of_le hb1 (Nat.le_trans hB hsz.out))).trans f2⟩ (fun hS1 => ?_)
          clear hK K
          try simp only [Act.put, List.setIfInBounds_toArray, List.set_cons_zero, List.set_cons_succ]
          refine takeY 15 (i := 5) (v := ?v5b) rfl rfl (by kernel_rfl) (by kernel_rfl) (by kernel_rfl) (fun _ _ _ h => h) (by kernel_rfl) ?y5b hS1 ?_
          case y5b =>
            intro w' hw'; (try dsimp only at hw'); obtain ⟨e0, e1, e2⟩ := hw'; go_simp; try with_reducible rfl
          simp only [Act.put, List.setIfInBounds_toArray, List.set_cons_zero, List.set_cons_succ]
          refine takeY 16 (i := 6) (v := ?v6b) rfl rfl (by kernel_rfl) (by kernel_rfl) (by kernel_rfl) (fun _ _ _ h => h) (by kernel_rfl) ?y6b hS1 ?_
          case y6b =>
            intro w' hw'; (try dsimp only at hw'); obtain ⟨e0, e1, e2⟩ := hw'; go_simp; try with_reducible rfl
          simp only [Act.put, List.setIfInBounds_toArray, List.set_cons_zero, List.set_cons_succ]
          refine takeY 17 (i := 7) (v := ?v7b) rfl rfl (by kernel_rfl) (by kernel_rfl) (by kernel_rfl) (fun _ _ _ h => h) (by kernel_rfl) ?y7b hS1 ?_
          case y7b =>
            intro w' hw'; (try dsimp only at hw'); obtain ⟨e0, e1, e2⟩ := hw'; go_simp; try with_reducible rfl
          simp only [Act.put, List.setIfInBounds_toArray, List.set_cons_zero, List.set_cons_succ]
          refine takeY 18 (i := 8) (v := ?v8b) rfl rfl (by kernel_rfl) (by kernel_rfl) (by kernel_rfl) (fun _ _ _ h => h) (by kernel_rfl) ?y8b hS1 ?_
          case y8b =>
            intro w' hw'; (try dsimp only at hw'); obtain ⟨e0, e1, e2⟩ := hw'; go_simp; try with_reducible rfl
          simp only [Act.put, List.setIfInBounds_toArray, List.set_cons_zero, List.set_cons_succ]
          refine takeY 19 (i := 9) (v := ?v9b) rfl rfl (by kernel_rfl) (by kernel_rfl) (by kernel_rfl) (fun _ _ _ h => h) (by kernel_rfl) ?y9b hS1 ?_
          case y9b =>
            intro w' hw'; (try dsimp only at hw'); obtain ⟨e0, e1, e2⟩ := hw'; go_simp; try with_reducible rfl
          simp only [Act.put, List.setIfInBounds_toArray, List.set_cons_zero, List.set_cons_succ]
          refine takeU 20 (i := 10) rfl rfl (by kernel_rfl) (by kernel_rfl) (by kernel_rfl) (fun _ _ _ h => h) (by kernel_rfl) hS1 ?_
          simp only [Act.put, List.setIfInBounds_toArray, List.set_cons_zero, List.set_cons_succ]
          refine takeU 21 (i := 11) rfl rfl (by kernel_rfl) (by kernel_rfl) (by kernel_rfl) (fun _ _ _ h => h) (by kernel_rfl) hS1 ?_
          simp only [Act.put, List.setIfInBounds_toArray, List.set_cons_zero, List.set_cons_succ]
          refine takeU 22 (i := 12) rfl rfl (by kernel_rfl) (by kernel_rfl) (by kernel_rfl) (fun _ _ _ h => h) (by kernel_rfl) hS1 ?_
          simp only [Act.put, List.setIfInBounds_toArray, List.set_cons_zero, List.set_cons_succ]
          refine takeU 23 (i := 13) rfl rfl (by kernel_rfl) (by kernel_rfl) (by kernel_rfl) (fun _ _ _ h => h) (by kernel_rfl) hS1 ?_
          simp only [Act.put, List.setIfInBounds_toArray, List.set_cons_zero, List.set_cons_succ]
          refine takeU 24 (i := 14) rfl rfl (by kernel_rfl) (by kernel_rfl) (by kernel_rfl) (fun _ _ _ h => h) (by kernel_rfl) hS1 ?_
          simp only [Act.put, List.setIfInBounds_toArray, List.set_cons_zero, List.set_cons_succ]
          refine takeU 25 (i := 15) rfl rfl (by kernel_rfl) (by kernel_rfl) (by kernel_rfl) (fun _ _ _ h => h) (by kernel_rfl) hS1 ?_
          simp only [Act.put, List.setIfInBounds_toArray, List.set_cons_zero, List.set_cons_succ]
          refine takeU 26 (i := 16) rfl rfl (by kernel_rfl) (by kernel_rfl) (by kernel_rfl) (fun _ _ _ h => h) (by kernel_rfl) hS1 ?_
          simp only [Act.put, List.setIfInBounds_toArray, List.set_cons_zero, List.set_cons_succ]
          refine takeU 27 (i := 17) rfl rfl (by kernel_rfl) (by kernel_rfl) (by kernel_rfl) (fun _ _ _ h => h) (by kernel_rfl) hS1 ?_
          simp only [Act.put, List.setIfInBounds_toArray, List.set_cons_zero, List.set_cons_succ]
          refine takeU 28 (i := 18) rfl rfl (by kernel_rfl) (by kernel_rfl) (by kernel_rfl) (fun _ _ _ h => h) (by kernel_rfl) hS1 ?_
          simp only [Act.put, List.setIfInBounds_toArray, List.set_cons_zero, List.set_cons_succ]
          refine takeU 29 (i := 19) rfl rfl (by kernel_rfl) (by kernel_rfl) (by kernel_rfl) (fun _ _ _ h => h) (by kernel_rfl) hS1 ?_
          simp only [Act.put, List.setIfInBounds_toArray, List.set_cons_zero, List.set_cons_succ]
          refine takeU 30 (i := 20) rfl rfl (by kernel_rfl) (by kernel_rfl) (by kernel_rfl) (fun _ _ _ h => h) (by kernel_rfl) hS1 ?_
          simp only [Act.put, List.setIfInBounds_toArray, List.set_cons_zero, List.set_cons_succ]
          refine takeU 31 (i := 21) rfl rfl (by kernel_rfl) (by kernel_rfl) (by kernel_rfl) (fun _ _ _ h => h) (by kernel_rfl) hS1 ?_
          simp only [Act.put, List.setIfInBounds_toArray, List.set_cons_zero, List.set_cons_succ]
          refine takeY 32 (i := 22) (v := ?v22b) rfl rfl (by kernel_rfl) (by kernel_rfl) (by kernel_rfl) (fun _ _ _ h => h) (by kernel_rfl) ?y22b hS1 ?_
          case y22b =>
            intro w' hw'; (try dsimp only at hw'); obtain ⟨e0, e1, e2⟩ := hw'; go_simp; try with_reducible rfl
          simp only [Act.put, List.setIfInBounds_toArray, List.set_cons_zero, List.set_cons_succ]
          refine takeY 33 (i := 23) (v := ?v23b) rfl rfl (by kernel_rfl) (by kernel_rfl) (by kernel_rfl) (fun _ _ _ h => h) (by kernel_rfl) ?y23b hS1 ?_
          case y23b =>
            intro w' hw'; (try dsimp only at hw'); obtain ⟨e0, e1, e2⟩ := hw'; go_simp; try with_reducible rfl
          simp only [Act.put, List.setIfInBounds_toArray, List.set_cons_zero, List.set_cons_succ]
          refine wpAnyH_done (by kernel_rfl) ?_ _
          clear hk0
          go_wp2
          go_roundw
          case rel => exact ⟨k + 1, by omega, by go_num, are_step HAt.out HA.out HD.out, HR.out.step (fun h0 => absurd h0 (by have := HK.out; omega)), HB.out.trans (hb3.mono hsz.out)⟩
          case measure => simp [intOf]; omega
        · obtain ⟨j, hj⟩ : ∃ j, j + 1 = k := ⟨k - 1, by omega⟩
          obtain ⟨b2, off2, t0, hA2, hb2, hat2, hc2, _, _⟩ := HX.out.at j (by omega)
          obtain ⟨rfl, rfl⟩ : b1 = b2 ∧ off = off2 := by rw [hA1] at hA2; injection hA2 with h; injection h with h1 h2; exact ⟨h1, h2⟩
          have f3 := (hbel.cell (p := ⟨b1, off + j * 2, none⟩) (by exact Nat.lt_of_lt_of_le hb1 hB)).trans hc2
          have HAt0 := Lib.hid hat2
          have HJ := Lib.hid hj
          have HK0 : Hid ((0 : Int) < (k : Int)) := by show _ < _; omega
          have hkj : (k : Int) - 1 = (j : Int) := by omega
          have hkw : IntKind.i64.wrap ((k : Int) - 1) = (j : Int) := by rw [hkj]; exact IntWalk.i64_in _ ⟨by omega, by omega⟩
          have hjw : IntKind.i64.wrap (j : Int) = (j : Int) := IntWalk.i64_in _ ⟨by omega, by omega⟩
          have hjn : (j : Int) < (n : Int) := by omega
          have hjn' : j < n := by omega
          subst hA1
          clear hbel h0 hj hc2 hat2 hA2
          have HLt : Hid (((its.map It.dat).map (·.1)).getD (k - 1) 0 = t0.id ∧ ((its.map It.dat).map (·.1)).getD k 0 = t.id) := by
            refine ⟨?_, id_at HAt.out⟩
            rw [show k - 1 = j by have := HJ.out; omega]
            exact id_at HAt0.out
          by_cases hle : t.id ≤ t0.id
          · have HF : Hid (b = false) := by
              show _ = _
              cases b
              · rfl
              · have hr := (HBo.out.1 rfl).2.1 k (by omega) (by rw [List.length_map, HX.out.1]; exact hlt)
                rw [HLt.out.1, HLt.out.2] at hr
                omega
            go_wp2
            have hk0 : decide (0 < k) = true := decide_eq_true (by have := HK0.out; omega)
            have hs0 : Below wr.heap.size wr wr.drew ∧ wr.drew.cell? ⟨b1, off + k * 2, none⟩ = some (.int .i64 t.id) ∧ wr.drew.cell? ⟨b1, off + k * 2 + 1, none⟩ = some (.slice t.A t.n t.c) ∧ wr.drew.cell? ⟨b1, off + j * 2, none⟩ = some (.int .i64 t0.id) := ⟨(Below.refl _ _).drew, f1, f2, f3⟩
            refine wp_region_held (S := fun w' => Below wr.heap.size wr w' ∧ w'.cell? ⟨b1, off + k * 2, none⟩ = some (.int .i64 t.id) ∧ w'.cell? ⟨b1, off + k * 2 + 1, none⟩ = some (.slice t.A t.n t.c) ∧ w'.cell? ⟨b1, off + j * 2, none⟩ = some (.int .i64 t0.id)) (by kernel_rfl) ?_
            change wpAnyH _ _ _ _ _ _ _ _ (World.drew _)
            refine takeY 10 (i := 0) (v := ?v0c) rfl rfl (by kernel_rfl) (by kernel_rfl) (by kernel_rfl) (fun _ _ _ h => h) (by kernel_rfl) ?y0c hs0 ?_
            case y0c =>
              intro w' hw'; (try dsimp only at hw'); obtain ⟨e0, e1, e2, e3⟩ := hw'; go_simp; try with_reducible rfl
            simp only [Act.put, List.setIfInBounds_toArray, List.set_cons_zero, List.set_cons_succ]
            refine takeY 11 (i := 1) (v := ?v1c) rfl rfl (by kernel_rfl) (by kernel_rfl) (by kernel_rfl) (fun _ _ _ h => h) (by kernel_rfl) ?y1c hs0 ?_
            case y1c =>
              intro w' hw'; (try dsimp only at hw'); obtain ⟨e0, e1, e2, e3⟩ := hw'; go_simp; try with_reducible rfl
            simp only [Act.put, List.setIfInBounds_toArray, List.set_cons_zero, List.set_cons_succ]
            refine takeY 12 (i := 2) (v := ?v2c) rfl rfl (by kernel_rfl) (by kernel_rfl) (by kernel_rfl) (fun _ _ _ h => h) (by kernel_rfl) ?y2c hs0 ?_
            case y2c =>
              intro w' hw'; (try dsimp only at hw'); obtain ⟨e0, e1, e2, e3⟩ := hw'; go_simp; try with_reducible rfl
            simp only [Act.put, List.setIfInBounds_toArray, List.set_cons_zero, List.set_cons_succ]
            refine takeY 13 (i := 3) (v := ?v3c) rfl rfl (by kernel_rfl) (by kernel_rfl) (by kernel_rfl) (fun _ _ _ h => h) (by kernel_rfl) ?y3c hs0 ?_
            case y3c =>
              intro w' hw'; (try dsimp only at hw'); obtain ⟨e0, e1, e2, e3⟩ := hw'; go_simp; try with_reducible rfl
            simp only [Act.put, List.setIfInBounds_toArray, List.set_cons_zero, List.set_cons_succ]
            refine wpAnyH_ready (rs := [4]) (by kernel_rfl) (by simp) ?_
            refine AllReadyH.cons rfl (fun K hK => ?_) AllReadyH.nil
            go_simp; go_at_call 131; refine (sIsItem_in wr _ B t HI.out (Nat.le_trans hB hsz.out) (Below.refl _ _).drew htn.out true ⟨fun _ => HD.out, fun _ => rfl⟩).mono ?_; rintro e w3 ⟨rfl, hb3⟩
            refine hK.out _ _ ⟨hb3, (hb3.cell (p := ⟨b1, off + k * 2, none⟩) (by exact Nat.lt_of_lt_of_le hb1 (Nat.le_trans hB hsz.out))).trans f1, (hb3.cell (p := ⟨b1, off + k * 2 + 1, none⟩) (by exact Nat.lt_of_lt_of_le hb1 (Nat.le_trans hB hsz.out))).trans f2, (hb3.cell (p := ⟨b1, off + j * 2, none⟩) (by exact Nat.lt_of_lt_of_le hb1 (Nat.le_trans hB hsz.out))).trans f3⟩ (fun hS1 => ?_)
            clear hK K
            try simp only [Act.put, List.setIfInBounds_toArray, List.set_cons_zero, List.set_cons_succ]
            refine takeY 15 (i := 5) (v := ?v5c) rfl rfl (by kernel_rfl) (by kernel_rfl) (by kernel_rfl) (fun _ _ _ h => h) (by kernel_rfl) ?y5c hS1 ?_
            case y5c =>
              intro w' hw'; (try dsimp only at hw'); obtain ⟨e0, e1, e2, e3⟩ := hw'; go_simp; try with_reducible rfl
            simp only [Act.put, List.setIfInBounds_toArray, List.set_cons_zero, List.set_cons_succ]
            refine takeY 16 (i := 6) (v := ?v6c) rfl rfl (by kernel_rfl) (by kernel_rfl) (by kernel_rfl) (fun _ _ _ h => h) (by kernel_rfl) ?y6c hS1 ?_
            case y6c =>
              intro w' hw'; (try dsimp only at hw'); obtain ⟨e0, e1, e2, e3⟩ := hw'; go_simp; try with_reducible rfl
            simp only [Act.put, List.setIfInBounds_toArray, List.set_cons_zero, List.set_cons_succ]
            refine takeY 17 (i := 7) (v := ?v7c) rfl rfl (by kernel_rfl) (by kernel_rfl) (by kernel_rfl) (fun _ _ _ h => h) (by kernel_rfl) ?y7c hS1 ?_
            case y7c =>
              intro w' hw'; (try dsimp only at hw'); obtain ⟨e0, e1, e2, e3⟩ := hw'; go_simp; try with_reducible rfl
            simp only [Act.put, List.setIfInBounds_toArray, List.set_cons_zero, List.set_cons_succ]
            refine takeY 18 (i := 8) (v := ?v8c) rfl rfl (by kernel_rfl) (by kernel_rfl) (by kernel_rfl) (fun _ _ _ h => h) (by kernel_rfl) ?y8c hS1 ?_
            case y8c =>
              intro w' hw'; (try dsimp only at hw'); obtain ⟨e0, e1, e2, e3⟩ := hw'; go_simp; try with_reducible rfl
            simp only [Act.put, List.setIfInBounds_toArray, List.set_cons_zero, List.set_cons_succ]
            refine takeY 19 (i := 9) (v := ?v9c) rfl rfl (by kernel_rfl) (by kernel_rfl) (by kernel_rfl) (fun _ _ _ h => h) (by kernel_rfl) ?y9c hS1 ?_
            case y9c =>
              intro w' hw'; (try dsimp only at hw'); obtain ⟨e0, e1, e2, e3⟩ := hw'; go_simp; try with_reducible rfl
            simp only [Act.put, List.setIfInBounds_toArray, List.set_cons_zero, List.set_cons_succ]
            refine takeY 20 (i := 10) (v := ?v10c) rfl rfl (by kernel_rfl) (by kernel_rfl) (by kernel_rfl) (fun _ _ _ h => h) (by kernel_rfl) ?y10c hS1 ?_
            case y10c =>
              intro w' hw'; (try dsimp only at hw'); obtain ⟨e0, e1, e2, e3⟩ := hw'; go_simp; try with_reducible rfl
            simp only [Act.put, List.setIfInBounds_toArray, List.set_cons_zero, List.set_cons_succ]
            refine takeY 21 (i := 11) (v := ?v11c) rfl rfl (by kernel_rfl) (by kernel_rfl) (by kernel_rfl) (fun _ _ _ h => h) (by kernel_rfl) ?y11c hS1 ?_
            case y11c =>
              intro w' hw'; (try dsimp only at hw'); obtain ⟨e0, e1, e2, e3⟩ := hw'; go_simp; try with_reducible rfl
            simp only [Act.put, List.setIfInBounds_toArray, List.set_cons_zero, List.set_cons_succ]
            refine takeY 22 (i := 12) (v := ?v12c) rfl rfl (by kernel_rfl) (by kernel_rfl) (by kernel_rfl) (fun _ _ _ h => h) (by kernel_rfl) ?y12c hS1 ?_
            case y12c =>
              intro w' hw'; (try dsimp only at hw'); obtain ⟨e0, e1, e2, e3⟩ := hw'; go_simp; try with_reducible rfl
            simp only [Act.put, List.setIfInBounds_toArray, List.set_cons_zero, List.set_cons_succ]
            refine takeY 23 (i := 13) (v := ?v13c) rfl rfl (by kernel_rfl) (by kernel_rfl) (by kernel_rfl) (fun _ _ _ h => h) (by kernel_rfl) ?y13c hS1 ?_
            case y13c =>
              intro w' hw'; (try dsimp only at hw'); obtain ⟨e0, e1, e2, e3⟩ := hw'; go_simp; try with_reducible rfl
            simp only [Act.put, List.setIfInBounds_toArray, List.set_cons_zero, List.set_cons_succ]
            refine takeY 24 (i := 14) (v := ?v14c) rfl rfl (by kernel_rfl) (by kernel_rfl) (by kernel_rfl) (fun _ _ _ h => h) (by kernel_rfl) ?y14c hS1 ?_
            case y14c =>
              intro w' hw'; (try dsimp only at hw'); obtain ⟨e0, e1, e2, e3⟩ := hw'; go_simp; try with_reducible rfl
            simp only [Act.put, List.setIfInBounds_toArray, List.set_cons_zero, List.set_cons_succ]
            refine takeY 25 (i := 15) (v := ?v15c) rfl rfl (by kernel_rfl) (by kernel_rfl) (by kernel_rfl) (fun _ _ _ h => h) (by kernel_rfl) ?y15c hS1 ?_
            case y15c =>
              intro w' hw'; (try dsimp only at hw'); obtain ⟨e0, e1, e2, e3⟩ := hw'; go_simp; try with_reducible rfl
            simp only [Act.put, List.setIfInBounds_toArray, List.set_cons_zero, List.set_cons_succ]
            refine takeY 26 (i := 16) (v := ?v16c) rfl rfl (by kernel_rfl) (by kernel_rfl) (by kernel_rfl) (fun _ _ _ h => h) (by kernel_rfl) ?y16c hS1 ?_
            case y16c =>
              intro w' hw'; (try dsimp only at hw'); obtain ⟨e0, e1, e2, e3⟩ := hw'; go_simp; try with_reducible rfl
            simp only [Act.put, List.setIfInBounds_toArray, List.set_cons_zero, List.set_cons_succ]
            refine takeY 27 (i := 17) (v := ?v17c) rfl rfl (by kernel_rfl) (by kernel_rfl) (by kernel_rfl) (fun _ _ _ h => h) (by kernel_rfl) ?y17c hS1 ?_
            case y17c =>
              intro w' hw'; (try dsimp only at hw'); obtain ⟨e0, e1, e2, e3⟩ := hw'; go_simp; try with_reducible rfl
            simp only [Act.put, List.setIfInBounds_toArray, List.set_cons_zero, List.set_cons_succ]
            refine takeY 28 (i := 18) (v := ?v18c) rfl rfl (by kernel_rfl) (by kernel_rfl) (by kernel_rfl) (fun _ _ _ h => h) (by kernel_rfl) ?y18c hS1 ?_
            case y18c =>
              intro w' hw'; (try dsimp only at hw'); obtain ⟨e0, e1, e2, e3⟩ := hw'; go_simp; try with_reducible rfl
            simp only [Act.put, List.setIfInBounds_toArray, List.set_cons_zero, List.set_cons_succ]
            refine takeY 29 (i := 19) (v := ?v19c) rfl rfl (by kernel_rfl) (by kernel_rfl) (by kernel_rfl) (fun _ _ _ h => h) (by kernel_rfl) ?y19c hS1 ?_
            case y19c =>
              intro w' hw'; (try dsimp only at hw'); obtain ⟨e0, e1, e2, e3⟩ := hw'; go_simp; try with_reducible rfl
            simp only [Act.put, List.setIfInBounds_toArray, List.set_cons_zero, List.set_cons_succ]
            refine takeY 30 (i := 20) (v := ?v20c) rfl rfl (by kernel_rfl) (by kernel_rfl) (by kernel_rfl) (fun _ _ _ h => h) (by kernel_rfl) ?y20c hS1 ?_
            case y20c =>
              intro w' hw'; (try dsimp only at hw'); obtain ⟨e0, e1, e2, e3⟩ := hw'; go_simp; try with_reducible rfl
            simp only [Act.put, List.setIfInBounds_toArray, List.set_cons_zero, List.set_cons_succ]
            refine takeY 31 (i := 21) (v := ?v21c) rfl rfl (by kernel_rfl) (by kernel_rfl) (by kernel_rfl) (fun _ _ _ h => h) (by kernel_rfl) ?y21c hS1 ?_
            case y21c =>
              intro w' hw'; (try dsimp only at hw'); obtain ⟨e0, e1, e2, e3⟩ := hw'; go_simp; try with_reducible rfl
            simp only [Act.put, List.setIfInBounds_toArray, List.set_cons_zero, List.set_cons_succ]
            refine takeY 32 (i := 22) (v := ?v22c) rfl rfl (by kernel_rfl) (by kernel_rfl) (by kernel_rfl) (fun _ _ _ h => h) (by kernel_rfl) ?y22c hS1 ?_
            case y22c =>
              intro w' hw'; (try dsimp only at hw'); obtain ⟨e0, e1, e2, e3⟩ := hw'; go_simp; try with_reducible rfl
            simp only [Act.put, List.setIfInBounds_toArray, List.set_cons_zero, List.set_cons_succ]
            refine takeY 33 (i := 23) (v := ?v23c) rfl rfl (by kernel_rfl) (by kernel_rfl) (by kernel_rfl) (fun _ _ _ h => h) (by kernel_rfl) ?y23c hS1 ?_
            case y23c =>
              intro w' hw'; (try dsimp only at hw'); obtain ⟨e0, e1, e2, e3⟩ := hw'; go_simp; try with_reducible rfl
            simp only [Act.put, List.setIfInBounds_toArray, List.set_cons_zero, List.set_cons_succ]
            refine wpAnyH_done (by kernel_rfl) ?_ _
            clear hk0
            go_wp2
            go_ret
            exact ⟨HF.out.symm ▸ rfl, HB.out.trans (hb3.mono hsz.out)⟩
          · go_wp2
            have hk0 : decide (0 < k) = true := decide_eq_true (by have := HK0.out; omega)
            have hs0 : Below wr.heap.size wr wr.drew ∧ wr.drew.cell? ⟨b1, off + k * 2, none⟩ = some (.int .i64 t.id) ∧ wr.drew.cell? ⟨b1, off + k * 2 + 1, none⟩ = some (.slice t.A t.n t.c) ∧ wr.drew.cell? ⟨b1, off + j * 2, none⟩ = some (.int .i64 t0.id) := ⟨(Below.refl _ _).drew, f1, f2, f3⟩
            refine wp_region_held (S := fun w' => Below wr.heap.size wr w' ∧ w'.cell? ⟨b1, off + k * 2, none⟩ = some (.int .i64 t.id) ∧ w'.cell? ⟨b1, off + k * 2 + 1, none⟩ = some (.slice t.A t.n t.c) ∧ w'.cell? ⟨b1, off + j * 2, none⟩ = some (.int .i64 t0.id)) (by kernel_rfl) ?_
            change wpAnyH _ _ _ _ _ _ _ _ (World.drew _)
            refine takeY 10 (i := 0) (v := ?v0d) rfl rfl (by kernel_rfl) (by kernel_rfl) (by kernel_rfl) (fun _ _ _ h => h) (by kernel_rfl) ?y0d hs0 ?_
            case y0d =>
              intro w' hw'; (try dsimp only at hw'); obtain ⟨e0, e1, e2, e3⟩ := hw'; go_simp; try with_reducible rfl
            simp only [Act.put, List.setIfInBounds_toArray, List.set_cons_zero, List.set_cons_succ]
            refine takeY 11 (i := 1) (v := ?v1d) rfl rfl (by kernel_rfl) (by kernel_rfl) (by kernel_rfl) (fun _ _ _ h => h) (by kernel_rfl) ?y1d hs0 ?_
            case y1d =>
              intro w' hw'; (try dsimp only at hw'); obtain ⟨e0, e1, e2, e3⟩ := hw'; go_simp; try with_reducible rfl
            simp only [Act.put, List.setIfInBounds_toArray, List.set_cons_zero, List.set_cons_succ]
            refine takeY 12 (i := 2) (v := ?v2d) rfl rfl (by kernel_rfl) (by kernel_rfl) (by kernel_rfl) (fun _ _ _ h => h) (by kernel_rfl) ?y2d hs0 ?_
            case y2d =>
              intro w' hw'; (try dsimp only at hw'); obtain ⟨e0, e1, e2, e3⟩ := hw'; go_simp; try with_reducible rfl
            simp only [Act.put, List.setIfInBounds_toArray, List.set_cons_zero, List.set_cons_succ]
            refine takeY 13 (i := 3) (v := ?v3d) rfl rfl (by kernel_rfl) (by kernel_rfl) (by kernel_rfl) (fun _ _ _ h => h) (by kernel_rfl) ?y3d hs0 ?_
            case y3d =>
              intro w' hw'; (try dsimp only at hw'); obtain ⟨e0, e1, e2, e3⟩ := hw'; go_simp; try with_reducible rfl
            simp only [Act.put, List.setIfInBounds_toArray, List.set_cons_zero, List.set_cons_succ]
            refine wpAnyH_ready (rs := [4]) (by kernel_rfl) (by simp) ?_
            refine AllReadyH.cons rfl (fun K hK => ?_) AllReadyH.nil
            go_simp; go_at_call 131; refine (sIsItem_in wr _ B t HI.out (Nat.le_trans hB hsz.out) (Below.refl _ _).drew htn.out true ⟨fun _ => HD.out, fun _ => rfl⟩).mono ?_; rintro e w3 ⟨rfl, hb3⟩
            refine hK.out _ _ ⟨hb3, (hb3.cell (p := ⟨b1, off + k * 2, none⟩) (by exact Nat.lt_of_lt_of_le hb1 (Nat.le_trans hB hsz.out))).trans f1, (hb3.cell (p := ⟨b1, off + k * 2 + 1, none⟩) (by exact Nat.lt_of_lt_of_le hb1 (Nat.le_trans hB hsz.out))).trans f2, (hb3.cell (p := ⟨b1, off + j * 2, none⟩) (by exact Nat.lt_of_lt_of_le hb1 (Nat.le_trans hB hsz.out))).trans f3⟩ (fun hS1 => ?_)
            clear hK K
            try simp only [Act.put, List.setIfInBounds_toArray, List.set_cons_zero, List.set_cons_succ]
            refine takeY 15 (i := 5) (v := ?v5d) rfl rfl (by kernel_rfl) (by kernel_rfl) (by kernel_rfl) (fun _ _ _ h => h) (by kernel_rfl) ?y5d hS1 ?_
            case y5d =>
              intro w' hw'; (try dsimp only at hw'); obtain ⟨e0, e1, e2, e3⟩ := hw'; go_simp; try with_reducible rfl
            simp only [Act.put, List.setIfInBounds_toArray, List.set_cons_zero, List.set_cons_succ]
            refine takeY 16 (i := 6) (v := ?v6d) rfl rfl (by kernel_rfl) (by kernel_rfl) (by kernel_rfl) (fun _ _ _ h => h) (by kernel_rfl) ?y6d hS1 ?_
            case y6d =>
              intro w' hw'; (try dsimp only at hw'); obtain ⟨e0, e1, e2, e3⟩ := hw'; go_simp; try with_reducible rfl
            simp only [Act.put, List.setIfInBounds_toArray, List.set_cons_zero, List.set_cons_succ]
            refine takeY 17 (i := 7) (v := ?v7d) rfl rfl (by kernel_rfl) (by kernel_rfl) (by kernel_rfl) (fun _ _ _ h => h) (by kernel_rfl) ?y7d hS1 ?_
            case y7d =>
              intro w' hw'; (try dsimp only at hw'); obtain ⟨e0, e1, e2, e3⟩ := hw'; go_simp; try with_reducible rfl
            simp only [Act.put, List.setIfInBounds_toArray, List.set_cons_zero, List.set_cons_succ]
            refine takeY 18 (i := 8) (v := ?v8d) rfl rfl (by kernel_rfl) (by kernel_rfl) (by kernel_rfl) (fun _ _ _ h => h) (by kernel_rfl) ?y8d hS1 ?_
            case y8d =>
              intro w' hw'; (try dsimp only at hw'); obtain ⟨e0, e1, e2, e3⟩ := hw'; go_simp; try with_reducible rfl
            simp only [Act.put, List.setIfInBounds_toArray, List.set_cons_zero, List.set_cons_succ]
            refine takeY 19 (i := 9) (v := ?v9d) rfl rfl (by kernel_rfl) (by kernel_rfl) (by kernel_rfl) (fun _ _ _ h => h) (by kernel_rfl) ?y9d hS1 ?_
            case y9d =>
              intro w' hw'; (try dsimp only at hw'); obtain ⟨e0, e1, e2, e3⟩ := hw'; go_simp; try with_reducible rfl
            simp only [Act.put, List.setIfInBounds_toArray, List.set_cons_zero, List.set_cons_succ]
            refine takeY 20 (i := 10) (v := ?v10d) rfl rfl (by kernel_rfl) (by kernel_rfl) (by kernel_rfl) (fun _ _ _ h => h) (by kernel_rfl) ?y10d hS1 ?_
            case y10d =>
              intro w' hw'; (try dsimp only at hw'); obtain ⟨e0, e1, e2, e3⟩ := hw'; go_simp; try with_reducible rfl
            simp only [Act.put, List.setIfInBounds_toArray, List.set_cons_zero, List.set_cons_succ]
            refine takeY 21 (i := 11) (v := ?v11d) rfl rfl (by kernel_rfl) (by kernel_rfl) (by kernel_rfl) (fun _ _ _ h => h) (by kernel_rfl) ?y11d hS1 ?_
            case y11d =>
              intro w' hw'; (try dsimp only at hw'); obtain ⟨e0, e1, e2, e3⟩ := hw'; go_simp; try with_reducible rfl
            simp only [Act.put, List.setIfInBounds_toArray, List.set_cons_zero, List.set_cons_succ]
            refine takeY 22 (i := 12) (v := ?v12d) rfl rfl (by kernel_rfl) (by kernel_rfl) (by kernel_rfl) (fun _ _ _ h => h) (by kernel_rfl) ?y12d hS1 ?_
            case y12d =>
              intro w' hw'; (try dsimp only at hw'); obtain ⟨e0, e1, e2, e3⟩ := hw'; go_simp; try with_reducible rfl
            simp only [Act.put, List.setIfInBounds_toArray, List.set_cons_zero, List.set_cons_succ]
            refine takeY 23 (i := 13) (v := ?v13d) rfl rfl (by kernel_rfl) (by kernel_rfl) (by kernel_rfl) (fun _ _ _ h => h) (by kernel_rfl) ?y13d hS1 ?_
            case y13d =>
              intro w' hw'; (try dsimp only at hw'); obtain ⟨e0, e1, e2, e3⟩ := hw'; go_simp; try with_reducible rfl
            simp only [Act.put, List.setIfInBounds_toArray, List.set_cons_zero, List.set_cons_succ]
            refine takeY 24 (i := 14) (v := ?v14d) rfl rfl (by kernel_rfl) (by kernel_rfl) (by kernel_rfl) (fun _ _ _ h => h) (by kernel_rfl) ?y14d hS1 ?_
            case y14d =>
              intro w' hw'; (try dsimp only at hw'); obtain ⟨e0, e1, e2, e3⟩ := hw'; go_simp; try with_reducible rfl
            simp only [Act.put, List.setIfInBounds_toArray, List.set_cons_zero, List.set_cons_succ]
            refine takeY 25 (i := 15) (v := ?v15d) rfl rfl (by kernel_rfl) (by kernel_rfl) (by kernel_rfl) (fun _ _ _ h => h) (by kernel_rfl) ?y15d hS1 ?_
            case y15d =>
              intro w' hw'; (try dsimp only at hw'); obtain ⟨e0, e1, e2, e3⟩ := hw'; go_simp; try with_reducible rfl
            simp only [Act.put, List.setIfInBounds_toArray, List.set_cons_zero, List.set_cons_succ]
            refine takeY 26 (i := 16) (v := ?v16d) rfl rfl (by kernel_rfl) (by kernel_rfl) (by kernel_rfl) (fun _ _ _ h => h) (by kernel_rfl) ?y16d hS1 ?_
            case y16d =>
              intro w' hw'; (try dsimp only at hw'); obtain ⟨e0, e1, e2, e3⟩ := hw'; go_simp; try with_reducible rfl
            simp only [Act.put, List.setIfInBounds_toArray, List.set_cons_zero, List.set_cons_succ]
            refine takeY 27 (i := 17) (v := ?v17d) rfl rfl (by kernel_rfl) (by kernel_rfl) (by kernel_rfl) (fun _ _ _ h => h) (by kernel_rfl) ?y17d hS1 ?_
            case y17d =>
              intro w' hw'; (try dsimp only at hw'); obtain ⟨e0, e1, e2, e3⟩ := hw'; go_simp; try with_reducible rfl
            simp only [Act.put, List.setIfInBounds_toArray, List.set_cons_zero, List.set_cons_succ]
            refine takeY 28 (i := 18) (v := ?v18d) rfl rfl (by kernel_rfl) (by kernel_rfl) (by kernel_rfl) (fun _ _ _ h => h) (by kernel_rfl) ?y18d hS1 ?_
            case y18d =>
              intro w' hw'; (try dsimp only at hw'); obtain ⟨e0, e1, e2, e3⟩ := hw'; go_simp; try with_reducible rfl
            simp only [Act.put, List.setIfInBounds_toArray, List.set_cons_zero, List.set_cons_succ]
            refine takeY 29 (i := 19) (v := ?v19d) rfl rfl (by kernel_rfl) (by kernel_rfl) (by kernel_rfl) (fun _ _ _ h => h) (by kernel_rfl) ?y19d hS1 ?_
            case y19d =>
              intro w' hw'; (try dsimp only at hw'); obtain ⟨e0, e1, e2, e3⟩ := hw'; go_simp; try with_reducible rfl
            simp only [Act.put, List.setIfInBounds_toArray, List.set_cons_zero, List.set_cons_succ]
            refine takeY 30 (i := 20) (v := ?v20d) rfl rfl (by kernel_rfl) (by kernel_rfl) (by kernel_rfl) (fun _ _ _ h => h) (by kernel_rfl) ?y20d hS1 ?_
            case y20d =>
              intro w' hw'; (try dsimp only at hw'); obtain ⟨e0, e1, e2, e3⟩ := hw'; go_simp; try with_reducible rfl
            simp only [Act.put, List.setIfInBounds_toArray, List.set_cons_zero, List.set_cons_succ]
            refine takeY 31 (i := 21) (v := ?v21d) rfl rfl (by kernel_rfl) (by kernel_rfl) (by kernel_rfl) (fun _ _ _ h => h) (by kernel_rfl) ?y21d hS1 ?_
            case y21d =>
              intro w' hw'; (try dsimp only at hw'); obtain ⟨e0, e1, e2, e3⟩ := hw'; go_simp; try with_reducible rfl
            simp only [Act.put, List.setIfInBounds_toArray, List.set_cons_zero, List.set_cons_succ]
            refine takeY 32 (i := 22) (v := ?v22d) rfl rfl (by kernel_rfl) (by kernel_rfl) (by kernel_rfl) (fun _ _ _ h => h) (by kernel_rfl) ?y22d hS1 ?_
            case y22d =>
              intro w' hw'; (try dsimp only at hw'); obtain ⟨e0, e1, e2, e3⟩ := hw'; go_simp; try with_reducible rfl
            simp only [Act.put, List.setIfInBounds_toArray, List.set_cons_zero, List.set_cons_succ]
            refine takeY 33 (i := 23) (v := ?v23d) rfl rfl (by kernel_rfl) (by kernel_rfl) (by kernel_rfl) (fun _ _ _ h => h) (by kernel_rfl) ?y23d hS1 ?_
            case y23d =>
              intro w' hw'; (try dsimp only at hw'); obtain ⟨e0, e1, e2, e3⟩ := hw'; go_simp; try with_reducible rfl
            simp only [Act.put, List.setIfInBounds_toArray, List.set_cons_zero, List.set_cons_succ]
            refine wpAnyH_done (by kernel_rfl) ?_ _
            clear hk0
            go_wp2
            go_roundw
            case rel => exact ⟨k + 1, by omega, by go_num, are_step HAt.out HA.out HD.out, HR.out.step (fun h0 => by rw [HLt.out.1, HLt.out.2]; omega), HB.out.trans (hb3.mono hsz.out)⟩
            case measure => simp [intOf]; omega
    · obtain rfl : k = n := by omega
      clear hbel
      obtain ⟨q, hq⟩ := bool_of (k ≤ 16)
      have hbq : Hid (b = q) := by
        show _ = _
        have h1 := HA.out
        rw [take_all HX.out.1] at h1
        rw [Bool.eq_iff_iff, HBo.out, hq]
        unfold AreP
        rw [List.length_map, HX.out.1]
        exact ⟨fun h => h.2.2, fun h => ⟨fun d hd => by obtain ⟨u, hu, rfl⟩ := List.mem_map.1 hd; exact h1 u hu, HR.out, h⟩⟩
      cases q
      · have hq' : ¬ ((k : Int) ≤ 16) := by have := mt hq.2 (by simp); omega
        clear hq
        go_wp2
        go_ret
        exact ⟨hbq.out.symm ▸ rfl, HB.out⟩
      · have hq' : (k : Int) ≤ 16 := by have := hq.1 rfl; omega
        clear hq
        go_wp2
        go_ret
        exact ⟨hbq.out.symm ▸ rfl, HB.out⟩
end Go.Proofs.YtceiocdemhkcdaaGreat.num
namespace Go.Proofs.YtceiocdemhkcdaaGreat.num
set_option maxRecDepth 20000
set_option linter.unusedVariables false
set_option linter.unusedSimpArgs false

/-- What an item says: its number and its values. -/
abbrev Dt := Int × List Int
def dIt (d : Dt) : It := ⟨d.1, none, 0, 0, d.2⟩
/-- How x compares with y. -/
def cmpD (t : Tr) (x y : Dt) : Int := cmpT (wishF (dIt x) (dIt y)) t
theorem cmpD_it (t : Tr) (x y : It) : cmpT (wishF x y) t = cmpD t x.dat y.dat := by
  unfold cmpD
  rw [wishF_dat (x := dIt x.dat) (x' := x) (y := dIt y.dat) (y' := y) rfl rfl]
theorem cmpD_code (t : Tr) (x y : Dt) : Code (cmpD t x y) := cmpT_code (wishF_code _ _) t
theorem cmpD_turn {nds : List ND} {t : Tr} (h : Post nds t) (x y : Dt) : cmpD t y x = revC (cmpD t x y) := cmpT_turn h _ _
theorem cmpD_self {nds : List ND} {t : Tr} (h : Post nds t) (x : Dt) : cmpD t x x = 0 := cmpT_self h _
theorem cmpD_tr {nds : List ND} {t : Tr} (h : Post nds t) (x y z : Dt) : Tr3 (cmpD t x y) (cmpD t y z) (cmpD t x z) := cmpT_tr h _ _ _
/-- x is better than y. -/
def btD (t : Tr) (x y : Dt) : Bool := cmpD t x y == 1
def lvB (t : Tr) (x y : Dt) : Bool := !btD t x y && !btD t y x
def bestB (t : Tr) (ds : List Dt) (x : Dt) : Bool := ds.all fun y => !btD t y x
def bestD (t : Tr) (ds : List Dt) : List Dt := ds.filter (bestB t ds)
def domD (t : Tr) (ds : List Dt) (x : Dt) : List Dt := ds.filter fun y => btD t y x
def subD (t : Tr) (ds : List Dt) (x : Dt) : List Dt := ds.filter fun y => btD t x y
def lvD (t : Tr) (ds : List Dt) (x : Dt) : List Dt := ds.filter fun y => lvB t x y
def mostD (t : Tr) (ds : List Dt) : List Dt → Nat
  | [] => 0
  | x :: r => max (lvD t ds x).length (mostD t ds r)
def idsD (ds : List Dt) : List Int := ds.map (·.1)
theorem mostD_snoc (t : Tr) (ds : List Dt) (x : Dt) : ∀ l, mostD t ds (l ++ [x]) = max (mostD t ds l) (lvD t ds x).length
  | [] => by simp [mostD]
  | y :: r => by rw [List.cons_append, mostD, mostD_snoc t ds x r, mostD]; omega
theorem mostD_le (t : Tr) (ds : List Dt) : ∀ l, mostD t ds l ≤ ds.length
  | [] => by simp [mostD]
  | y :: r => by
    have h1 := mostD_le t ds r
    have h2 : (lvD t ds y).length ≤ ds.length := List.length_filter_le _ _
    rw [mostD]; omega
theorem mostD_mem {t : Tr} {ds : List Dt} {x : Dt} : ∀ {l : List Dt}, x ∈ l → (lvD t ds x).length ≤ mostD t ds l
  | y :: r, h => by
    rcases List.mem_cons.1 h with rfl | h
    · rw [mostD]; omega
    · have := mostD_mem (t := t) (ds := ds) h
      rw [mostD]; omega
/-- The greatest count of items that lev takes beside one of l. -/
def mostL (lev : It → It → Bool) (its : List It) : List It → Nat
  | [] => 0
  | x :: r => max (its.filter (lev x)).length (mostL lev its r)
theorem mostL_snoc (lev : It → It → Bool) (its : List It) (x : It) : ∀ l, mostL lev its (l ++ [x]) = max (mostL lev its l) (its.filter (lev x)).length
  | [] => by simp [mostL]
  | y :: r => by rw [List.cons_append, mostL, mostL_snoc lev its x r, mostL]; omega
theorem mostL_le (lev : It → It → Bool) (its : List It) : ∀ l, mostL lev its l ≤ its.length
  | [] => by simp [mostL]
  | y :: r => by
    have h1 := mostL_le lev its r
    have h2 : (its.filter (lev y)).length ≤ its.length := List.length_filter_le _ _
    rw [mostL]; omega
theorem mostD_it (t : Tr) (its : List It) : ∀ l : List It, mostD t (its.map It.dat) (l.map It.dat) = mostL (fun x y => lvB t x.dat y.dat) its l
  | [] => rfl
  | y :: r => by
    rw [List.map_cons, mostD, mostL, mostD_it t its r]
    congr 1
    unfold lvD
    rw [List.filter_map, List.length_map]
    rfl
/-- The answer of a function that asks first whether what came in is valid. -/
def AnsP {β : Type} (nds : List ND) (ds : List Dt) (f : Tr → β) (z r : β) : Prop := (∃ t, IsE nds ∧ AreP ds ∧ Post nds t ∧ r = f t) ∨ (¬ (IsE nds ∧ AreP ds) ∧ r = z)
section
variable {β : Type} {nds : List ND} {ds : List Dt} {f : Tr → β} {z r r' : β}
theorem AnsP.some (nds : List ND) (ds : List Dt) (f : Tr → β) (z : β) : ∃ r, AnsP nds ds f z r := by
  by_cases h : IsE nds ∧ AreP ds
  · obtain ⟨t, ht⟩ := h.1.2
    exact ⟨f t, .inl ⟨t, h.1, h.2, ht, rfl⟩⟩
  · exact ⟨z, .inr ⟨h, rfl⟩⟩
theorem AnsP.yes (h : AnsP nds ds f z r) (h1 : IsE nds) (h2 : AreP ds) {t : Tr} (ht : Post nds t) : r = f t := by
  rcases h with ⟨t', _, _, ht', rfl⟩ | ⟨hn, _⟩
  · rw [ht'.one ht]
  · exact absurd ⟨h1, h2⟩ hn
theorem AnsP.no (h : AnsP nds ds f z r) (hn : ¬ (IsE nds ∧ AreP ds)) : r = z := by
  rcases h with ⟨t', h1, h2, _⟩ | ⟨_, h⟩
  · exact absurd ⟨h1, h2⟩ hn
  · exact h
theorem AnsP.one (h : AnsP nds ds f z r) (h' : AnsP nds ds f z r') : r = r' := by
  rcases h with ⟨t, h1, h2, h3, rfl⟩ | ⟨hn, rfl⟩
  · exact (h'.yes h1 h2 h3).symm
  · exact (h'.no hn).symm
theorem AnsP.all (h : AnsP nds ds f z r) {P : β → Prop} (hf : AreP ds → ∀ t, Post nds t → P (f t)) (hz : P z) : P r := by
  rcases h with ⟨t, h1, h2, h3, rfl⟩ | ⟨hn, rfl⟩
  · exact hf h2 t h3
  · exact hz
end
/-- The item of that number. -/
def findD (ds : List Dt) (x : Int) : Option Dt := ds.find? fun d => d.1 == x
theorem findD_no {ds : List Dt} {x : Int} (h : ∀ d ∈ ds, d.1 ≠ x) : findD ds x = none := by
  unfold findD
  rw [List.find?_eq_none]
  intro d hd
  simpa using h d hd
theorem findD_yes : ∀ {ds : List Dt} {x : Int} {k : Nat} {d : Dt}, ds[k]? = some d → d.1 = x → (∀ u ∈ ds.take k, u.1 ≠ x) → findD ds x = some d
  | [], _, _, _, h, _, _ => by simp at h
  | y :: r, x, 0, d, h, he, _ => by
    simp at h
    subst h
    simp [findD, he]
  | y :: r, x, k + 1, d, h, he, hn => by
    have h1 : y.1 ≠ x := hn y (by simp)
    have ih := findD_yes (ds := r) (k := k) (by simpa using h) he fun u hu => hn u (by simp [hu])
    unfold findD at ih ⊢
    rw [List.find?_cons, show (y.1 == x) = false by simpa using h1]
    exact ih
theorem FindP.find {ds : List Dt} {x r : Int} (h : FindP ds x r) : (r = -1 ∧ findD ds x = none) ∨ ∃ (k : Nat) (d : Dt), r = k ∧ ds[k]? = some d ∧ d.1 = x ∧ findD ds x = some d := by
  rcases h with ⟨rfl, h⟩ | ⟨k, rfl, ⟨d, hd, he⟩, h⟩
  · exact .inl ⟨rfl, findD_no h⟩
  · exact .inr ⟨k, d, rfl, hd, he, findD_yes hd he h⟩
/-- What each function answers. -/
def BestP (nds : List ND) (ds : List Dt) (r : List Int) : Prop := AnsP nds ds (fun t => idsD (bestD t ds)) [] r
def onFind {β : Type} (ds : List Dt) (x : Int) (z : β) (f : Dt → β) : β := match findD ds x with | none => z | some d => f d
def DomP (nds : List ND) (ds : List Dt) (x : Int) (r : List Int) : Prop := AnsP nds ds (fun t => onFind ds x [] fun d => idsD (domD t ds d)) [] r
def SubP (nds : List ND) (ds : List Dt) (x : Int) (r : List Int) : Prop := AnsP nds ds (fun t => onFind ds x [] fun d => idsD (subD t ds d)) [] r
def RankP (nds : List ND) (ds : List Dt) (x : Int) (r : Int) : Prop := AnsP nds ds (fun t => onFind ds x (-1) fun d => (((domD t ds d).length : Nat) : Int)) (-1) r
def WidP (nds : List ND) (ds : List Dt) (r : Int) : Prop := AnsP nds ds (fun t => ((mostD t ds ds : Nat) : Int)) 0 r
def IsBP (nds : List ND) (ds : List Dt) (x : Int) (b : Bool) : Prop := AnsP nds ds (fun t => decide (x ∈ idsD (bestD t ds))) false b
theorem IsBP.iff {nds : List ND} {ds : List Dt} {x : Int} {b : Bool} {l : List Int} (h : IsBP nds ds x b) (g : BestP nds ds l) : b = true ↔ x ∈ l := by
  rcases h with ⟨t, h1, h2, h3, rfl⟩ | ⟨hn, rfl⟩
  · rw [g.yes h1 h2 h3]; exact decide_eq_true_iff
  · rw [g.no hn]; simp
theorem onFind_some {β : Type} {ds : List Dt} {x : Int} {z : β} {f : Dt → β} {d : Dt} (h : findD ds x = some d) : onFind ds x z f = f d := by unfold onFind; rw [h]
theorem onFind_none {β : Type} {ds : List Dt} {x : Int} {z : β} {f : Dt → β} (h : findD ds x = none) : onFind ds x z f = z := by unfold onFind; rw [h]
theorem DomP.none {nds : List ND} {ds : List Dt} {x : Int} {l : List Int} (h : DomP nds ds x l) (hf : findD ds x = none) : l = [] := h.all (P := fun l => l = []) (fun _ t _ => onFind_none hf) rfl
theorem SubP.none {nds : List ND} {ds : List Dt} {x : Int} {l : List Int} (h : SubP nds ds x l) (hf : findD ds x = none) : l = [] := h.all (P := fun l => l = []) (fun _ t _ => onFind_none hf) rfl
theorem ids_le {ds : List Dt} {p : Dt → Bool} (h : AreP ds) : (idsD (ds.filter p)).length ≤ 16 := by
  have h1 : (ds.filter p).length ≤ ds.length := List.length_filter_le _ _
  have h2 := h.2.2
  unfold idsD
  rw [List.length_map]; omega
theorem BestP.small {nds : List ND} {ds : List Dt} {r : List Int} (h : BestP nds ds r) : r.length ≤ 16 := h.all (P := fun r => r.length ≤ 16) (fun ha t _ => ids_le ha) (by simp)
theorem DomP.small {nds : List ND} {ds : List Dt} {x : Int} {r : List Int} (h : DomP nds ds x r) : r.length ≤ 16 := h.all (P := fun r => r.length ≤ 16) (fun ha t _ => by unfold onFind; split; simp; exact ids_le ha) (by simp)
theorem SubP.small {nds : List ND} {ds : List Dt} {x : Int} {r : List Int} (h : SubP nds ds x r) : r.length ≤ 16 := h.all (P := fun r => r.length ≤ 16) (fun ha t _ => by unfold onFind; split; simp; exact ids_le ha) (by simp)
theorem RankP.small {nds : List ND} {ds : List Dt} {x r : Int} (h : RankP nds ds x r) : -1 ≤ r ∧ r ≤ 16 := h.all (P := fun r => -1 ≤ r ∧ r ≤ 16) (fun ha t _ => by
  unfold onFind
  split
  · omega
  · rename_i d _
    have h1 : (domD t ds d).length ≤ ds.length := List.length_filter_le _ _
    have h2 := ha.2.2
    show -1 ≤ ((domD t ds d).length : Int) ∧ ((domD t ds d).length : Int) ≤ 16
    omega) (by omega)
theorem WidP.small {nds : List ND} {ds : List Dt} {r : Int} (h : WidP nds ds r) : 0 ≤ r ∧ r ≤ 16 := h.all (P := fun r => 0 ≤ r ∧ r ≤ 16) (fun ha t _ => by
  have h1 := mostD_le t ds ds
  have h2 := ha.2.2
  omega) (by omega)
theorem rank_dom {nds : List ND} {ds : List Dt} {x r : Int} {l : List Int} (h : RankP nds ds x r) (g : DomP nds ds x l) (hv : IsE nds) (ha : AreP ds) {d : Dt} (hd : findD ds x = some d) : r = l.length := by
  obtain ⟨t, ht⟩ := hv.2
  rw [h.yes hv ha ht, g.yes hv ha ht]
  simp [onFind, hd, idsD]
theorem lv_code {nds : List ND} {t : Tr} (h : Post nds t) (x y : Dt) : lvB t x y = (cmpD t x y == 2 || cmpD t x y == 0) := by
  have h1 := cmpD_turn h x y
  unfold lvB btD
  rw [h1]
  rcases cmpD_code t x y with e | e | e | e <;> rw [e] <;> rfl
end Go.Proofs.YtceiocdemhkcdaaGreat.num
namespace Go.Proofs.YtceiocdemhkcdaaGreat.num
set_option maxRecDepth 20000
open Go.RowKit
set_option linter.unusedVariables false
set_option linter.unusedSimpArgs false

/-- 1 to 5 expressions. -/
def VoP (ds : List (List ND)) : Prop := 1 ≤ ds.length ∧ ds.length ≤ 5 ∧ ∀ d ∈ ds, IsE d
theorem vo_mem {gs : List Vo} {k : Nat} {x : Vo} (h : gs[k]? = some x) : x.dat ∈ gs.map Vo.dat := List.mem_map_of_mem (List.mem_of_getElem? h)
set_option maxRecDepth 20000 in
theorem sVoters (w : World) (B : Nat) (A : Option Addr) (n c : Nat) (gs : List Vo) (hi : Votes w B A n gs) (hB : B ≤ w.heap.size) (hn : n ≤ 1048576) (hN : ShortV gs) (b : Bool) (hb : b = true ↔ VoP (gs.map Vo.dat)) :
    Calls Tryz.prog 21 #[.slice A n c] w fun e w' => e = .returned (.bool b) ∧ Below w.heap.size w w' := by
  have HX := Lib.hid hi
  have HN := Lib.hid hN
  have HQ := Lib.hid hb
  have HLn : Hid ((gs.map Vo.dat).length = n) := Lib.hid (by rw [List.length_map]; exact hi.len)
  clear hi hN hb
  go_enter Tryz.func21, Tryz.ntmps21
  go_wp2
  go_loopw [3] (fun i wr => ∃ k : Nat, k ≤ n ∧ i = .int .i64 k ∧ (∀ d ∈ (gs.take k).map Vo.dat, IsE d) ∧ Below w.heap.size w wr) (fun i _ => n - (intOf i).toNat)
  case atStart => exact ⟨0, Nat.zero_le _, rfl, by simp, Below.refl _ _⟩
  case round =>
    obtain ⟨k, hk, rfl, hall, hbel⟩ := hrel
    have HB := Lib.hid hbel
    have HA := Lib.hid hall
    clear hall
    by_cases hlt : k < n
    · obtain ⟨b1, off1, x, rfl, hb1, hat1, hn1, e0⟩ := HX.out.at k hlt
      have e0 := (hbel.cell (p := ⟨b1, off1 + k, none⟩) (Nat.lt_of_lt_of_le hb1 hB)).trans e0
      have hlt' : (k : Int) < (n : Int) := by omega
      have hs := HN.out x (List.mem_of_getElem? hat1)
      have HT := Lib.hid hat1
      obtain ⟨q, hq⟩ := bool_of (IsE (datN x.ns))
      have HC : Hid (Calls Tryz.prog 61 #[.slice x.A x.n x.c] wr fun e w' => e = .returned (.bool q) ∧ Below wr.heap.size wr w') :=
        Lib.hid (sIsE wr B x.A x.n x.c x.ns (hn1.below (hbel.mono hB)) (Nat.le_trans hB hbel.size) hs.1 hs.2 q hq)
      have HE : Hid (q = true ↔ IsE x.dat) := Lib.hid hq
      clear hat1 hbel hn1 hs hq
      go_wp2_with fail
      refine HC.out.mono ?_
      rintro e w3 ⟨rfl, hb3⟩
      have HB3 := Lib.hid (below_on HB.out hb3)
      clear hb3 HC e0
      cases q
      · obtain rfl : b = false := by
          cases b
          · rfl
          · have h := HE.out.2 ((HQ.out.1 rfl).2.2 _ (vo_mem HT.out))
            cases h
        go_wp2
        go_ret
        exact ⟨rfl, HB3.out⟩
      · have HA1 : Hid (∀ d ∈ (gs.take (k + 1)).map Vo.dat, IsE d) := Lib.hid fun d hd => by
          rw [votake_at HT.out, List.map_append] at hd
          rcases List.mem_append.1 hd with h | h
          · exact HA.out d h
          · rw [List.map_singleton] at h
            rw [List.mem_singleton.1 h]
            exact HE.out.1 (by first | rfl | trivial)
        go_wp2
        go_roundw
        case rel => exact ⟨k + 1, by omega, by go_num, HA1.out, HB3.out⟩
        case measure => simp [intOf]; omega
    · obtain rfl : k = n := by omega
      have HAl : Hid (∀ d ∈ gs.map Vo.dat, IsE d) := Lib.hid (by have h := HA.out; rwa [votake_all HX.out.len] at h)
      have hbb : b = decide (1 ≤ k ∧ k ≤ 5) := by
        rw [Bool.eq_iff_iff, decide_eq_true_eq, HQ.out]
        unfold VoP
        rw [HLn.out]
        exact ⟨fun h => ⟨h.1, h.2.1⟩, fun h => ⟨h.1, h.2, HAl.out⟩⟩
      clear hbel
      by_cases h1 : 1 ≤ k
      · by_cases h5 : k ≤ 5
        · obtain rfl : b = true := by rw [hbb]; simp; omega
          have g1 : decide ((k : Int) ≥ 1) = true := by simp; omega
          have g2 : decide ((k : Int) ≤ 5) = true := by simp; omega
          clear hbb
          go_wp2
          go_ret
          exact ⟨by first | rfl | simp; omega, HB.out⟩
        · obtain rfl : b = false := by rw [hbb]; simp; omega
          have g1 : decide ((k : Int) ≥ 1) = true := by simp; omega
          have g2 : decide ((k : Int) ≤ 5) = false := by simp; omega
          clear hbb
          go_wp2
          go_ret
          exact ⟨by first | rfl | simp; omega, HB.out⟩
      · obtain rfl : b = false := by rw [hbb]; simp; omega
        have g1 : decide ((k : Int) ≥ 1) = false := by simp; omega
        clear hbb
        go_wp2
        go_ret
        exact ⟨by first | rfl | simp; omega, HB.out⟩
set_option maxRecDepth 20000 in
theorem iVoters (w : World) (B : Nat) (A : Option Addr) (n c : Nat) (gs : List Vo) (hi : Votes w B A n gs) (hB : B ≤ w.heap.size) (hn : n ≤ 1048576) (hN : ShortV gs) (hcap : ∀ x ∈ gs, x.c = x.n) (b : Bool) (hb : b = true ↔ VoP (gs.map Vo.dat)) :
    Calls Tryz.prog 20 #[.slice A n c] w fun e w' => e = .returned (.bool b) ∧ Below w.heap.size w w' := by
  have HX := Lib.hid hi
  have HN := Lib.hid hN
  have HCa := Lib.hid hcap
  have HQ := Lib.hid hb
  have HLn : Hid ((gs.map Vo.dat).length = n) := Lib.hid (by rw [List.length_map]; exact hi.len)
  clear hi hN hb hcap
  by_cases h1 : 1 ≤ n
  · by_cases h5 : n ≤ 5
    · have g1 : decide ((n : Int) < 1) = false := by simp; omega
      have g2 : decide ((n : Int) > 5) = false := by simp; omega
      go_enter Tryz.func20, Tryz.ntmps20
      go_wp2
      go_loopw [15] (fun i wr => ∃ k : Nat, k ≤ n ∧ i = .int .i64 k ∧ (∀ d ∈ (gs.take k).map Vo.dat, IsE d) ∧ Below w.heap.size w wr) (fun i _ => n - (intOf i).toNat)
      case atStart => exact ⟨0, Nat.zero_le _, rfl, by simp, Below.refl _ _⟩
      case round =>
        obtain ⟨k, hk, rfl, hall, hbel⟩ := hrel
        have HB := Lib.hid hbel
        have HA := Lib.hid hall
        clear hall
        by_cases hlt : k < n
        · obtain ⟨b1, off1, x, rfl, hb1, hat1, hn1, e0⟩ := HX.out.at k hlt
          have e0 := (hbel.cell (p := ⟨b1, off1 + k, none⟩) (Nat.lt_of_lt_of_le hb1 hB)).trans e0
          have hlt' : (k : Int) < (n : Int) := by omega
          have hs := HN.out x (List.mem_of_getElem? hat1)
          have hc1 := HCa.out x (List.mem_of_getElem? hat1)
          have HT := Lib.hid hat1
          obtain ⟨q, hq⟩ := bool_of (IsE (datN x.ns))
          have HC : Hid (Calls Tryz.prog 60 #[.slice x.A x.n x.c] wr fun e w' => e = .returned (.bool q) ∧ Below wr.heap.size wr w') :=
            Lib.hid (iIsE wr B x.A x.n x.c x.ns (hn1.below (hbel.mono hB)) (Nat.le_trans hB hbel.size) (by omega) (by omega) hs.2 q hq)
          have HE : Hid (q = true ↔ IsE x.dat) := Lib.hid hq
          clear hat1 hbel hn1 hs hq hc1
          go_wp2_with fail
          refine HC.out.mono ?_
          rintro e w3 ⟨rfl, hb3⟩
          have HB3 := Lib.hid (below_on HB.out hb3)
          clear hb3 HC e0
          cases q
          · obtain rfl : b = false := by
              cases b
              · rfl
              · have h := HE.out.2 ((HQ.out.1 rfl).2.2 _ (vo_mem HT.out))
                cases h
            go_wp2
            go_ret
            exact ⟨rfl, HB3.out⟩
          · have HA1 : Hid (∀ d ∈ (gs.take (k + 1)).map Vo.dat, IsE d) := Lib.hid fun d hd => by
              rw [votake_at HT.out, List.map_append] at hd
              rcases List.mem_append.1 hd with h | h
              · exact HA.out d h
              · rw [List.map_singleton] at h
                rw [List.mem_singleton.1 h]
                exact HE.out.1 (by first | rfl | trivial)
            go_wp2
            go_roundw
            case rel => exact ⟨k + 1, by omega, by go_num, HA1.out, HB3.out⟩
            case measure => simp [intOf]; omega
        · obtain rfl : k = n := by omega
          have HAl : Hid (∀ d ∈ gs.map Vo.dat, IsE d) := Lib.hid (by have h := HA.out; rwa [votake_all HX.out.len] at h)
          obtain rfl : b = true := HQ.out.2 ⟨by rw [HLn.out]; exact h1, by rw [HLn.out]; exact h5, HAl.out⟩
          clear hbel
          go_wp2
          go_ret
          exact ⟨rfl, HB.out⟩
    · obtain rfl : b = false := by
        cases b
        · rfl
        · have h := (HQ.out.1 rfl).2.1
          rw [HLn.out] at h
          omega
      have g1 : decide ((n : Int) < 1) = false := by simp; omega
      have g2 : decide ((n : Int) > 5) = true := by simp; omega
      go_enter Tryz.func20, Tryz.ntmps20
      go_wp2
      go_ret
      exact ⟨rfl, Below.refl _ _⟩
  · obtain rfl : b = false := by
      cases b
      · rfl
      · have h := (HQ.out.1 rfl).1
        rw [HLn.out] at h
        omega
    have g1 : decide ((n : Int) < 1) = true := by simp; omega
    go_enter Tryz.func20, Tryz.ntmps20
    go_wp2
    go_ret
    exact ⟨rfl, Below.refl _ _⟩
end Go.Proofs.YtceiocdemhkcdaaGreat.num
namespace Go.Proofs.YtceiocdemhkcdaaGreat.num
set_option maxRecDepth 20000
open Go.RowKit
set_option linter.unusedVariables false
set_option linter.unusedSimpArgs false

/-- Better for some voters and equal for all others. -/
def uniB (ts : List Tr) (x y : Dt) : Bool := (ts.all fun t => cmpD t x y == 1 || cmpD t x y == 0) && ts.any fun t => cmpD t x y == 1
/-- The tree that joins one tree and more by OpPareto. -/
def joinT : Tr → List Tr → Tr
  | j, [] => j
  | j, t :: r => joinT (.bin 1 j t) r
theorem joinT_snoc (j : Tr) (ts : List Tr) (t : Tr) : joinT j (ts ++ [t]) = .bin 1 (joinT j ts) t := by
  induction ts generalizing j with
  | nil => rfl
  | cons a r ih => exact ih (.bin 1 j a)
theorem opC_one {a b : Int} (ha : Code a) (hb : Code b) : (opC 1 a b = 1 ∨ opC 1 a b = 0 ↔ (a = 1 ∨ a = 0) ∧ (b = 1 ∨ b = 0)) ∧ (opC 1 a b = 1 ↔ ((a = 1 ∨ a = 0) ∧ (b = 1 ∨ b = 0)) ∧ (a = 1 ∨ b = 1)) := by
  rcases ha with rfl | rfl | rfl | rfl <;> rcases hb with rfl | rfl | rfl | rfl <;> decide
theorem joinT_cmp (x y : Dt) (ts : List Tr) : ∀ j : Tr, ((cmpD (joinT j ts) x y = 1 ∨ cmpD (joinT j ts) x y = 0) ↔ (cmpD j x y = 1 ∨ cmpD j x y = 0) ∧ ∀ t ∈ ts, cmpD t x y = 1 ∨ cmpD t x y = 0) ∧ (cmpD (joinT j ts) x y = 1 ↔ ((cmpD j x y = 1 ∨ cmpD j x y = 0) ∧ ∀ t ∈ ts, cmpD t x y = 1 ∨ cmpD t x y = 0) ∧ (cmpD j x y = 1 ∨ ∃ t ∈ ts, cmpD t x y = 1)) := by
  induction ts with
  | nil =>
    intro j
    show ((cmpD j x y = 1 ∨ cmpD j x y = 0) ↔ _) ∧ (cmpD j x y = 1 ↔ _)
    constructor
    · simp
    · constructor
      · intro h; exact ⟨⟨.inl h, by simp⟩, .inl h⟩
      · rintro ⟨-, h | ⟨t, ht, -⟩⟩
        · exact h
        · cases ht
  | cons a r ih =>
    intro j
    obtain ⟨h1, h2⟩ := ih (.bin 1 j a)
    obtain ⟨g1, g2⟩ := opC_one (cmpD_code j x y) (cmpD_code a x y)
    have e : cmpD (.bin 1 j a) x y = opC 1 (cmpD j x y) (cmpD a x y) := rfl
    rw [e, g1] at h1
    rw [e, g1, g2] at h2
    refine ⟨h1.trans ?_, h2.trans ?_⟩
    · constructor
      · rintro ⟨⟨p, q⟩, s⟩
        exact ⟨p, fun t ht => (List.mem_cons.1 ht).elim (fun e => e ▸ q) (s t)⟩
      · rintro ⟨p, s⟩
        exact ⟨⟨p, s a List.mem_cons_self⟩, fun t ht => s t (List.mem_cons_of_mem _ ht)⟩
    · constructor
      · rintro ⟨⟨⟨p, q⟩, s⟩, u⟩
        refine ⟨⟨p, fun t ht => (List.mem_cons.1 ht).elim (fun e => e ▸ q) (s t)⟩, ?_⟩
        rcases u with ⟨-, u | u⟩ | ⟨t, ht, u⟩
        · exact .inl u
        · exact .inr ⟨a, List.mem_cons_self, u⟩
        · exact .inr ⟨t, List.mem_cons_of_mem _ ht, u⟩
      · rintro ⟨⟨p, s⟩, u⟩
        refine ⟨⟨⟨p, s a List.mem_cons_self⟩, fun t ht => s t (List.mem_cons_of_mem _ ht)⟩, ?_⟩
        rcases u with u | ⟨t, ht, u⟩
        · exact .inl ⟨⟨p, s a List.mem_cons_self⟩, .inl u⟩
        · rcases List.mem_cons.1 ht with rfl | ht
          · exact .inl ⟨⟨p, s _ List.mem_cons_self⟩, .inr u⟩
          · exact .inr ⟨t, ht, u⟩
/-- The first voter joined with all: what it decides is what all decide. -/
theorem joinT_bt {t0 : Tr} {ts : List Tr} (h : t0 ∈ ts) (x y : Dt) : btD (joinT t0 ts) x y = uniB ts x y := by
  obtain ⟨-, h2⟩ := joinT_cmp x y ts t0
  unfold btD uniB
  rw [Bool.eq_iff_iff, Bool.and_eq_true, List.all_eq_true, List.any_eq_true, beq_iff_eq, h2]
  constructor
  · rintro ⟨⟨-, s⟩, u⟩
    refine ⟨fun t ht => by rw [Bool.or_eq_true, beq_iff_eq, beq_iff_eq]; exact s t ht, ?_⟩
    rcases u with u | ⟨t, ht, u⟩
    · exact ⟨t0, h, by rw [beq_iff_eq]; exact u⟩
    · exact ⟨t, ht, by rw [beq_iff_eq]; exact u⟩
  · rintro ⟨s, t, ht, u⟩
    have s' : ∀ t ∈ ts, cmpD t x y = 1 ∨ cmpD t x y = 0 := fun t ht => by have := s t ht; rwa [Bool.or_eq_true, beq_iff_eq, beq_iff_eq] at this
    exact ⟨⟨s' t0 h, s'⟩, .inr ⟨t, ht, by rw [beq_iff_eq] at u; exact u⟩⟩
/-- The trees of the voters, in order. -/
structure Posts (dss : List (List ND)) (ts : List Tr) : Prop where
  len : ts.length = dss.length
  at' : ∀ (k : Nat) (d : List ND) (t : Tr), dss[k]? = some d → ts[k]? = some t → Post d t
theorem Posts.some {dss : List (List ND)} (h : ∀ d ∈ dss, IsE d) : ∃ ts, Posts dss ts := by
  induction dss with
  | nil => exact ⟨[], rfl, by simp⟩
  | cons d r ih =>
    obtain ⟨ts, h1, h2⟩ := ih fun e he => h e (List.mem_cons_of_mem _ he)
    obtain ⟨-, t, ht⟩ := h d List.mem_cons_self
    refine ⟨t :: ts, by simp [h1], fun k d' t' hd' ht' => ?_⟩
    cases k with
    | zero => simp at hd' ht'; subst hd' ht'; exact ht
    | succ k => exact h2 k d' t' (by simpa using hd') (by simpa using ht')
theorem Posts.one {dss : List (List ND)} {ts ts' : List Tr} (h : Posts dss ts) (h' : Posts dss ts') : ts = ts' := by
  apply List.ext_getElem (h.len.trans h'.len.symm)
  intro k h1 h2
  have hd : k < dss.length := by rw [← h.len]; exact h1
  exact (h.at' k _ _ (List.getElem?_eq_getElem hd) (List.getElem?_eq_getElem h1)).one (h'.at' k _ _ (List.getElem?_eq_getElem hd) (List.getElem?_eq_getElem h2))
/-- What a function answers that asks first whether items and voters are valid. -/
def VotesP {β : Type} (dss : List (List ND)) (ds : List Dt) (f : List Tr → β) (z r : β) : Prop := (∃ ts, VoP dss ∧ AreP ds ∧ Posts dss ts ∧ r = f ts) ∨ (¬ (VoP dss ∧ AreP ds) ∧ r = z)
section
variable {β : Type} {dss : List (List ND)} {ds : List Dt} {f : List Tr → β} {z r : β}
theorem VotesP.some (dss : List (List ND)) (ds : List Dt) (f : List Tr → β) (z : β) : ∃ r, VotesP dss ds f z r := by
  by_cases h : VoP dss ∧ AreP ds
  · obtain ⟨ts, ht⟩ := Posts.some h.1.2.2
    exact ⟨_, .inl ⟨ts, h.1, h.2, ht, rfl⟩⟩
  · exact ⟨_, .inr ⟨h, rfl⟩⟩
theorem VotesP.yes (h : VotesP dss ds f z r) (h1 : VoP dss) (h2 : AreP ds) {ts : List Tr} (ht : Posts dss ts) : r = f ts := by
  rcases h with ⟨ts', _, _, h', rfl⟩ | ⟨hn, _⟩
  · rw [h'.one ht]
  · exact absurd ⟨h1, h2⟩ hn
theorem VotesP.no (h : VotesP dss ds f z r) (hn : ¬ (VoP dss ∧ AreP ds)) : r = z := by
  rcases h with ⟨ts', h1, h2, _⟩ | ⟨_, h⟩
  · exact absurd ⟨h1, h2⟩ hn
  · exact h
theorem VotesP.all (h : VotesP dss ds f z r) {P : β → Prop} (hf : AreP ds → ∀ ts, Posts dss ts → P (f ts)) (hz : P z) : P r := by
  rcases h with ⟨ts, _, h2, h3, rfl⟩ | ⟨_, rfl⟩
  · exact hf h2 ts h3
  · exact hz
end
def UniP (dss : List (List ND)) (ds : List Dt) (r : List Int) : Prop := VotesP dss ds (fun ts => idsD (ds.filter fun x => ds.all fun y => !uniB ts y x)) [] r
theorem UniP.small {dss : List (List ND)} {ds : List Dt} {r : List Int} (h : UniP dss ds r) : r.length ≤ 16 := h.all (P := fun r => r.length ≤ 16) (fun ha t _ => ids_le ha) (by simp)
theorem UniP.yes {dss : List (List ND)} {ds : List Dt} {r : List Int} (h : UniP dss ds r) (h1 : VoP dss) (h2 : AreP ds) {ts : List Tr} (ht : Posts dss ts) : r = idsD (ds.filter fun x => ds.all fun y => !uniB ts y x) := VotesP.yes h h1 h2 ht
theorem UniP.no {dss : List (List ND)} {ds : List Dt} {r : List Int} (h : UniP dss ds r) (hn : ¬ (VoP dss ∧ AreP ds)) : r = [] := VotesP.no h hn
theorem UniP.some (dss : List (List ND)) (ds : List Dt) : ∃ r, UniP dss ds r := VotesP.some _ _ _ _
end Go.Proofs.YtceiocdemhkcdaaGreat.num
namespace Go.Proofs.YtceiocdemhkcdaaGreat.num
set_option maxRecDepth 20000
open Go.RowKit
set_option linter.unusedSimpArgs false

/-- IsItem in a world that still bears what held of w0 below its end. -/
theorem iIsItem_in (w0 w : World) (B : Nat) (t : It) (hi : Ints w0 B t.A t.n t.xs) (hB : B ≤ w0.heap.size) (hw : Below w0.heap.size w0 w) (b : Bool) (hb : b = true ↔ IsP t.dat) :
    Calls Tryz.prog 148 #[t.val] w fun e w' => e = .returned (.bool b) ∧ Below w0.heap.size w0 w' :=
  (iIsItem w B t (hi.below (hw.mono hB)) (Nat.le_trans hB hw.size) b hb).mono fun _ _ ⟨he, h⟩ => ⟨he, hw.trans (h.mono hw.size)⟩

set_option maxRecDepth 20000 in
set_option maxHeartbeats 1600000 in
theorem iAre (w : World) (B : Nat) (A : Option Addr) (n c : Nat) (its : List It) (hi : Items w B A n its) (hB : B ≤ w.heap.size) (b : Bool) (hb : b = true ↔ AreP (its.map It.dat)) :
    Calls Tryz.prog 123 #[.slice A n c] w fun e w' => e = .returned (.bool b) ∧ Below w.heap.size w w' := by
  by_cases hn : n ≤ 16
  case neg =>
    obtain rfl : b = false := by
      cases b
      · rfl
      · have := (hb.1 rfl).2.2
        rw [List.length_map, hi.1] at this
        exact absurd this hn
    clear hi hb
    have hgt : (16 : Int) < (n : Int) := by omega
    go_enter Tryz.func123, Tryz.ntmps123
    go_wp2
    go_ret
    exact ⟨rfl, Below.refl _ _⟩
  have HX := Lib.hid hi
  have HBo := Lib.hid hb
  clear hi hb
  have hle16 : ¬ ((16 : Int) < (n : Int)) := by omega
  go_enter Tryz.func123, Tryz.ntmps123
  go_wp2
  clear hle16
  go_loopw [10] (fun i wr => ∃ k : Nat, k ≤ n ∧ i = .int .i64 k ∧ (∀ t ∈ its.take k, IsP t.dat) ∧ Rise ((its.map It.dat).map (·.1)) k ∧ Below w.heap.size w wr) (fun i _ => n - (intOf i).toNat)
  case atStart => exact ⟨0, Nat.zero_le _, rfl, by simp, Rise.zero _, Below.refl _ _⟩
  case round =>
    obtain ⟨k, hk, rfl, hall, hrise, hbel⟩ := hrel
    have HA := Lib.hid hall
    have HR := Lib.hid hrise
    have HB := Lib.hid hbel
    clear hall hrise
    by_cases hlt : k < n
    · obtain ⟨b1, off, t, hA1, hb1, hat, hc1, hd1, hx⟩ := HX.out.at k hlt
      have f1 := (hbel.cell (p := ⟨b1, off + k * 2, none⟩) (by exact Nat.lt_of_lt_of_le hb1 hB)).trans hc1
      have f2 := (hbel.cell (p := ⟨b1, off + k * 2 + 1, none⟩) (by exact Nat.lt_of_lt_of_le hb1 hB)).trans hd1
      have HI0 := Lib.hid hx
      have HAt := Lib.hid hat
      have hsz0 := Lib.hid hbel.size
      have hlt' : (k : Int) < (n : Int) := by omega
      obtain ⟨q, hq⟩ := bool_of (IsP t.dat)
      have HQ := Lib.hid hq
      clear hc1 hd1 hx hat hq
      cases q
      · have HF : Hid (b = false) := by
          show _ = _
          cases b
          · rfl
          · exact absurd ((HBo.out.1 rfl).1 _ (dat_mem HAt.out)) (fun h => by have := HQ.out.2 h; cases this)
        subst hA1
        clear hbel
        go_wp2
        generalize hW : World.alloc wr _ = wg
        obtain ⟨g, hgw⟩ : ∃ g, g = wr.heap.size := ⟨_, rfl⟩
        rw [← hgw]
        have HBg : Hid (Below w.heap.size w wg) := Lib.hid (by subst hW; exact HB.out.alloc hsz0.out _)
        have hrow : wg.heap[g]? = some (.cells #[.int .i64 t.id, .slice t.A t.n t.c] 36 (0, 0)) := by subst hW hgw; exact heap_alloc_new wr _
        have hg : g < wg.heap.size := lt_of_block hrow
        have hsz : Hid (w.heap.size ≤ wg.heap.size) := Lib.hid HBg.out.size
        have HI := Lib.hid (HI0.out.below (HBg.out.mono hB))
        have e0 : wg.cell? ⟨g, 0, none⟩ = some (.int .i64 t.id) := cell_of_row wg _ 0 _ _ (0, 0) hrow
        have e1 : wg.cell? ⟨g, 1, none⟩ = some (.slice t.A t.n t.c) := cell_of_row wg _ 1 _ _ (0, 0) hrow
        clear hW hgw hrow
        have hs0 : Below wg.heap.size wg wg.drew ∧ wg.drew.cell? ⟨g, 0, none⟩ = some (.int .i64 t.id) ∧ wg.drew.cell? ⟨g, 1, none⟩ = some (.slice t.A t.n t.c) := ⟨(Below.refl _ _).drew, e0, e1⟩
        refine wp_region_held (S := fun w' => Below wg.heap.size wg w' ∧ w'.cell? ⟨g, 0, none⟩ = some (.int .i64 t.id) ∧ w'.cell? ⟨g, 1, none⟩ = some (.slice t.A t.n t.c)) (by kernel_rfl) ?_
        change wpAnyH _ _ _ _ _ _ _ _ (World.drew _)
        refine takeY 15 (i := 0) (v := ?v0a) rfl rfl (by kernel_rfl) (by kernel_rfl) (by kernel_rfl) (fun _ _ _ h => h) (by kernel_rfl) ?y0a hs0 ?_
        case y0a =>
          intro w' hw'; (try dsimp only at hw'); obtain ⟨x0, x1, x2⟩ := hw'; go_simp; try with_reducible rfl
        simp only [Act.put, List.setIfInBounds_toArray, List.set_cons_zero, List.set_cons_succ]
        refine wpAnyH_ready (rs := [1]) (by kernel_rfl) (by simp) ?_
        refine AllReadyH.cons rfl (fun K hK => ?_) AllReadyH.nil
        go_simp; go_at_call 148; refine (iIsItem_in wg _ B t HI.out (Nat.le_trans hB hsz.out) (Below.refl _ _).drew false HQ.out).mono ?_; rintro e w3 ⟨rfl, hb3⟩
        refine hK.out _ _ ⟨hb3, (hb3.cell (p := ⟨g, 0, none⟩) hg).trans e0, (hb3.cell (p := ⟨g, 1, none⟩) hg).trans e1⟩ (fun hS1 => ?_)
        clear hK K
        try simp only [Act.put, List.setIfInBounds_toArray, List.set_cons_zero, List.set_cons_succ]
        refine takeY 17 (i := 2) (v := ?v2a) rfl rfl (by kernel_rfl) (by kernel_rfl) (by kernel_rfl) (fun _ _ _ h => h) (by kernel_rfl) ?y2a hS1 ?_
        case y2a =>
          intro w' hw'; (try dsimp only at hw'); obtain ⟨x0, x1, x2⟩ := hw'; go_simp; try with_reducible rfl
        simp only [Act.put, List.setIfInBounds_toArray, List.set_cons_zero, List.set_cons_succ]
        refine takeY 18 (i := 3) (v := ?v3a) rfl rfl (by kernel_rfl) (by kernel_rfl) (by kernel_rfl) (fun _ _ _ h => h) (by kernel_rfl) ?y3a hS1 ?_
        case y3a =>
          intro w' hw'; (try dsimp only at hw'); obtain ⟨x0, x1, x2⟩ := hw'; go_simp; try with_reducible rfl
        simp only [Act.put, List.setIfInBounds_toArray, List.set_cons_zero, List.set_cons_succ]
        refine takeU 19 (i := 4) rfl rfl (by kernel_rfl) (by kernel_rfl) (by kernel_rfl) (fun _ _ _ h => h) (by kernel_rfl) hS1 ?_
        simp only [Act.put, List.setIfInBounds_toArray, List.set_cons_zero, List.set_cons_succ]
        refine takeU 20 (i := 5) rfl rfl (by kernel_rfl) (by kernel_rfl) (by kernel_rfl) (fun _ _ _ h => h) (by kernel_rfl) hS1 ?_
        simp only [Act.put, List.setIfInBounds_toArray, List.set_cons_zero, List.set_cons_succ]
        refine takeU 21 (i := 6) rfl rfl (by kernel_rfl) (by kernel_rfl) (by kernel_rfl) (fun _ _ _ h => h) (by kernel_rfl) hS1 ?_
        simp only [Act.put, List.setIfInBounds_toArray, List.set_cons_zero, List.set_cons_succ]
        refine takeU 22 (i := 7) rfl rfl (by kernel_rfl) (by kernel_rfl) (by kernel_rfl) (fun _ _ _ h => h) (by kernel_rfl) hS1 ?_
        simp only [Act.put, List.setIfInBounds_toArray, List.set_cons_zero, List.set_cons_succ]
        refine takeU 23 (i := 8) rfl rfl (by kernel_rfl) (by kernel_rfl) (by kernel_rfl) (fun _ _ _ h => h) (by kernel_rfl) hS1 ?_
        simp only [Act.put, List.setIfInBounds_toArray, List.set_cons_zero, List.set_cons_succ]
        refine takeU 24 (i := 9) rfl rfl (by kernel_rfl) (by kernel_rfl) (by kernel_rfl) (fun _ _ _ h => h) (by kernel_rfl) hS1 ?_
        simp only [Act.put, List.setIfInBounds_toArray, List.set_cons_zero, List.set_cons_succ]
        refine takeU 25 (i := 10) rfl rfl (by kernel_rfl) (by kernel_rfl) (by kernel_rfl) (fun _ _ _ h => h) (by kernel_rfl) hS1 ?_
        simp only [Act.put, List.setIfInBounds_toArray, List.set_cons_zero, List.set_cons_succ]
        refine takeU 26 (i := 11) rfl rfl (by kernel_rfl) (by kernel_rfl) (by kernel_rfl) (fun _ _ _ h => h) (by kernel_rfl) hS1 ?_
        simp only [Act.put, List.setIfInBounds_toArray, List.set_cons_zero, List.set_cons_succ]
        refine takeU 27 (i := 12) rfl rfl (by kernel_rfl) (by kernel_rfl) (by kernel_rfl) (fun _ _ _ h => h) (by kernel_rfl) hS1 ?_
        simp only [Act.put, List.setIfInBounds_toArray, List.set_cons_zero, List.set_cons_succ]
        refine takeU 28 (i := 13) rfl rfl (by kernel_rfl) (by kernel_rfl) (by kernel_rfl) (fun _ _ _ h => h) (by kernel_rfl) hS1 ?_
        simp only [Act.put, List.setIfInBounds_toArray, List.set_cons_zero, List.set_cons_succ]
        refine takeU 29 (i := 14) rfl rfl (by kernel_rfl) (by kernel_rfl) (by kernel_rfl) (fun _ _ _ h => h) (by kernel_rfl) hS1 ?_
        simp only [Act.put, List.setIfInBounds_toArray, List.set_cons_zero, List.set_cons_succ]
        refine takeU 30 (i := 15) rfl rfl (by kernel_rfl) (by kernel_rfl) (by kernel_rfl) (fun _ _ _ h => h) (by kernel_rfl) hS1 ?_
        simp only [Act.put, List.setIfInBounds_toArray, List.set_cons_zero, List.set_cons_succ]
        refine takeU 31 (i := 16) rfl rfl (by kernel_rfl) (by kernel_rfl) (by kernel_rfl) (fun _ _ _ h => h) (by kernel_rfl) hS1 ?_
        simp only [Act.put, List.setIfInBounds_toArray, List.set_cons_zero, List.set_cons_succ]
        refine takeY 32 (i := 17) (v := ?v17a) rfl rfl (by kernel_rfl) (by kernel_rfl) (by kernel_rfl) (fun _ _ _ h => h) (by kernel_rfl) ?y17a hS1 ?_
        case y17a =>
          intro w' hw'; (try dsimp only at hw'); obtain ⟨x0, x1, x2⟩ := hw'; go_simp; try with_reducible rfl
        simp only [Act.put, List.setIfInBounds_toArray, List.set_cons_zero, List.set_cons_succ]
        refine wpAnyH_done (by kernel_rfl) ?_ _
        go_wp2
        go_ret
        exact ⟨HF.out.symm ▸ rfl, HBg.out.trans (hb3.mono hsz.out)⟩
      · have HD := Lib.hid (HQ.out.1 rfl)
        rcases Nat.eq_zero_or_pos k with h0 | h0
        · have HK := Lib.hid h0
          subst hA1
          clear hbel h0
          go_wp2
          generalize hW : World.alloc wr _ = wg
          obtain ⟨g, hgw⟩ : ∃ g, g = wr.heap.size := ⟨_, rfl⟩
          rw [← hgw]
          have HBg : Hid (Below w.heap.size w wg) := Lib.hid (by subst hW; exact HB.out.alloc hsz0.out _)
          have hrow : wg.heap[g]? = some (.cells #[.int .i64 t.id, .slice t.A t.n t.c] 36 (0, 0)) := by subst hW hgw; exact heap_alloc_new wr _
          have hg : g < wg.heap.size := lt_of_block hrow
          have hsz : Hid (w.heap.size ≤ wg.heap.size) := Lib.hid HBg.out.size
          have HI := Lib.hid (HI0.out.below (HBg.out.mono hB))
          have e0 : wg.cell? ⟨g, 0, none⟩ = some (.int .i64 t.id) := cell_of_row wg _ 0 _ _ (0, 0) hrow
          have e1 : wg.cell? ⟨g, 1, none⟩ = some (.slice t.A t.n t.c) := cell_of_row wg _ 1 _ _ (0, 0) hrow
          clear hW hgw hrow
          have hk0 : decide (0 < k) = false := decide_eq_false (by have := HK.out; omega)
          have hs0 : Below wg.heap.size wg wg.drew ∧ wg.drew.cell? ⟨g, 0, none⟩ = some (.int .i64 t.id) ∧ wg.drew.cell? ⟨g, 1, none⟩ = some (.slice t.A t.n t.c) := ⟨(Below.refl _ _).drew, e0, e1⟩
          refine wp_region_held (S := fun w' => Below wg.heap.size wg w' ∧ w'.cell? ⟨g, 0, none⟩ = some (.int .i64 t.id) ∧ w'.cell? ⟨g, 1, none⟩ = some (.slice t.A t.n t.c)) (by kernel_rfl) ?_
          change wpAnyH _ _ _ _ _ _ _ _ (World.drew _)
          refine takeY 15 (i := 0) (v := ?v0b) rfl rfl (by kernel_rfl) (by kernel_rfl) (by kernel_rfl) (fun _ _ _ h => h) (by kernel_rfl) ?y0b hs0 ?_
          case y0b =>
            intro w' hw'; (try dsimp only at hw'); obtain ⟨x0, x1, x2⟩ := hw'; go_simp; try with_reducible rfl
          simp only [Act.put, List.setIfInBounds_toArray, List.set_cons_zero, List.set_cons_succ]
          refine wpAnyH_ready (rs := [1]) (by kernel_rfl) (by simp) ?_
          refine AllReadyH.cons rfl (fun K hK => ?_) AllReadyH.nil
          go_simp; go_at_call 148; refine (iIsItem_in wg _ B t HI.out (Nat.le_trans hB hsz.out) (Below.refl _ _).drew true ⟨fun _ => HD.out, fun _ => rfl⟩).mono ?_; rintro e w3 ⟨rfl, hb3⟩
          refine hK.out _ _ ⟨hb3, (hb3.cell (p := ⟨g, 0, none⟩) hg).trans e0, (hb3.cell (p := ⟨g, 1, none⟩) hg).trans e1⟩ (fun hS1 => ?_)
          clear hK K
          try simp only [Act.put, List.setIfInBounds_toArray, List.set_cons_zero, List.set_cons_succ]
          refine takeY 17 (i := 2) (v := ?v2b) rfl rfl (by kernel_rfl) (by kernel_rfl) (by kernel_rfl) (fun _ _ _ h => h) (by kernel_rfl) ?y2b hS1 ?_
          case y2b =>
            intro w' hw'; (try dsimp only at hw'); obtain ⟨x0, x1, x2⟩ := hw'; go_simp; try with_reducible rfl
          simp only [Act.put, List.setIfInBounds_toArray, List.set_cons_zero, List.set_cons_succ]
          refine takeY 18 (i := 3) (v := ?v3b) rfl rfl (by kernel_rfl) (by kernel_rfl) (by kernel_rfl) (fun _ _ _ h => h) (by kernel_rfl) ?y3b hS1 ?_
          case y3b =>
            intro w' hw'; (try dsimp only at hw'); obtain ⟨x0, x1, x2⟩ := hw'; go_simp; try with_reducible rfl
          simp only [Act.put, List.setIfInBounds_toArray, List.set_cons_zero, List.set_cons_succ]
          refine takeY 19 (i := 4) (v := ?v4b) rfl rfl (by kernel_rfl) (by kernel_rfl) (by kernel_rfl) (fun _ _ _ h => h) (by kernel_rfl) ?y4b hS1 ?_
          case y4b =>
            intro w' hw'; (try dsimp only at hw'); obtain ⟨x0, x1, x2⟩ := hw'; go_simp; try with_reducible rfl
          simp only [Act.put, List.setIfInBounds_toArray, List.set_cons_zero, List.set_cons_succ]
          refine takeY 20 (i := 5) (v := ?v5b) rfl rfl (by kernel_rfl) (by kernel_rfl) (by kernel_rfl) (fun _ _ _ h => h) (by kernel_rfl) ?y5b hS1 ?_
          case y5b =>
            intro w' hw'; (try dsimp only at hw'); obtain ⟨x0, x1, x2⟩ := hw'; go_simp; try with_reducible rfl
          simp only [Act.put, List.setIfInBounds_toArray, List.set_cons_zero, List.set_cons_succ]
          refine takeY 21 (i := 6) (v := ?v6b) rfl rfl (by kernel_rfl) (by kernel_rfl) (by kernel_rfl) (fun _ _ _ h => h) (by kernel_rfl) ?y6b hS1 ?_
          case y6b =>
            intro w' hw'; (try dsimp only at hw'); obtain ⟨x0, x1, x2⟩ := hw'; go_simp; try with_reducible rfl
          simp only [Act.put, List.setIfInBounds_toArray, List.set_cons_zero, List.set_cons_succ]
          refine takeU 22 (i := 7) rfl rfl (by kernel_rfl) (by kernel_rfl) (by kernel_rfl) (fun _ _ _ h => h) (by kernel_rfl) hS1 ?_
          simp only [Act.put, List.setIfInBounds_toArray, List.set_cons_zero, List.set_cons_succ]
          refine takeU 23 (i := 8) rfl rfl (by kernel_rfl) (by kernel_rfl) (by kernel_rfl) (fun _ _ _ h => h) (by kernel_rfl) hS1 ?_
          simp only [Act.put, List.setIfInBounds_toArray, List.set_cons_zero, List.set_cons_succ]
          refine takeU 24 (i := 9) rfl rfl (by kernel_rfl) (by kernel_rfl) (by kernel_rfl) (fun _ _ _ h => h) (by kernel_rfl) hS1 ?_
          simp only [Act.put, List.setIfInBounds_toArray, List.set_cons_zero, List.set_cons_succ]
          refine takeU 25 (i := 10) rfl rfl (by kernel_rfl) (by kernel_rfl) (by kernel_rfl) (fun _ _ _ h => h) (by kernel_rfl) hS1 ?_
          simp only [Act.put, List.setIfInBounds_toArray, List.set_cons_zero, List.set_cons_succ]
          refine takeU 26 (i := 11) rfl rfl (by kernel_rfl) (by kernel_rfl) (by kernel_rfl) (fun _ _ _ h => h) (by kernel_rfl) hS1 ?_
          simp only [Act.put, List.setIfInBounds_toArray, List.set_cons_zero, List.set_cons_succ]
          refine takeU 27 (i := 12) rfl rfl (by kernel_rfl) (by kernel_rfl) (by kernel_rfl) (fun _ _ _ h => h) (by kernel_rfl) hS1 ?_
          simp only [Act.put, List.setIfInBounds_toArray, List.set_cons_zero, List.set_cons_succ]
          refine takeU 28 (i := 13) rfl rfl (by kernel_rfl) (by kernel_rfl) (by kernel_rfl) (fun _ _ _ h => h) (by kernel_rfl) hS1 ?_
          simp only [Act.put, List.setIfInBounds_toArray, List.set_cons_zero, List.set_cons_succ]
          refine takeU 29 (i := 14) rfl rfl (by kernel_rfl) (by kernel_rfl) (by kernel_rfl) (fun _ _ _ h => h) (by kernel_rfl) hS1 ?_
          simp only [Act.put, List.setIfInBounds_toArray, List.set_cons_zero, List.set_cons_succ]
          refine takeU 30 (i := 15) rfl rfl (by kernel_rfl) (by kernel_rfl) (by kernel_rfl) (fun _ _ _ h => h) (by kernel_rfl) hS1 ?_
          simp only [Act.put, List.setIfInBounds_toArray, List.set_cons_zero, List.set_cons_succ]
          refine takeY 31 (i := 16) (v := ?v16b) rfl rfl (by kernel_rfl) (by kernel_rfl) (by kernel_rfl) (fun _ _ _ h => h) (by kernel_rfl) ?y16b hS1 ?_
          case y16b =>
            intro w' hw'; (try dsimp only at hw'); obtain ⟨x0, x1, x2⟩ := hw'; go_simp; try with_reducible rfl
          simp only [Act.put, List.setIfInBounds_toArray, List.set_cons_zero, List.set_cons_succ]
          refine takeY 32 (i := 17) (v := ?v17b) rfl rfl (by kernel_rfl) (by kernel_rfl) (by kernel_rfl) (fun _ _ _ h => h) (by kernel_rfl) ?y17b hS1 ?_
          case y17b =>
            intro w' hw'; (try dsimp only at hw'); obtain ⟨x0, x1, x2⟩ := hw'; go_simp; try with_reducible rfl
          simp only [Act.put, List.setIfInBounds_toArray, List.set_cons_zero, List.set_cons_succ]
          refine wpAnyH_done (by kernel_rfl) ?_ _
          clear hk0
          go_wp2
          go_roundw
          case rel => exact ⟨k + 1, by omega, by go_num, are_step HAt.out HA.out HD.out, HR.out.step (fun h0 => absurd h0 (by have := HK.out; omega)), HBg.out.trans (hb3.mono hsz.out)⟩
          case measure => simp [intOf]; omega
        · obtain ⟨j, hj⟩ : ∃ j, j + 1 = k := ⟨k - 1, by omega⟩
          obtain ⟨b2, off2, t0, hA2, hb2, hat2, hc2, _, _⟩ := HX.out.at j (by omega)
          obtain ⟨rfl, rfl⟩ : b1 = b2 ∧ off = off2 := by rw [hA1] at hA2; injection hA2 with h; injection h with h1 h2; exact ⟨h1, h2⟩
          have F3 := Lib.hid hc2
          have HAt0 := Lib.hid hat2
          have HJ := Lib.hid hj
          have HK0 : Hid ((0 : Int) < (k : Int)) := by show _ < _; omega
          have hkj : (k : Int) - 1 = (j : Int) := by omega
          have hkw : IntKind.i64.wrap ((k : Int) - 1) = (j : Int) := by rw [hkj]; exact IntWalk.i64_in _ ⟨by omega, by omega⟩
          have hjw : IntKind.i64.wrap (j : Int) = (j : Int) := IntWalk.i64_in _ ⟨by omega, by omega⟩
          have hjn : (j : Int) < (n : Int) := by omega
          have hjn' : j < n := by omega
          subst hA1
          clear hbel h0 hj hc2 hat2 hA2
          have HLt : Hid (((its.map It.dat).map (·.1)).getD (k - 1) 0 = t0.id ∧ ((its.map It.dat).map (·.1)).getD k 0 = t.id) := by
            refine ⟨?_, id_at HAt.out⟩
            rw [show k - 1 = j by have := HJ.out; omega]
            exact id_at HAt0.out
          by_cases hle : t.id ≤ t0.id
          · have HF : Hid (b = false) := by
              show _ = _
              cases b
              · rfl
              · have hr := (HBo.out.1 rfl).2.1 k (by omega) (by rw [List.length_map, HX.out.1]; exact hlt)
                rw [HLt.out.1, HLt.out.2] at hr
                omega
            go_wp2
            generalize hW : World.alloc wr _ = wg
            obtain ⟨g, hgw⟩ : ∃ g, g = wr.heap.size := ⟨_, rfl⟩
            rw [← hgw]
            have HBg : Hid (Below w.heap.size w wg) := Lib.hid (by subst hW; exact HB.out.alloc hsz0.out _)
            have hrow : wg.heap[g]? = some (.cells #[.int .i64 t.id, .slice t.A t.n t.c] 36 (0, 0)) := by subst hW hgw; exact heap_alloc_new wr _
            have hg : g < wg.heap.size := lt_of_block hrow
            have hsz : Hid (w.heap.size ≤ wg.heap.size) := Lib.hid HBg.out.size
            have HI := Lib.hid (HI0.out.below (HBg.out.mono hB))
            have e0 : wg.cell? ⟨g, 0, none⟩ = some (.int .i64 t.id) := cell_of_row wg _ 0 _ _ (0, 0) hrow
            have e1 : wg.cell? ⟨g, 1, none⟩ = some (.slice t.A t.n t.c) := cell_of_row wg _ 1 _ _ (0, 0) hrow
            have hb1g : b1 < wg.heap.size := by have := hsz.out; omega
            have f3 : wg.cell? ⟨b1, off + j * 2, none⟩ = some (.int .i64 t0.id) := by
              have h := F3.out
              exact (HBg.out.cell (p := ⟨b1, off + j * 2, none⟩) (by exact Nat.lt_of_lt_of_le hb1 hB)).trans h
            clear hW hgw hrow
            have hk0 : decide (0 < k) = true := decide_eq_true (by have := HK0.out; omega)
            have hs0 : Below wg.heap.size wg wg.drew ∧ wg.drew.cell? ⟨g, 0, none⟩ = some (.int .i64 t.id) ∧ wg.drew.cell? ⟨g, 1, none⟩ = some (.slice t.A t.n t.c) ∧ wg.drew.cell? ⟨b1, off + j * 2, none⟩ = some (.int .i64 t0.id) := ⟨(Below.refl _ _).drew, e0, e1, f3⟩
            refine wp_region_held (S := fun w' => Below wg.heap.size wg w' ∧ w'.cell? ⟨g, 0, none⟩ = some (.int .i64 t.id) ∧ w'.cell? ⟨g, 1, none⟩ = some (.slice t.A t.n t.c) ∧ w'.cell? ⟨b1, off + j * 2, none⟩ = some (.int .i64 t0.id)) (by kernel_rfl) ?_
            change wpAnyH _ _ _ _ _ _ _ _ (World.drew _)
            refine takeY 15 (i := 0) (v := ?v0c) rfl rfl (by kernel_rfl) (by kernel_rfl) (by kernel_rfl) (fun _ _ _ h => h) (by kernel_rfl) ?y0c hs0 ?_
            case y0c =>
              intro w' hw'; (try dsimp only at hw'); obtain ⟨x0, x1, x2, x3⟩ := hw'; go_simp; try with_reducible rfl
            simp only [Act.put, List.setIfInBounds_toArray, List.set_cons_zero, List.set_cons_succ]
            refine wpAnyH_ready (rs := [1]) (by kernel_rfl) (by simp) ?_
            refine AllReadyH.cons rfl (fun K hK => ?_) AllReadyH.nil
            go_simp; go_at_call 148; refine (iIsItem_in wg _ B t HI.out (Nat.le_trans hB hsz.out) (Below.refl _ _).drew true ⟨fun _ => HD.out, fun _ => rfl⟩).mono ?_; rintro e w3 ⟨rfl, hb3⟩
            refine hK.out _ _ ⟨hb3, (hb3.cell (p := ⟨g, 0, none⟩) hg).trans e0, (hb3.cell (p := ⟨g, 1, none⟩) hg).trans e1, (hb3.cell (p := ⟨b1, off + j * 2, none⟩) hb1g).trans f3⟩ (fun hS1 => ?_)
            clear hK K
            try simp only [Act.put, List.setIfInBounds_toArray, List.set_cons_zero, List.set_cons_succ]
            refine takeY 17 (i := 2) (v := ?v2c) rfl rfl (by kernel_rfl) (by kernel_rfl) (by kernel_rfl) (fun _ _ _ h => h) (by kernel_rfl) ?y2c hS1 ?_
            case y2c =>
              intro w' hw'; (try dsimp only at hw'); obtain ⟨x0, x1, x2, x3⟩ := hw'; go_simp; try with_reducible rfl
            simp only [Act.put, List.setIfInBounds_toArray, List.set_cons_zero, List.set_cons_succ]
            refine takeY 18 (i := 3) (v := ?v3c) rfl rfl (by kernel_rfl) (by kernel_rfl) (by kernel_rfl) (fun _ _ _ h => h) (by kernel_rfl) ?y3c hS1 ?_
            case y3c =>
              intro w' hw'; (try dsimp only at hw'); obtain ⟨x0, x1, x2, x3⟩ := hw'; go_simp; try with_reducible rfl
            simp only [Act.put, List.setIfInBounds_toArray, List.set_cons_zero, List.set_cons_succ]
            refine takeY 19 (i := 4) (v := ?v4c) rfl rfl (by kernel_rfl) (by kernel_rfl) (by kernel_rfl) (fun _ _ _ h => h) (by kernel_rfl) ?y4c hS1 ?_
            case y4c =>
              intro w' hw'; (try dsimp only at hw'); obtain ⟨x0, x1, x2, x3⟩ := hw'; go_simp; try with_reducible rfl
            simp only [Act.put, List.setIfInBounds_toArray, List.set_cons_zero, List.set_cons_succ]
            refine takeY 20 (i := 5) (v := ?v5c) rfl rfl (by kernel_rfl) (by kernel_rfl) (by kernel_rfl) (fun _ _ _ h => h) (by kernel_rfl) ?y5c hS1 ?_
            case y5c =>
              intro w' hw'; (try dsimp only at hw'); obtain ⟨x0, x1, x2, x3⟩ := hw'; go_simp; try with_reducible rfl
            simp only [Act.put, List.setIfInBounds_toArray, List.set_cons_zero, List.set_cons_succ]
            refine takeY 21 (i := 6) (v := ?v6c) rfl rfl (by kernel_rfl) (by kernel_rfl) (by kernel_rfl) (fun _ _ _ h => h) (by kernel_rfl) ?y6c hS1 ?_
            case y6c =>
              intro w' hw'; (try dsimp only at hw'); obtain ⟨x0, x1, x2, x3⟩ := hw'; go_simp; try with_reducible rfl
            simp only [Act.put, List.setIfInBounds_toArray, List.set_cons_zero, List.set_cons_succ]
            refine takeY 22 (i := 7) (v := ?v7c) rfl rfl (by kernel_rfl) (by kernel_rfl) (by kernel_rfl) (fun _ _ _ h => h) (by kernel_rfl) ?y7c hS1 ?_
            case y7c =>
              intro w' hw'; (try dsimp only at hw'); obtain ⟨x0, x1, x2, x3⟩ := hw'; go_simp; try with_reducible rfl
            simp only [Act.put, List.setIfInBounds_toArray, List.set_cons_zero, List.set_cons_succ]
            refine takeY 23 (i := 8) (v := ?v8c) rfl rfl (by kernel_rfl) (by kernel_rfl) (by kernel_rfl) (fun _ _ _ h => h) (by kernel_rfl) ?y8c hS1 ?_
            case y8c =>
              intro w' hw'; (try dsimp only at hw'); obtain ⟨x0, x1, x2, x3⟩ := hw'; go_simp; try with_reducible rfl
            simp only [Act.put, List.setIfInBounds_toArray, List.set_cons_zero, List.set_cons_succ]
            refine takeY 24 (i := 9) (v := ?v9c) rfl rfl (by kernel_rfl) (by kernel_rfl) (by kernel_rfl) (fun _ _ _ h => h) (by kernel_rfl) ?y9c hS1 ?_
            case y9c =>
              intro w' hw'; (try dsimp only at hw'); obtain ⟨x0, x1, x2, x3⟩ := hw'; go_simp; try with_reducible rfl
            simp only [Act.put, List.setIfInBounds_toArray, List.set_cons_zero, List.set_cons_succ]
            refine takeY 25 (i := 10) (v := ?v10c) rfl rfl (by kernel_rfl) (by kernel_rfl) (by kernel_rfl) (fun _ _ _ h => h) (by kernel_rfl) ?y10c hS1 ?_
            case y10c =>
              intro w' hw'; (try dsimp only at hw'); obtain ⟨x0, x1, x2, x3⟩ := hw'; go_simp; try with_reducible rfl
            simp only [Act.put, List.setIfInBounds_toArray, List.set_cons_zero, List.set_cons_succ]
            refine takeY 26 (i := 11) (v := ?v11c) rfl rfl (by kernel_rfl) (by kernel_rfl) (by kernel_rfl) (fun _ _ _ h => h) (by kernel_rfl) ?y11c hS1 ?_
            case y11c =>
              intro w' hw'; (try dsimp only at hw'); obtain ⟨x0, x1, x2, x3⟩ := hw'; go_simp; try with_reducible rfl
            simp only [Act.put, List.setIfInBounds_toArray, List.set_cons_zero, List.set_cons_succ]
            refine takeY 27 (i := 12) (v := ?v12c) rfl rfl (by kernel_rfl) (by kernel_rfl) (by kernel_rfl) (fun _ _ _ h => h) (by kernel_rfl) ?y12c hS1 ?_
            case y12c =>
              intro w' hw'; (try dsimp only at hw'); obtain ⟨x0, x1, x2, x3⟩ := hw'; go_simp; try with_reducible rfl
            simp only [Act.put, List.setIfInBounds_toArray, List.set_cons_zero, List.set_cons_succ]
            refine takeY 28 (i := 13) (v := ?v13c) rfl rfl (by kernel_rfl) (by kernel_rfl) (by kernel_rfl) (fun _ _ _ h => h) (by kernel_rfl) ?y13c hS1 ?_
            case y13c =>
              intro w' hw'; (try dsimp only at hw'); obtain ⟨x0, x1, x2, x3⟩ := hw'; go_simp; try with_reducible rfl
            simp only [Act.put, List.setIfInBounds_toArray, List.set_cons_zero, List.set_cons_succ]
            refine takeY 29 (i := 14) (v := ?v14c) rfl rfl (by kernel_rfl) (by kernel_rfl) (by kernel_rfl) (fun _ _ _ h => h) (by kernel_rfl) ?y14c hS1 ?_
            case y14c =>
              intro w' hw'; (try dsimp only at hw'); obtain ⟨x0, x1, x2, x3⟩ := hw'; go_simp; try with_reducible rfl
            simp only [Act.put, List.setIfInBounds_toArray, List.set_cons_zero, List.set_cons_succ]
            refine takeY 30 (i := 15) (v := ?v15c) rfl rfl (by kernel_rfl) (by kernel_rfl) (by kernel_rfl) (fun _ _ _ h => h) (by kernel_rfl) ?y15c hS1 ?_
            case y15c =>
              intro w' hw'; (try dsimp only at hw'); obtain ⟨x0, x1, x2, x3⟩ := hw'; go_simp; try with_reducible rfl
            simp only [Act.put, List.setIfInBounds_toArray, List.set_cons_zero, List.set_cons_succ]
            refine takeY 31 (i := 16) (v := ?v16c) rfl rfl (by kernel_rfl) (by kernel_rfl) (by kernel_rfl) (fun _ _ _ h => h) (by kernel_rfl) ?y16c hS1 ?_
            case y16c =>
              intro w' hw'; (try dsimp only at hw'); obtain ⟨x0, x1, x2, x3⟩ := hw'; go_simp; try with_reducible rfl
            simp only [Act.put, List.setIfInBounds_toArray, List.set_cons_zero, List.set_cons_succ]
            refine takeY 32 (i := 17) (v := ?v17c) rfl rfl (by kernel_rfl) (by kernel_rfl) (by kernel_rfl) (fun _ _ _ h => h) (by kernel_rfl) ?y17c hS1 ?_
            case y17c =>
              intro w' hw'; (try dsimp only at hw'); obtain ⟨x0, x1, x2, x3⟩ := hw'; go_simp; try with_reducible rfl
            simp only [Act.put, List.setIfInBounds_toArray, List.set_cons_zero, List.set_cons_succ]
            refine wpAnyH_done (by kernel_rfl) ?_ _
            clear hk0
            go_wp2
            go_ret
            exact ⟨HF.out.symm ▸ rfl, HBg.out.trans (hb3.mono hsz.out)⟩
          · go_wp2
            generalize hW : World.alloc wr _ = wg
            obtain ⟨g, hgw⟩ : ∃ g, g = wr.heap.size := ⟨_, rfl⟩
            rw [← hgw]
            have HBg : Hid (Below w.heap.size w wg) := Lib.hid (by subst hW; exact HB.out.alloc hsz0.out _)
            have hrow : wg.heap[g]? = some (.cells #[.int .i64 t.id, .slice t.A t.n t.c] 36 (0, 0)) := by subst hW hgw; exact heap_alloc_new wr _
            have hg : g < wg.heap.size := lt_of_block hrow
            have hsz : Hid (w.heap.size ≤ wg.heap.size) := Lib.hid HBg.out.size
            have HI := Lib.hid (HI0.out.below (HBg.out.mono hB))
            have e0 : wg.cell? ⟨g, 0, none⟩ = some (.int .i64 t.id) := cell_of_row wg _ 0 _ _ (0, 0) hrow
            have e1 : wg.cell? ⟨g, 1, none⟩ = some (.slice t.A t.n t.c) := cell_of_row wg _ 1 _ _ (0, 0) hrow
            have hb1g : b1 < wg.heap.size := by have := hsz.out; omega
            have f3 : wg.cell? ⟨b1, off + j * 2, none⟩ = some (.int .i64 t0.id) := by
              have h := F3.out
              exact (HBg.out.cell (p := ⟨b1, off + j * 2, none⟩) (by exact Nat.lt_of_lt_of_le hb1 hB)).trans h
            clear hW hgw hrow
            have hk0 : decide (0 < k) = true := decide_eq_true (by have := HK0.out; omega)
            have hs0 : Below wg.heap.size wg wg.drew ∧ wg.drew.cell? ⟨g, 0, none⟩ = some (.int .i64 t.id) ∧ wg.drew.cell? ⟨g, 1, none⟩ = some (.slice t.A t.n t.c) ∧ wg.drew.cell? ⟨b1, off + j * 2, none⟩ = some (.int .i64 t0.id) := ⟨(Below.refl _ _).drew, e0, e1, f3⟩
            refine wp_region_held (S := fun w' => Below wg.heap.size wg w' ∧ w'.cell? ⟨g, 0, none⟩ = some (.int .i64 t.id) ∧ w'.cell? ⟨g, 1, none⟩ = some (.slice t.A t.n t.c) ∧ w'.cell? ⟨b1, off + j * 2, none⟩ = some (.int .i64 t0.id)) (by kernel_rfl) ?_
            change wpAnyH _ _ _ _ _ _ _ _ (World.drew _)
            refine takeY 15 (i := 0) (v := ?v0d) rfl rfl (by kernel_rfl) (by kernel_rfl) (by kernel_rfl) (fun _ _ _ h => h) (by kernel_rfl) ?y0d hs0 ?_
            case y0d =>
              intro w' hw'; (try dsimp only at hw'); obtain ⟨x0, x1, x2, x3⟩ := hw'; go_simp; try with_reducible rfl
            simp only [Act.put, List.setIfInBounds_toArray, List.set_cons_zero, List.set_cons_succ]
            refine wpAnyH_ready (rs := [1]) (by kernel_rfl) (by simp) ?_
            refine AllReadyH.cons rfl (fun K hK => ?_) AllReadyH.nil
            go_simp; go_at_call 148; refine (iIsItem_in wg _ B t HI.out (Nat.le_trans hB hsz.out) (Below.refl _ _).drew true ⟨fun _ => HD.out, fun _ => rfl⟩).mono ?_; rintro e w3 ⟨rfl, hb3⟩
            refine hK.out _ _ ⟨hb3, (hb3.cell (p := ⟨g, 0, none⟩) hg).trans e0, (hb3.cell (p := ⟨g, 1, none⟩) hg).trans e1, (hb3.cell (p := ⟨b1, off + j * 2, none⟩) hb1g).trans f3⟩ (fun hS1 => ?_)
            clear hK K
            try simp only [Act.put, List.setIfInBounds_toArray, List.set_cons_zero, List.set_cons_succ]
            refine takeY 17 (i := 2) (v := ?v2d) rfl rfl (by kernel_rfl) (by kernel_rfl) (by kernel_rfl) (fun _ _ _ h => h) (by kernel_rfl) ?y2d hS1 ?_
            case y2d =>
              intro w' hw'; (try dsimp only at hw'); obtain ⟨x0, x1, x2, x3⟩ := hw'; go_simp; try with_reducible rfl
            simp only [Act.put, List.setIfInBounds_toArray, List.set_cons_zero, List.set_cons_succ]
            refine takeY 18 (i := 3) (v := ?v3d) rfl rfl (by kernel_rfl) (by kernel_rfl) (by kernel_rfl) (fun _ _ _ h => h) (by kernel_rfl) ?y3d hS1 ?_
            case y3d =>
              intro w' hw'; (try dsimp only at hw'); obtain ⟨x0, x1, x2, x3⟩ := hw'; go_simp; try with_reducible rfl
            simp only [Act.put, List.setIfInBounds_toArray, List.set_cons_zero, List.set_cons_succ]
            refine takeY 19 (i := 4) (v := ?v4d) rfl rfl (by kernel_rfl) (by kernel_rfl) (by kernel_rfl) (fun _ _ _ h => h) (by kernel_rfl) ?y4d hS1 ?_
            case y4d =>
              intro w' hw'; (try dsimp only at hw'); obtain ⟨x0, x1, x2, x3⟩ := hw'; go_simp; try with_reducible rfl
            simp only [Act.put, List.setIfInBounds_toArray, List.set_cons_zero, List.set_cons_succ]
            refine takeY 20 (i := 5) (v := ?v5d) rfl rfl (by kernel_rfl) (by kernel_rfl) (by kernel_rfl) (fun _ _ _ h => h) (by kernel_rfl) ?y5d hS1 ?_
            case y5d =>
              intro w' hw'; (try dsimp only at hw'); obtain ⟨x0, x1, x2, x3⟩ := hw'; go_simp; try with_reducible rfl
            simp only [Act.put, List.setIfInBounds_toArray, List.set_cons_zero, List.set_cons_succ]
            refine takeY 21 (i := 6) (v := ?v6d) rfl rfl (by kernel_rfl) (by kernel_rfl) (by kernel_rfl) (fun _ _ _ h => h) (by kernel_rfl) ?y6d hS1 ?_
            case y6d =>
              intro w' hw'; (try dsimp only at hw'); obtain ⟨x0, x1, x2, x3⟩ := hw'; go_simp; try with_reducible rfl
            simp only [Act.put, List.setIfInBounds_toArray, List.set_cons_zero, List.set_cons_succ]
            refine takeY 22 (i := 7) (v := ?v7d) rfl rfl (by kernel_rfl) (by kernel_rfl) (by kernel_rfl) (fun _ _ _ h => h) (by kernel_rfl) ?y7d hS1 ?_
            case y7d =>
              intro w' hw'; (try dsimp only at hw'); obtain ⟨x0, x1, x2, x3⟩ := hw'; go_simp; try with_reducible rfl
            simp only [Act.put, List.setIfInBounds_toArray, List.set_cons_zero, List.set_cons_succ]
            refine takeY 23 (i := 8) (v := ?v8d) rfl rfl (by kernel_rfl) (by kernel_rfl) (by kernel_rfl) (fun _ _ _ h => h) (by kernel_rfl) ?y8d hS1 ?_
            case y8d =>
              intro w' hw'; (try dsimp only at hw'); obtain ⟨x0, x1, x2, x3⟩ := hw'; go_simp; try with_reducible rfl
            simp only [Act.put, List.setIfInBounds_toArray, List.set_cons_zero, List.set_cons_succ]
            refine takeY 24 (i := 9) (v := ?v9d) rfl rfl (by kernel_rfl) (by kernel_rfl) (by kernel_rfl) (fun _ _ _ h => h) (by kernel_rfl) ?y9d hS1 ?_
            case y9d =>
              intro w' hw'; (try dsimp only at hw'); obtain ⟨x0, x1, x2, x3⟩ := hw'; go_simp; try with_reducible rfl
            simp only [Act.put, List.setIfInBounds_toArray, List.set_cons_zero, List.set_cons_succ]
            refine takeY 25 (i := 10) (v := ?v10d) rfl rfl (by kernel_rfl) (by kernel_rfl) (by kernel_rfl) (fun _ _ _ h => h) (by kernel_rfl) ?y10d hS1 ?_
            case y10d =>
              intro w' hw'; (try dsimp only at hw'); obtain ⟨x0, x1, x2, x3⟩ := hw'; go_simp; try with_reducible rfl
            simp only [Act.put, List.setIfInBounds_toArray, List.set_cons_zero, List.set_cons_succ]
            refine takeY 26 (i := 11) (v := ?v11d) rfl rfl (by kernel_rfl) (by kernel_rfl) (by kernel_rfl) (fun _ _ _ h => h) (by kernel_rfl) ?y11d hS1 ?_
            case y11d =>
              intro w' hw'; (try dsimp only at hw'); obtain ⟨x0, x1, x2, x3⟩ := hw'; go_simp; try with_reducible rfl
            simp only [Act.put, List.setIfInBounds_toArray, List.set_cons_zero, List.set_cons_succ]
            refine takeY 27 (i := 12) (v := ?v12d) rfl rfl (by kernel_rfl) (by kernel_rfl) (by kernel_rfl) (fun _ _ _ h => h) (by kernel_rfl) ?y12d hS1 ?_
            case y12d =>
              intro w' hw'; (try dsimp only at hw'); obtain ⟨x0, x1, x2, x3⟩ := hw'; go_simp; try with_reducible rfl
            simp only [Act.put, List.setIfInBounds_toArray, List.set_cons_zero, List.set_cons_succ]
            refine takeY 28 (i := 13) (v := ?v13d) rfl rfl (by kernel_rfl) (by kernel_rfl) (by kernel_rfl) (fun _ _ _ h => h) (by kernel_rfl) ?y13d hS1 ?_
            case y13d =>
              intro w' hw'; (try dsimp only at hw'); obtain ⟨x0, x1, x2, x3⟩ := hw'; go_simp; try with_reducible rfl
            simp only [Act.put, List.setIfInBounds_toArray, List.set_cons_zero, List.set_cons_succ]
            refine takeY 29 (i := 14) (v := ?v14d) rfl rfl (by kernel_rfl) (by kernel_rfl) (by kernel_rfl) (fun _ _ _ h => h) (by kernel_rfl) ?y14d hS1 ?_
            case y14d =>
              intro w' hw'; (try dsimp only at hw'); obtain ⟨x0, x1, x2, x3⟩ := hw'; go_simp; try with_reducible rfl
            simp only [Act.put, List.setIfInBounds_toArray, List.set_cons_zero, List.set_cons_succ]
            refine takeY 30 (i := 15) (v := ?v15d) rfl rfl (by kernel_rfl) (by kernel_rfl) (by kernel_rfl) (fun _ _ _ h => h) (by kernel_rfl) ?y15d hS1 ?_
            case y15d =>
              intro w' hw'; (try dsimp only at hw'); obtain ⟨x0, x1, x2, x3⟩ := hw'; go_simp; try with_reducible rfl
            simp only [Act.put, List.setIfInBounds_toArray, List.set_cons_zero, List.set_cons_succ]
            refine takeY 31 (i := 16) (v := ?v16d) rfl rfl (by kernel_rfl) (by kernel_rfl) (by kernel_rfl) (fun _ _ _ h => h) (by kernel_rfl) ?y16d hS1 ?_
            case y16d =>
              intro w' hw'; (try dsimp only at hw'); obtain ⟨x0, x1, x2, x3⟩ := hw'; go_simp; try with_reducible rfl
            simp only [Act.put, List.setIfInBounds_toArray, List.set_cons_zero, List.set_cons_succ]
            refine takeY 32 (i := 17) (v := ?v17d) rfl rfl (by kernel_rfl) (by kernel_rfl) (by kernel_rfl) (fun _ _ _ h => h) (by kernel_rfl) ?y17d hS1 ?_
            case y17d =>
              intro w' hw'; (try dsimp only at hw'); obtain ⟨x0, x1, x2, x3⟩ := hw'; go_simp; try with_reducible rfl
            simp only [Act.put, List.setIfInBounds_toArray, List.set_cons_zero, List.set_cons_succ]
            refine wpAnyH_done (by kernel_rfl) ?_ _
            clear hk0
            go_wp2
            go_roundw
            case rel => exact ⟨k + 1, by omega, by go_num, are_step HAt.out HA.out HD.out, HR.out.step (fun h0 => by rw [HLt.out.1, HLt.out.2]; omega), HBg.out.trans (hb3.mono hsz.out)⟩
            case measure => simp [intOf]; omega
    · obtain rfl : k = n := by omega
      clear hbel
      obtain rfl : b = true := HBo.out.2 (by
        have h1 := HA.out
        rw [take_all HX.out.1] at h1
        refine ⟨fun d hd => by obtain ⟨u, hu, rfl⟩ := List.mem_map.1 hd; exact h1 u hu, ?_, ?_⟩
        · rw [List.length_map, HX.out.1]; exact HR.out
        · rw [List.length_map, HX.out.1]; exact hn)
      go_wp2
      go_ret
      exact ⟨rfl, HB.out⟩
end Go.Proofs.YtceiocdemhkcdaaGreat.num
namespace Go.Proofs.YtceiocdemhkcdaaGreat.num
set_option maxRecDepth 20000
open Go.RowKit
set_option linter.unusedVariables false
set_option linter.unusedSimpArgs false

/-- What comes in: items and nodes. -/
structure InB (w : World) (B : Nat) (A : Option Addr) (n : Nat) (its : List It) (A2 : Option Addr) (n2 c2 : Nat) (ns : List Nd) : Prop where
  i : Items w B A n its
  e : Nodes w B A2 n2 ns
  hB : B ≤ w.heap.size
  hn : n ≤ 1048576
  hn2 : n2 ≤ 1048576
  hnc : n2 ≤ c2
  hc : c2 ≤ 9223372036854775807
  si : ∀ t ∈ its, t.n ≤ 1048576
  se : ShortN ns
theorem InB.below {w w' : World} {B : Nat} {A : Option Addr} {n : Nat} {its : List It} {A2 : Option Addr} {n2 c2 : Nat} {ns : List Nd} (h : InB w B A n its A2 n2 c2 ns) (hb : Below w.heap.size w w') : InB w' B A n its A2 n2 c2 ns :=
  ⟨h.i.below (hb.mono h.hB), h.e.below (hb.mono h.hB), Nat.le_trans h.hB hb.size, h.hn, h.hn2, h.hnc, h.hc, h.si, h.se⟩
theorem Items.mem {w : World} {B : Nat} {A : Option Addr} {n : Nat} {its : List It} (h : Items w B A n its) {t : It} (ht : t ∈ its) : Ints w B t.A t.n t.xs := by
  obtain ⟨k, hk, rfl⟩ := List.getElem_of_mem ht
  exact (h.2 k hk).choose_spec.choose_spec.2.2.2.2

def ctCells (p : Nat) (t : It) : List Value := [.int .i64 t.id, .slice t.A t.n t.c, .pointer (some ⟨p, 0, none⟩)]
def ctV (p : Nat) (t : It) : Value := .agg #[.int .i64 t.id, .slice t.A t.n t.c, .pointer (some ⟨p, 0, none⟩)]
theorem ctCells_len (p : Nat) (t : It) : (ctCells p t).length = 3 := rfl
theorem ctCells_one (p : Nat) (t : It) : ∀ u ∈ ctCells p t, u.oneCell' = true := by simp [ctCells, Value.oneCell']
theorem info_ct : (Tryz.prog.info? 69).map (fun i => (i.zero, i.size, i.bytes)) = some (some (.agg #[.int .i64 0, .slice none 0 0, .pointer none]), 3, 40) := by kernel_rfl
/-- A box that holds a contestant. -/
def Box3 (w : World) (g p : Nat) (t : It) : Prop := g < w.heap.size ∧ w.cell? ⟨g, 0, none⟩ = some (.int .i64 t.id) ∧ w.cell? ⟨g, 1, none⟩ = some (.slice t.A t.n t.c) ∧ w.cell? ⟨g, 2, none⟩ = some (.pointer (some ⟨p, 0, none⟩))
theorem Box3.below {w w' : World} {g p : Nat} {t : It} (h : Box3 w g p t) (hb : Below w.heap.size w w') : Box3 w' g p t :=
  ⟨Nat.lt_of_lt_of_le h.1 hb.size, (hb.cell (p := ⟨g, 0, none⟩) h.1).trans h.2.1, (hb.cell (p := ⟨g, 1, none⟩) h.1).trans h.2.2.1, (hb.cell (p := ⟨g, 2, none⟩) h.1).trans h.2.2.2⟩
theorem Box3.alloc {w : World} {g p : Nat} {t : It} (h : Box3 w g p t) (o : Obj) : Box3 (w.alloc o) g p t := h.below ((Below.refl _ w).alloc (Nat.le_refl _) _)
theorem Box3.new (w : World) (p : Nat) (t : It) (T : TypeId) : Box3 (w.alloc (.cells #[.int .i64 t.id, .slice t.A t.n t.c, .pointer (some ⟨p, 0, none⟩)] T)) w.heap.size p t :=
  ⟨by simp, World.cell?_alloc_at _ _ _ _ rfl, World.cell?_alloc_at _ _ _ _ rfl, World.cell?_alloc_at _ _ _ _ rfl⟩
/-- A contest: the slice (A, n) holds the items its, valid ones (their values below block B), each with the tree t at block p (its memory from block lo on). -/
structure CtIn (w : World) (B lo p : Nat) (t : Tr) (A : Option Addr) (n : Nat) (its : List It) : Prop where
  r : ReadG (ctCells p) 3 w w.heap.size A n its
  x : ∀ u ∈ its, Ints w B u.A u.n u.xs ∧ IsP u.dat
  t : PartAt w B lo t p
  hB : B ≤ w.heap.size
theorem CtIn.step {w w' : World} {B lo p : Nat} {t : Tr} {A : Option Addr} {n : Nat} {its : List It} (h : CtIn w B lo p t A n its) (hb : Below w.heap.size w w') : CtIn w' B lo p t A n its :=
  ⟨(h.r.below hb).more hb.size, fun u hu => ⟨(h.x u hu).1.below (hb.mono h.hB), (h.x u hu).2⟩, h.t.below h.hB hb, Nat.le_trans h.hB hb.size⟩
theorem ct_at {w : World} {p : Nat} {A : Option Addr} {n : Nat} {its : List It} (h : ReadG (ctCells p) 3 w w.heap.size A n its) (k : Nat) (hk : k < n) :
    ∃ (b off : Nat) (x : It), A = some ⟨b, off, none⟩ ∧ b < w.heap.size ∧ its[k]? = some x ∧ w.cell? ⟨b, off + k * 3, none⟩ = some (.int .i64 x.id) ∧ w.cell? ⟨b, off + k * 3 + 1, none⟩ = some (.slice x.A x.n x.c) ∧ w.cell? ⟨b, off + k * 3 + 2, none⟩ = some (.pointer (some ⟨p, 0, none⟩)) := by
  obtain ⟨x, hx⟩ := h.get hk
  obtain ⟨b, off, h1, h2, h3⟩ := h.at' k x hx
  exact ⟨b, off, x, h1, h2, hx, h3 0 _ rfl, h3 1 _ rfl, h3 2 _ rfl⟩

set_option maxRecDepth 20000 in
theorem iBeats (w : World) (B lo p : Nat) (t : Tr) (x y : It) (ht : PartAt w B lo t p) (hB : B ≤ w.heap.size) (hx : Ints w B x.A x.n x.xs) (hy : Ints w B y.A y.n y.xs) (px : IsP x.dat) (py : IsP y.dat) :
    Calls Tryz.prog 93 #[ctV p x, ctV p y] w fun e w' => e = .returned (.bool (btD t x.dat y.dat)) ∧ Below w.heap.size w w' := by
  have HC : Hid (∀ w1, Below w.heap.size w w1 → Calls Tryz.prog 130 #[.pointer (some ⟨p, 0, none⟩), .agg #[.int .i64 x.id, .slice x.A x.n x.c], .agg #[.int .i64 y.id, .slice y.A y.n y.c]] w1 fun e w' => e = .returned (.int .i64 (cmpD t x.dat y.dat)) ∧ Below w1.heap.size w1 w') := Lib.hid fun w1 h => by
    rw [← cmpD_it]
    exact iCompare B lo x y px py t p w1 (ht.below hB h) (Nat.le_trans hB h.size) (hx.below (h.mono hB)) (hy.below (h.mono hB))
  have HZ : Hid (btD t x.dat y.dat = (cmpD t x.dat y.dat == 1)) := Lib.hid rfl
  rw [HZ.out]
  generalize cmpD t x.dat y.dat = z at *
  have hvx : ctV p x = .agg #[.int .i64 x.id, .slice x.A x.n x.c, .pointer (some ⟨p, 0, none⟩)] := rfl
  have hvy : ctV p y = .agg #[.int .i64 y.id, .slice y.A y.n y.c, .pointer (some ⟨p, 0, none⟩)] := rfl
  rw [hvx, hvy]
  clear HZ hvx hvy ht hB hx hy px py
  have HB0 : Hid (Below w.heap.size w ((w.alloc (.cells #[.int .i64 x.id, .slice x.A x.n x.c, .pointer (some ⟨p, 0, none⟩)] 69)).alloc (.cells #[.int .i64 y.id, .slice y.A y.n y.c, .pointer (some ⟨p, 0, none⟩)] 69))) := Lib.hid (((Below.refl _ w).alloc (Nat.le_refl _) _).alloc (by simp) _)
  go_enter Tryz.func93, Tryz.ntmps93
  go_wp2_with fail
  refine (HC.out _ HB0.out).mono ?_
  rintro e w1 ⟨rfl, hb1⟩
  have HB1 := Lib.hid (below_on HB0.out hb1)
  clear hb1
  go_wp2
  go_ret
  exact ⟨rfl, HB1.out⟩
set_option maxRecDepth 20000 in
theorem iBeaten (w : World) (B lo p : Nat) (t : Tr) (x y : It) (ht : PartAt w B lo t p) (hB : B ≤ w.heap.size) (hx : Ints w B x.A x.n x.xs) (hy : Ints w B y.A y.n y.xs) (px : IsP x.dat) (py : IsP y.dat) :
    Calls Tryz.prog 88 #[ctV p x, ctV p y] w fun e w' => e = .returned (.bool (btD t y.dat x.dat)) ∧ Below w.heap.size w w' := by
  have HC : Hid (∀ w1, Below w.heap.size w w1 → Calls Tryz.prog 93 #[.agg #[.int .i64 y.id, .slice y.A y.n y.c, .pointer (some ⟨p, 0, none⟩)], .agg #[.int .i64 x.id, .slice x.A x.n x.c, .pointer (some ⟨p, 0, none⟩)]] w1 fun e w' => e = .returned (.bool (btD t y.dat x.dat)) ∧ Below w1.heap.size w1 w') := Lib.hid fun w1 h => iBeats w1 B lo p t y x (ht.below hB h) (Nat.le_trans hB h.size) (hy.below (h.mono hB)) (hx.below (h.mono hB)) py px
  generalize btD t y.dat x.dat = z at *
  have hvx : ctV p x = .agg #[.int .i64 x.id, .slice x.A x.n x.c, .pointer (some ⟨p, 0, none⟩)] := rfl
  have hvy : ctV p y = .agg #[.int .i64 y.id, .slice y.A y.n y.c, .pointer (some ⟨p, 0, none⟩)] := rfl
  rw [hvx, hvy]
  clear hvx hvy ht hB hx hy px py
  have HB0 : Hid (Below w.heap.size w ((w.alloc (.cells #[.int .i64 x.id, .slice x.A x.n x.c, .pointer (some ⟨p, 0, none⟩)] 69)).alloc (.cells #[.int .i64 y.id, .slice y.A y.n y.c, .pointer (some ⟨p, 0, none⟩)] 69))) := Lib.hid (((Below.refl _ w).alloc (Nat.le_refl _) _).alloc (by simp) _)
  go_enter Tryz.func88, Tryz.ntmps88
  go_wp2_with fail
  refine (HC.out _ HB0.out).mono ?_
  rintro e w1 ⟨rfl, hb1⟩
  have HB1 := Lib.hid (below_on HB0.out hb1)
  clear hb1
  go_wp2
  go_ret
  exact ⟨rfl, HB1.out⟩
end Go.Proofs.YtceiocdemhkcdaaGreat.num
namespace Go.Proofs.YtceiocdemhkcdaaGreat.num
set_option maxRecDepth 20000
open Go.RowKit
set_option linter.unusedVariables false
set_option linter.unusedSimpArgs false

theorem ownI_lower {w : World} {B B' : Nat} {v : Value} {l : List Int} (h : OwnI w B v l) (hB : B' ≤ B) : OwnI w B' v l := ⟨h.1, h.2.imp id fun ⟨g, cap, cur, h1, h2, h3⟩ => ⟨g, cap, cur, h1, Nat.le_trans hB h2, h3⟩⟩
end Go.Proofs.YtceiocdemhkcdaaGreat.num
namespace Go.Proofs.YtceiocdemhkcdaaGreat.num
set_option maxRecDepth 20000
open Go.RowKit
set_option linter.unusedVariables false
set_option linter.unusedSimpArgs false

set_option maxRecDepth 20000 in
theorem sFine (w : World) (B : Nat) (A : Option Addr) (n c : Nat) (its : List It) (A2 : Option Addr) (n2 c2 : Nat) (ns : List Nd) (h : InB w B A n its A2 n2 c2 ns) (q : Bool) (hq : q = true ↔ IsE (datN ns) ∧ AreP (its.map It.dat)) :
    Calls Tryz.prog 95 #[.slice A n c, .slice A2 n2 c2] w fun e w' => e = .returned (.bool q) ∧ Below w.heap.size w w' := by
  obtain ⟨qa, hqa⟩ := bool_of (AreP (its.map It.dat))
  obtain ⟨qe, hqe⟩ := bool_of (IsE (datN ns))
  have HA : Hid (Calls Tryz.prog 94 #[.slice A n c] w fun e w' => e = .returned (.bool qa) ∧ Below w.heap.size w w') := Lib.hid (sAre w B A n c its h.i h.hB h.hn h.si qa hqa)
  have HE : Hid (∀ w1, Below w.heap.size w w1 → Calls Tryz.prog 61 #[.slice A2 n2 c2] w1 fun e w' => e = .returned (.bool qe) ∧ Below w1.heap.size w1 w') := Lib.hid fun w1 h1 => sIsE w1 B A2 n2 c2 ns (h.below h1).e (h.below h1).hB h.hn2 h.se qe hqe
  have HQ : Hid (q = (qa && qe)) := Lib.hid (by
    rw [Bool.eq_iff_iff, Bool.and_eq_true, hq, hqa, hqe]
    exact And.comm)
  clear hq hqa hqe h
  go_enter Tryz.func95, Tryz.ntmps95
  go_wp2_with fail
  refine HA.out.mono ?_
  rintro e w1 ⟨rfl, hb1⟩
  have HB1 := Lib.hid hb1
  clear hb1 HA
  cases qa
  · obtain rfl : q = false := HQ.out
    go_wp2
    go_ret
    exact ⟨rfl, HB1.out⟩
  · go_wp2_with fail
    refine (HE.out _ HB1.out).mono ?_
    rintro e w2 ⟨rfl, hb2⟩
    have HB2 := Lib.hid (below_on HB1.out hb2)
    clear hb2
    obtain rfl : q = qe := by rw [HQ.out]; rfl
    go_wp2
    go_ret
    exact ⟨rfl, HB2.out⟩
/-- The model's comparison of two of the items. -/
theorem sCmpIn (w : World) (B : Nat) (A : Option Addr) (n c : Nat) (its : List It) (A2 : Option Addr) (n2 c2 : Nat) (ns : List Nd) (h : InB w B A n its A2 n2 c2 ns) (he : IsE (datN ns)) (ha : AreP (its.map It.dat)) (t : Tr) (ht : Post (datN ns) t) (W : World) (hW : Below w.heap.size w W) (x y : It) (hx : x ∈ its) (hy : y ∈ its) :
    Calls Tryz.prog 72 #[.slice A2 n2 c2, .agg #[.int .i64 x.id, .slice x.A x.n x.c], .agg #[.int .i64 y.id, .slice y.A y.n y.c]] W fun e w' => e = .returned (.int .i64 (cmpD t x.dat y.dat)) ∧ Below W.heap.size W w' := by
  have h1 := h.below hW
  rw [← cmpD_it]
  exact sCompare W B A2 n2 c2 ns x y h1.e (h1.i.mem hx) (h1.i.mem hy) h1.hB h1.se (ha.1 _ (List.mem_map_of_mem hx)) (ha.1 _ (List.mem_map_of_mem hy)) t ht (by
    have h9 := he.1
    have hl : ns.length = n2 := h.e.len
    unfold datN at h9
    rw [List.length_map] at h9
    omega)
theorem all_snoc {its : List It} {f : It → Bool} {k : Nat} {t : It} (hat : its[k]? = some t) : (its.take (k + 1)).all f = ((its.take k).all f && f t) := by
  rw [take_at hat, List.all_append]
  simp
theorem fil_snoc {its : List It} {f : It → Bool} {k : Nat} {t : It} (hat : its[k]? = some t) : idL ((its.take (k + 1)).filter f) = idL ((its.take k).filter f) ++ (if f t then [t.id] else []) := by
  rw [take_at hat, List.filter_append]
  unfold idL
  rw [List.map_append]
  congr 1
  cases h : f t <;> simp [h]
theorem flt_snoc {its : List It} {f : It → Bool} {k : Nat} {t : It} (hat : its[k]? = some t) : ((its.take (k + 1)).filter f).length = ((its.take k).filter f).length + (if f t then 1 else 0) := by
  rw [take_at hat, List.filter_append, List.length_append]
  congr 1
  cases h : f t <;> simp [h]
theorem fil_len (its : List It) (f : It → Bool) (k : Nat) : (idL ((its.take k).filter f)).length ≤ k := by
  rw [idL_len]
  have h1 : ((its.take k).filter f).length ≤ (its.take k).length := List.length_filter_le _ _
  rw [List.length_take] at h1
  omega
theorem ids_fil (its : List It) (f : Dt → Bool) : idsD ((its.map It.dat).filter f) = idL (its.filter fun u => f u.dat) := by
  unfold idsD idL
  rw [List.filter_map, List.map_map]
  rfl
theorem best_ids (t : Tr) (its : List It) : idsD (bestD t (its.map It.dat)) = idL (its.filter fun x => its.all fun y => !btD t y.dat x.dat) := by
  unfold bestD
  rw [ids_fil]
  congr 1
  apply List.filter_congr
  intro x _
  unfold bestB
  rw [List.all_map]
  rfl
set_option maxRecDepth 20000 in
set_option maxHeartbeats 3200000 in
theorem sBestL (w : World) (B : Nat) (A : Option Addr) (n c : Nat) (its : List It) (A2 : Option Addr) (n2 c2 : Nat) (ns : List Nd) (h : InB w B A n its A2 n2 c2 ns) (he : IsE (datN ns)) (ha : AreP (its.map It.dat)) (t : Tr) (ht : Post (datN ns) t) :
    Calls Tryz.prog 136 #[.slice A n c, .slice A2 n2 c2] w fun e w' => (∃ v, e = .returned v ∧ OwnI w' w.heap.size v (idsD (bestD t (its.map It.dat)))) ∧ Below w.heap.size w w' := by
  have HC : Hid (∀ W, Below w.heap.size w W → ∀ x y, x ∈ its → y ∈ its → Calls Tryz.prog 72 #[.slice A2 n2 c2, .agg #[.int .i64 x.id, .slice x.A x.n x.c], .agg #[.int .i64 y.id, .slice y.A y.n y.c]] W fun e w' => e = .returned (.int .i64 (cmpD t x.dat y.dat)) ∧ Below W.heap.size W w') := Lib.hid fun W hW x y hx hy => sCmpIn w B A n c its A2 n2 c2 ns h he ha t ht W hW x y hx hy
  rw [best_ids]
  have HX := Lib.hid h.i
  have hB := h.hB
  have hn := h.hn
  clear h he ha ht
  go_enter Tryz.func136, Tryz.ntmps136
  go_wp2
  go_loopw [5, 6] (fun v i wr => ∃ k : Nat, k ≤ n ∧ i = .int .i64 k ∧ OwnI wr w.heap.size v (idL ((its.take k).filter fun x => its.all fun y => !btD t y.dat x.dat)) ∧ Below w.heap.size w wr) (fun _ i _ => n - (intOf i).toNat)
  case atStart => exact ⟨0, Nat.zero_le _, rfl, OwnI.empty w _ (Nat.le_refl _), (Below.refl _ _).alloc (Nat.le_refl _) _⟩
  case round =>
    obtain ⟨k, hk, rfl, hown, hbel⟩ := hrel
    have HO := Lib.hid hown
    have HB := Lib.hid hbel
    clear hown
    by_cases hlt : k < n
    · obtain ⟨b1, off, x, rfl, hb1, hat, d0, d1, -⟩ := HX.out.at k hlt
      have hbw : b1 < w.heap.size := Nat.lt_of_lt_of_le hb1 hB
      have HAt := Lib.hid hat
      have HD := Lib.hid (And.intro d0 d1)
      have hlt' : (k : Int) < (n : Int) := by omega
      have hk0 : (0 : Int) ≤ (k : Int) := by omega
      clear d0 d1 hat
      go_wp2
      go_loopw [7, 8] (fun v j wr => ∃ m : Nat, m ≤ n ∧ j = .int .i64 m ∧ v = .bool ((its.take m).all fun y => !btD t y.dat x.dat) ∧ Below w.heap.size w wr ∧ OwnI wr w.heap.size u5 (idL ((its.take k).filter fun x => its.all fun y => !btD t y.dat x.dat))) (fun _ j _ => n - (intOf j).toNat)
      case atStart => exact ⟨0, Nat.zero_le _, rfl, rfl, HB.out, HO.out⟩
      case round =>
        clear hbel
        obtain ⟨m, hm, rfl, rfl, hbel, hown⟩ := hrel
        have HBi := Lib.hid hbel
        have HOi := Lib.hid hown
        obtain ⟨bb, hbb⟩ : ∃ bb, ((its.take m).all fun y => !btD t y.dat x.dat) = bb := ⟨_, rfl⟩
        rw [hbb]
        have HBb := Lib.hid hbb
        clear hbb hown
        by_cases hmt : m < n
        · obtain ⟨b2, off2, y, hA2, hb2, hat, d0, d1, -⟩ := HX.out.at m hmt
          injection hA2 with hA2
          injection hA2 with e1 e2
          subst e1 e2
          have HAt2 := Lib.hid hat
          have HD2 := Lib.hid (And.intro d0 d1)
          have hmt' : (m : Int) < (n : Int) := by omega
          have hm0 : (0 : Int) ≤ (m : Int) := by omega
          have HS : Hid (∀ w', Below w.heap.size w w' → w'.cell? ⟨b1, off + k * 2, none⟩ = some (.int .i64 x.id) ∧ w'.cell? ⟨b1, off + k * 2 + 1, none⟩ = some (.slice x.A x.n x.c) ∧ w'.cell? ⟨b1, off + m * 2, none⟩ = some (.int .i64 y.id) ∧ w'.cell? ⟨b1, off + m * 2 + 1, none⟩ = some (.slice y.A y.n y.c)) := Lib.hid fun W h => ⟨(h.cell (p := ⟨b1, off + k * 2, none⟩) hbw).trans HD.out.1, (h.cell (p := ⟨b1, off + k * 2 + 1, none⟩) hbw).trans HD.out.2, (h.cell (p := ⟨b1, off + m * 2, none⟩) hbw).trans HD2.out.1, (h.cell (p := ⟨b1, off + m * 2 + 1, none⟩) hbw).trans HD2.out.2⟩
          clear d0 d1 hat
          cases bb
          · go_wp2
            have hS0 : (fun w' => w'.cell? ⟨b1, off + k * 2, none⟩ = some (.int .i64 x.id) ∧ w'.cell? ⟨b1, off + k * 2 + 1, none⟩ = some (.slice x.A x.n x.c) ∧ w'.cell? ⟨b1, off + m * 2, none⟩ = some (.int .i64 y.id) ∧ w'.cell? ⟨b1, off + m * 2 + 1, none⟩ = some (.slice y.A y.n y.c)) (World.drew wr) := HS.out _ HBi.out.drew
            clear hbel
            refine wp_region_held (S := fun w' => w'.cell? ⟨b1, off + k * 2, none⟩ = some (.int .i64 x.id) ∧ w'.cell? ⟨b1, off + k * 2 + 1, none⟩ = some (.slice x.A x.n x.c) ∧ w'.cell? ⟨b1, off + m * 2, none⟩ = some (.int .i64 y.id) ∧ w'.cell? ⟨b1, off + m * 2 + 1, none⟩ = some (.slice y.A y.n y.c)) (by kernel_rfl) ?_
            change wpAnyH _ _ _ _ _ _ _ _ (World.drew _)
            refine takeY 22 (i := 0) (v := ?v0b) rfl rfl (by kernel_rfl) (by kernel_rfl) (by kernel_rfl) (fun _ _ _ h => h) (by kernel_rfl) ?y0b hS0 ?_
            case y0b =>
              intro w' hw'; (try dsimp only at hw'); obtain ⟨x_0, x_1, y_0, y_1⟩ := hw'; go_simp; try with_reducible rfl
            simp only [Act.put, List.setIfInBounds_toArray, List.set_cons_zero, List.set_cons_succ]
            refine takeY 23 (i := 1) (v := ?v1b) rfl rfl (by kernel_rfl) (by kernel_rfl) (by kernel_rfl) (fun _ _ _ h => h) (by kernel_rfl) ?y1b hS0 ?_
            case y1b =>
              intro w' hw'; (try dsimp only at hw'); obtain ⟨x_0, x_1, y_0, y_1⟩ := hw'; go_simp; try with_reducible rfl
            simp only [Act.put, List.setIfInBounds_toArray, List.set_cons_zero, List.set_cons_succ]
            refine takeU 24 (i := 2) rfl rfl (by kernel_rfl) (by kernel_rfl) (by kernel_rfl) (fun _ _ _ h => h) (by kernel_rfl) hS0 ?_
            simp only [Act.put, List.setIfInBounds_toArray, List.set_cons_zero, List.set_cons_succ]
            refine takeU 25 (i := 3) rfl rfl (by kernel_rfl) (by kernel_rfl) (by kernel_rfl) (fun _ _ _ h => h) (by kernel_rfl) hS0 ?_
            simp only [Act.put, List.setIfInBounds_toArray, List.set_cons_zero, List.set_cons_succ]
            refine takeU 26 (i := 4) rfl rfl (by kernel_rfl) (by kernel_rfl) (by kernel_rfl) (fun _ _ _ h => h) (by kernel_rfl) hS0 ?_
            simp only [Act.put, List.setIfInBounds_toArray, List.set_cons_zero, List.set_cons_succ]
            refine takeU 27 (i := 5) rfl rfl (by kernel_rfl) (by kernel_rfl) (by kernel_rfl) (fun _ _ _ h => h) (by kernel_rfl) hS0 ?_
            simp only [Act.put, List.setIfInBounds_toArray, List.set_cons_zero, List.set_cons_succ]
            refine takeU 28 (i := 6) rfl rfl (by kernel_rfl) (by kernel_rfl) (by kernel_rfl) (fun _ _ _ h => h) (by kernel_rfl) hS0 ?_
            simp only [Act.put, List.setIfInBounds_toArray, List.set_cons_zero, List.set_cons_succ]
            refine takeU 29 (i := 7) rfl rfl (by kernel_rfl) (by kernel_rfl) (by kernel_rfl) (fun _ _ _ h => h) (by kernel_rfl) hS0 ?_
            simp only [Act.put, List.setIfInBounds_toArray, List.set_cons_zero, List.set_cons_succ]
            refine takeU 30 (i := 8) rfl rfl (by kernel_rfl) (by kernel_rfl) (by kernel_rfl) (fun _ _ _ h => h) (by kernel_rfl) hS0 ?_
            simp only [Act.put, List.setIfInBounds_toArray, List.set_cons_zero, List.set_cons_succ]
            refine takeU 31 (i := 9) rfl rfl (by kernel_rfl) (by kernel_rfl) (by kernel_rfl) (fun _ _ _ h => h) (by kernel_rfl) hS0 ?_
            simp only [Act.put, List.setIfInBounds_toArray, List.set_cons_zero, List.set_cons_succ]
            refine takeU 32 (i := 10) rfl rfl (by kernel_rfl) (by kernel_rfl) (by kernel_rfl) (fun _ _ _ h => h) (by kernel_rfl) hS0 ?_
            simp only [Act.put, List.setIfInBounds_toArray, List.set_cons_zero, List.set_cons_succ]
            refine takeU 33 (i := 11) rfl rfl (by kernel_rfl) (by kernel_rfl) (by kernel_rfl) (fun _ _ _ h => h) (by kernel_rfl) hS0 ?_
            simp only [Act.put, List.setIfInBounds_toArray, List.set_cons_zero, List.set_cons_succ]
            refine takeU 34 (i := 12) rfl rfl (by kernel_rfl) (by kernel_rfl) (by kernel_rfl) (fun _ _ _ h => h) (by kernel_rfl) hS0 ?_
            simp only [Act.put, List.setIfInBounds_toArray, List.set_cons_zero, List.set_cons_succ]
            refine takeY 35 (i := 13) (v := ?v13b) rfl rfl (by kernel_rfl) (by kernel_rfl) (by kernel_rfl) (fun _ _ _ h => h) (by kernel_rfl) ?y13b hS0 ?_
            case y13b =>
              intro w' hw'; (try dsimp only at hw'); obtain ⟨x_0, x_1, y_0, y_1⟩ := hw'; go_simp; try with_reducible rfl
            simp only [Act.put, List.setIfInBounds_toArray, List.set_cons_zero, List.set_cons_succ]
            refine takeY 7 (i := 14) (v := ?v14b) rfl rfl (by kernel_rfl) (by kernel_rfl) (by kernel_rfl) (fun _ _ _ h => h) (by kernel_rfl) ?y14b hS0 ?_
            case y14b =>
              intro w' hw'; (try dsimp only at hw'); obtain ⟨x_0, x_1, y_0, y_1⟩ := hw'; go_simp; try with_reducible rfl
            simp only [Act.put, List.setIfInBounds_toArray, List.set_cons_zero, List.set_cons_succ]
            refine wpAnyH_done (by kernel_rfl) ?_ _
            clear hS0
            go_wp2
            go_roundw
            case rel => exact ⟨m + 1, by omega, by go_num, by rw [all_snoc HAt2.out, HBb.out]; rfl, HBi.out.drew, ownI_below HOi.out (Below.refl _ _).drew⟩
            case measure => simp [intOf]; omega
          · go_wp2
            have hS0 : (fun w' => w'.cell? ⟨b1, off + k * 2, none⟩ = some (.int .i64 x.id) ∧ w'.cell? ⟨b1, off + k * 2 + 1, none⟩ = some (.slice x.A x.n x.c) ∧ w'.cell? ⟨b1, off + m * 2, none⟩ = some (.int .i64 y.id) ∧ w'.cell? ⟨b1, off + m * 2 + 1, none⟩ = some (.slice y.A y.n y.c)) (World.drew wr) := HS.out _ HBi.out.drew
            clear hbel
            refine wp_region_held (S := fun w' => w'.cell? ⟨b1, off + k * 2, none⟩ = some (.int .i64 x.id) ∧ w'.cell? ⟨b1, off + k * 2 + 1, none⟩ = some (.slice x.A x.n x.c) ∧ w'.cell? ⟨b1, off + m * 2, none⟩ = some (.int .i64 y.id) ∧ w'.cell? ⟨b1, off + m * 2 + 1, none⟩ = some (.slice y.A y.n y.c)) (by kernel_rfl) ?_
            change wpAnyH _ _ _ _ _ _ _ _ (World.drew _)
            refine takeY 22 (i := 0) (v := ?v0a) rfl rfl (by kernel_rfl) (by kernel_rfl) (by kernel_rfl) (fun _ _ _ h => h) (by kernel_rfl) ?y0a hS0 ?_
            case y0a =>
              intro w' hw'; (try dsimp only at hw'); obtain ⟨x_0, x_1, y_0, y_1⟩ := hw'; go_simp; try with_reducible rfl
            simp only [Act.put, List.setIfInBounds_toArray, List.set_cons_zero, List.set_cons_succ]
            refine takeY 23 (i := 1) (v := ?v1a) rfl rfl (by kernel_rfl) (by kernel_rfl) (by kernel_rfl) (fun _ _ _ h => h) (by kernel_rfl) ?y1a hS0 ?_
            case y1a =>
              intro w' hw'; (try dsimp only at hw'); obtain ⟨x_0, x_1, y_0, y_1⟩ := hw'; go_simp; try with_reducible rfl
            simp only [Act.put, List.setIfInBounds_toArray, List.set_cons_zero, List.set_cons_succ]
            refine takeY 24 (i := 2) (v := ?v2a) rfl rfl (by kernel_rfl) (by kernel_rfl) (by kernel_rfl) (fun _ _ _ h => h) (by kernel_rfl) ?y2a hS0 ?_
            case y2a =>
              intro w' hw'; (try dsimp only at hw'); obtain ⟨x_0, x_1, y_0, y_1⟩ := hw'; go_simp; try with_reducible rfl
            simp only [Act.put, List.setIfInBounds_toArray, List.set_cons_zero, List.set_cons_succ]
            refine takeY 25 (i := 3) (v := ?v3a) rfl rfl (by kernel_rfl) (by kernel_rfl) (by kernel_rfl) (fun _ _ _ h => h) (by kernel_rfl) ?y3a hS0 ?_
            case y3a =>
              intro w' hw'; (try dsimp only at hw'); obtain ⟨x_0, x_1, y_0, y_1⟩ := hw'; go_simp; try with_reducible rfl
            simp only [Act.put, List.setIfInBounds_toArray, List.set_cons_zero, List.set_cons_succ]
            refine takeY 26 (i := 4) (v := ?v4a) rfl rfl (by kernel_rfl) (by kernel_rfl) (by kernel_rfl) (fun _ _ _ h => h) (by kernel_rfl) ?y4a hS0 ?_
            case y4a =>
              intro w' hw'; (try dsimp only at hw'); obtain ⟨x_0, x_1, y_0, y_1⟩ := hw'; go_simp; try with_reducible rfl
            simp only [Act.put, List.setIfInBounds_toArray, List.set_cons_zero, List.set_cons_succ]
            refine takeY 27 (i := 5) (v := ?v5a) rfl rfl (by kernel_rfl) (by kernel_rfl) (by kernel_rfl) (fun _ _ _ h => h) (by kernel_rfl) ?y5a hS0 ?_
            case y5a =>
              intro w' hw'; (try dsimp only at hw'); obtain ⟨x_0, x_1, y_0, y_1⟩ := hw'; go_simp; try with_reducible rfl
            simp only [Act.put, List.setIfInBounds_toArray, List.set_cons_zero, List.set_cons_succ]
            refine takeY 28 (i := 6) (v := ?v6a) rfl rfl (by kernel_rfl) (by kernel_rfl) (by kernel_rfl) (fun _ _ _ h => h) (by kernel_rfl) ?y6a hS0 ?_
            case y6a =>
              intro w' hw'; (try dsimp only at hw'); obtain ⟨x_0, x_1, y_0, y_1⟩ := hw'; go_simp; try with_reducible rfl
            simp only [Act.put, List.setIfInBounds_toArray, List.set_cons_zero, List.set_cons_succ]
            refine takeY 29 (i := 7) (v := ?v7a) rfl rfl (by kernel_rfl) (by kernel_rfl) (by kernel_rfl) (fun _ _ _ h => h) (by kernel_rfl) ?y7a hS0 ?_
            case y7a =>
              intro w' hw'; (try dsimp only at hw'); obtain ⟨x_0, x_1, y_0, y_1⟩ := hw'; go_simp; try with_reducible rfl
            simp only [Act.put, List.setIfInBounds_toArray, List.set_cons_zero, List.set_cons_succ]
            refine takeY 30 (i := 8) (v := ?v8a) rfl rfl (by kernel_rfl) (by kernel_rfl) (by kernel_rfl) (fun _ _ _ h => h) (by kernel_rfl) ?y8a hS0 ?_
            case y8a =>
              intro w' hw'; (try dsimp only at hw'); obtain ⟨x_0, x_1, y_0, y_1⟩ := hw'; go_simp; try with_reducible rfl
            simp only [Act.put, List.setIfInBounds_toArray, List.set_cons_zero, List.set_cons_succ]
            refine takeY 31 (i := 9) (v := ?v9a) rfl rfl (by kernel_rfl) (by kernel_rfl) (by kernel_rfl) (fun _ _ _ h => h) (by kernel_rfl) ?y9a hS0 ?_
            case y9a =>
              intro w' hw'; (try dsimp only at hw'); obtain ⟨x_0, x_1, y_0, y_1⟩ := hw'; go_simp; try with_reducible rfl
            simp only [Act.put, List.setIfInBounds_toArray, List.set_cons_zero, List.set_cons_succ]
            refine takeY 32 (i := 10) (v := ?v10a) rfl rfl (by kernel_rfl) (by kernel_rfl) (by kernel_rfl) (fun _ _ _ h => h) (by kernel_rfl) ?y10a hS0 ?_
            case y10a =>
              intro w' hw'; (try dsimp only at hw'); obtain ⟨x_0, x_1, y_0, y_1⟩ := hw'; go_simp; try with_reducible rfl
            simp only [Act.put, List.setIfInBounds_toArray, List.set_cons_zero, List.set_cons_succ]
            refine wpAnyH_ready (rs := [11]) (by kernel_rfl) (by simp) ?_
            refine AllReadyH.cons rfl (fun K hK => ?_) AllReadyH.nil
            go_simp; go_at_call 72; refine (HC.out _ HBi.out.drew y x (mem_of_at HAt2.out) (mem_of_at HAt.out)).mono ?_; rintro e w3 ⟨rfl, hb3⟩; have HB3 := Lib.hid (below_on HBi.out.drew hb3); have HO3 := Lib.hid (ownI_below (ownI_below HOi.out (Below.refl _ _).drew) hb3); clear hb3
            refine hK.out _ _ (HS.out _ HB3.out) (fun hS1 => ?_)
            clear hK K
            try simp only [Act.put, List.setIfInBounds_toArray, List.set_cons_zero, List.set_cons_succ]
            refine takeY 34 (i := 12) (v := ?v12a) rfl rfl (by kernel_rfl) (by kernel_rfl) (by kernel_rfl) (fun _ _ _ h => h) (by kernel_rfl) ?y12a hS1 ?_
            case y12a =>
              intro w' hw'; (try dsimp only at hw'); obtain ⟨x_0, x_1, y_0, y_1⟩ := hw'; go_simp; try with_reducible rfl
            simp only [Act.put, List.setIfInBounds_toArray, List.set_cons_zero, List.set_cons_succ]
            refine takeY 35 (i := 13) (v := ?v13a) rfl rfl (by kernel_rfl) (by kernel_rfl) (by kernel_rfl) (fun _ _ _ h => h) (by kernel_rfl) ?y13a hS1 ?_
            case y13a =>
              intro w' hw'; (try dsimp only at hw'); obtain ⟨x_0, x_1, y_0, y_1⟩ := hw'; go_simp; try with_reducible rfl
            simp only [Act.put, List.setIfInBounds_toArray, List.set_cons_zero, List.set_cons_succ]
            refine takeY 7 (i := 14) (v := ?v14a) rfl rfl (by kernel_rfl) (by kernel_rfl) (by kernel_rfl) (fun _ _ _ h => h) (by kernel_rfl) ?y14a hS1 ?_
            case y14a =>
              intro w' hw'; (try dsimp only at hw'); obtain ⟨x_0, x_1, y_0, y_1⟩ := hw'; go_simp; try with_reducible rfl
            simp only [Act.put, List.setIfInBounds_toArray, List.set_cons_zero, List.set_cons_succ]
            refine wpAnyH_done (by kernel_rfl) ?_ _
            clear hS0 hS1
            go_wp2
            go_roundw
            case rel => exact ⟨m + 1, by omega, by go_num, by rw [all_snoc HAt2.out, HBb.out]; rfl, HB3.out, HO3.out⟩
            case measure => simp [intOf]; omega
        · obtain rfl : m = n := by omega
          have HBb2 : Hid ((its.all fun y => !btD t y.dat x.dat) = bb) := Lib.hid (by have h := HBb.out; rwa [take_all HX.out.1] at h)
          have f1 := (hbel.cell (p := ⟨b1, off + k * 2, none⟩) hbw).trans HD.out.1
          have HLn : Hid (((idL ((its.take k).filter fun x => its.all fun y => !btD t y.dat x.dat)).length + [x.id].length) * 8 ≤ 140737488355328) := Lib.hid (by
            have h1 := fil_len its (fun x => its.all fun y => !btD t y.dat x.dat) k
            simp only [List.length_cons, List.length_nil]
            omega)
          clear hbel HBb
          cases bb
          · go_wp2
            go_roundw
            case rel => exact ⟨k + 1, by omega, by go_num, by rw [fil_snoc HAt.out, HBb2.out]; simpa using HOi.out, HBi.out⟩
            case measure => simp [intOf]; omega
          · go_wp2_with (at_builtin; refine wp_appI wr (by rfl) (.tmp 37) (.tmp 43) (by rfl) w.heap.size _ _ (by rfl) HOi.out _ [x.id] (by rfl) 1 1 rfl (by rfl) HLn.out HBi.out.size ?_)
            intro v1 w2 hown2 hb2
            have HO2 := Lib.hid hown2
            have HB2 := Lib.hid (HBi.out.trans hb2)
            clear hown2 hb2 f1
            go_wp2
            go_roundw
            case rel => exact ⟨k + 1, by omega, by go_num, by rw [fil_snoc HAt.out, HBb2.out]; exact HO2.out, HB2.out⟩
            case measure => simp [intOf]; omega
    · obtain rfl : k = n := by omega
      have HO' : Hid (OwnI wr w.heap.size u5 (idL (its.filter fun x => its.all fun y => !btD t y.dat x.dat))) := Lib.hid (by have h := HO.out; rwa [take_all HX.out.1] at h)
      clear hbel
      go_wp2
      go_ret
      exact ⟨⟨_, rfl, HO'.out⟩, HB.out⟩
set_option maxRecDepth 20000 in
theorem sBest (w : World) (B : Nat) (A : Option Addr) (n c : Nat) (its : List It) (A2 : Option Addr) (n2 c2 : Nat) (ns : List Nd) (h : InB w B A n its A2 n2 c2 ns) (L : List Int) (hL : BestP (datN ns) (its.map It.dat) L) :
    Calls Tryz.prog 107 #[.slice A n c, .slice A2 n2 c2] w fun e w' => (∃ v, e = .returned v ∧ OwnI w' w.heap.size v L) ∧ Below w.heap.size w w' := by
  obtain ⟨q, hq⟩ := bool_of (IsE (datN ns) ∧ AreP (its.map It.dat))
  have HFn : Hid (∀ w1, Below w.heap.size w w1 → Calls Tryz.prog 95 #[.slice A n c, .slice A2 n2 c2] w1 fun e w' => e = .returned (.bool q) ∧ Below w1.heap.size w1 w') := Lib.hid fun w1 h1 => sFine w1 B A n c its A2 n2 c2 ns (h.below h1) q hq
  have HY : Hid (q = true → ∀ w1, Below w.heap.size w w1 → Calls Tryz.prog 136 #[.slice A n c, .slice A2 n2 c2] w1 fun e w' => (∃ v, e = .returned v ∧ OwnI w' w1.heap.size v L) ∧ Below w1.heap.size w1 w') := Lib.hid fun hqt w1 h1 => by
    obtain ⟨he, ha⟩ := hq.1 hqt
    obtain ⟨t, ht⟩ := he.2
    rw [hL.yes he ha ht]
    exact sBestL w1 B A n c its A2 n2 c2 ns (h.below h1) he ha t ht
  have HN : Hid (q = false → L = []) := Lib.hid fun hqf => hL.no (fun hh => by rw [hq.2 hh] at hqf; cases hqf)
  clear h hL hq
  go_enter Tryz.func107, Tryz.ntmps107
  go_wp2_with fail
  refine (HFn.out _ (Below.refl _ _)).mono ?_
  rintro e w1 ⟨rfl, hb1⟩
  have HB1 := Lib.hid hb1
  clear hb1
  cases q
  · obtain rfl := HN.out (by first | rfl | trivial)
    go_wp2
    go_ret
    exact ⟨⟨_, rfl, OwnI.empty w1 _ HB1.out.size⟩, HB1.out.alloc HB1.out.size _⟩
  · go_wp2_with fail
    refine (HY.out (by first | rfl | trivial) _ HB1.out).mono ?_
    rintro e w2 ⟨⟨v, rfl, ho⟩, hb2⟩
    have HB2 := Lib.hid (below_on HB1.out hb2)
    have HO := Lib.hid (ownI_lower ho HB1.out.size)
    clear ho hb2
    go_wp2
    go_ret
    exact ⟨⟨_, rfl, HO.out⟩, HB2.out⟩
set_option maxRecDepth 20000 in
theorem sIsBest (w : World) (B : Nat) (A : Option Addr) (n c : Nat) (its : List It) (A2 : Option Addr) (n2 c2 : Nat) (ns : List Nd) (h : InB w B A n its A2 n2 c2 ns) (x : Int) (b : Bool) (hb : IsBP (datN ns) (its.map It.dat) x b) :
    Calls Tryz.prog 67 #[.slice A n c, .slice A2 n2 c2, .int .i64 x] w fun e w' => e = .returned (.bool b) ∧ Below w.heap.size w w' := by
  obtain ⟨L, hL⟩ := AnsP.some (datN ns) (its.map It.dat) (fun t => idsD (bestD t (its.map It.dat))) []
  replace hL : BestP (datN ns) (its.map It.dat) L := hL
  have HC := Lib.hid (sBest w B A n c its A2 n2 c2 ns h L hL)
  have HL : Hid (L.length ≤ 1048576) := Lib.hid (Nat.le_trans hL.small (by decide))
  have HQ := Lib.hid (hb.iff hL)
  clear h hL hb
  go_enter Tryz.func67, Tryz.ntmps67
  go_wp2_with fail
  refine HC.out.mono ?_
  rintro e w1 ⟨⟨v, rfl, ho⟩, hb1⟩
  have HB1 := Lib.hid hb1
  obtain ⟨A', n', c', rfl, hi⟩ := ho.ints
  have HI := Lib.hid hi
  have hn' : n' ≤ 2000000 := by have h1 := hi.1; have h2 := HL.out; omega
  clear ho hb1 hi
  go_wp2_with fail
  refine (has_of w1 w1.heap.size A' n' c' L HI.out hn' x b HQ.out).mono ?_
  rintro e w2 ⟨rfl, rfl⟩
  go_wp2
  go_ret
  exact ⟨rfl, HB1.out⟩
set_option maxRecDepth 20000 in
set_option maxHeartbeats 6400000 in
theorem sDom (w : World) (B : Nat) (A : Option Addr) (n c : Nat) (its : List It) (A2 : Option Addr) (n2 c2 : Nat) (ns : List Nd) (h : InB w B A n its A2 n2 c2 ns) (x0 : Int) (L : List Int) (hL : DomP (datN ns) (its.map It.dat) x0 L) :
    Calls Tryz.prog 59 #[.slice A n c, .slice A2 n2 c2, .int .i64 x0] w fun e w' => (∃ v, e = .returned v ∧ OwnI w' w.heap.size v L) ∧ Below w.heap.size w w' := by
  obtain ⟨q, hq⟩ := bool_of (IsE (datN ns) ∧ AreP (its.map It.dat))
  have HFn : Hid (∀ w1, Below w.heap.size w w1 → Calls Tryz.prog 95 #[.slice A n c, .slice A2 n2 c2] w1 fun e w' => e = .returned (.bool q) ∧ Below w1.heap.size w1 w') := Lib.hid fun w1 h1 => sFine w1 B A n c its A2 n2 c2 ns (h.below h1) q hq
  have HFi : Hid (∀ w1, Below w.heap.size w w1 → Calls Tryz.prog 71 #[.slice A n c, .int .i64 x0] w1 fun e w' => (∃ r, e = .returned (.int .i64 r) ∧ FindP (its.map It.dat) x0 r) ∧ Below w1.heap.size w1 w') := Lib.hid fun w1 h1 => sFind w1 B A n c its (h.below h1).i (h.below h1).hB h.hn x0
  have HN : Hid (q = false → L = []) := Lib.hid fun hqf => hL.no (fun hh => by rw [hq.2 hh] at hqf; cases hqf)
  have HN2 : Hid (findD (its.map It.dat) x0 = none → L = []) := Lib.hid fun hf => hL.none hf
  have HK : Hid (∀ y, y ∈ its → findD (its.map It.dat) x0 = some y.dat → ∃ hold : It → Bool, q = true → L = idL (its.filter hold) ∧ ∀ W, Below w.heap.size w W → ∀ u, u ∈ its → Calls Tryz.prog 72 #[.slice A2 n2 c2, .agg #[.int .i64 u.id, .slice u.A u.n u.c], .agg #[.int .i64 y.id, .slice y.A y.n y.c]] W fun e w' => (∃ z : Int, e = .returned (.int .i64 z) ∧ (z == 1) = hold u) ∧ Below W.heap.size W w') := Lib.hid fun y hy hf => by
    by_cases hqt : q = true
    · obtain ⟨he, ha⟩ := hq.1 hqt
      obtain ⟨t, ht⟩ := he.2
      refine ⟨fun u => btD t u.dat y.dat, fun _ => ⟨?_, fun W hW u hu => ?_⟩⟩
      · rw [hL.yes he ha ht, onFind_some hf]
        exact ids_fil its _
      · exact (sCmpIn w B A n c its A2 n2 c2 ns h he ha t ht W hW _ _ hu hy).mono fun _ _ ⟨h1, h2⟩ => ⟨⟨_, h1, rfl⟩, h2⟩
    · exact ⟨fun _ => false, fun h => absurd h hqt⟩
  have HX := Lib.hid h.i
  have hB := h.hB
  have hn := h.hn
  have HE0 := Lib.hid (OwnI.empty w w.heap.size (Nat.le_refl _))
  have HB0 : Hid (Below w.heap.size w (w.alloc (.cells #[] 3))) := Lib.hid ((Below.refl _ _).alloc (Nat.le_refl _) _)
  clear h hL hq
  go_enter Tryz.func59, Tryz.ntmps59
  go_wp2_with fail
  refine (HFi.out _ HB0.out).mono ?_
  rintro e w1 ⟨⟨r, rfl, hr⟩, hb1⟩
  have HB1 := Lib.hid (below_on HB0.out hb1)
  have HO1 := Lib.hid (ownI_below HE0.out hb1)
  have hfd := hr.find
  clear hb1 hr
  rcases hfd with ⟨rfl, hf⟩ | ⟨m, d, rfl, hd, -, hf⟩
  · obtain rfl := HN2.out hf
    clear hf
    go_wp2
    go_loopw [7, 9] (fun v i wr => v = .slice (some ⟨w.heap.size, 0, none⟩) 0 0 ∧ i = .int .i64 0 ∧ wr = w1) (fun _ _ _ => 0)
    case atStart => exact ⟨rfl, rfl, rfl⟩
    case round =>
      obtain ⟨rfl, rfl, rfl⟩ := hrel
      by_cases hlt : 0 < n
      · have hlt' : (0 : Int) < (n : Int) := by omega
        go_wp2
        go_ret
        exact ⟨⟨_, rfl, HO1.out⟩, HB1.out⟩
      · obtain rfl : n = 0 := by omega
        go_wp2
        go_ret
        exact ⟨⟨_, rfl, HO1.out⟩, HB1.out⟩
  · rw [List.getElem?_map] at hd
    obtain ⟨y, hy, rfl⟩ := Option.map_eq_some_iff.1 hd
    obtain ⟨hold, hH⟩ := HK.out y (mem_of_at hy) hf
    have HH := Lib.hid hH
    have HY := Lib.hid hy
    have hmn : m < n := by
      rw [← HX.out.1]
      exact (List.getElem?_eq_some_iff.1 hy).1
    clear hd hf hH hy
    go_wp2
    go_loopw [7, 9] (fun v i wr => ∃ k : Nat, k ≤ n ∧ i = .int .i64 k ∧ (0 < k → q = true) ∧ OwnI wr w.heap.size v (idL ((its.take k).filter hold)) ∧ Below w.heap.size w wr) (fun _ i _ => n - (intOf i).toNat)
    case atStart => exact ⟨0, Nat.zero_le _, rfl, fun h => by omega, HO1.out, HB1.out⟩
    case round =>
      obtain ⟨k, hk, rfl, hkq, hown, hbel⟩ := hrel
      have HKq := Lib.hid hkq
      have HO := Lib.hid hown
      have HB := Lib.hid hbel
      clear hown hkq
      by_cases hlt : k < n
      · have hlt0 : (k : Int) < (n : Int) := by omega
        have hm0' : (0 : Int) ≤ (m : Int) := by omega
        clear hbel
        go_wp2_with fail
        refine (HFn.out _ HB.out).mono ?_
        rintro e w2 ⟨rfl, hb2⟩
        have HB2 := Lib.hid (below_on HB.out hb2)
        have HO2 := Lib.hid (ownI_below HO.out hb2)
        have hbel := HB2.out
        clear hb2 hlt0
        cases q
        · obtain rfl : k = 0 := by
            rcases Nat.eq_zero_or_pos k with e | e
            · exact e
            · cases HKq.out e
          obtain rfl := HN.out (by first | rfl | trivial)
          go_wp2
          go_ret
          exact ⟨⟨_, rfl, HO2.out⟩, HB2.out⟩
        · have HC := Lib.hid (HH.out (by first | rfl | trivial)).2
          clear HO HB
          have HO := HO2
          have HB := HB2
          clear HO2 HB2
          obtain ⟨b1, off, x, rfl, hb1, hat, d0, d1, -⟩ := HX.out.at k hlt
          have hbw : b1 < w.heap.size := Nat.lt_of_lt_of_le hb1 hB
          have HAt := Lib.hid hat
          have HD := Lib.hid (And.intro d0 d1)
          have hlt' : (k : Int) < (n : Int) := by omega
          have hk0 : (0 : Int) ≤ (k : Int) := by omega
          clear d0 d1 hat
          have hmt := hmn
          obtain ⟨b2, off2, y2, hA2, hb2, hat, d0, d1, -⟩ := HX.out.at m hmt
          injection hA2 with hA2
          injection hA2 with e1 e2
          subst e1 e2
          obtain rfl : y = y2 := Option.some.inj (HY.out.symm.trans hat)
          have HAt2 := Lib.hid hat
          have HD2 := Lib.hid (And.intro d0 d1)
          have hmt' : (m : Int) < (n : Int) := by omega
          have HS : Hid (∀ w', Below w.heap.size w w' → w'.cell? ⟨b1, off + k * 2, none⟩ = some (.int .i64 x.id) ∧ w'.cell? ⟨b1, off + k * 2 + 1, none⟩ = some (.slice x.A x.n x.c) ∧ w'.cell? ⟨b1, off + m * 2, none⟩ = some (.int .i64 y.id) ∧ w'.cell? ⟨b1, off + m * 2 + 1, none⟩ = some (.slice y.A y.n y.c)) := Lib.hid fun W h => ⟨(h.cell (p := ⟨b1, off + k * 2, none⟩) hbw).trans HD.out.1, (h.cell (p := ⟨b1, off + k * 2 + 1, none⟩) hbw).trans HD.out.2, (h.cell (p := ⟨b1, off + m * 2, none⟩) hbw).trans HD2.out.1, (h.cell (p := ⟨b1, off + m * 2 + 1, none⟩) hbw).trans HD2.out.2⟩
          clear d0 d1 hat
          have f1 := (hbel.cell (p := ⟨b1, off + k * 2, none⟩) hbw).trans HD.out.1
          have HF1 := Lib.hid f1
          have HLn : Hid (((idL ((its.take k).filter hold)).length + [x.id].length) * 8 ≤ 140737488355328) := Lib.hid (by
            have h1 := fil_len its hold k
            simp only [List.length_cons, List.length_nil]
            omega)
          clear f1 hbel
          go_wp2
          have hS0 : (fun w' => w'.cell? ⟨b1, off + k * 2, none⟩ = some (.int .i64 x.id) ∧ w'.cell? ⟨b1, off + k * 2 + 1, none⟩ = some (.slice x.A x.n x.c) ∧ w'.cell? ⟨b1, off + m * 2, none⟩ = some (.int .i64 y.id) ∧ w'.cell? ⟨b1, off + m * 2 + 1, none⟩ = some (.slice y.A y.n y.c)) (World.drew w2) := HS.out _ HB.out.drew
          refine wp_region_held (S := fun w' => w'.cell? ⟨b1, off + k * 2, none⟩ = some (.int .i64 x.id) ∧ w'.cell? ⟨b1, off + k * 2 + 1, none⟩ = some (.slice x.A x.n x.c) ∧ w'.cell? ⟨b1, off + m * 2, none⟩ = some (.int .i64 y.id) ∧ w'.cell? ⟨b1, off + m * 2 + 1, none⟩ = some (.slice y.A y.n y.c)) (by kernel_rfl) ?_
          change wpAnyH _ _ _ _ _ _ _ _ (World.drew _)
          refine takeY 29 (i := 0) (v := ?v0c) rfl rfl (by kernel_rfl) (by kernel_rfl) (by kernel_rfl) (fun _ _ _ h => h) (by kernel_rfl) ?y0c hS0 ?_
          case y0c =>
            intro w' hw'; (try dsimp only at hw'); obtain ⟨x_0, x_1, y_0, y_1⟩ := hw'; go_simp; try with_reducible rfl
          simp only [Act.put, List.setIfInBounds_toArray, List.set_cons_zero, List.set_cons_succ]
          refine takeY 30 (i := 1) (v := ?v1c) rfl rfl (by kernel_rfl) (by kernel_rfl) (by kernel_rfl) (fun _ _ _ h => h) (by kernel_rfl) ?y1c hS0 ?_
          case y1c =>
            intro w' hw'; (try dsimp only at hw'); obtain ⟨x_0, x_1, y_0, y_1⟩ := hw'; go_simp; try with_reducible rfl
          simp only [Act.put, List.setIfInBounds_toArray, List.set_cons_zero, List.set_cons_succ]
          refine takeY 31 (i := 2) (v := ?v2c) rfl rfl (by kernel_rfl) (by kernel_rfl) (by kernel_rfl) (fun _ _ _ h => h) (by kernel_rfl) ?y2c hS0 ?_
          case y2c =>
            intro w' hw'; (try dsimp only at hw'); obtain ⟨x_0, x_1, y_0, y_1⟩ := hw'; go_simp; try with_reducible rfl
          simp only [Act.put, List.setIfInBounds_toArray, List.set_cons_zero, List.set_cons_succ]
          refine takeY 32 (i := 3) (v := ?v3c) rfl rfl (by kernel_rfl) (by kernel_rfl) (by kernel_rfl) (fun _ _ _ h => h) (by kernel_rfl) ?y3c hS0 ?_
          case y3c =>
            intro w' hw'; (try dsimp only at hw'); obtain ⟨x_0, x_1, y_0, y_1⟩ := hw'; go_simp; try with_reducible rfl
          simp only [Act.put, List.setIfInBounds_toArray, List.set_cons_zero, List.set_cons_succ]
          refine takeY 33 (i := 4) (v := ?v4c) rfl rfl (by kernel_rfl) (by kernel_rfl) (by kernel_rfl) (fun _ _ _ h => h) (by kernel_rfl) ?y4c hS0 ?_
          case y4c =>
            intro w' hw'; (try dsimp only at hw'); obtain ⟨x_0, x_1, y_0, y_1⟩ := hw'; go_simp; try with_reducible rfl
          simp only [Act.put, List.setIfInBounds_toArray, List.set_cons_zero, List.set_cons_succ]
          refine takeY 34 (i := 5) (v := ?v5c) rfl rfl (by kernel_rfl) (by kernel_rfl) (by kernel_rfl) (fun _ _ _ h => h) (by kernel_rfl) ?y5c hS0 ?_
          case y5c =>
            intro w' hw'; (try dsimp only at hw'); obtain ⟨x_0, x_1, y_0, y_1⟩ := hw'; go_simp; try with_reducible rfl
          simp only [Act.put, List.setIfInBounds_toArray, List.set_cons_zero, List.set_cons_succ]
          refine takeY 35 (i := 6) (v := ?v6c) rfl rfl (by kernel_rfl) (by kernel_rfl) (by kernel_rfl) (fun _ _ _ h => h) (by kernel_rfl) ?y6c hS0 ?_
          case y6c =>
            intro w' hw'; (try dsimp only at hw'); obtain ⟨x_0, x_1, y_0, y_1⟩ := hw'; go_simp; try with_reducible rfl
          simp only [Act.put, List.setIfInBounds_toArray, List.set_cons_zero, List.set_cons_succ]
          refine takeY 36 (i := 7) (v := ?v7c) rfl rfl (by kernel_rfl) (by kernel_rfl) (by kernel_rfl) (fun _ _ _ h => h) (by kernel_rfl) ?y7c hS0 ?_
          case y7c =>
            intro w' hw'; (try dsimp only at hw'); obtain ⟨x_0, x_1, y_0, y_1⟩ := hw'; go_simp; try with_reducible rfl
          simp only [Act.put, List.setIfInBounds_toArray, List.set_cons_zero, List.set_cons_succ]
          refine takeY 37 (i := 8) (v := ?v8c) rfl rfl (by kernel_rfl) (by kernel_rfl) (by kernel_rfl) (fun _ _ _ h => h) (by kernel_rfl) ?y8c hS0 ?_
          case y8c =>
            intro w' hw'; (try dsimp only at hw'); obtain ⟨x_0, x_1, y_0, y_1⟩ := hw'; go_simp; try with_reducible rfl
          simp only [Act.put, List.setIfInBounds_toArray, List.set_cons_zero, List.set_cons_succ]
          refine wpAnyH_ready (rs := [9]) (by kernel_rfl) (by simp) ?_
          refine AllReadyH.cons rfl (fun K hK => ?_) AllReadyH.nil
          go_simp; go_at_call 72; refine (HC.out _ HB.out.drew x (mem_of_at HAt.out)).mono ?_; rintro e w3 ⟨⟨z, rfl, hz⟩, hb3⟩; have HZ := Lib.hid hz; clear hz; have HB3 := Lib.hid (below_on HB.out.drew hb3); have HO3 := Lib.hid (ownI_below (ownI_below HO.out (Below.refl _ _).drew) hb3); clear hb3
          refine hK.out _ _ (HS.out _ HB3.out) (fun hS1 => ?_)
          clear hK K
          try simp only [Act.put, List.setIfInBounds_toArray, List.set_cons_zero, List.set_cons_succ]
          refine takeY 39 (i := 10) (v := ?v10c) rfl rfl (by kernel_rfl) (by kernel_rfl) (by kernel_rfl) (fun _ _ _ h => h) (by kernel_rfl) ?y10c hS1 ?_
          case y10c =>
            intro w' hw'; (try dsimp only at hw'); obtain ⟨x_0, x_1, y_0, y_1⟩ := hw'; go_simp; try with_reducible rfl
          simp only [Act.put, List.setIfInBounds_toArray, List.set_cons_zero, List.set_cons_succ]
          refine wpAnyH_done (by kernel_rfl) ?_ _
          clear hS0 hS1
          obtain ⟨zz, hzz⟩ : ∃ zz, hold x = zz := ⟨_, rfl⟩
          have hz1 : (z == 1) = zz := HZ.out.trans hzz
          have HZz := Lib.hid hzz
          clear hzz
          cases zz
          · go_wp2
            go_roundw
            case rel => exact ⟨k + 1, by omega, by go_num, fun _ => by first | rfl | trivial, by rw [fil_snoc HAt.out, HZz.out]; simpa using HO3.out, HB3.out⟩
            case measure => simp [intOf]; omega
          · have f1 := (HB3.out.cell (p := ⟨b1, off + k * 2, none⟩) hbw).trans HD.out.1
            go_wp2_with (at_builtin; refine wp_appI w3 (by rfl) (.tmp 40) (.tmp 46) (by rfl) w.heap.size _ _ (by rfl) HO3.out _ [x.id] (by rfl) 1 1 rfl (by rfl) HLn.out HB3.out.size ?_)
            intro v1 w4 hown4 hb4
            have HO4 := Lib.hid hown4
            have HB4 := Lib.hid (HB3.out.trans hb4)
            clear hown4 hb4 f1
            go_wp2
            go_roundw
            case rel => exact ⟨k + 1, by omega, by go_num, fun _ => by first | rfl | trivial, by rw [fil_snoc HAt.out, HZz.out]; exact HO4.out, HB4.out⟩
            case measure => simp [intOf]; omega
      · obtain rfl : k = n := by omega
        have HO' : Hid (OwnI wr w.heap.size u7 (idL (its.filter hold))) := Lib.hid (by have h := HO.out; rwa [take_all HX.out.1] at h)
        have hq' : q = true := HKq.out (by omega)
        obtain rfl := (HH.out hq').1
        clear hbel
        go_wp2
        go_ret
        exact ⟨⟨_, rfl, HO'.out⟩, HB.out⟩
set_option maxRecDepth 20000 in
set_option maxHeartbeats 6400000 in
theorem sSub (w : World) (B : Nat) (A : Option Addr) (n c : Nat) (its : List It) (A2 : Option Addr) (n2 c2 : Nat) (ns : List Nd) (h : InB w B A n its A2 n2 c2 ns) (x0 : Int) (L : List Int) (hL : SubP (datN ns) (its.map It.dat) x0 L) :
    Calls Tryz.prog 58 #[.slice A n c, .slice A2 n2 c2, .int .i64 x0] w fun e w' => (∃ v, e = .returned v ∧ OwnI w' w.heap.size v L) ∧ Below w.heap.size w w' := by
  obtain ⟨q, hq⟩ := bool_of (IsE (datN ns) ∧ AreP (its.map It.dat))
  have HFn : Hid (∀ w1, Below w.heap.size w w1 → Calls Tryz.prog 95 #[.slice A n c, .slice A2 n2 c2] w1 fun e w' => e = .returned (.bool q) ∧ Below w1.heap.size w1 w') := Lib.hid fun w1 h1 => sFine w1 B A n c its A2 n2 c2 ns (h.below h1) q hq
  have HFi : Hid (∀ w1, Below w.heap.size w w1 → Calls Tryz.prog 71 #[.slice A n c, .int .i64 x0] w1 fun e w' => (∃ r, e = .returned (.int .i64 r) ∧ FindP (its.map It.dat) x0 r) ∧ Below w1.heap.size w1 w') := Lib.hid fun w1 h1 => sFind w1 B A n c its (h.below h1).i (h.below h1).hB h.hn x0
  have HN : Hid (q = false → L = []) := Lib.hid fun hqf => hL.no (fun hh => by rw [hq.2 hh] at hqf; cases hqf)
  have HN2 : Hid (findD (its.map It.dat) x0 = none → L = []) := Lib.hid fun hf => hL.none hf
  have HK : Hid (∀ y, y ∈ its → findD (its.map It.dat) x0 = some y.dat → ∃ hold : It → Bool, q = true → L = idL (its.filter hold) ∧ ∀ W, Below w.heap.size w W → ∀ u, u ∈ its → Calls Tryz.prog 72 #[.slice A2 n2 c2, .agg #[.int .i64 y.id, .slice y.A y.n y.c], .agg #[.int .i64 u.id, .slice u.A u.n u.c]] W fun e w' => (∃ z : Int, e = .returned (.int .i64 z) ∧ (z == 1) = hold u) ∧ Below W.heap.size W w') := Lib.hid fun y hy hf => by
    by_cases hqt : q = true
    · obtain ⟨he, ha⟩ := hq.1 hqt
      obtain ⟨t, ht⟩ := he.2
      refine ⟨fun u => btD t y.dat u.dat, fun _ => ⟨?_, fun W hW u hu => ?_⟩⟩
      · rw [hL.yes he ha ht, onFind_some hf]
        exact ids_fil its _
      · exact (sCmpIn w B A n c its A2 n2 c2 ns h he ha t ht W hW _ _ hy hu).mono fun _ _ ⟨h1, h2⟩ => ⟨⟨_, h1, rfl⟩, h2⟩
    · exact ⟨fun _ => false, fun h => absurd h hqt⟩
  have HX := Lib.hid h.i
  have hB := h.hB
  have hn := h.hn
  have HE0 := Lib.hid (OwnI.empty w w.heap.size (Nat.le_refl _))
  have HB0 : Hid (Below w.heap.size w (w.alloc (.cells #[] 3))) := Lib.hid ((Below.refl _ _).alloc (Nat.le_refl _) _)
  clear h hL hq
  go_enter Tryz.func58, Tryz.ntmps58
  go_wp2_with fail
  refine (HFi.out _ HB0.out).mono ?_
  rintro e w1 ⟨⟨r, rfl, hr⟩, hb1⟩
  have HB1 := Lib.hid (below_on HB0.out hb1)
  have HO1 := Lib.hid (ownI_below HE0.out hb1)
  have hfd := hr.find
  clear hb1 hr
  rcases hfd with ⟨rfl, hf⟩ | ⟨m, d, rfl, hd, -, hf⟩
  · obtain rfl := HN2.out hf
    clear hf
    go_wp2
    go_loopw [7, 9] (fun v i wr => v = .slice (some ⟨w.heap.size, 0, none⟩) 0 0 ∧ i = .int .i64 0 ∧ wr = w1) (fun _ _ _ => 0)
    case atStart => exact ⟨rfl, rfl, rfl⟩
    case round =>
      obtain ⟨rfl, rfl, rfl⟩ := hrel
      by_cases hlt : 0 < n
      · have hlt' : (0 : Int) < (n : Int) := by omega
        go_wp2
        go_ret
        exact ⟨⟨_, rfl, HO1.out⟩, HB1.out⟩
      · obtain rfl : n = 0 := by omega
        go_wp2
        go_ret
        exact ⟨⟨_, rfl, HO1.out⟩, HB1.out⟩
  · rw [List.getElem?_map] at hd
    obtain ⟨y, hy, rfl⟩ := Option.map_eq_some_iff.1 hd
    obtain ⟨hold, hH⟩ := HK.out y (mem_of_at hy) hf
    have HH := Lib.hid hH
    have HY := Lib.hid hy
    have hmn : m < n := by
      rw [← HX.out.1]
      exact (List.getElem?_eq_some_iff.1 hy).1
    clear hd hf hH hy
    go_wp2
    go_loopw [7, 9] (fun v i wr => ∃ k : Nat, k ≤ n ∧ i = .int .i64 k ∧ (0 < k → q = true) ∧ OwnI wr w.heap.size v (idL ((its.take k).filter hold)) ∧ Below w.heap.size w wr) (fun _ i _ => n - (intOf i).toNat)
    case atStart => exact ⟨0, Nat.zero_le _, rfl, fun h => by omega, HO1.out, HB1.out⟩
    case round =>
      obtain ⟨k, hk, rfl, hkq, hown, hbel⟩ := hrel
      have HKq := Lib.hid hkq
      have HO := Lib.hid hown
      have HB := Lib.hid hbel
      clear hown hkq
      by_cases hlt : k < n
      · have hlt0 : (k : Int) < (n : Int) := by omega
        have hm0' : (0 : Int) ≤ (m : Int) := by omega
        clear hbel
        go_wp2_with fail
        refine (HFn.out _ HB.out).mono ?_
        rintro e w2 ⟨rfl, hb2⟩
        have HB2 := Lib.hid (below_on HB.out hb2)
        have HO2 := Lib.hid (ownI_below HO.out hb2)
        have hbel := HB2.out
        clear hb2 hlt0
        cases q
        · obtain rfl : k = 0 := by
            rcases Nat.eq_zero_or_pos k with e | e
            · exact e
            · cases HKq.out e
          obtain rfl := HN.out (by first | rfl | trivial)
          go_wp2
          go_ret
          exact ⟨⟨_, rfl, HO2.out⟩, HB2.out⟩
        · have HC := Lib.hid (HH.out (by first | rfl | trivial)).2
          clear HO HB
          have HO := HO2
          have HB := HB2
          clear HO2 HB2
          obtain ⟨b1, off, x, rfl, hb1, hat, d0, d1, -⟩ := HX.out.at k hlt
          have hbw : b1 < w.heap.size := Nat.lt_of_lt_of_le hb1 hB
          have HAt := Lib.hid hat
          have HD := Lib.hid (And.intro d0 d1)
          have hlt' : (k : Int) < (n : Int) := by omega
          have hk0 : (0 : Int) ≤ (k : Int) := by omega
          clear d0 d1 hat
          have hmt := hmn
          obtain ⟨b2, off2, y2, hA2, hb2, hat, d0, d1, -⟩ := HX.out.at m hmt
          injection hA2 with hA2
          injection hA2 with e1 e2
          subst e1 e2
          obtain rfl : y = y2 := Option.some.inj (HY.out.symm.trans hat)
          have HAt2 := Lib.hid hat
          have HD2 := Lib.hid (And.intro d0 d1)
          have hmt' : (m : Int) < (n : Int) := by omega
          have HS : Hid (∀ w', Below w.heap.size w w' → w'.cell? ⟨b1, off + k * 2, none⟩ = some (.int .i64 x.id) ∧ w'.cell? ⟨b1, off + k * 2 + 1, none⟩ = some (.slice x.A x.n x.c) ∧ w'.cell? ⟨b1, off + m * 2, none⟩ = some (.int .i64 y.id) ∧ w'.cell? ⟨b1, off + m * 2 + 1, none⟩ = some (.slice y.A y.n y.c)) := Lib.hid fun W h => ⟨(h.cell (p := ⟨b1, off + k * 2, none⟩) hbw).trans HD.out.1, (h.cell (p := ⟨b1, off + k * 2 + 1, none⟩) hbw).trans HD.out.2, (h.cell (p := ⟨b1, off + m * 2, none⟩) hbw).trans HD2.out.1, (h.cell (p := ⟨b1, off + m * 2 + 1, none⟩) hbw).trans HD2.out.2⟩
          clear d0 d1 hat
          have f1 := (hbel.cell (p := ⟨b1, off + k * 2, none⟩) hbw).trans HD.out.1
          have HF1 := Lib.hid f1
          have HLn : Hid (((idL ((its.take k).filter hold)).length + [x.id].length) * 8 ≤ 140737488355328) := Lib.hid (by
            have h1 := fil_len its hold k
            simp only [List.length_cons, List.length_nil]
            omega)
          clear f1 hbel
          go_wp2
          have hS0 : (fun w' => w'.cell? ⟨b1, off + k * 2, none⟩ = some (.int .i64 x.id) ∧ w'.cell? ⟨b1, off + k * 2 + 1, none⟩ = some (.slice x.A x.n x.c) ∧ w'.cell? ⟨b1, off + m * 2, none⟩ = some (.int .i64 y.id) ∧ w'.cell? ⟨b1, off + m * 2 + 1, none⟩ = some (.slice y.A y.n y.c)) (World.drew w2) := HS.out _ HB.out.drew
          refine wp_region_held (S := fun w' => w'.cell? ⟨b1, off + k * 2, none⟩ = some (.int .i64 x.id) ∧ w'.cell? ⟨b1, off + k * 2 + 1, none⟩ = some (.slice x.A x.n x.c) ∧ w'.cell? ⟨b1, off + m * 2, none⟩ = some (.int .i64 y.id) ∧ w'.cell? ⟨b1, off + m * 2 + 1, none⟩ = some (.slice y.A y.n y.c)) (by kernel_rfl) ?_
          change wpAnyH _ _ _ _ _ _ _ _ (World.drew _)
          refine takeY 29 (i := 0) (v := ?v0d) rfl rfl (by kernel_rfl) (by kernel_rfl) (by kernel_rfl) (fun _ _ _ h => h) (by kernel_rfl) ?y0d hS0 ?_
          case y0d =>
            intro w' hw'; (try dsimp only at hw'); obtain ⟨x_0, x_1, y_0, y_1⟩ := hw'; go_simp; try with_reducible rfl
          simp only [Act.put, List.setIfInBounds_toArray, List.set_cons_zero, List.set_cons_succ]
          refine takeY 30 (i := 1) (v := ?v1d) rfl rfl (by kernel_rfl) (by kernel_rfl) (by kernel_rfl) (fun _ _ _ h => h) (by kernel_rfl) ?y1d hS0 ?_
          case y1d =>
            intro w' hw'; (try dsimp only at hw'); obtain ⟨x_0, x_1, y_0, y_1⟩ := hw'; go_simp; try with_reducible rfl
          simp only [Act.put, List.setIfInBounds_toArray, List.set_cons_zero, List.set_cons_succ]
          refine takeY 31 (i := 2) (v := ?v2d) rfl rfl (by kernel_rfl) (by kernel_rfl) (by kernel_rfl) (fun _ _ _ h => h) (by kernel_rfl) ?y2d hS0 ?_
          case y2d =>
            intro w' hw'; (try dsimp only at hw'); obtain ⟨x_0, x_1, y_0, y_1⟩ := hw'; go_simp; try with_reducible rfl
          simp only [Act.put, List.setIfInBounds_toArray, List.set_cons_zero, List.set_cons_succ]
          refine takeY 32 (i := 3) (v := ?v3d) rfl rfl (by kernel_rfl) (by kernel_rfl) (by kernel_rfl) (fun _ _ _ h => h) (by kernel_rfl) ?y3d hS0 ?_
          case y3d =>
            intro w' hw'; (try dsimp only at hw'); obtain ⟨x_0, x_1, y_0, y_1⟩ := hw'; go_simp; try with_reducible rfl
          simp only [Act.put, List.setIfInBounds_toArray, List.set_cons_zero, List.set_cons_succ]
          refine takeY 33 (i := 4) (v := ?v4d) rfl rfl (by kernel_rfl) (by kernel_rfl) (by kernel_rfl) (fun _ _ _ h => h) (by kernel_rfl) ?y4d hS0 ?_
          case y4d =>
            intro w' hw'; (try dsimp only at hw'); obtain ⟨x_0, x_1, y_0, y_1⟩ := hw'; go_simp; try with_reducible rfl
          simp only [Act.put, List.setIfInBounds_toArray, List.set_cons_zero, List.set_cons_succ]
          refine takeY 34 (i := 5) (v := ?v5d) rfl rfl (by kernel_rfl) (by kernel_rfl) (by kernel_rfl) (fun _ _ _ h => h) (by kernel_rfl) ?y5d hS0 ?_
          case y5d =>
            intro w' hw'; (try dsimp only at hw'); obtain ⟨x_0, x_1, y_0, y_1⟩ := hw'; go_simp; try with_reducible rfl
          simp only [Act.put, List.setIfInBounds_toArray, List.set_cons_zero, List.set_cons_succ]
          refine takeY 35 (i := 6) (v := ?v6d) rfl rfl (by kernel_rfl) (by kernel_rfl) (by kernel_rfl) (fun _ _ _ h => h) (by kernel_rfl) ?y6d hS0 ?_
          case y6d =>
            intro w' hw'; (try dsimp only at hw'); obtain ⟨x_0, x_1, y_0, y_1⟩ := hw'; go_simp; try with_reducible rfl
          simp only [Act.put, List.setIfInBounds_toArray, List.set_cons_zero, List.set_cons_succ]
          refine takeY 36 (i := 7) (v := ?v7d) rfl rfl (by kernel_rfl) (by kernel_rfl) (by kernel_rfl) (fun _ _ _ h => h) (by kernel_rfl) ?y7d hS0 ?_
          case y7d =>
            intro w' hw'; (try dsimp only at hw'); obtain ⟨x_0, x_1, y_0, y_1⟩ := hw'; go_simp; try with_reducible rfl
          simp only [Act.put, List.setIfInBounds_toArray, List.set_cons_zero, List.set_cons_succ]
          refine takeY 37 (i := 8) (v := ?v8d) rfl rfl (by kernel_rfl) (by kernel_rfl) (by kernel_rfl) (fun _ _ _ h => h) (by kernel_rfl) ?y8d hS0 ?_
          case y8d =>
            intro w' hw'; (try dsimp only at hw'); obtain ⟨x_0, x_1, y_0, y_1⟩ := hw'; go_simp; try with_reducible rfl
          simp only [Act.put, List.setIfInBounds_toArray, List.set_cons_zero, List.set_cons_succ]
          refine wpAnyH_ready (rs := [9]) (by kernel_rfl) (by simp) ?_
          refine AllReadyH.cons rfl (fun K hK => ?_) AllReadyH.nil
          go_simp; go_at_call 72; refine (HC.out _ HB.out.drew x (mem_of_at HAt.out)).mono ?_; rintro e w3 ⟨⟨z, rfl, hz⟩, hb3⟩; have HZ := Lib.hid hz; clear hz; have HB3 := Lib.hid (below_on HB.out.drew hb3); have HO3 := Lib.hid (ownI_below (ownI_below HO.out (Below.refl _ _).drew) hb3); clear hb3
          refine hK.out _ _ (HS.out _ HB3.out) (fun hS1 => ?_)
          clear hK K
          try simp only [Act.put, List.setIfInBounds_toArray, List.set_cons_zero, List.set_cons_succ]
          refine takeY 39 (i := 10) (v := ?v10d) rfl rfl (by kernel_rfl) (by kernel_rfl) (by kernel_rfl) (fun _ _ _ h => h) (by kernel_rfl) ?y10d hS1 ?_
          case y10d =>
            intro w' hw'; (try dsimp only at hw'); obtain ⟨x_0, x_1, y_0, y_1⟩ := hw'; go_simp; try with_reducible rfl
          simp only [Act.put, List.setIfInBounds_toArray, List.set_cons_zero, List.set_cons_succ]
          refine wpAnyH_done (by kernel_rfl) ?_ _
          clear hS0 hS1
          obtain ⟨zz, hzz⟩ : ∃ zz, hold x = zz := ⟨_, rfl⟩
          have hz1 : (z == 1) = zz := HZ.out.trans hzz
          have HZz := Lib.hid hzz
          clear hzz
          cases zz
          · go_wp2
            go_roundw
            case rel => exact ⟨k + 1, by omega, by go_num, fun _ => by first | rfl | trivial, by rw [fil_snoc HAt.out, HZz.out]; simpa using HO3.out, HB3.out⟩
            case measure => simp [intOf]; omega
          · have f1 := (HB3.out.cell (p := ⟨b1, off + k * 2, none⟩) hbw).trans HD.out.1
            go_wp2_with (at_builtin; refine wp_appI w3 (by rfl) (.tmp 40) (.tmp 46) (by rfl) w.heap.size _ _ (by rfl) HO3.out _ [x.id] (by rfl) 1 1 rfl (by rfl) HLn.out HB3.out.size ?_)
            intro v1 w4 hown4 hb4
            have HO4 := Lib.hid hown4
            have HB4 := Lib.hid (HB3.out.trans hb4)
            clear hown4 hb4 f1
            go_wp2
            go_roundw
            case rel => exact ⟨k + 1, by omega, by go_num, fun _ => by first | rfl | trivial, by rw [fil_snoc HAt.out, HZz.out]; exact HO4.out, HB4.out⟩
            case measure => simp [intOf]; omega
      · obtain rfl : k = n := by omega
        have HO' : Hid (OwnI wr w.heap.size u7 (idL (its.filter hold))) := Lib.hid (by have h := HO.out; rwa [take_all HX.out.1] at h)
        have hq' : q = true := HKq.out (by omega)
        obtain rfl := (HH.out hq').1
        clear hbel
        go_wp2
        go_ret
        exact ⟨⟨_, rfl, HO'.out⟩, HB.out⟩
set_option maxRecDepth 20000 in
set_option maxHeartbeats 1600000 in
theorem sRankB (w : World) (B : Nat) (A : Option Addr) (n c : Nat) (its : List It) (A2 : Option Addr) (n2 c2 : Nat) (ns : List Nd) (h : InB w B A n its A2 n2 c2 ns) (x0 : Int) (L : Int) (hL : RankP (datN ns) (its.map It.dat) x0 L) :
    Calls Tryz.prog 70 #[.slice A n c, .slice A2 n2 c2, .int .i64 x0] w fun e w' => e = .returned (.int .i64 L) ∧ Below w.heap.size w w' := by
  obtain ⟨q, hq⟩ := bool_of (IsE (datN ns) ∧ AreP (its.map It.dat))
  have HFn : Hid (∀ w1, Below w.heap.size w w1 → Calls Tryz.prog 95 #[.slice A n c, .slice A2 n2 c2] w1 fun e w' => e = .returned (.bool q) ∧ Below w1.heap.size w1 w') := Lib.hid fun w1 h1 => sFine w1 B A n c its A2 n2 c2 ns (h.below h1) q hq
  have HFi : Hid (∀ w1, Below w.heap.size w w1 → Calls Tryz.prog 71 #[.slice A n c, .int .i64 x0] w1 fun e w' => (∃ r, e = .returned (.int .i64 r) ∧ FindP (its.map It.dat) x0 r) ∧ Below w1.heap.size w1 w') := Lib.hid fun w1 h1 => sFind w1 B A n c its (h.below h1).i (h.below h1).hB h.hn x0
  obtain ⟨D, hD⟩ := AnsP.some (datN ns) (its.map It.dat) (fun t => onFind (its.map It.dat) x0 [] fun d => idsD (domD t (its.map It.dat) d)) []
  replace hD : DomP (datN ns) (its.map It.dat) x0 D := hD
  have HDo : Hid (∀ w1, Below w.heap.size w w1 → Calls Tryz.prog 59 #[.slice A n c, .slice A2 n2 c2, .int .i64 x0] w1 fun e w' => (∃ v, e = .returned v ∧ OwnI w' w1.heap.size v D) ∧ Below w1.heap.size w1 w') := Lib.hid fun w1 h1 => sDom w1 B A n c its A2 n2 c2 ns (h.below h1) x0 D hD
  have HN : Hid (q = false → L = -1) := Lib.hid fun hqf => hL.no (fun hh => by rw [hq.2 hh] at hqf; cases hqf)
  have HN2 : Hid (q = true → findD (its.map It.dat) x0 = none → L = -1) := Lib.hid fun hqt hf => by
    obtain ⟨t, ht⟩ := (hq.1 hqt).1.2
    rw [hL.yes (hq.1 hqt).1 (hq.1 hqt).2 ht, onFind_none hf]
  have HY : Hid (q = true → ∀ d, findD (its.map It.dat) x0 = some d → L = D.length) := Lib.hid fun hqt d hf => rank_dom hL hD (hq.1 hqt).1 (hq.1 hqt).2 hf
  clear h hL hq hD
  go_enter Tryz.func70, Tryz.ntmps70
  go_wp2_with fail
  refine (HFn.out _ (Below.refl _ _)).mono ?_
  rintro e w1 ⟨rfl, hb1⟩
  have HB1 := Lib.hid hb1
  clear hb1
  cases q
  · obtain rfl := HN.out (by first | rfl | trivial)
    go_wp2
    go_ret
    exact ⟨rfl, HB1.out⟩
  · go_wp2_with fail
    refine (HFi.out _ HB1.out).mono ?_
    rintro e w2 ⟨⟨r, rfl, hr⟩, hb2⟩
    have HB2 := Lib.hid (below_on HB1.out hb2)
    have hfd := hr.find
    clear hb2 hr
    rcases hfd with ⟨rfl, hf⟩ | ⟨m, d, rfl, -, -, hf⟩
    · obtain rfl := HN2.out (by first | rfl | trivial) hf
      clear hf
      go_wp2
      go_ret
      exact ⟨rfl, HB2.out⟩
    · obtain rfl := HY.out (by first | rfl | trivial) d hf
      clear hf
      have hm : decide ((m : Int) < 0) = false := by simp
      go_wp2_with fail
      refine (HDo.out _ HB2.out).mono ?_
      rintro e w3 ⟨⟨v, rfl, ho⟩, hb3⟩
      have HB3 := Lib.hid (below_on HB2.out hb3)
      obtain ⟨A', n', c', rfl, hi⟩ := ho.ints
      have HL := Lib.hid hi.1
      clear ho hb3 hi
      go_wp2
      go_ret
      exact ⟨by rw [HL.out]; rfl, HB3.out⟩
end Go.Proofs.YtceiocdemhkcdaaGreat.num
namespace Go.Proofs.YtceiocdemhkcdaaGreat.num
set_option maxRecDepth 20000
open Go.RowKit
set_option linter.unusedVariables false
set_option linter.unusedSimpArgs false

/-- What comes in: items and voters. -/
structure InG (w : World) (B : Nat) (A : Option Addr) (n : Nat) (its : List It) (A2 : Option Addr) (n2 : Nat) (gs : List Vo) : Prop where
  i : Items w B A n its
  e : Votes w B A2 n2 gs
  hB : B ≤ w.heap.size
  hn : n ≤ 1048576
  hn2 : n2 ≤ 1048576
  si : ∀ t ∈ its, t.n ≤ 1048576
  se : ShortV gs
  caps : ∀ x ∈ gs, x.c = x.n
theorem InG.below {w w' : World} {B : Nat} {A : Option Addr} {n : Nat} {its : List It} {A2 : Option Addr} {n2 : Nat} {gs : List Vo} (h : InG w B A n its A2 n2 gs) (hb : Below w.heap.size w w') : InG w' B A n its A2 n2 gs :=
  ⟨h.i.below (hb.mono h.hB), h.e.below (hb.mono h.hB), Nat.le_trans h.hB hb.size, h.hn, h.hn2, h.si, h.se, h.caps⟩
/-- The model's comparison by one voter. -/
theorem sCmpV (W : World) (B : Nat) (y0 : Vo) (x y : It) (hv : Nodes W B y0.A y0.n y0.ns) (hB : B ≤ W.heap.size) (hs : ShortN y0.ns) (he : IsE y0.dat) (t : Tr) (ht : Post y0.dat t) (hx : Ints W B x.A x.n x.xs) (hy : Ints W B y.A y.n y.xs) (px : IsP x.dat) (py : IsP y.dat) :
    Calls Tryz.prog 72 #[.slice y0.A y0.n y0.c, .agg #[.int .i64 x.id, .slice x.A x.n x.c], .agg #[.int .i64 y.id, .slice y.A y.n y.c]] W fun e w' => e = .returned (.int .i64 (cmpD t x.dat y.dat)) ∧ Below W.heap.size W w' := by
  rw [← cmpD_it]
  exact sCompare W B y0.A y0.n y0.c y0.ns x y hv hx hy hB hs px py t ht (by
    have h9 := he.1
    have hl : y0.ns.length = y0.n := hv.len
    unfold Vo.dat at h9
    rw [List.length_map] at h9
    omega)
theorem all_take {ts : List Tr} {f : Tr → Bool} {k : Nat} {t : Tr} (h : ts[k]? = some t) : (ts.take (k + 1)).all f = ((ts.take k).all f && f t) := by
  rw [take_at h, List.all_append]; simp
theorem any_take {ts : List Tr} {f : Tr → Bool} {k : Nat} {t : Tr} (h : ts[k]? = some t) : (ts.take (k + 1)).any f = ((ts.take k).any f || f t) := by
  rw [take_at h, List.any_append]; simp
set_option maxRecDepth 20000 in
set_option maxHeartbeats 1600000 in
theorem sBeatsV (w : World) (B : Nat) (A : Option Addr) (n c : Nat) (gs : List Vo) (hi : Votes w B A n gs) (hB : B ≤ w.heap.size) (hn : n ≤ 1048576) (hS : ShortV gs) (hV : ∀ d ∈ gs.map Vo.dat, IsE d) (ts : List Tr) (hP : Posts (gs.map Vo.dat) ts) (x y : It) (hx : Ints w B x.A x.n x.xs) (hy : Ints w B y.A y.n y.xs) (px : IsP x.dat) (py : IsP y.dat) :
    Calls Tryz.prog 57 #[.slice A n c, .agg #[.int .i64 x.id, .slice x.A x.n x.c], .agg #[.int .i64 y.id, .slice y.A y.n y.c]] w fun e w' => e = .returned (.bool (uniB ts x.dat y.dat)) ∧ Below w.heap.size w w' := by
  have HX := Lib.hid hi
  have htl : ts.length = n := by rw [hP.len, List.length_map]; exact hi.len
  have HTl := Lib.hid htl
  have HC : Hid (∀ W, Below w.heap.size w W → ∀ (k : Nat) (v : Vo) (t : Tr), gs[k]? = some v → ts[k]? = some t → Calls Tryz.prog 72 #[.slice v.A v.n v.c, .agg #[.int .i64 x.id, .slice x.A x.n x.c], .agg #[.int .i64 y.id, .slice y.A y.n y.c]] W fun e w' => e = .returned (.int .i64 (cmpD t x.dat y.dat)) ∧ Below W.heap.size W w') := Lib.hid fun W hW k v t hv ht => by
    have hd : (gs.map Vo.dat)[k]? = some v.dat := by rw [List.getElem?_map, hv]; rfl
    exact sCmpV W B v x y ((hi.x v (List.mem_of_getElem? hv)).below (hW.mono hB)) (Nat.le_trans hB hW.size) (hS v (List.mem_of_getElem? hv)).2 (hV _ (List.mem_of_getElem? hd)) t (hP.at' k _ t hd ht) (hx.below (hW.mono hB)) (hy.below (hW.mono hB)) px py
  have HB0 : Hid (Below w.heap.size w ((w.alloc (.cells #[.int .i64 x.id, .slice x.A x.n x.c] 36)).alloc (.cells #[.int .i64 y.id, .slice y.A y.n y.c] 36))) := Lib.hid (((Below.refl _ w).alloc (Nat.le_refl _) _).alloc (by rw [World.size_alloc]; omega) _)
  obtain ⟨w0, hw0⟩ : ∃ w0, (w.alloc (.cells #[.int .i64 x.id, .slice x.A x.n x.c] 36)).alloc (.cells #[.int .i64 y.id, .slice y.A y.n y.c] 36) = w0 := ⟨_, rfl⟩
  have hw1 : (w.alloc (.cells #[.int .i64 x.id, .slice x.A x.n x.c] 36)).heap.size = w.heap.size + 1 := World.size_alloc _ _
  have HQ : Hid (∀ W, Below w0.heap.size w0 W → (W.cell? ⟨w.heap.size, 0, none⟩ = some (.int .i64 x.id) ∧ W.cell? ⟨w.heap.size, 1, none⟩ = some (.slice x.A x.n x.c)) ∧ W.cell? ⟨w.heap.size + 1, 0, none⟩ = some (.int .i64 y.id) ∧ W.cell? ⟨w.heap.size + 1, 1, none⟩ = some (.slice y.A y.n y.c)) := Lib.hid fun W hW => by
    have hs0 : w0.heap.size = w.heap.size + 2 := by rw [← hw0, World.size_alloc, hw1]
    have e1 : ∀ j v, (w.alloc (.cells #[.int .i64 x.id, .slice x.A x.n x.c] 36)).cell? ⟨w.heap.size, j, none⟩ = some v → W.cell? ⟨w.heap.size, j, none⟩ = some v := fun j v hv => by
      refine (hW.cell (p := ⟨w.heap.size, j, none⟩) (by show w.heap.size < w0.heap.size; omega)).trans ?_
      rw [← hw0]
      exact (((Below.refl _ _).alloc (Nat.le_refl _) _).cell (p := ⟨w.heap.size, j, none⟩) (by show w.heap.size < _; rw [hw1]; omega)).trans hv
    have e2 : ∀ j v, w0.cell? ⟨w.heap.size + 1, j, none⟩ = some v → W.cell? ⟨w.heap.size + 1, j, none⟩ = some v := fun j v hv => (hW.cell (p := ⟨w.heap.size + 1, j, none⟩) (by show w.heap.size + 1 < w0.heap.size; omega)).trans hv
    refine ⟨⟨e1 0 _ (World.cell?_alloc_at _ _ _ _ rfl), e1 1 _ (World.cell?_alloc_at _ _ _ _ rfl)⟩, e2 0 _ ?_, e2 1 _ ?_⟩
    · rw [← hw0]; exact World.cell?_alloc_at _ _ _ _ (by rw [hw1])
    · rw [← hw0]; exact World.cell?_alloc_at _ _ _ _ (by rw [hw1])
  have hw2 := hw1
  clear hw2
  clear hi hP hx hy px py hV hS htl
  go_enter Tryz.func57, Tryz.ntmps57
  go_wp2
  try rw [hw0]
  go_loopw [7, 8] (fun s i wr => ∃ k : Nat, k ≤ n ∧ i = .int .i64 k ∧ s = .bool ((ts.take k).any fun t => cmpD t x.dat y.dat == 1) ∧ ((ts.take k).all fun t => cmpD t x.dat y.dat == 1 || cmpD t x.dat y.dat == 0) = true ∧ Below w0.heap.size w0 wr) (fun _ i _ => n - (intOf i).toNat)
  case atStart => exact ⟨0, Nat.zero_le _, rfl, rfl, rfl, Below.refl _ _⟩
  case round =>
    obtain ⟨k, hk, rfl, rfl, hall, hbel⟩ := hrel
    have HB := Lib.hid hbel
    have HA := Lib.hid hall
    obtain ⟨sb, hsb⟩ : ∃ sb, ((ts.take k).any fun t => cmpD t x.dat y.dat == 1) = sb := ⟨_, rfl⟩
    rw [hsb]
    have HSb := Lib.hid hsb
    have hBw : Below w.heap.size w wr := by rw [hw0] at HB0; exact HB0.out.trans (hbel.mono HB0.out.size)
    have HBw := Lib.hid hBw
    clear hall hsb
    by_cases hlt : k < n
    · obtain ⟨b1, off1, v, rfl, hb1, hat1, -, e0⟩ := HX.out.at k hlt
      have e0 := (hBw.cell (p := ⟨b1, off1 + k, none⟩) (Nat.lt_of_lt_of_le hb1 hB)).trans e0
      have hlt' : (k : Int) < (n : Int) := by omega
      obtain ⟨t, ht⟩ : ∃ t, ts[k]? = some t := ⟨_, List.getElem?_eq_getElem (by rw [HTl.out]; exact hlt)⟩
      have HCk := Lib.hid fun W hW => HC.out W hW k v t hat1 ht
      obtain ⟨⟨q0, q1⟩, q2, q3⟩ := HQ.out wr hbel
      have HT := Lib.hid ht
      have hcode := cmpD_code t x.dat y.dat
      obtain ⟨C, hC⟩ : ∃ C, cmpD t x.dat y.dat = C := ⟨_, rfl⟩
      rw [hC] at hcode HCk
      have HCv := Lib.hid hC
      have HBd : Hid (Below w.heap.size w wr.drew) := Lib.hid HBw.out.drew
      have HBe : Hid (Below w0.heap.size w0 wr.drew) := Lib.hid HB.out.drew
      clear hat1 ht hC hbel hBw
      go_wp2
      go_still_tail 6, (by kernel_rfl)
      change wpList _ _ _ _ _ wr.drew
      generalize wr.drew = w2 at *
      clear q0 q1 q2 q3 e0
      go_wp2_with fail
      refine (HCk.out w2 HBd.out).mono ?_
      rintro e w3 ⟨rfl, hb3⟩
      have HB3 := Lib.hid (below_on HBd.out hb3)
      have HE3 := Lib.hid (below_on HBe.out hb3)
      clear hb3
      have bad : ¬ (C = 1 ∨ C = 0) → uniB ts x.dat y.dat = false := fun hc => by
        unfold uniB
        rw [Bool.and_eq_false_iff]
        left
        rw [List.all_eq_false]
        refine ⟨t, List.mem_of_getElem? HT.out, ?_⟩
        rw [HCv.out]
        simp only [Bool.or_eq_true, beq_iff_eq]
        exact hc
      have hnext : (C = 1 ∨ C = 0) → ((ts.take (k + 1)).all fun t => cmpD t x.dat y.dat == 1 || cmpD t x.dat y.dat == 0) = true := fun hc => by
        rw [all_take HT.out, HA.out, HCv.out]
        rcases hc with rfl | rfl <;> rfl
      have hany : ((ts.take (k + 1)).any fun t => cmpD t x.dat y.dat == 1) = (sb || C == 1) := by rw [any_take HT.out, HSb.out, HCv.out]
      have HBad := Lib.hid bad
      have HNx := Lib.hid hnext
      have HAn := Lib.hid hany
      clear bad hnext hany
      rcases hcode with rfl | rfl | rfl | rfl
      · have hbd := Lib.hid (HBad.out (by decide))
        go_wp2
        go_ret
        exact ⟨(show _ = Ending.returned (.bool false) from rfl).trans (by rw [hbd.out]), HB3.out⟩
      · cases sb
        all_goals
          go_wp2
          go_roundw
          case rel => exact ⟨k + 1, by omega, by go_num, by rw [HAn.out]; rfl, HNx.out (by simp), HE3.out⟩
          case measure => simp [intOf]; omega
      · cases sb
        all_goals
          go_wp2
          go_roundw
          case rel => exact ⟨k + 1, by omega, by go_num, by rw [HAn.out]; rfl, HNx.out (by simp), HE3.out⟩
          case measure => simp [intOf]; omega
      · have hbd := Lib.hid (HBad.out (by decide))
        go_wp2
        go_ret
        exact ⟨(show _ = Ending.returned (.bool false) from rfl).trans (by rw [hbd.out]), HB3.out⟩
    · obtain rfl : k = n := by omega
      have hres : uniB ts x.dat y.dat = sb := by
        have h1 := HA.out
        have h2 := HSb.out
        rw [List.take_of_length_le (by rw [HTl.out]; exact Nat.le_refl _)] at h1 h2
        unfold uniB
        rw [h1, h2]; rfl
      have HRes := Lib.hid hres
      clear hbel hBw hres
      go_wp2
      go_ret
      exact ⟨(show _ = Ending.returned (.bool sb) from rfl).trans (by rw [HRes.out]), HBw.out⟩
/-- Whether items and voters are valid. -/
theorem sFineV (w : World) (B : Nat) (A : Option Addr) (n c : Nat) (its : List It) (A2 : Option Addr) (n2 c2 : Nat) (gs : List Vo) (h : InG w B A n its A2 n2 gs) (q : Bool) (hq : q = true ↔ VoP (gs.map Vo.dat) ∧ AreP (its.map It.dat)) :
    Calls Tryz.prog 56 #[.slice A n c, .slice A2 n2 c2] w fun e w' => e = .returned (.bool q) ∧ Below w.heap.size w w' := by
  obtain ⟨qa, hqa⟩ := bool_of (AreP (its.map It.dat))
  obtain ⟨qv, hqv⟩ := bool_of (VoP (gs.map Vo.dat))
  have HA := Lib.hid (sAre w B A n c its h.i h.hB h.hn h.si qa hqa)
  have HV : Hid (∀ W, Below w.heap.size w W → Calls Tryz.prog 21 #[.slice A2 n2 c2] W fun e w' => e = .returned (.bool qv) ∧ Below W.heap.size W w') := Lib.hid fun W hW => sVoters W B A2 n2 c2 gs (h.below hW).e (h.below hW).hB h.hn2 h.se qv hqv
  have HQ : Hid (q = (qa && qv)) := Lib.hid (by rw [Bool.eq_iff_iff, Bool.and_eq_true, hq, hqa, hqv]; exact And.comm)
  clear h hq hqa hqv
  go_enter Tryz.func56, Tryz.ntmps56
  go_wp2_with fail
  refine HA.out.mono ?_
  rintro e w1 ⟨rfl, hb1⟩
  have HB1 := Lib.hid hb1
  clear hb1 HA
  cases qa
  · obtain rfl : q = false := HQ.out
    go_wp2
    go_ret
    exact ⟨rfl, HB1.out⟩
  · obtain rfl : q = qv := by rw [HQ.out]; rfl
    go_wp2_with fail
    refine (HV.out _ HB1.out).mono ?_
    rintro e w2 ⟨rfl, hb2⟩
    have HB2 := Lib.hid (below_on HB1.out hb2)
    clear hb2
    go_wp2
    go_ret
    exact ⟨rfl, HB2.out⟩
theorem uni_ids (ts : List Tr) (its : List It) : idsD ((its.map It.dat).filter fun x => (its.map It.dat).all fun y => !uniB ts y x) = idL (its.filter fun x => its.all fun y => !uniB ts y.dat x.dat) := by
  rw [ids_fil]
  congr 2
  funext u
  rw [List.all_map]; rfl
set_option maxRecDepth 20000 in
set_option maxHeartbeats 3200000 in
theorem sUnan (w : World) (B : Nat) (A : Option Addr) (n c : Nat) (its : List It) (A2 : Option Addr) (n2 c2 : Nat) (gs : List Vo) (h : InG w B A n its A2 n2 gs) (L : List Int) (hL : UniP (gs.map Vo.dat) (its.map It.dat) L) :
    Calls Tryz.prog 18 #[.slice A n c, .slice A2 n2 c2] w fun e w' => (∃ v, e = .returned v ∧ OwnI w' w.heap.size v L) ∧ Below w.heap.size w w' := by
  obtain ⟨q, hq⟩ := bool_of (VoP (gs.map Vo.dat) ∧ AreP (its.map It.dat))
  have HFi : Hid (∀ W, Below w.heap.size w W → Calls Tryz.prog 56 #[.slice A n c, .slice A2 n2 c2] W fun e w' => e = .returned (.bool q) ∧ Below W.heap.size W w') := Lib.hid fun W hW => sFineV W B A n c its A2 n2 c2 gs (h.below hW) q hq
  have HX := Lib.hid h.i
  have hB := h.hB
  have hn := h.hn
  have HEm : Hid (OwnI (w.alloc (.cells #[] 3)) w.heap.size (.slice (some ⟨w.heap.size, 0, none⟩) 0 0) []) := Lib.hid (OwnI.empty w _ (Nat.le_refl _))
  have HBm : Hid (Below w.heap.size w (w.alloc (.cells #[] 3))) := Lib.hid ((Below.refl _ _).alloc (Nat.le_refl _) _)
  cases q
  · have hno : ¬ (VoP (gs.map Vo.dat) ∧ AreP (its.map It.dat)) := fun hh => by have := hq.2 hh; cases this
    obtain rfl := hL.no hno
    clear h hq hno hL
    go_enter Tryz.func18, Tryz.ntmps18
    go_wp2
    go_loopw [5, 6] (fun v i wr => i = .int .i64 0 ∧ OwnI wr w.heap.size v [] ∧ Below w.heap.size w wr) (fun _ i _ => 0)
    case atStart => exact ⟨rfl, HEm.out, HBm.out⟩
    case round =>
      obtain ⟨rfl, hown, hbel⟩ := hrel
      have HO := Lib.hid hown
      have HB := Lib.hid hbel
      clear hown
      by_cases h0 : 0 < n
      · have h0' : (0 : Int) < (n : Int) := by omega
        clear hbel
        go_wp2_with fail
        refine (HFi.out _ HB.out).mono ?_
        rintro e w1 ⟨rfl, hb1⟩
        have HB1 := Lib.hid (below_on HB.out hb1)
        have HO1 := Lib.hid (ownI_below HO.out hb1)
        clear hb1
        go_wp2
        go_ret
        exact ⟨⟨_, rfl, HO1.out⟩, HB1.out⟩
      · have h0' : ¬ (0 : Int) < (n : Int) := by omega
        clear hbel
        go_wp2
        go_ret
        exact ⟨⟨_, rfl, HO.out⟩, HB.out⟩
  · obtain ⟨hv, ha⟩ := hq.1 rfl
    obtain ⟨ts, hP⟩ := Posts.some hv.2.2
    have HC : Hid (∀ W, Below w.heap.size w W → ∀ x y, x ∈ its → y ∈ its → Calls Tryz.prog 57 #[.slice A2 n2 c2, .agg #[.int .i64 x.id, .slice x.A x.n x.c], .agg #[.int .i64 y.id, .slice y.A y.n y.c]] W fun e w' => e = .returned (.bool (uniB ts x.dat y.dat)) ∧ Below W.heap.size W w') := Lib.hid fun W hW x y hx hy => sBeatsV W B A2 n2 c2 gs (h.below hW).e (h.below hW).hB h.hn2 h.se hv.2.2 ts hP x y ((h.below hW).i.mem hx) ((h.below hW).i.mem hy) (ha.1 _ (List.mem_map_of_mem hx)) (ha.1 _ (List.mem_map_of_mem hy))
    have hLe : L = idL (its.filter fun x => its.all fun y => !uniB ts y.dat x.dat) := by rw [hL.yes hv ha hP, uni_ids]
    subst hLe
    clear h hq hv ha hP hL HEm HBm
    go_enter Tryz.func18, Tryz.ntmps18
    go_wp2
    go_loopw [5, 6] (fun v i wr => ∃ k : Nat, k ≤ n ∧ i = .int .i64 k ∧ OwnI wr w.heap.size v (idL ((its.take k).filter fun x => its.all fun y => !uniB ts y.dat x.dat)) ∧ Below w.heap.size w wr) (fun _ i _ => n - (intOf i).toNat)
    case atStart => exact ⟨0, Nat.zero_le _, rfl, OwnI.empty w _ (Nat.le_refl _), (Below.refl _ _).alloc (Nat.le_refl _) _⟩
    case round =>
      obtain ⟨k, hk, rfl, hown, hbel⟩ := hrel
      have HO := Lib.hid hown
      have HB := Lib.hid hbel
      clear hown
      by_cases hlt : k < n
      · obtain ⟨b1, off, x, rfl, hb1, hat, d0, d1, -⟩ := HX.out.at k hlt
        have hbw : b1 < w.heap.size := Nat.lt_of_lt_of_le hb1 hB
        have HAt := Lib.hid hat
        have HD := Lib.hid (And.intro d0 d1)
        have hlt' : (k : Int) < (n : Int) := by omega
        have hk0 : (0 : Int) ≤ (k : Int) := by omega
        clear d0 d1 hat
        go_wp2_with fail
        refine (HFi.out _ HB.out).mono ?_
        rintro e w1 ⟨rfl, hb1⟩
        replace HB := Lib.hid (below_on HB.out hb1)
        replace HO := Lib.hid (ownI_below HO.out hb1)
        clear hbel hb1
        go_wp2
        go_loopw [7, 8] (fun v j wr => ∃ m : Nat, m ≤ n ∧ j = .int .i64 m ∧ v = .bool ((its.take m).all fun y => !uniB ts y.dat x.dat) ∧ Below w.heap.size w wr ∧ OwnI wr w.heap.size u5 (idL ((its.take k).filter fun x => its.all fun y => !uniB ts y.dat x.dat))) (fun _ j _ => n - (intOf j).toNat)
        case atStart => exact ⟨0, Nat.zero_le _, rfl, rfl, HB.out, HO.out⟩
        case round =>
          obtain ⟨m, hm, rfl, rfl, hbel, hown⟩ := hrel
          have HBi := Lib.hid hbel
          have HOi := Lib.hid hown
          obtain ⟨bb, hbb⟩ : ∃ bb, ((its.take m).all fun y => !uniB ts y.dat x.dat) = bb := ⟨_, rfl⟩
          rw [hbb]
          have HBb := Lib.hid hbb
          clear hbb hown
          by_cases hmt : m < n
          · obtain ⟨b2, off2, y, hA2, hb2, hat, d0, d1, -⟩ := HX.out.at m hmt
            injection hA2 with hA2
            injection hA2 with e1 e2
            subst e1 e2
            have HAt2 := Lib.hid hat
            have HD2 := Lib.hid (And.intro d0 d1)
            have hmt' : (m : Int) < (n : Int) := by omega
            have hm0 : (0 : Int) ≤ (m : Int) := by omega
            have HS : Hid (∀ w', Below w.heap.size w w' → w'.cell? ⟨b1, off + k * 2, none⟩ = some (.int .i64 x.id) ∧ w'.cell? ⟨b1, off + k * 2 + 1, none⟩ = some (.slice x.A x.n x.c) ∧ w'.cell? ⟨b1, off + m * 2, none⟩ = some (.int .i64 y.id) ∧ w'.cell? ⟨b1, off + m * 2 + 1, none⟩ = some (.slice y.A y.n y.c)) := Lib.hid fun W h => ⟨(h.cell (p := ⟨b1, off + k * 2, none⟩) hbw).trans HD.out.1, (h.cell (p := ⟨b1, off + k * 2 + 1, none⟩) hbw).trans HD.out.2, (h.cell (p := ⟨b1, off + m * 2, none⟩) hbw).trans HD2.out.1, (h.cell (p := ⟨b1, off + m * 2 + 1, none⟩) hbw).trans HD2.out.2⟩
            clear d0 d1 hat
            cases bb
            · go_wp2
              have hS0 : (fun w' => w'.cell? ⟨b1, off + k * 2, none⟩ = some (.int .i64 x.id) ∧ w'.cell? ⟨b1, off + k * 2 + 1, none⟩ = some (.slice x.A x.n x.c) ∧ w'.cell? ⟨b1, off + m * 2, none⟩ = some (.int .i64 y.id) ∧ w'.cell? ⟨b1, off + m * 2 + 1, none⟩ = some (.slice y.A y.n y.c)) (World.drew wr) := HS.out _ HBi.out.drew
              clear hbel
              refine wp_region_held (S := fun w' => w'.cell? ⟨b1, off + k * 2, none⟩ = some (.int .i64 x.id) ∧ w'.cell? ⟨b1, off + k * 2 + 1, none⟩ = some (.slice x.A x.n x.c) ∧ w'.cell? ⟨b1, off + m * 2, none⟩ = some (.int .i64 y.id) ∧ w'.cell? ⟨b1, off + m * 2 + 1, none⟩ = some (.slice y.A y.n y.c)) (by kernel_rfl) ?_
              change wpAnyH _ _ _ _ _ _ _ _ (World.drew _)
              refine takeY 27 (i := 0) (v := ?v0b) rfl rfl (by kernel_rfl) (by kernel_rfl) (by kernel_rfl) (fun _ _ _ h => h) (by kernel_rfl) ?y0b hS0 ?_
              case y0b =>
                intro w' hw'; (try dsimp only at hw'); obtain ⟨x_0, x_1, y_0, y_1⟩ := hw'; go_simp; try with_reducible rfl
              simp only [Act.put, List.setIfInBounds_toArray, List.set_cons_zero, List.set_cons_succ]
              refine takeY 28 (i := 1) (v := ?v1b) rfl rfl (by kernel_rfl) (by kernel_rfl) (by kernel_rfl) (fun _ _ _ h => h) (by kernel_rfl) ?y1b hS0 ?_
              case y1b =>
                intro w' hw'; (try dsimp only at hw'); obtain ⟨x_0, x_1, y_0, y_1⟩ := hw'; go_simp; try with_reducible rfl
              simp only [Act.put, List.setIfInBounds_toArray, List.set_cons_zero, List.set_cons_succ]
              refine takeU 29 (i := 2) rfl rfl (by kernel_rfl) (by kernel_rfl) (by kernel_rfl) (fun _ _ _ h => h) (by kernel_rfl) hS0 ?_
              simp only [Act.put, List.setIfInBounds_toArray, List.set_cons_zero, List.set_cons_succ]
              refine takeU 30 (i := 3) rfl rfl (by kernel_rfl) (by kernel_rfl) (by kernel_rfl) (fun _ _ _ h => h) (by kernel_rfl) hS0 ?_
              simp only [Act.put, List.setIfInBounds_toArray, List.set_cons_zero, List.set_cons_succ]
              refine takeU 31 (i := 4) rfl rfl (by kernel_rfl) (by kernel_rfl) (by kernel_rfl) (fun _ _ _ h => h) (by kernel_rfl) hS0 ?_
              simp only [Act.put, List.setIfInBounds_toArray, List.set_cons_zero, List.set_cons_succ]
              refine takeU 32 (i := 5) rfl rfl (by kernel_rfl) (by kernel_rfl) (by kernel_rfl) (fun _ _ _ h => h) (by kernel_rfl) hS0 ?_
              simp only [Act.put, List.setIfInBounds_toArray, List.set_cons_zero, List.set_cons_succ]
              refine takeU 33 (i := 6) rfl rfl (by kernel_rfl) (by kernel_rfl) (by kernel_rfl) (fun _ _ _ h => h) (by kernel_rfl) hS0 ?_
              simp only [Act.put, List.setIfInBounds_toArray, List.set_cons_zero, List.set_cons_succ]
              refine takeU 34 (i := 7) rfl rfl (by kernel_rfl) (by kernel_rfl) (by kernel_rfl) (fun _ _ _ h => h) (by kernel_rfl) hS0 ?_
              simp only [Act.put, List.setIfInBounds_toArray, List.set_cons_zero, List.set_cons_succ]
              refine takeU 35 (i := 8) rfl rfl (by kernel_rfl) (by kernel_rfl) (by kernel_rfl) (fun _ _ _ h => h) (by kernel_rfl) hS0 ?_
              simp only [Act.put, List.setIfInBounds_toArray, List.set_cons_zero, List.set_cons_succ]
              refine takeU 36 (i := 9) rfl rfl (by kernel_rfl) (by kernel_rfl) (by kernel_rfl) (fun _ _ _ h => h) (by kernel_rfl) hS0 ?_
              simp only [Act.put, List.setIfInBounds_toArray, List.set_cons_zero, List.set_cons_succ]
              refine takeU 37 (i := 10) rfl rfl (by kernel_rfl) (by kernel_rfl) (by kernel_rfl) (fun _ _ _ h => h) (by kernel_rfl) hS0 ?_
              simp only [Act.put, List.setIfInBounds_toArray, List.set_cons_zero, List.set_cons_succ]
              refine takeU 38 (i := 11) rfl rfl (by kernel_rfl) (by kernel_rfl) (by kernel_rfl) (fun _ _ _ h => h) (by kernel_rfl) hS0 ?_
              simp only [Act.put, List.setIfInBounds_toArray, List.set_cons_zero, List.set_cons_succ]
              refine takeU 39 (i := 12) rfl rfl (by kernel_rfl) (by kernel_rfl) (by kernel_rfl) (fun _ _ _ h => h) (by kernel_rfl) hS0 ?_
              simp only [Act.put, List.setIfInBounds_toArray, List.set_cons_zero, List.set_cons_succ]
              refine takeY 40 (i := 13) (v := ?v13b) rfl rfl (by kernel_rfl) (by kernel_rfl) (by kernel_rfl) (fun _ _ _ h => h) (by kernel_rfl) ?y13b hS0 ?_
              case y13b =>
                intro w' hw'; (try dsimp only at hw'); obtain ⟨x_0, x_1, y_0, y_1⟩ := hw'; go_simp; try with_reducible rfl
              simp only [Act.put, List.setIfInBounds_toArray, List.set_cons_zero, List.set_cons_succ]
              refine takeY 7 (i := 14) (v := ?v14b) rfl rfl (by kernel_rfl) (by kernel_rfl) (by kernel_rfl) (fun _ _ _ h => h) (by kernel_rfl) ?y14b hS0 ?_
              case y14b =>
                intro w' hw'; (try dsimp only at hw'); obtain ⟨x_0, x_1, y_0, y_1⟩ := hw'; go_simp; try with_reducible rfl
              simp only [Act.put, List.setIfInBounds_toArray, List.set_cons_zero, List.set_cons_succ]
              refine wpAnyH_done (by kernel_rfl) ?_ _
              clear hS0
              go_wp2
              go_roundw
              case rel => exact ⟨m + 1, by omega, by go_num, by rw [all_snoc HAt2.out, HBb.out]; rfl, HBi.out.drew, ownI_below HOi.out (Below.refl _ _).drew⟩
              case measure => simp [intOf]; omega
            · go_wp2
              have hS0 : (fun w' => w'.cell? ⟨b1, off + k * 2, none⟩ = some (.int .i64 x.id) ∧ w'.cell? ⟨b1, off + k * 2 + 1, none⟩ = some (.slice x.A x.n x.c) ∧ w'.cell? ⟨b1, off + m * 2, none⟩ = some (.int .i64 y.id) ∧ w'.cell? ⟨b1, off + m * 2 + 1, none⟩ = some (.slice y.A y.n y.c)) (World.drew wr) := HS.out _ HBi.out.drew
              clear hbel
              refine wp_region_held (S := fun w' => w'.cell? ⟨b1, off + k * 2, none⟩ = some (.int .i64 x.id) ∧ w'.cell? ⟨b1, off + k * 2 + 1, none⟩ = some (.slice x.A x.n x.c) ∧ w'.cell? ⟨b1, off + m * 2, none⟩ = some (.int .i64 y.id) ∧ w'.cell? ⟨b1, off + m * 2 + 1, none⟩ = some (.slice y.A y.n y.c)) (by kernel_rfl) ?_
              change wpAnyH _ _ _ _ _ _ _ _ (World.drew _)
              refine takeY 27 (i := 0) (v := ?v0a) rfl rfl (by kernel_rfl) (by kernel_rfl) (by kernel_rfl) (fun _ _ _ h => h) (by kernel_rfl) ?y0a hS0 ?_
              case y0a =>
                intro w' hw'; (try dsimp only at hw'); obtain ⟨x_0, x_1, y_0, y_1⟩ := hw'; go_simp; try with_reducible rfl
              simp only [Act.put, List.setIfInBounds_toArray, List.set_cons_zero, List.set_cons_succ]
              refine takeY 28 (i := 1) (v := ?v1a) rfl rfl (by kernel_rfl) (by kernel_rfl) (by kernel_rfl) (fun _ _ _ h => h) (by kernel_rfl) ?y1a hS0 ?_
              case y1a =>
                intro w' hw'; (try dsimp only at hw'); obtain ⟨x_0, x_1, y_0, y_1⟩ := hw'; go_simp; try with_reducible rfl
              simp only [Act.put, List.setIfInBounds_toArray, List.set_cons_zero, List.set_cons_succ]
              refine takeY 29 (i := 2) (v := ?v2a) rfl rfl (by kernel_rfl) (by kernel_rfl) (by kernel_rfl) (fun _ _ _ h => h) (by kernel_rfl) ?y2a hS0 ?_
              case y2a =>
                intro w' hw'; (try dsimp only at hw'); obtain ⟨x_0, x_1, y_0, y_1⟩ := hw'; go_simp; try with_reducible rfl
              simp only [Act.put, List.setIfInBounds_toArray, List.set_cons_zero, List.set_cons_succ]
              refine takeY 30 (i := 3) (v := ?v3a) rfl rfl (by kernel_rfl) (by kernel_rfl) (by kernel_rfl) (fun _ _ _ h => h) (by kernel_rfl) ?y3a hS0 ?_
              case y3a =>
                intro w' hw'; (try dsimp only at hw'); obtain ⟨x_0, x_1, y_0, y_1⟩ := hw'; go_simp; try with_reducible rfl
              simp only [Act.put, List.setIfInBounds_toArray, List.set_cons_zero, List.set_cons_succ]
              refine takeY 31 (i := 4) (v := ?v4a) rfl rfl (by kernel_rfl) (by kernel_rfl) (by kernel_rfl) (fun _ _ _ h => h) (by kernel_rfl) ?y4a hS0 ?_
              case y4a =>
                intro w' hw'; (try dsimp only at hw'); obtain ⟨x_0, x_1, y_0, y_1⟩ := hw'; go_simp; try with_reducible rfl
              simp only [Act.put, List.setIfInBounds_toArray, List.set_cons_zero, List.set_cons_succ]
              refine takeY 32 (i := 5) (v := ?v5a) rfl rfl (by kernel_rfl) (by kernel_rfl) (by kernel_rfl) (fun _ _ _ h => h) (by kernel_rfl) ?y5a hS0 ?_
              case y5a =>
                intro w' hw'; (try dsimp only at hw'); obtain ⟨x_0, x_1, y_0, y_1⟩ := hw'; go_simp; try with_reducible rfl
              simp only [Act.put, List.setIfInBounds_toArray, List.set_cons_zero, List.set_cons_succ]
              refine takeY 33 (i := 6) (v := ?v6a) rfl rfl (by kernel_rfl) (by kernel_rfl) (by kernel_rfl) (fun _ _ _ h => h) (by kernel_rfl) ?y6a hS0 ?_
              case y6a =>
                intro w' hw'; (try dsimp only at hw'); obtain ⟨x_0, x_1, y_0, y_1⟩ := hw'; go_simp; try with_reducible rfl
              simp only [Act.put, List.setIfInBounds_toArray, List.set_cons_zero, List.set_cons_succ]
              refine takeY 34 (i := 7) (v := ?v7a) rfl rfl (by kernel_rfl) (by kernel_rfl) (by kernel_rfl) (fun _ _ _ h => h) (by kernel_rfl) ?y7a hS0 ?_
              case y7a =>
                intro w' hw'; (try dsimp only at hw'); obtain ⟨x_0, x_1, y_0, y_1⟩ := hw'; go_simp; try with_reducible rfl
              simp only [Act.put, List.setIfInBounds_toArray, List.set_cons_zero, List.set_cons_succ]
              refine takeY 35 (i := 8) (v := ?v8a) rfl rfl (by kernel_rfl) (by kernel_rfl) (by kernel_rfl) (fun _ _ _ h => h) (by kernel_rfl) ?y8a hS0 ?_
              case y8a =>
                intro w' hw'; (try dsimp only at hw'); obtain ⟨x_0, x_1, y_0, y_1⟩ := hw'; go_simp; try with_reducible rfl
              simp only [Act.put, List.setIfInBounds_toArray, List.set_cons_zero, List.set_cons_succ]
              refine takeY 36 (i := 9) (v := ?v9a) rfl rfl (by kernel_rfl) (by kernel_rfl) (by kernel_rfl) (fun _ _ _ h => h) (by kernel_rfl) ?y9a hS0 ?_
              case y9a =>
                intro w' hw'; (try dsimp only at hw'); obtain ⟨x_0, x_1, y_0, y_1⟩ := hw'; go_simp; try with_reducible rfl
              simp only [Act.put, List.setIfInBounds_toArray, List.set_cons_zero, List.set_cons_succ]
              refine takeY 37 (i := 10) (v := ?v10a) rfl rfl (by kernel_rfl) (by kernel_rfl) (by kernel_rfl) (fun _ _ _ h => h) (by kernel_rfl) ?y10a hS0 ?_
              case y10a =>
                intro w' hw'; (try dsimp only at hw'); obtain ⟨x_0, x_1, y_0, y_1⟩ := hw'; go_simp; try with_reducible rfl
              simp only [Act.put, List.setIfInBounds_toArray, List.set_cons_zero, List.set_cons_succ]
              refine wpAnyH_ready (rs := [11]) (by kernel_rfl) (by simp) ?_
              refine AllReadyH.cons rfl (fun K hK => ?_) AllReadyH.nil
              go_simp; go_at_call 57; refine (HC.out _ HBi.out.drew y x (mem_of_at HAt2.out) (mem_of_at HAt.out)).mono ?_; rintro e w3 ⟨rfl, hb3⟩; have HB3 := Lib.hid (below_on HBi.out.drew hb3); have HO3 := Lib.hid (ownI_below (ownI_below HOi.out (Below.refl _ _).drew) hb3); clear hb3
              refine hK.out _ _ (HS.out _ HB3.out) (fun hS1 => ?_)
              clear hK K
              try simp only [Act.put, List.setIfInBounds_toArray, List.set_cons_zero, List.set_cons_succ]
              refine takeY 39 (i := 12) (v := ?v12a) rfl rfl (by kernel_rfl) (by kernel_rfl) (by kernel_rfl) (fun _ _ _ h => h) (by kernel_rfl) ?y12a hS1 ?_
              case y12a =>
                intro w' hw'; (try dsimp only at hw'); obtain ⟨x_0, x_1, y_0, y_1⟩ := hw'; go_simp; try with_reducible rfl
              simp only [Act.put, List.setIfInBounds_toArray, List.set_cons_zero, List.set_cons_succ]
              refine takeY 40 (i := 13) (v := ?v13a) rfl rfl (by kernel_rfl) (by kernel_rfl) (by kernel_rfl) (fun _ _ _ h => h) (by kernel_rfl) ?y13a hS1 ?_
              case y13a =>
                intro w' hw'; (try dsimp only at hw'); obtain ⟨x_0, x_1, y_0, y_1⟩ := hw'; go_simp; try with_reducible rfl
              simp only [Act.put, List.setIfInBounds_toArray, List.set_cons_zero, List.set_cons_succ]
              refine takeY 7 (i := 14) (v := ?v14a) rfl rfl (by kernel_rfl) (by kernel_rfl) (by kernel_rfl) (fun _ _ _ h => h) (by kernel_rfl) ?y14a hS1 ?_
              case y14a =>
                intro w' hw'; (try dsimp only at hw'); obtain ⟨x_0, x_1, y_0, y_1⟩ := hw'; go_simp; try with_reducible rfl
              simp only [Act.put, List.setIfInBounds_toArray, List.set_cons_zero, List.set_cons_succ]
              refine wpAnyH_done (by kernel_rfl) ?_ _
              clear hS0 hS1
              go_wp2
              go_roundw
              case rel => exact ⟨m + 1, by omega, by go_num, by rw [all_snoc HAt2.out, HBb.out]; rfl, HB3.out, HO3.out⟩
              case measure => simp [intOf]; omega
          · obtain rfl : m = n := by omega
            have HBb2 : Hid ((its.all fun y => !uniB ts y.dat x.dat) = bb) := Lib.hid (by have h := HBb.out; rwa [take_all HX.out.1] at h)
            have f1 := (hbel.cell (p := ⟨b1, off + k * 2, none⟩) hbw).trans HD.out.1
            have HLn : Hid (((idL ((its.take k).filter fun x => its.all fun y => !uniB ts y.dat x.dat)).length + [x.id].length) * 8 ≤ 140737488355328) := Lib.hid (by
              have h1 := fil_len its (fun x => its.all fun y => !uniB ts y.dat x.dat) k
              simp only [List.length_cons, List.length_nil]
              omega)
            clear hbel HBb
            cases bb
            · go_wp2
              go_roundw
              case rel => exact ⟨k + 1, by omega, by go_num, by rw [fil_snoc HAt.out, HBb2.out]; simpa using HOi.out, HBi.out⟩
              case measure => simp [intOf]; omega
            · go_wp2_with (at_builtin; refine wp_appI wr (by rfl) (.tmp 42) (.tmp 48) (by rfl) w.heap.size _ _ (by rfl) HOi.out _ [x.id] (by rfl) 1 1 rfl (by rfl) HLn.out HBi.out.size ?_)
              intro v1 w2 hown2 hb2
              have HO2 := Lib.hid hown2
              have HB2 := Lib.hid (HBi.out.trans hb2)
              clear hown2 hb2 f1
              go_wp2
              go_roundw
              case rel => exact ⟨k + 1, by omega, by go_num, by rw [fil_snoc HAt.out, HBb2.out]; exact HO2.out, HB2.out⟩
              case measure => simp [intOf]; omega
      · obtain rfl : k = n := by omega
        have HO' : Hid (OwnI wr w.heap.size u5 (idL (its.filter fun x => its.all fun y => !uniB ts y.dat x.dat))) := Lib.hid (by have h := HO.out; rwa [take_all HX.out.1] at h)
        clear hbel
        go_wp2
        go_ret
        exact ⟨⟨_, rfl, HO'.out⟩, HB.out⟩
end Go.Proofs.YtceiocdemhkcdaaGreat.num
namespace Go.Proofs.YtceiocdemhkcdaaGreat.num
set_option maxRecDepth 20000
open Go.RowKit
set_option linter.unusedVariables false

theorem InG.copies {w : World} {lo hi n lo2 n2 : Nat} {its its' : List It} {gs gs' : List Vo} (h : CopyL w lo hi n its its') (h2 : CopyV w lo2 n2 gs gs') (hn : n ≤ 1048576) (hn2 : n2 ≤ 1048576) : InG w w.heap.size (some ⟨lo, 0, none⟩) n its' (some ⟨lo2, 0, none⟩) n2 gs' :=
  ⟨h.c.items, h2.votes, Nat.le_refl _, hn, hn2, h.c.small, h2.short, h2.caps⟩
end Go.Proofs.YtceiocdemhkcdaaGreat.num
namespace Go.Proofs.YtceiocdemhkcdaaGreat.num
set_option maxRecDepth 20000
open Go.RowKit
set_option linter.unusedVariables false
set_option linter.unusedSimpArgs false

theorem any_step {its : List It} {hold : It → Bool} {k : Nat} {t : It} (hat : its[k]? = some t) (h : ∀ u ∈ its.take k, hold u = false) (h1 : hold t = false) : ∀ u ∈ its.take (k + 1), hold u = false := by
  rw [take_at hat]
  intro u hu
  rcases List.mem_append.1 hu with h2 | h2
  · exact h u h2
  · obtain rfl := List.mem_singleton.1 h2
    exact h1
set_option maxRecDepth 20000 in
set_option maxHeartbeats 800000 in
/-- slices.IndexFunc by a test with a bound receiver. -/
theorem ctIndex (w : World) (B lo p : Nat) (t : Tr) (A : Option Addr) (n c : Nat) (its : List It) (h : CtIn w B lo p t A n its) (hn : n ≤ 1048576) (rv : Value) (hold : It → Bool)
    (HC : ∀ W, Below w.heap.size w W → ∀ u ∈ its, Calls Tryz.prog 88 #[rv, ctV p u] W fun e w' => e = .returned (.bool (hold u)) ∧ Below W.heap.size W w') :
    Calls Tryz.prog 49 #[.slice A n c, .func (.func 88) #[rv] #[]] w fun e w' => (∃ r : Int, e = .returned (.int .i64 r) ∧ (0 ≤ r ↔ its.any hold = true)) ∧ Below w.heap.size w w' := by
  have HX := Lib.hid h
  have HF := Lib.hid HC
  clear h HC
  go_enter Tryz.func49, Tryz.ntmps49
  go_wp2
  go_loopw [8] (fun i wr => ∃ k : Nat, k ≤ n ∧ i = .int .i64 k ∧ (∀ u ∈ its.take k, hold u = false) ∧ Below w.heap.size w wr) (fun i _ => n - (intOf i).toNat)
  case atStart => exact ⟨0, Nat.zero_le _, rfl, by simp, Below.refl _ _⟩
  case round =>
    obtain ⟨k, hk, rfl, hall, hbel⟩ := hrel
    have HA := Lib.hid hall
    have HB := Lib.hid hbel
    clear hall
    by_cases hlt : k < n
    · obtain ⟨b, off, x, rfl, hb, hat, d0, d1, d2⟩ := ct_at HX.out.r k hlt
      have f0 := (hbel.cell (p := ⟨b, off + k * 3, none⟩) hb).trans d0
      have f1 := (hbel.cell (p := ⟨b, off + k * 3 + 1, none⟩) hb).trans d1
      have f2 := (hbel.cell (p := ⟨b, off + k * 3 + 2, none⟩) hb).trans d2
      have HAt := Lib.hid hat
      have hlt' : (k : Int) < (n : Int) := by omega
      have HC1 := HF.out wr HB.out x (mem_of_at hat)
      obtain ⟨z, hz⟩ : ∃ z, hold x = z := ⟨_, rfl⟩
      rw [hz] at HC1
      have hvx : ctV p x = .agg #[.int .i64 x.id, .slice x.A x.n x.c, .pointer (some ⟨p, 0, none⟩)] := rfl
      rw [hvx] at HC1
      have HZ := Lib.hid hz
      have HC2 := Lib.hid HC1
      clear d0 d1 d2 hat hbel hz hvx HC1
      go_wp2_with fail
      refine HC2.out.mono ?_
      rintro e w2 ⟨rfl, hb2⟩
      have HB2 := Lib.hid (below_on HB.out hb2)
      clear hb2 f0 f1 f2 HC2
      cases z
      · go_wp2
        go_roundw
        case rel => exact ⟨k + 1, by omega, by go_num, any_step HAt.out HA.out HZ.out, HB2.out⟩
        case measure => simp [intOf]; omega
      · go_wp2
        go_ret
        exact ⟨⟨k, rfl, ⟨fun _ => List.any_eq_true.2 ⟨x, mem_of_at HAt.out, HZ.out⟩, fun _ => by omega⟩⟩, HB2.out⟩
    · obtain rfl : k = n := by omega
      have h := HA.out
      rw [take_all HX.out.r.len] at h
      have HH := Lib.hid h
      clear h hbel
      go_wp2
      go_ret
      refine ⟨⟨-1, rfl, ⟨fun h => by omega, fun h => ?_⟩⟩, HB.out⟩
      obtain ⟨u, hu, hh⟩ := List.any_eq_true.1 h
      rw [HH.out u hu] at hh
      cases hh
set_option maxRecDepth 20000 in
theorem ctContains (w : World) (B lo p : Nat) (t : Tr) (A : Option Addr) (n c : Nat) (its : List It) (h : CtIn w B lo p t A n its) (hn : n ≤ 1048576) (rv : Value) (hold : It → Bool)
    (HC : ∀ W, Below w.heap.size w W → ∀ u ∈ its, Calls Tryz.prog 88 #[rv, ctV p u] W fun e w' => e = .returned (.bool (hold u)) ∧ Below W.heap.size W w') :
    Calls Tryz.prog 86 #[.slice A n c, .func (.func 88) #[rv] #[]] w fun e w' => e = .returned (.bool (its.any hold)) ∧ Below w.heap.size w w' := by
  have HI := Lib.hid (ctIndex w B lo p t A n c its h hn rv hold HC)
  clear h HC
  go_enter Tryz.func86, Tryz.ntmps86
  go_wp2_with fail
  refine HI.out.mono ?_
  rintro e w1 ⟨⟨r, rfl, hr⟩, hb1⟩
  have HB1 := Lib.hid hb1
  have HR := Lib.hid hr
  clear hr hb1
  by_cases h0 : 0 ≤ r
  · have hd : decide (r ≥ 0) = true := by simpa using h0
    go_wp2
    go_ret
    exact ⟨by rw [HR.out.1 h0]; rfl, HB1.out⟩
  · have hd : decide (r ≥ 0) = false := by simpa using h0
    have hlt : r < 0 := by omega
    go_wp2
    go_ret
    refine ⟨?_, HB1.out⟩
    cases hq : its.any hold
    · rfl
    · exact absurd (HR.out.2 hq) (by omega)
theorem bestB_any (t : Tr) (its : List It) (x : It) : bestB t (its.map It.dat) x.dat = !its.any fun y => btD t y.dat x.dat := by
  unfold bestB
  rw [List.all_map, List.not_any_eq_all_not]
  rfl
set_option maxRecDepth 20000 in
theorem iBestOf (w : World) (B lo p : Nat) (t : Tr) (A : Option Addr) (n c : Nat) (its : List It) (h : CtIn w B lo p t A n its) (hn : n ≤ 1048576) (x : It) (hx : Ints w B x.A x.n x.xs) (px : IsP x.dat) :
    Calls Tryz.prog 52 #[.slice A n c, ctV p x] w fun e w' => e = .returned (.bool (bestB t (its.map It.dat) x.dat)) ∧ Below w.heap.size w w' := by
  have HC : Hid (∀ w1, Below w.heap.size w w1 → Calls Tryz.prog 86 #[.slice A n c, .func (.func 88) #[.agg #[.int .i64 x.id, .slice x.A x.n x.c, .pointer (some ⟨p, 0, none⟩)]] #[]] w1 fun e w' => e = .returned (.bool (its.any fun y => btD t y.dat x.dat)) ∧ Below w1.heap.size w1 w') := Lib.hid fun w1 h1 =>
    ctContains w1 B lo p t A n c its (h.step h1) hn _ _ fun W hW u hu => by
      have h2 := h.step (below_on h1 hW)
      exact iBeaten W B lo p t x u h2.t h2.hB (hx.below ((below_on h1 hW).mono h.hB)) (h2.x u hu).1 px (h2.x u hu).2
  rw [bestB_any]
  generalize (its.any fun y => btD t y.dat x.dat) = z at *
  have hvx : ctV p x = .agg #[.int .i64 x.id, .slice x.A x.n x.c, .pointer (some ⟨p, 0, none⟩)] := rfl
  rw [hvx]
  clear hvx h hx px
  have HB0 : Hid (Below w.heap.size w (w.alloc (.cells #[.int .i64 x.id, .slice x.A x.n x.c, .pointer (some ⟨p, 0, none⟩)] 69))) := Lib.hid ((Below.refl _ w).alloc (Nat.le_refl _) _)
  go_enter Tryz.func52, Tryz.ntmps52
  go_wp2_with fail
  refine (HC.out _ HB0.out).mono ?_
  rintro e w1 ⟨rfl, hb1⟩
  have HB1 := Lib.hid (below_on HB0.out hb1)
  clear hb1
  go_wp2
  go_ret
  exact ⟨rfl, HB1.out⟩
theorem filter_step {its : List It} {hold : It → Bool} {k : Nat} {t : It} (hat : its[k]? = some t) : (its.take (k + 1)).filter hold = (its.take k).filter hold ++ (if hold t then [t] else []) := by
  rw [take_at hat, List.filter_append]
  congr 1
  cases h : hold t <;> simp [h]
set_option maxRecDepth 20000 in
set_option maxHeartbeats 800000 in
/-- Those that pass a test with a bound receiver. -/
theorem ctWhere (w : World) (p : Nat) (A : Option Addr) (n c : Nat) (its : List It) (h : ReadG (ctCells p) 3 w w.heap.size A n its) (hn : n ≤ 1048576) (f : FuncId) (hf : f = 52 ∨ f = 88 ∨ f = 93 ∨ False) (rv : Value) (hold : It → Bool)
    (HC : ∀ W, Below w.heap.size w W → ∀ u ∈ its, Calls Tryz.prog f #[rv, ctV p u] W fun e w' => e = .returned (.bool (hold u)) ∧ Below W.heap.size W w') :
    Calls Tryz.prog 51 #[.slice A n c, .func (.func f) #[rv] #[]] w fun e w' => (∃ v, e = .returned v ∧ OwnG 69 (ctCells p) 3 w' w.heap.size v (its.filter hold)) ∧ Below w.heap.size w w' := by
  have HX := Lib.hid h
  have HF : Hid (∀ W, Below w.heap.size w W → ∀ u ∈ its, ∀ z, hold u = z → Calls Tryz.prog f #[rv, .agg #[.int .i64 u.id, .slice u.A u.n u.c, .pointer (some ⟨p, 0, none⟩)]] W fun e w' => e = .returned (.bool z) ∧ Below W.heap.size W w') := Lib.hid fun W hW u hu z hz => by rw [← hz]; exact HC W hW u hu
  clear h HC
  repeat' (first | exact hf.elim | subst hf | rcases hf with hf | hf)
  all_goals
    go_enter Tryz.func51, Tryz.ntmps51
    go_wp2
    go_loopw [5, 10] (fun v i wr => ∃ k : Nat, k ≤ n ∧ i = .int .i64 k ∧ OwnG 69 (ctCells p) 3 wr w.heap.size v ((its.take k).filter hold) ∧ Below w.heap.size w wr) (fun _ i _ => n - (intOf i).toNat)
    case atStart => exact ⟨0, Nat.zero_le _, rfl, OwnG.nil _ _, Below.refl _ _⟩
    case round =>
      obtain ⟨k, hk, rfl, hown, hbel⟩ := hrel
      have HO := Lib.hid hown
      have HB := Lib.hid hbel
      clear hown
      by_cases hlt : k < n
      · obtain ⟨b, off, x, rfl, hb, hat, d0, d1, d2⟩ := ct_at HX.out k hlt
        have f0 := (hbel.cell (p := ⟨b, off + k * 3, none⟩) hb).trans d0
        have f1 := (hbel.cell (p := ⟨b, off + k * 3 + 1, none⟩) hb).trans d1
        have f2 := (hbel.cell (p := ⟨b, off + k * 3 + 2, none⟩) hb).trans d2
        have HAt := Lib.hid hat
        have hlt' : (k : Int) < (n : Int) := by omega
        obtain ⟨z, hz⟩ : ∃ z, hold x = z := ⟨_, rfl⟩
        have HZ := Lib.hid hz
        have HC1 := Lib.hid (fun W (hW : Below w.heap.size w W) => HF.out W hW x (mem_of_at hat) z hz)
        have HBa : Hid (Below w.heap.size w (wr.alloc (.cells #[.int .i64 x.id, .slice x.A x.n x.c, .pointer (some ⟨p, 0, none⟩)] 69))) := Lib.hid (HB.out.alloc HB.out.size _)
        have Xx : Hid (Box3 (wr.alloc (.cells #[.int .i64 x.id, .slice x.A x.n x.c, .pointer (some ⟨p, 0, none⟩)] 69)) wr.heap.size p x) := Lib.hid (Box3.new _ _ _ _)
        have HOa := Lib.hid (HO.out.below ((Below.refl _ wr).alloc (Nat.le_refl _) (.cells #[.int .i64 x.id, .slice x.A x.n x.c, .pointer (some ⟨p, 0, none⟩)] 69)))
        have HLn : Hid ((((its.take k).filter hold).length + 1) * 40 ≤ 140737488355328) := Lib.hid (by
          have h1 : ((its.take k).filter hold).length ≤ (its.take k).length := List.length_filter_le _ _
          rw [List.length_take] at h1
          omega)
        clear d0 d1 d2 hat hbel hz
        go_wp2_with fail
        refine (HC1.out _ HBa.out).mono ?_
        rintro e w2 ⟨rfl, hb2⟩
        have HB2 := Lib.hid (below_on HBa.out hb2)
        have HO2 := Lib.hid (HOa.out.below hb2)
        have Xx2 := Lib.hid (Xx.out.below hb2)
        clear hb2 f0 f1 f2 HC1 HBa HOa Xx
        cases z
        · go_wp2
          go_roundw
          case rel => exact ⟨k + 1, by omega, by go_num, by rw [filter_step HAt.out, HZ.out]; simpa using HO2.out, HB2.out⟩
          case measure => simp [intOf]; omega
        · obtain ⟨x_g, x_0, x_1, x_2⟩ := Xx2.out
          go_wp2_with (at_builtin; refine wp_appG (ctCells_len p) (ctCells_one p) (T := 69) (tS := 61) Tryz.underlying61 info_ct rfl (by decide) w2 (by rfl) (.tmp 17) (.tmp 19) (by rfl) w.heap.size _ _ (by rfl) HO2.out _ x (by rfl) 1 _ rfl (by rfl) HLn.out (by decide) HB2.out.size ?_)
          intro v' w3 hr hg hat
          have HO3 := Lib.hid hr
          have HB3 := Lib.hid (HB2.out.grown hg HB2.out.size (fun k hk => HO2.out.lows k hk))
          clear hr hg hat x_g x_0 x_1 x_2
          go_wp2
          go_roundw
          case rel => exact ⟨k + 1, by omega, by go_num, by rw [filter_step HAt.out, HZ.out]; exact HO3.out, HB3.out⟩
          case measure => simp [intOf]; omega
      · obtain rfl : k = n := by omega
        have HO1 : Hid (OwnG 69 (ctCells p) 3 wr w.heap.size u5 (its.filter hold)) := Lib.hid (by have h := HO.out; rwa [take_all HX.out.len] at h)
        clear hbel
        go_wp2
        go_ret
        exact ⟨⟨_, rfl, HO1.out⟩, HB.out⟩
set_option maxRecDepth 20000 in
set_option maxHeartbeats 800000 in
theorem ctIds (w : World) (p : Nat) (A : Option Addr) (n c : Nat) (l : List It) (h : ReadG (ctCells p) 3 w w.heap.size A n l) (hn : n ≤ 1048576) :
    Calls Tryz.prog 53 #[.slice A n c] w fun e w' => (∃ v, e = .returned v ∧ OwnI w' w.heap.size v (idL l)) ∧ Below w.heap.size w w' := by
  have hmk := run_make_row' (P := Tryz.prog) 29 3 (.int .i64 0) 8 Tryz.underlying29 info_int rfl .i64 .i64 n (by omega) (by omega)
  have HX := Lib.hid h
  clear h
  go_enter Tryz.func53, Tryz.ntmps53
  go_wp2
  clear hmk
  go_loopw [11] (fun i wr => ∃ k : Nat, k ≤ n ∧ i = .int .i64 k ∧ wr.rowIs w.heap.size 3 n (fun j => if j < k then .int .i64 ((idL l).getD j 0) else .int .i64 0) ∧ Below w.heap.size w wr) (fun i _ => n - (intOf i).toNat)
  case atStart =>
    exact ⟨0, Nat.zero_le _, rfl, by simpa using World.rowIs_made w (.int .i64 0) n 3, (Below.refl _ _).alloc (Nat.le_refl _) _⟩
  case round =>
    obtain ⟨k, hk, rfl, hrow, hbel⟩ := hrel
    have HR := Lib.hid hrow
    have HB := Lib.hid hbel
    by_cases hlt : k < n
    · obtain ⟨x, hat⟩ := HX.out.get hlt
      obtain ⟨b, off, rfl, hb, hc⟩ := HX.out.at' k x hat
      have f0 := (hbel.cell (p := ⟨b, off + k * 3, none⟩) hb).trans (hc 0 _ rfl)
      have f1 := (hbel.cell (p := ⟨b, off + k * 3 + 1, none⟩) hb).trans (hc 1 _ rfl)
      have f2 := (hbel.cell (p := ⟨b, off + k * 3 + 2, none⟩) hb).trans (hc 2 _ rfl)
      have hl1 := World.rowIs.lt hrow
      have g1 : wr.cell? ⟨w.heap.size, k, none⟩ = some (.int .i64 0) := by rw [World.rowIs.cell hrow hlt, if_neg (by omega)]
      have g2 := World.rowIs.frozen hrow k
      have HAt := Lib.hid hat
      have hsz := Lib.hid hbel.size
      clear hrow hbel hc hat
      go_wp2
      go_roundw
      case rel =>
        refine ⟨k + 1, by omega, by go_num, ?_, ?_⟩
        · first
          | exact (World.rowIs.set (World.rowIs.alloc HR.out _) k (.int .i64 x.id)).congr (fun j _ => by rw [← idL_get HAt.out]; exact getD_prefix (idL l) k j)
          | exact (World.rowIs.alloc (World.rowIs.set HR.out k (.int .i64 x.id)) _).congr (fun j _ => by rw [← idL_get HAt.out]; exact getD_prefix (idL l) k j)
        · first
          | exact (HB.out.alloc hsz.out _).setCell (Nat.le_refl _) _
          | exact (HB.out.setCell (p := ⟨w.heap.size, k, none⟩) (Nat.le_refl _) _).alloc (by simp [World.setCell]; exact hsz.out) _
      case measure => simp [intOf]; omega
    · obtain rfl : k = n := by omega
      clear hrow hbel
      go_wp2
      go_ret
      refine ⟨⟨_, rfl, ?_⟩, HB.out⟩
      have hl : (idL l).length = k := by rw [idL_len, HX.out.len]
      refine ownI_of_row (Nat.le_refl _) hl (Nat.le_refl _) (by unfold maxLen; omega) HR.out fun j hj => ?_
      rw [if_pos hj, List.getElem?_map, List.getD_eq_getElem?_getD, List.getElem?_eq_getElem (by omega)]; rfl
end Go.Proofs.YtceiocdemhkcdaaGreat.num
namespace Go.Proofs.YtceiocdemhkcdaaGreat.num
set_option maxRecDepth 20000
open Go.RowKit
set_option linter.unusedVariables false
set_option linter.unusedSimpArgs false

def zC (j : Nat) : Value := (#[.int .i64 0, .slice none 0 0, .pointer none] : Array Value)[j % 3]!
def ctCell (p : Nat) (l : List It) (j : Nat) : Value := cellG (ctCells p) zC l j
theorem make_ct (n : Nat) (hn : n ≤ 1048576) (w : World) :
    (Instr.makeSlice 61 (.int .i64 (n : Int)) (.int .i64 (n : Int))).run Tryz.prog w = .ok (.slice (some ⟨w.heap.size, 0, none⟩) n n) (w.alloc (.cells (madeCells #[.int .i64 0, .slice none 0 0, .pointer none] (n * 3)) 69)) := by
  obtain ⟨i, hi, hzz⟩ := Option.map_eq_some_iff.1 info_ct
  simp only [Prod.mk.injEq] at hzz
  obtain ⟨hz, hs, hb⟩ := hzz
  have hr := run_make (P := Tryz.prog) w _ _ i _ Tryz.underlying61 hi hz .i64 .i64 n n (by omega) (Int.le_refl _) (by rw [hb]; omega) (by omega)
  rw [hs] at hr
  simp only [Int.toNat_natCast] at hr
  exact hr
theorem made_ct (w : World) (n p : Nat) : (w.alloc (.cells (madeCells #[.int .i64 0, .slice none 0 0, .pointer none] (n * 3)) 69)).rowIs w.heap.size 69 (n * 3) (ctCell p []) :=
  ⟨_, heap_alloc_new w _, size_madeCells _ _, fun i hi => by simp [madeCells, hi, ctCell, cellG, zC]⟩
theorem ctCell_snoc {p : Nat} {l : List It} {k : Nat} (h : l.length = k) (x : It) (j : Nat) :
    (if j = k * 3 + 2 then .pointer (some ⟨p, 0, none⟩) else if j = k * 3 + 1 then .slice x.A x.n x.c else if j = k * 3 then .int .i64 x.id else ctCell p l j) = ctCell p (l ++ [x]) j := by
  have e : ∀ i v, (ctCells p x)[i]? = some v → ctCell p (l ++ [x]) (k * 3 + i) = v := fun i v hv => cellG_last (ctCells_len p) zC h x hv
  by_cases h2 : j = k * 3 + 2
  · subst h2; rw [if_pos rfl, e 2 _ rfl]
  rw [if_neg h2]
  by_cases h1 : j = k * 3 + 1
  · subst h1; rw [if_pos rfl, e 1 _ rfl]
  rw [if_neg h1]
  by_cases h0 : j = k * 3
  · subst h0; rw [if_pos rfl]; exact (e 0 _ rfl).symm
  rw [if_neg h0]
  exact (cellG_more (ctCells_len p) zC h x (by omega)).symm
theorem ctCell_zero {p : Nat} {l : List It} {k : Nat} (h : l.length = k) : ctCell p l (k * 3) = .int .i64 0 ∧ ctCell p l (k * 3 + 1) = .slice none 0 0 ∧ ctCell p l (k * 3 + 2) = .pointer none := by
  refine ⟨?_, ?_, ?_⟩
  · rw [ctCell, cellG_none (ctCells_len p) zC (by omega)]; unfold zC; rw [show k * 3 % 3 = 0 by omega]; rfl
  · rw [ctCell, cellG_none (ctCells_len p) zC (by omega)]; unfold zC; rw [show (k * 3 + 1) % 3 = 1 by omega]; rfl
  · rw [ctCell, cellG_none (ctCells_len p) zC (by omega)]; unfold zC; rw [show (k * 3 + 2) % 3 = 2 by omega]; rfl
set_option maxRecDepth 20000 in
set_option maxHeartbeats 1600000 in
theorem iContestT (w : World) (B : Nat) (A : Option Addr) (n c : Nat) (its : List It) (hi : Items w B A n its) (hB : B ≤ w.heap.size) (hn : n ≤ 1048576) (lo p : Nat) (t : Tr) (hp : PartAt w B lo t p) :
    Calls Tryz.prog 85 #[.slice A n c, .pointer (some ⟨p, 0, none⟩)] w fun e w' => ((∃ g, AreP (its.map It.dat) ∧ w.heap.size ≤ g ∧ e = .returned (.slice (some ⟨g, 0, none⟩) n n) ∧ CtIn w' B lo p t (some ⟨g, 0, none⟩) n its) ∨ (¬ AreP (its.map It.dat) ∧ e = .returned (.slice none 0 0))) ∧ Below w.heap.size w w' := by
  obtain ⟨qa, hqa⟩ := bool_of (AreP (its.map It.dat))
  have HA : Hid (∀ w1, Below w.heap.size w w1 → Calls Tryz.prog 123 #[.slice A n c] w1 fun e w' => e = .returned (.bool qa) ∧ Below w1.heap.size w1 w') := Lib.hid fun w1 h1 => iAre w1 B A n c its (hi.below (h1.mono hB)) (Nat.le_trans hB h1.size) qa hqa
  have HX := Lib.hid hi
  have HQ := Lib.hid hqa
  have HPa := Lib.hid hp
  clear hi hqa hp
  have HB1 : Hid (Below w.heap.size w w) := Lib.hid (Below.refl _ _)
  go_enter Tryz.func85, Tryz.ntmps85
  go_wp2_with fail
  refine (HA.out _ HB1.out).mono ?_
  rintro e w2 ⟨rfl, hb2⟩
  have HB2 := Lib.hid (below_on HB1.out hb2)
  have HPa2 := Lib.hid (HPa.out.below hB hb2)
  clear hb2 HPa
  cases qa
  · go_wp2
    go_ret
    exact ⟨.inr ⟨(fun hh => by have := HQ.out.2 hh; cases this), rfl⟩, HB2.out⟩
  · have HAr : Hid (AreP (its.map It.dat)) := Lib.hid (HQ.out.1 (by first | rfl | trivial))
    have hmk := make_ct n hn
    go_wp2
    clear hmk
    obtain ⟨g, hg⟩ : ∃ g, g = w2.heap.size := ⟨_, rfl⟩
    have HR0 : Hid ((w2.alloc (.cells (madeCells #[.int .i64 0, .slice none 0 0, .pointer none] (n * 3)) 69)).rowIs g 69 (n * 3) (ctCell p (its.take 0))) := Lib.hid (hg ▸ made_ct w2 n p)
    have HW0 : Hid (Below w2.heap.size w2 (w2.alloc (.cells (madeCells #[.int .i64 0, .slice none 0 0, .pointer none] (n * 3)) 69))) := Lib.hid ((Below.refl _ _).alloc (Nat.le_refl _) _)
    rw [← hg]
    generalize (w2.alloc (.cells (madeCells #[.int .i64 0, .slice none 0 0, .pointer none] (n * 3)) 69)) = w3 at *
    have HG := Lib.hid hg
    clear hg
    go_loopw [20] (fun i wr => ∃ k : Nat, k ≤ n ∧ i = .int .i64 k ∧ wr.rowIs g 69 (n * 3) (ctCell p (its.take k)) ∧ Below w2.heap.size w2 wr) (fun i _ => n - (intOf i).toNat)
    case atStart => exact ⟨0, Nat.zero_le _, rfl, HR0.out, HW0.out⟩
    case round =>
      obtain ⟨k, hk, rfl, hrow, hbel⟩ := hrel
      have HR := Lib.hid hrow
      have HB := Lib.hid hbel
      by_cases hlt : k < n
      · obtain ⟨b1, off, x, rfl, hb1, hat, d0, d1, -⟩ := HX.out.at k hlt
        have hbw : b1 < w2.heap.size := Nat.lt_of_lt_of_le hb1 (Nat.le_trans hB HB2.out.size)
        have f0 := (hbel.cell (p := ⟨b1, off + k * 2, none⟩) hbw).trans ((HB2.out.cell (p := ⟨b1, off + k * 2, none⟩) (Nat.lt_of_lt_of_le hb1 hB)).trans d0)
        have f1 := (hbel.cell (p := ⟨b1, off + k * 2 + 1, none⟩) hbw).trans ((HB2.out.cell (p := ⟨b1, off + k * 2 + 1, none⟩) (Nat.lt_of_lt_of_le hb1 hB)).trans d1)
        have HAt := Lib.hid hat
        have hlk : (its.take k).length = k := by rw [List.length_take, HX.out.1]; omega
        have hz := ctCell_zero (p := p) hlk
        have g0 : wr.cell? ⟨g, k * 3, none⟩ = some (.int .i64 0) := by rw [World.rowIs.cell hrow (by omega), hz.1]
        have g1 : wr.cell? ⟨g, k * 3 + 1, none⟩ = some (.slice none 0 0) := by rw [World.rowIs.cell hrow (by omega), hz.2.1]
        have g2 : wr.cell? ⟨g, k * 3 + 2, none⟩ = some (.pointer none) := by rw [World.rowIs.cell hrow (by omega), hz.2.2]
        have z0 := World.rowIs.frozen hrow (k * 3)
        have z1 := World.rowIs.frozen hrow (k * 3 + 1)
        have z2 := World.rowIs.frozen hrow (k * 3 + 2)
        have hgl := World.rowIs.lt hrow
        have HLk := Lib.hid hlk
        have hsz := Lib.hid hbel.size
        clear hrow hbel d0 d1 hat hlk hz
        go_wp2
        go_roundw
        case rel =>
          refine ⟨k + 1, by omega, by go_num, ?_, ?_⟩
          · rw [take_at HAt.out]
            exact (World.rowIs.alloc (World.rowIs.set (World.rowIs.set (World.rowIs.set HR.out (k * 3) (.int .i64 x.id)) (k * 3 + 1) (.slice x.A x.n x.c)) (k * 3 + 2) (.pointer (some ⟨p, 0, none⟩))) _).congr (fun j _ => ctCell_snoc HLk.out x j)
          · exact (((HB.out.setCell (by rw [HG.out]; exact Nat.le_refl _) _).setCell (by rw [HG.out]; exact Nat.le_refl _) _).setCell (by rw [HG.out]; exact Nat.le_refl _) _).alloc (by simp [World.setCell]; exact hsz.out) _
        case measure => simp [intOf]; omega
      · obtain rfl : k = n := by omega
        clear hrow hbel
        go_wp2
        go_ret
        have HBw := HB2.out.trans (HB.out.mono HB2.out.size)
        refine ⟨.inl ⟨g, HAr.out, by rw [HG.out]; exact HB2.out.size, rfl, ?_⟩, HBw⟩
        have hR := HR.out
        rw [take_all HX.out.1] at hR
        have hown : OwnG 69 (ctCells p) 3 wr g (.slice (some ⟨g, 0, none⟩) k k) its := OwnG.of_row (ctCells_len p) (Nat.le_refl _) HX.out.1 (Nat.le_refl _) (by unfold maxLen; omega) hR fun j hj => cellG_own (ctCells_len p) zC HX.out.1 hj
        exact ⟨OwnG.read (ctCells_len p) hown, fun u hu => ⟨(HX.out.mem hu).below (HBw.mono hB), HAr.out.1 _ (List.mem_map_of_mem hu)⟩, HPa2.out.below (Nat.le_trans hB HB2.out.size) HB.out, Nat.le_trans hB HBw.size⟩
theorem iContestN (w : World) (A : Option Addr) (n c : Nat) :
    Calls Tryz.prog 85 #[.slice A n c, .pointer none] w fun e w' => e = .returned (.slice none 0 0) ∧ Below w.heap.size w w' := by
  go_enter Tryz.func85, Tryz.ntmps85
  go_wp2
  go_ret
  exact ⟨rfl, Below.refl _ _⟩
end Go.Proofs.YtceiocdemhkcdaaGreat.num
namespace Go.Proofs.YtceiocdemhkcdaaGreat.num
set_option maxRecDepth 20000
open Go.RowKit
set_option linter.unusedVariables false
set_option linter.unusedSimpArgs false

/-- The tree t lies at block p in w and in every world that differs from w in block V alone (and in new blocks). -/
def JT (B lo V : Nat) (w : World) (t : Tr) (p : Nat) : Prop := ∀ W : World, w.heap.size ≤ W.heap.size → (∀ k, k < w.heap.size → k ≠ V → W.heap[k]? = w.heap[k]?) → PartAt W B lo t p
theorem JT.evolve {B lo V : Nat} {w w' : World} {t : Tr} {p : Nat} (h : JT B lo V w t p) (hs : w.heap.size ≤ w'.heap.size) (hk : ∀ k, k < w.heap.size → k ≠ V → w'.heap[k]? = w.heap[k]?) : JT B lo V w' t p :=
  fun W hs' hk' => h W (Nat.le_trans hs hs') fun k h1 h2 => (hk' k (Nat.lt_of_lt_of_le h1 hs) h2).trans (hk k h1 h2)
theorem JT.below {B lo V : Nat} {w w' : World} {t : Tr} {p : Nat} (h : JT B lo V w t p) (hb : Below w.heap.size w w') : JT B lo V w' t p := h.evolve hb.size fun k h1 _ => hb.block k h1
theorem JT.now {B lo V : Nat} {w : World} {t : Tr} {p : Nat} (h : JT B lo V w t p) : PartAt w B lo t p := h w (Nat.le_refl _) fun _ _ _ => rfl
theorem JT.new {B lo lo1 V : Nat} {w : World} {t : Tr} {p : Nat} (h : PartAt w B lo1 t p) (hl : lo ≤ lo1) (hV : V < lo1 ∨ w.heap.size ≤ V) (hB : B ≤ V) (hBw : B ≤ w.heap.size) : JT B lo V w t p :=
  fun W hs hk => (h.kept hs fun k h1 => hk k (by omega) (by omega)).low hl
theorem JT.join {B lo V : Nat} {w : World} {t1 t2 : Tr} {p1 p2 p : Nat} (h1 : JT B lo V w t1 p1) (h2 : JT B lo V w t2 p2) (hp : w.heap[p]? = some (partRow 1 zeroW .nilIface (.pointer (some ⟨p1, 0, none⟩)) (.pointer (some ⟨p2, 0, none⟩)))) (hl : lo ≤ p) (hV : p ≠ V) : JT B lo V w (.bin 1 t1 t2) p :=
  fun W hs hk => ⟨hl, Nat.lt_of_lt_of_le (lt_of_block hp) hs, .inl rfl, zeroW, p1, p2, (hk p (lt_of_block hp) hV).trans hp, (now_zero _).2 rfl, ⟨by decide, by decide⟩, zeroW_in _ _, h1 W hs hk, h2 W hs hk⟩
theorem info_contest : (Tryz.prog.info? 61).map (fun i => (i.zero, i.size, i.bytes)) = some (some (.slice none 0 0), 1, 24) := by kernel_rfl
theorem make_vs (n : Nat) (hn : n ≤ 1048576) (w : World) :
    (Instr.makeSlice 62 (.int .i64 (n : Int)) (.int .i64 (n : Int))).run Tryz.prog w = .ok (.slice (some ⟨w.heap.size, 0, none⟩) n n) (w.alloc (.cells (madeCells #[.slice none 0 0] n) 61)) := by
  obtain ⟨i, hi, hzz⟩ := Option.map_eq_some_iff.1 info_contest
  simp only [Prod.mk.injEq] at hzz
  obtain ⟨hz, hs, hb⟩ := hzz
  have hr := run_make (P := Tryz.prog) w _ _ i _ Tryz.underlying62 hi hz .i64 .i64 n n (by omega) (Int.le_refl _) (by rw [hb]; omega) (by omega)
  rw [hs] at hr
  simp only [Int.toNat_natCast, Nat.mul_one] at hr
  exact hr
/-- The state while the voters are asked for their trees. -/
structure GpSt (w : World) (B Vb n2 : Nat) (J : Tr) (p : Nat) (wr : World) : Prop where
  j : JT B (w.heap.size + 1) Vb wr J p
  x : wr.heap[w.heap.size]? = some (.cells #[.slice none 0 0, .slice none 0 0] 64 (0, 0))
  v : ∃ cs : Array Value, wr.heap[Vb]? = some (.cells cs 61 (0, 0)) ∧ cs.size = n2
  hv : w.heap.size < Vb
  b : Below w.heap.size w wr
theorem GpSt.below {w wr w' : World} {B Vb n2 p : Nat} {J : Tr} (h : GpSt w B Vb n2 J p wr) (hb : Below wr.heap.size wr w') : GpSt w B Vb n2 J p w' := by
  obtain ⟨cs, h1, h2⟩ := h.v
  exact ⟨h.j.below hb, (hb.block _ (lt_of_block h.x)).trans h.x, ⟨cs, (hb.block _ (lt_of_block h1)).trans h1, h2⟩, h.hv, h.b.trans (hb.mono h.b.size)⟩
theorem GpSt.store {w wr : World} {B Vb n2 p : Nat} {J : Tr} (h : GpSt w B Vb n2 J p wr) (k : Nat) (u : Value) : GpSt w B Vb n2 J p (wr.setCell ⟨Vb, k, none⟩ u) := by
  obtain ⟨cs, h1, h2⟩ := h.v
  refine ⟨h.j.evolve (by simp [World.setCell]) fun k' _ hk => heap_setCell_other _ _ _ _ (by simpa using hk), (heap_setCell_other _ _ _ _ (by have := h.hv; simp; omega)).trans h.x, ⟨cs.setIfInBounds k u, ?_, by simpa using h2⟩, h.hv, h.b.setCell (Nat.le_of_lt h.hv) _⟩
  exact heap_setCell_same wr Vb k _ _ u h1
theorem GpSt.at {w wr : World} {B Vb n2 p : Nat} {J : Tr} (h : GpSt w B Vb n2 J p wr) {k : Nat} (hk : k < n2) : (∃ u, wr.cell? ⟨Vb, k, none⟩ = some u) ∧ wr.frozen? ⟨Vb, k, none⟩ = false := by
  obtain ⟨cs, h1, h2⟩ := h.v
  exact ⟨⟨cs[k]'(by omega), cell_of_row wr _ k _ _ (0, 0) h1 |>.trans (by simp [show k < cs.size by omega])⟩, frozen_of_row wr _ k _ _ h1⟩
/-- What groupOf hands back. -/
def GroupOut (B lo : Nat) (dss : List (List ND)) (its : List It) (n : Nat) (e : Ending) (w' : World) : Prop :=
  (∃ (t0 : Tr) (ts : List Tr) (p g : Nat) (va : Option Addr) (vn vc : Nat), VoP dss ∧ AreP (its.map It.dat) ∧ Posts dss ts ∧ t0 ∈ ts ∧ e = .returned (.agg #[.slice (some ⟨g, 0, none⟩) n n, .slice va vn vc]) ∧ CtIn w' B lo p (joinT t0 ts) (some ⟨g, 0, none⟩) n its) ∨ (¬ (VoP dss ∧ AreP (its.map It.dat)) ∧ ∃ (va : Option Addr) (vn vc : Nat), e = .returned (.agg #[.slice none 0 0, .slice va vn vc]))
theorem CtIn.set {w : World} {B lo p g n X j : Nat} {t : Tr} {its : List It} (h : CtIn w B lo p t (some ⟨g, 0, none⟩) n its) (v : Value) (hX : B ≤ X) (hl : X < lo) (hg : X ≠ g) : CtIn (w.setCell ⟨X, j, none⟩ v) B lo p t (some ⟨g, 0, none⟩) n its :=
  ⟨⟨h.r.len, fun k x hk => by
    obtain ⟨b, off, e, hb, hc⟩ := h.r.at' k x hk
    injection e with e
    injection e with e1 e2
    subst e1 e2
    exact ⟨g, 0, rfl, by simpa [World.setCell] using hb, fun i u hu => (World.cell?_of_block (a := ⟨g, 0 + k * 3 + i, none⟩) (heap_setCell_other _ _ _ _ (by show g ≠ X; omega))).trans (hc i u hu)⟩⟩,
   fun u hu => ⟨(h.x u hu).1.below ((Below.refl B w).setCell hX _), (h.x u hu).2⟩, h.t.set hX hl, by simpa [World.setCell] using h.hB⟩
theorem two_set {w : World} {g : Nat} {T : TypeId} {u0 u1 v0 v1 : Value} (h : w.heap[g]? = some (.cells #[u0, u1] T (0, 0))) : ((w.setCell ⟨g, 0, none⟩ v0).setCell ⟨g, 1, none⟩ v1).heap[g]? = some (.cells #[v0, v1] T (0, 0)) := by
  have h := heap_setCell_same _ g 1 _ _ v1 (heap_setCell_same w g 0 _ _ v0 h)
  simpa using h
set_option maxRecDepth 20000 in
set_option maxHeartbeats 3200000 in
theorem iGroup (w : World) (B : Nat) (A : Option Addr) (n c : Nat) (its : List It) (A2 : Option Addr) (n2 c2 : Nat) (gs : List Vo) (h : InG w B A n its A2 n2 gs) :
    Calls Tryz.prog 48 #[.slice A n c, .slice A2 n2 c2] w fun e w' => GroupOut B (w.heap.size + 1) (gs.map Vo.dat) its n e w' ∧ Below w.heap.size w w' := by
  obtain ⟨q, hq⟩ := bool_of (VoP (gs.map Vo.dat))
  obtain ⟨w0, hw0⟩ : ∃ w0, w.alloc (.cells #[.slice none 0 0, .slice none 0 0] 64) = w0 := ⟨_, rfl⟩
  have hb0 : Below w.heap.size w w0 := by rw [← hw0]; exact (Below.refl _ w).alloc (Nat.le_refl _) _
  have hs0 : w0.heap.size = w.heap.size + 1 := by rw [← hw0, World.size_alloc]
  have hx0 : w0.heap[w.heap.size]? = some (.cells #[.slice none 0 0, .slice none 0 0] 64 (0, 0)) := by rw [← hw0]; exact heap_alloc_new w _
  have HV : Hid (Calls Tryz.prog 20 #[.slice A2 n2 c2] w0 fun e w' => e = .returned (.bool q) ∧ Below w0.heap.size w0 w') := Lib.hid (iVoters w0 B A2 n2 c2 gs (h.below hb0).e (h.below hb0).hB h.hn2 h.se h.caps q hq)
  have HTk : Hid (∀ (k : Nat) (x : Vo), gs[k]? = some x → IsE x.dat → ∀ W, Below w.heap.size w W → Calls Tryz.prog 84 #[.slice x.A x.n x.c] W fun e w' => (∃ (t : Tr) (p : Nat), Post x.dat t ∧ e = .returned (.pointer (some ⟨p, 0, none⟩)) ∧ PartAt w' B W.heap.size t p) ∧ Below W.heap.size W w') := Lib.hid fun k x hk he W hW => by
    have hm := List.mem_of_getElem? hk
    have hc := h.caps x hm
    have hs := h.se x hm
    refine (iTreeOfW W B x.A x.n x.c x.ns ((h.below hW).e.x x hm) (h.below hW).hB (by omega) (by omega) hs.2).mono ?_
    rintro e w' ⟨hout, hb⟩
    rcases hout with ⟨_, t, p, ht, rfl, hp⟩ | ⟨hn, _⟩
    · exact ⟨⟨t, p, ht, rfl, hp⟩, hb⟩
    · exact absurd he hn
  have HCo : Hid (∀ W, Below w.heap.size w W → ∀ (lo p : Nat) (t : Tr), PartAt W B lo t p → Calls Tryz.prog 85 #[.slice A n c, .pointer (some ⟨p, 0, none⟩)] W fun e w' => ((∃ g, AreP (its.map It.dat) ∧ W.heap.size ≤ g ∧ e = .returned (.slice (some ⟨g, 0, none⟩) n n) ∧ CtIn w' B lo p t (some ⟨g, 0, none⟩) n its) ∨ (¬ AreP (its.map It.dat) ∧ e = .returned (.slice none 0 0))) ∧ Below W.heap.size W w') := Lib.hid fun W hW lo p t hp => iContestT W B A n c its (h.below hW).i (h.below hW).hB h.hn lo p t hp
  have HX := Lib.hid h.e
  have HBB : Hid (B ≤ w.heap.size) := Lib.hid h.hB
  have hn2 := h.hn2
  have HQ := Lib.hid hq
  have HB0 := Lib.hid hb0
  have HX0 := Lib.hid hx0
  have HS0 := Lib.hid hs0
  have HLg : Hid ((gs.map Vo.dat).length = n2) := Lib.hid (by rw [List.length_map]; exact h.e.len)
  clear h hq hb0 hx0 hs0
  go_enter Tryz.func48, Tryz.ntmps48
  go_wp2_with fail
  try rw [hw0]
  clear hw0
  refine HV.out.mono ?_
  rintro e w1 ⟨rfl, hb1⟩
  have HB1 := Lib.hid (HB0.out.trans (hb1.mono HB0.out.size))
  have HX1 : Hid (w1.heap[w.heap.size]? = some (.cells #[.slice none 0 0, .slice none 0 0] 64 (0, 0))) := Lib.hid ((hb1.block _ (lt_of_block HX0.out)).trans HX0.out)
  clear hb1 HV
  cases q
  · have x0 : w1.cell? ⟨w.heap.size, 0, none⟩ = some (.slice none 0 0) := cell_of_row w1 _ 0 _ _ (0, 0) HX1.out
    have z0 : w1.frozen? ⟨w.heap.size, 0, none⟩ = false := frozen_of_row w1 _ 0 _ _ HX1.out
    have x1 : w1.cell? ⟨w.heap.size, 1, none⟩ = some (.slice none 0 0) := cell_of_row w1 _ 1 _ _ (0, 0) HX1.out
    have z1 : w1.frozen? ⟨w.heap.size, 1, none⟩ = false := frozen_of_row w1 _ 1 _ _ HX1.out
    go_wp2
    refine bodyPost_ret_by (results_cell_row rfl _ _ w.heap.size 64 _ (0, 0) _ rfl (two_set HX1.out) Tryz.underlying64 rfl (by kernel_rfl)) rfl ?_
    exact ⟨.inr ⟨(fun hh => by have := HQ.out.2 hh.1; cases this), none, 0, 0, rfl⟩, (HB1.out.setCell (Nat.le_refl _) _).setCell (Nat.le_refl _) _⟩
  · have hVo := HQ.out.1 rfl
    obtain ⟨ts, hP⟩ := Posts.some hVo.2.2
    have HVo := Lib.hid hVo
    have HP := Lib.hid hP
    have hn0 : 0 < n2 := by have := hVo.1; have := HLg.out; omega
    have htl : ts.length = n2 := hP.len.trans HLg.out
    have HTl := Lib.hid htl
    obtain ⟨b0, off0, x0, rfl, hb0, hat0, -, e0⟩ := HX.out.at 0 hn0
    have f1 : w1.cell? ⟨b0, off0, none⟩ = some (.slice x0.A x0.n x0.c) := (HB1.out.cell (p := ⟨b0, off0, none⟩) (Nat.lt_of_lt_of_le hb0 HBB.out)).trans e0
    have hd0 : (gs.map Vo.dat)[0]? = some x0.dat := by rw [List.getElem?_map, hat0]; rfl
    have HTr := Lib.hid (HTk.out 0 x0 hat0 (hVo.2.2 _ (List.mem_of_getElem? hd0)))
    have HD0 := Lib.hid hd0
    obtain ⟨wR, rfl⟩ : ∃ wR, wR = w1 := ⟨_, rfl⟩
    have hbR : b0 < wR.heap.size := Nat.lt_of_lt_of_le hb0 (Nat.le_trans HBB.out HB1.out.size)
    have HBR := HB1
    have HxR : Hid (w.heap.size < wR.heap.size ∧ wR.heap[w.heap.size]? = some (.cells #[.slice none 0 0, .slice none 0 0] 64 (0, 0))) := Lib.hid ⟨lt_of_block HX1.out, HX1.out⟩
    have HlR : Hid (w.heap.size + 1 ≤ wR.heap.size) := Lib.hid (lt_of_block HX1.out)
    have HBBw := HBB
    replace HBB : Hid (B ≤ wR.heap.size) := Lib.hid (Nat.le_trans HBBw.out HB1.out.size)
    have hn0' : (0 : Int) < (n2 : Int) := by omega
    have hmk := make_vs n2 hn2
    clear e0 hat0 hd0 hVo hP htl
    go_upto_region 3 with (fail)
    go_cut [5, 6] from 14 to 20 (fun s5 s6 wx => ∃ (t0 : Tr) (p0 Vb : Nat), Post x0.dat t0 ∧ s5 = .pointer (some ⟨p0, 0, none⟩) ∧ s6 = .slice (some ⟨Vb, 0, none⟩) n2 n2 ∧ GpSt w B Vb n2 t0 p0 wx)
    case first =>
      have hS0 : (fun w' => w'.cell? ⟨b0, off0, none⟩ = some (.slice x0.A x0.n x0.c)) wR.drew := f1
      refine wp_region_held (S := fun w' => w'.cell? ⟨b0, off0, none⟩ = some (.slice x0.A x0.n x0.c)) (by kernel_rfl) ?_
      change wpAnyH _ _ _ _ _ _ _ _ (World.drew _)
      have hBD0 : Below wR.heap.size wR wR.drew := (Below.refl _ wR).drew
      obtain ⟨wD, hwD⟩ : ∃ wD, World.drew wR = wD := ⟨_, rfl⟩
      rw [hwD] at hS0 ⊢
      have hBD : Below wR.heap.size wR wD := by rw [← hwD]; exact hBD0
      clear hwD hBD0
      refine takeY 14 (i := 0) (v := ?vx1) rfl rfl (by kernel_rfl) (by kernel_rfl) (by kernel_rfl) (fun _ _ _ h => h) (by kernel_rfl) ?yx1 hS0 ?_
      case yx1 =>
        intro w' hw'; (try dsimp only at hw'); obtain q1 := hw'; go_simp; try with_reducible rfl
      simp only [Act.put, List.setIfInBounds_toArray, List.set_cons_zero, List.set_cons_succ]
      refine takeY 15 (i := 1) (v := ?vx2) rfl rfl (by kernel_rfl) (by kernel_rfl) (by kernel_rfl) (fun _ _ _ h => h) (by kernel_rfl) ?yx2 hS0 ?_
      case yx2 =>
        intro w' hw'; (try dsimp only at hw'); obtain q1 := hw'; go_simp; try with_reducible rfl
      simp only [Act.put, List.setIfInBounds_toArray, List.set_cons_zero, List.set_cons_succ]
      refine takeY 16 (i := 2) (v := ?vx3) rfl rfl (by kernel_rfl) (by kernel_rfl) (by kernel_rfl) (fun _ _ _ h => h) (by kernel_rfl) ?yx3 hS0 ?_
      case yx3 =>
        intro w' hw'; (try dsimp only at hw'); obtain q1 := hw'; go_simp; try with_reducible rfl
      simp only [Act.put, List.setIfInBounds_toArray, List.set_cons_zero, List.set_cons_succ]
      refine takeY 18 (i := 4) (v := ?vx4) rfl rfl (by kernel_rfl) (by kernel_rfl) (by kernel_rfl) (fun _ _ _ h => h) (by kernel_rfl) ?yx4 hS0 ?_
      case yx4 =>
        intro w' hw'; (try dsimp only at hw'); obtain q1 := hw'; go_simp; try with_reducible rfl
      simp only [Act.put, List.setIfInBounds_toArray, List.set_cons_zero, List.set_cons_succ]
      refine takeY 19 (i := 5) (v := ?vx5) rfl rfl (by kernel_rfl) (by kernel_rfl) (by kernel_rfl) (fun _ _ _ h => h) (by kernel_rfl) ?yx5 hS0 ?_
      case yx5 =>
        intro w' hw'; (try dsimp only at hw'); obtain q1 := hw'; go_simp; try with_reducible rfl
      simp only [Act.put, List.setIfInBounds_toArray, List.set_cons_zero, List.set_cons_succ]
      refine wpAnyH_ready (rs := [3, 6]) (by kernel_rfl) (by simp) ?_
      refine (AllReadyH.cons rfl (fun K hK => ?_) (AllReadyH.cons rfl (fun K hK => ?_) AllReadyH.nil))
      · go_simp
        go_at_call 84
        refine (HTr.out _ (below_on HBR.out hBD)).mono ?_
        rintro e w101 ⟨⟨t0, p0, ht0, rfl, hpa101⟩, hb101⟩
        have hB101 : Below wR.heap.size wR w101 := below_on hBD hb101
        skip
        refine hK.out _ _ ((hB101.cell (p := ⟨b0, off0, none⟩) hbR).trans f1) (fun hS101 => ?_)
        clear hK K
        try simp only [Act.put, List.setIfInBounds_toArray, List.set_cons_zero, List.set_cons_succ]
        refine takeY 5 (i := 7) (v := ?vx6) rfl rfl (by kernel_rfl) (by kernel_rfl) (by kernel_rfl) (fun _ _ _ h => h) (by kernel_rfl) ?yx6 hS101 ?_
        case yx6 =>
          intro w' hw'; (try dsimp only at hw'); obtain q1 := hw'; go_simp; try with_reducible rfl
        simp only [Act.put, List.setIfInBounds_toArray, List.set_cons_zero, List.set_cons_succ]
        refine wpAnyH_ready (rs := [6]) (by kernel_rfl) (by simp) ?_
        refine (AllReadyH.cons rfl (fun K hK => ?_) AllReadyH.nil)
        go_simp
        refine hK.out _ _ (((hB101.alloc hB101.size _).cell (p := ⟨b0, off0, none⟩) hbR).trans f1) (fun hS102 => ?_)
        clear hK K
        try simp only [Act.put, List.setIfInBounds_toArray, List.set_cons_zero, List.set_cons_succ]
        obtain ⟨w102, hw102⟩ : ∃ w', World.alloc w101 (.cells (madeCells #[.slice none 0 0] n2) 61) = w' := ⟨_, rfl⟩
        have hB102 : Below wR.heap.size wR w102 := by rw [← hw102]; exact hB101.alloc hB101.size _
        have hb102 : Below w101.heap.size w101 w102 := by rw [← hw102]; exact (Below.refl _ _).alloc (Nat.le_refl _) _
        have hV102 : w102.heap[w101.heap.size]? = some (.cells (madeCells #[.slice none 0 0] n2) 61 (0, 0)) := by rw [← hw102]; exact heap_alloc_new _ _
        try rw [hw102]
        try rw [hw102] at hS102
        clear hw102
        refine takeY 6 (i := 8) (v := ?vx7) rfl rfl (by kernel_rfl) (by kernel_rfl) (by kernel_rfl) (fun _ _ _ h => h) (by kernel_rfl) ?yx7 hS102 ?_
        case yx7 =>
          intro w' hw'; (try dsimp only at hw'); obtain q1 := hw'; go_simp; try with_reducible rfl
        simp only [Act.put, List.setIfInBounds_toArray, List.set_cons_zero, List.set_cons_succ]
        refine wpAnyH_done (by kernel_rfl) ?_ _
        go_wp2
        go_meet
        exact ⟨t0, p0, w101.heap.size, ht0, rfl, rfl, ⟨(JT.new hpa101 (Nat.le_trans HlR.out (Below.size hBD)) (.inr (Nat.le_refl _)) (Nat.le_trans HBB.out hB101.size) (Nat.le_trans HBB.out hB101.size)).below hb102, (hB102.block _ HxR.out.1).trans HxR.out.2, ⟨_, hV102, size_madeCells _ _⟩, (Nat.lt_of_lt_of_le HxR.out.1 hB101.size), below_on HBR.out hB102⟩⟩
      · go_simp
        refine hK.out _ _ (((hBD.alloc hBD.size _).cell (p := ⟨b0, off0, none⟩) hbR).trans f1) (fun hS103 => ?_)
        clear hK K
        try simp only [Act.put, List.setIfInBounds_toArray, List.set_cons_zero, List.set_cons_succ]
        obtain ⟨w103, hw103⟩ : ∃ w', World.alloc wD (.cells (madeCells #[.slice none 0 0] n2) 61) = w' := ⟨_, rfl⟩
        have hB103 : Below wR.heap.size wR w103 := by rw [← hw103]; exact hBD.alloc hBD.size _
        have hb103 : Below wD.heap.size wD w103 := by rw [← hw103]; exact (Below.refl _ _).alloc (Nat.le_refl _) _
        have hV103 : w103.heap[wD.heap.size]? = some (.cells (madeCells #[.slice none 0 0] n2) 61 (0, 0)) := by rw [← hw103]; exact heap_alloc_new _ _
        try rw [hw103]
        try rw [hw103] at hS103
        clear hw103
        refine wpAnyH_ready (rs := [3]) (by kernel_rfl) (by simp) ?_
        refine (AllReadyH.cons rfl (fun K hK => ?_) AllReadyH.nil)
        go_simp
        go_at_call 84
        refine (HTr.out _ (below_on HBR.out hB103)).mono ?_
        rintro e w104 ⟨⟨t0, p0, ht0, rfl, hpa104⟩, hb104⟩
        have hB104 : Below wR.heap.size wR w104 := below_on hB103 hb104
        have hV104 := (hb104.block _ (lt_of_block hV103)).trans hV103
        skip
        refine hK.out _ _ ((hB104.cell (p := ⟨b0, off0, none⟩) hbR).trans f1) (fun hS104 => ?_)
        clear hK K
        try simp only [Act.put, List.setIfInBounds_toArray, List.set_cons_zero, List.set_cons_succ]
        refine takeY 5 (i := 7) (v := ?vx8) rfl rfl (by kernel_rfl) (by kernel_rfl) (by kernel_rfl) (fun _ _ _ h => h) (by kernel_rfl) ?yx8 hS104 ?_
        case yx8 =>
          intro w' hw'; (try dsimp only at hw'); obtain q1 := hw'; go_simp; try with_reducible rfl
        simp only [Act.put, List.setIfInBounds_toArray, List.set_cons_zero, List.set_cons_succ]
        refine takeY 6 (i := 8) (v := ?vx9) rfl rfl (by kernel_rfl) (by kernel_rfl) (by kernel_rfl) (fun _ _ _ h => h) (by kernel_rfl) ?yx9 hS104 ?_
        case yx9 =>
          intro w' hw'; (try dsimp only at hw'); obtain q1 := hw'; go_simp; try with_reducible rfl
        simp only [Act.put, List.setIfInBounds_toArray, List.set_cons_zero, List.set_cons_succ]
        refine wpAnyH_done (by kernel_rfl) ?_ _
        go_wp2
        go_meet
        exact ⟨t0, p0, wD.heap.size, ht0, rfl, rfl, ⟨JT.new hpa104 (Nat.le_trans HlR.out (hB103.size)) (.inl (lt_of_block hV103)) (Nat.le_trans HBB.out (Below.size hBD)) (Nat.le_trans HBB.out hB104.size), (hB104.block _ HxR.out.1).trans HxR.out.2, ⟨_, hV104, size_madeCells _ _⟩, (Nat.lt_of_lt_of_le HxR.out.1 (Below.size hBD)), below_on HBR.out hB104⟩⟩
    case rest =>
    clear hmk f1
    obtain ⟨t0, p0, Vb, ht0, rfl, rfl, hst⟩ := hcut
    rename World => w5
    have HSt := Lib.hid hst
    have HT0 : Hid (ts[0]? = some t0) := Lib.hid (by
      have h0 : 0 < ts.length := by rw [HTl.out]; exact hn0
      rw [List.getElem?_eq_getElem h0]
      exact congrArg some ((HP.out.at' 0 _ _ HD0.out (List.getElem?_eq_getElem h0)).one ht0))
    clear hst ht0
    go_wp2
    go_loopw [5, 23] (fun j i wr => ∃ (k p : Nat) (J : Tr), k ≤ n2 ∧ i = .int .i64 k ∧ j = .pointer (some ⟨p, 0, none⟩) ∧ J = joinT t0 (ts.take k) ∧ GpSt w B Vb n2 J p wr) (fun _ i _ => n2 - (intOf i).toNat)
    case atStart => exact ⟨0, p0, t0, Nat.zero_le _, rfl, rfl, rfl, HSt.out⟩
    case round =>
      obtain ⟨k, p, J, hk, rfl, rfl, hJ, hst⟩ := hrel
      have HS := Lib.hid hst
      have HJ := Lib.hid hJ
      clear hJ
      by_cases hlt : k < n2
      · obtain ⟨b1, off1, x, hA1, hb1, hat1, -, e1⟩ := HX.out.at k hlt
        injection hA1 with hA1
        injection hA1 with q1 q2
        subst q1 q2
        have e1 := (hst.b.cell (p := ⟨b0, off0 + k, none⟩) (Nat.lt_of_lt_of_le hb1 HBBw.out)).trans e1
        have hlt' : (k : Int) < (n2 : Int) := by omega
        have hdk : (gs.map Vo.dat)[k]? = some x.dat := by rw [List.getElem?_map, hat1]; rfl
        have HTr1 := Lib.hid (HTk.out k x hat1 (HVo.out.2.2 _ (List.mem_of_getElem? hdk)))
        have HDk := Lib.hid hdk
        have hkt : k < ts.length := by rw [HTl.out]; exact hlt
        clear hat1 hdk hst
        go_wp2_with fail
        refine (HTr1.out _ HS.out.b).mono ?_
        rintro e w6 ⟨⟨t, p1, ht, rfl, hpa⟩, hb6⟩
        have HS6 := Lib.hid (HS.out.below hb6)
        have HTk1 : Hid (ts[k]? = some t) := Lib.hid (by
          rw [List.getElem?_eq_getElem hkt]
          exact congrArg some ((HP.out.at' k _ _ HDk.out (List.getElem?_eq_getElem hkt)).one ht))
        have hVw : Vb < wr.heap.size := by obtain ⟨cs, h1, -⟩ := HS.out.v; exact lt_of_block h1
        have HJ6 : Hid (JT B (w.heap.size + 1) Vb w6 t p1) := Lib.hid (JT.new hpa (lt_of_block HS.out.x) (.inl hVw) (Nat.le_trans HBBw.out (Nat.le_of_lt HS.out.hv)) (Nat.le_trans HBBw.out HS6.out.b.size))
        have HPa := Lib.hid hpa
        clear hpa hb6 ht HTr1 e1
        go_wp2_with fail
        refine (HCo.out w6 HS6.out.b _ p1 t HPa.out).mono ?_
        rintro e w7 ⟨hco, hb7⟩
        have HS7 := Lib.hid (HS6.out.below hb7)
        have HJ7 := Lib.hid (HJ6.out.below hb7)
        obtain ⟨ca, cn, cc, hcv⟩ : ∃ ca cn cc, e = .returned (.slice ca cn cc) := by
          rcases hco with ⟨g, -, -, h, -⟩ | ⟨-, h⟩
          · exact ⟨_, _, _, h⟩
          · exact ⟨_, _, _, h⟩
        subst hcv
        obtain ⟨⟨u, hu⟩, hz⟩ := HS7.out.at hlt
        have HSn : Hid (∀ pn, (w7.setCell ⟨Vb, k, none⟩ (.slice ca cn cc)).heap.size = pn → GpSt w B Vb n2 (joinT t0 (ts.take (k + 1))) pn ((w7.setCell ⟨Vb, k, none⟩ (.slice ca cn cc)).alloc (.cells #[.int .i64 1, .int .i64 0, .int .i64 0, .int .i64 0, .slice none 0 0, .slice none 0 0, .nilIface, .pointer (some ⟨p, 0, none⟩), .pointer (some ⟨p1, 0, none⟩)] 115))) := Lib.hid fun pn hpn => by
          have h1 := HS7.out.store k (.slice ca cn cc)
          have hb8 : Below (w7.setCell ⟨Vb, k, none⟩ (.slice ca cn cc)).heap.size (w7.setCell ⟨Vb, k, none⟩ (.slice ca cn cc)) ((w7.setCell ⟨Vb, k, none⟩ (.slice ca cn cc)).alloc (.cells #[.int .i64 1, .int .i64 0, .int .i64 0, .int .i64 0, .slice none 0 0, .slice none 0 0, .nilIface, .pointer (some ⟨p, 0, none⟩), .pointer (some ⟨p1, 0, none⟩)] 115)) := (Below.refl _ _).alloc (Nat.le_refl _) _
          have h2 := h1.below hb8
          have hj : JT B (w.heap.size + 1) Vb (w7.setCell ⟨Vb, k, none⟩ (.slice ca cn cc)) t p1 := HJ7.out.evolve (by simp [World.setCell]) fun k' _ hk' => heap_setCell_other _ _ _ _ (by simpa using hk')
          subst hpn
          refine ⟨?_, h2.x, h2.v, h2.hv, h2.b⟩
          rw [take_at HTk1.out, joinT_snoc, ← HJ.out]
          have hlv : Vb < (w7.setCell ⟨Vb, k, none⟩ (.slice ca cn cc)).heap.size := by obtain ⟨cs, q1, -⟩ := h1.v; exact lt_of_block q1
          exact JT.join h2.j (hj.below hb8) (heap_alloc_new _ _) (lt_of_block h1.x) (by omega)
        clear hco hb7 HS HS6 HJ6 HPa
        go_wp2
        go_roundw
        case rel => exact ⟨k + 1, _, _, by omega, by go_num, rfl, rfl, HSn.out _ (by simp [World.setCell])⟩
        case measure => simp [intOf]; omega
      · obtain rfl : k = n2 := by omega
        have HJa : Hid (J = joinT t0 ts) := Lib.hid (by have h := HJ.out; rwa [List.take_of_length_le (by rw [HTl.out]; exact Nat.le_refl _)] at h)
        clear hst
        go_wp2_with fail
        refine (HCo.out wr HS.out.b _ p J HS.out.j.now).mono ?_
        rintro e w6 ⟨hco, hb6⟩
        have HS6 := Lib.hid (HS.out.below hb6)
        have HCt := Lib.hid hco
        have hsz : wr.heap.size ≤ w6.heap.size := hb6.size
        have hRw : w.heap.size < wr.heap.size := lt_of_block HS.out.x
        have y0 : w6.cell? ⟨w.heap.size, 0, none⟩ = some (.slice none 0 0) := cell_of_row w6 _ 0 _ _ (0, 0) HS6.out.x
        have z0 : w6.frozen? ⟨w.heap.size, 0, none⟩ = false := frozen_of_row w6 _ 0 _ _ HS6.out.x
        have y1 : w6.cell? ⟨w.heap.size, 1, none⟩ = some (.slice none 0 0) := cell_of_row w6 _ 1 _ _ (0, 0) HS6.out.x
        have z1 : w6.frozen? ⟨w.heap.size, 1, none⟩ = false := frozen_of_row w6 _ 1 _ _ HS6.out.x
        clear hco hb6
        rcases HCt.out with ⟨g, ha, hg, rfl, hct⟩ | ⟨hna, rfl⟩
        · have HF : Hid (∀ v0 v1, CtIn ((w6.setCell ⟨w.heap.size, 0, none⟩ v0).setCell ⟨w.heap.size, 1, none⟩ v1) B (w.heap.size + 1) p (joinT t0 ts) (some ⟨g, 0, none⟩) n its) := Lib.hid fun v0 v1 => by
            rw [← HJa.out]
            exact (hct.set v0 HBBw.out (Nat.lt_succ_self _) (by omega)).set v1 HBBw.out (Nat.lt_succ_self _) (by omega)
          have HAr := Lib.hid ha
          clear ha hct HCt
          go_wp2
          refine bodyPost_ret_by (results_cell_row rfl _ _ w.heap.size 64 _ (0, 0) _ rfl (two_set HS6.out.x) Tryz.underlying64 rfl (by kernel_rfl)) rfl ?_
          exact ⟨.inl ⟨t0, ts, p, g, some ⟨Vb, 0, none⟩, k, k, HVo.out, HAr.out, HP.out, List.mem_of_getElem? HT0.out, rfl, HF.out _ _⟩, (HS6.out.b.setCell (Nat.le_refl _) _).setCell (Nat.le_refl _) _⟩
        · have HNa := Lib.hid hna
          clear hna HCt
          go_wp2
          refine bodyPost_ret_by (results_cell_row rfl _ _ w.heap.size 64 _ (0, 0) _ rfl (two_set HS6.out.x) Tryz.underlying64 rfl (by kernel_rfl)) rfl ?_
          exact ⟨.inr ⟨fun hh => HNa.out hh.2, some ⟨Vb, 0, none⟩, k, k, rfl⟩, (HS6.out.b.setCell (Nat.le_refl _) _).setCell (Nat.le_refl _) _⟩
set_option maxRecDepth 20000 in
set_option maxHeartbeats 1600000 in
theorem iUnan (w : World) (B : Nat) (A : Option Addr) (n c : Nat) (its : List It) (A2 : Option Addr) (n2 c2 : Nat) (gs : List Vo) (h : InG w B A n its A2 n2 gs) (L : List Int) (hL : UniP (gs.map Vo.dat) (its.map It.dat) L) :
    Calls Tryz.prog 14 #[.slice A n c, .slice A2 n2 c2] w fun e w' => (∃ v, e = .returned v ∧ OwnI w' w.heap.size v L) ∧ Below w.heap.size w w' := by
  have HC := Lib.hid (iGroup w B A n c its A2 n2 c2 gs h)
  have HX := Lib.hid h.i
  have hn := h.hn
  have HL := Lib.hid hL
  clear h hL
  go_enter Tryz.func14, Tryz.ntmps14
  go_wp2_with fail
  refine HC.out.mono ?_
  rintro e w1 ⟨hout, hb1⟩
  have HB1 := Lib.hid hb1
  clear hb1 HC
  rcases hout with ⟨t0, ts, p, g, va, vn, vc, hv, ha, hp, hm, rfl, hct⟩ | ⟨hno, va, vn, vc, rfl⟩
  · have HLe : Hid (L = idL (its.filter fun u => bestB (joinT t0 ts) (its.map It.dat) u.dat)) := Lib.hid (by
      rw [HL.out.yes hv ha hp, uni_ids]
      congr 2
      funext u
      unfold bestB
      rw [List.all_map]
      congr 1
      funext y
      show (!uniB ts y.dat u.dat) = (!btD (joinT t0 ts) y.dat u.dat)
      rw [joinT_bt hm])
    obtain ⟨w2, hw2⟩ : ∃ w2, w1.alloc (.cells #[.slice (some ⟨g, 0, none⟩) n n, .slice va vn vc] 64) = w2 := ⟨_, rfl⟩
    have hb2 : Below w1.heap.size w1 w2 := by rw [← hw2]; exact (Below.refl _ _).alloc (Nat.le_refl _) _
    have HCt := Lib.hid (hct.step hb2)
    have HB2 := Lib.hid (below_on HB1.out hb2)
    have f0 : w2.cell? ⟨w1.heap.size, 0, none⟩ = some (.slice (some ⟨g, 0, none⟩) n n) := by rw [← hw2, World.cell?_alloc_at _ _ _ _ rfl]; rfl
    clear hv ha hp hm hct hb2
    go_wp2_with fail
    try rw [hw2]
    refine (ctWhere w2 p _ n n its HCt.out.r (by omega) _ (by simp) _ (fun u => bestB (joinT t0 ts) (its.map It.dat) u.dat) (fun W hW u hu => iBestOf W B (w.heap.size + 1) p (joinT t0 ts) _ n n its (HCt.out.step hW) hn u ((HCt.out.step hW).x u hu).1 (HCt.out.x u hu).2)).mono ?_
    rintro e w3 ⟨⟨v2, rfl, ho⟩, hb3⟩
    have HB3 := Lib.hid (below_on HB2.out hb3)
    have hle : (its.filter fun u => bestB (joinT t0 ts) (its.map It.dat) u.dat).length ≤ 1048576 := Nat.le_trans (List.length_filter_le _ _) (by rw [HX.out.1]; exact hn)
    obtain ⟨Aw, cw, rfl, -, -⟩ := ho.shape
    have HOw := Lib.hid ho
    clear ho hb3
    have hrd := OwnG.read (ctCells_len p) HOw.out
    have HRd := Lib.hid hrd
    clear hrd
    go_wp2_with fail
    refine (ctIds w3 p Aw _ cw _ HRd.out hle).mono ?_
    rintro e w4 ⟨⟨v, rfl, ho⟩, hb4⟩
    have HB4 := Lib.hid (below_on HB3.out hb4)
    have HI := Lib.hid (ownI_lower ho HB3.out.size)
    clear ho hb4 hle
    go_wp2
    go_ret
    exact ⟨⟨_, rfl, by rw [HLe.out]; exact HI.out⟩, HB4.out⟩
  · obtain rfl := HL.out.no hno
    obtain ⟨w2, hw2⟩ : ∃ w2, w1.alloc (.cells #[.slice none 0 0, .slice va vn vc] 64) = w2 := ⟨_, rfl⟩
    have hb2 : Below w1.heap.size w1 w2 := by rw [← hw2]; exact (Below.refl _ _).alloc (Nat.le_refl _) _
    have HB2 := Lib.hid (below_on HB1.out hb2)
    have f0 : w2.cell? ⟨w1.heap.size, 0, none⟩ = some (.slice none 0 0) := by rw [← hw2, World.cell?_alloc_at _ _ _ _ rfl]; rfl
    clear hno hb2
    go_wp2_with fail
    try rw [hw2]
    refine (ctWhere w2 0 none 0 0 ([] : List It) (ReadG.nil _ _ _) (by omega) _ (by simp) _ (fun u => false) (fun W hW u hu => absurd hu (by simp))).mono ?_
    rintro e w3 ⟨⟨v2, rfl, ho⟩, hb3⟩
    have HB3 := Lib.hid (below_on HB2.out hb3)
    have hle : (([] : List It).filter fun u => false).length ≤ 1048576 := by simp
    obtain ⟨Aw, cw, rfl, -, -⟩ := ho.shape
    have HOw := Lib.hid ho
    clear ho hb3
    have hrd := OwnG.read (ctCells_len 0) HOw.out
    have HRd := Lib.hid hrd
    clear hrd
    go_wp2_with fail
    refine (ctIds w3 0 Aw _ cw _ HRd.out hle).mono ?_
    rintro e w4 ⟨⟨v, rfl, ho⟩, hb4⟩
    have HB4 := Lib.hid (below_on HB3.out hb4)
    have HI := Lib.hid (ownI_lower ho HB3.out.size)
    clear ho hb4 hle
    go_wp2
    go_ret
    exact ⟨⟨_, rfl, HI.out⟩, HB4.out⟩
end Go.Proofs.YtceiocdemhkcdaaGreat.num
namespace Go.Proofs.YtceiocdemhkcdaaGreat.num
set_option maxRecDepth 20000
open Go.RowKit
set_option linter.unusedVariables false
set_option linter.unusedSimpArgs false

theorem eqIntsW (w : World) (B : Nat) (A A' : Option Addr) (n n' c c' : Nat) (xs ys : List Int) (hx : Ints w B A n xs) (hy : Ints w B A' n' ys) (hn : n ≤ 4194304) (b : Bool) (hb : b = true ↔ xs = ys) :
    Calls Tryz.prog 41 #[.slice A n c, .slice A' n' c'] w fun e w' => e = .returned (.bool b) ∧ ∃ m, w' = w.drewN m := by
  have HX := Lib.hid hx
  have HY := Lib.hid hy
  by_cases hl : n = n'
  · subst hl
    have HB := Lib.hid hb
    clear hx hy hb
    go_enter Tryz.func41, Tryz.ntmps41
    go_wp2
    go_loopw [5] (fun i wr => ∃ k : Nat, k ≤ n ∧ i = .int .i64 k ∧ xs.take k = ys.take k ∧ ∃ m, wr = w.drewN m) (fun i _ => n - (intOf i).toNat)
    case atStart => exact ⟨0, Nat.zero_le _, rfl, rfl, 0, rfl⟩
    case round =>
      obtain ⟨k, hk, rfl, htake, m, rfl⟩ := hrel
      have HT := Lib.hid htake
      clear htake
      by_cases hlt : k < n
      · obtain ⟨b1, off1, rfl, hb1, hc1⟩ := HX.out.2 k hlt
        obtain ⟨b2, off2, rfl, hb2, hc2⟩ := HY.out.2 k hlt
        generalize hv1 : xs.getD k 0 = v1 at *
        generalize hv2 : ys.getD k 0 = v2 at *
        have HV1 := Lib.hid hv1
        have HV2 := Lib.hid hv2
        clear hv1 hv2
        have hlt' : (k : Int) < (n : Int) := by omega
        by_cases he : v1 = v2
        · subst he
          go_wp2
          go_quiet (fail)
          go_wp2
          go_roundw
          case rel => exact ⟨k + 1, by omega, by go_num, by rw [take_snoc_getD HX.out.1 hlt, take_snoc_getD HY.out.1 hlt, HT.out, HV1.out, HV2.out], _, rfl⟩
          case measure => simp [intOf]; omega
        · have hne : (v1 != v2) = true := by simpa using he
          have hxy : xs ≠ ys := ne_at (k := k) (by rw [HV1.out, HV2.out]; exact he)
          obtain rfl : b = false := by
            cases b
            · rfl
            · exact absurd (HB.out.1 rfl) hxy
          have HE := Lib.hid he
          clear he hxy
          go_wp2
          go_quiet (fail)
          go_wp2
          go_ret
          exact ⟨rfl, _, World.drewN_drewN _ _ _⟩
      · obtain rfl : k = n := by omega
        obtain rfl : b = true := HB.out.2 (by
          have h1 := HT.out
          rwa [List.take_of_length_le (by rw [HX.out.1]; exact Nat.le_refl _), List.take_of_length_le (by rw [HY.out.1]; exact Nat.le_refl _)] at h1)
        go_wp2
        go_ret
        exact ⟨rfl, _, rfl⟩
  · obtain rfl : b = false := by
      cases b
      · rfl
      · exact absurd (by rw [← hx.1, hb.1 rfl, hy.1]) hl
    clear hx hy hb
    go_enter Tryz.func41, Tryz.ntmps41
    go_wp2
    go_ret
    exact ⟨rfl, 0, rfl⟩
set_option maxRecDepth 20000 in
theorem markIW (w : World) (B : Nat) (v : Value) (l : List Int) (h : OwnI w B v l) (hn : l.length ≤ 4194304) (k0 : Nat) (hk0 : k0 ≤ 1152921504606846976) :
    Calls Tryz.prog 44 #[v, .int .i64 k0] w fun e w' => e = .returned (.int .i64 ((k0 + l.length : Nat) : Int)) ∧ OwnI w' B v (marks k0 l.length) ∧ OnlyV v w w' := by
  rcases ownI_row h with ⟨rfl, rfl⟩ | ⟨g, cap, f, rfl, hB, hle, hcap, hrow, hf⟩
  · go_enter Tryz.func44, Tryz.ntmps44
    go_wp2
    go_loopw [1, 5] (fun m i wr => i = .int .i64 0 ∧ m = .int .i64 k0 ∧ wr = w) (fun _ _ _ => 0)
    case atStart => exact ⟨rfl, rfl, rfl⟩
    case round =>
      obtain ⟨rfl, rfl, rfl⟩ := hrel
      go_wp2
      go_ret
      exact ⟨rfl, ownI_nil _ _, OnlyV.refl _ _⟩
  · obtain ⟨n, hn'⟩ : ∃ n, n = l.length := ⟨_, rfl⟩
    rw [← hn'] at hn hle hf ⊢
    clear h hn'
    have HW := Lib.hid hrow
    have hcap' : cap ≤ 9223372036854775807 := by unfold maxLen at hcap; omega
    have HF := Lib.hid hf
    have HCap := Lib.hid hcap
    clear hrow hf hcap
    go_enter Tryz.func44, Tryz.ntmps44
    go_wp2
    go_loopw [1, 5] (fun m i wr => ∃ k : Nat, k ≤ n ∧ i = .int .i64 k ∧ m = .int .i64 ((k0 + k : Nat) : Int) ∧ wr.rowIs g 3 cap (fun j => if j < k then .int .i64 ((k0 + j : Nat) : Int) else f j) ∧ OnlyV (.slice (some ⟨g, 0, none⟩) n cap) w wr) (fun _ i _ => n - (intOf i).toNat)
    case atStart => exact ⟨0, Nat.zero_le _, rfl, rfl, by simpa using HW.out, OnlyV.refl _ _⟩
    case round =>
      obtain ⟨k, hk, rfl, rfl, hrow, honly⟩ := hrel
      have HR := Lib.hid hrow
      have HO := Lib.hid honly
      by_cases hlt : k < n
      · have g1 : wr.cell? ⟨g, k, none⟩ = some (f k) := by rw [World.rowIs.cell hrow (by omega), if_neg (by omega)]
        have g3 := World.rowIs.frozen hrow k
        obtain ⟨m, hm⟩ : ∃ m : Nat, m = k0 + k := ⟨_, rfl⟩
        rw [← hm]
        have hm1 : m ≤ 4700000000000000000 := by omega
        have HM := Lib.hid hm
        clear hrow honly hm
        go_wp2
        go_roundw
        case rel =>
          refine ⟨k + 1, by omega, by go_num, ?_, (World.rowIs.set HR.out k (.int .i64 m)).congr (fun j _ => ?_), HO.out.set _ _⟩
          · have := HM.out; congr 1; omega
          · have := HM.out
            by_cases h1 : j = k
            · subst h1; rw [if_pos rfl, if_pos (by omega)]; congr 1; omega
            · by_cases h3 : j < k
              · rw [if_neg h1, if_pos h3, if_pos (by omega)]
              · rw [if_neg h1, if_neg h3, if_neg (by omega)]
        case measure => simp [intOf]; omega
      · obtain rfl : k = n := by omega
        obtain ⟨m, hm⟩ : ∃ m : Nat, m = k0 + k := ⟨_, rfl⟩
        rw [← hm]
        clear hrow honly
        have HM := Lib.hid hm
        clear hm
        go_wp2
        go_ret
        refine ⟨by show Ending.returned (.int .i64 (m : Int)) = _; rw [HM.out], ownI_of_row hB (marks_len _ _) hle HCap.out HR.out (fun j hj => ?_), HO.out⟩
        rw [marks_at hj, if_pos (by omega)]

set_option maxRecDepth 20000 in
theorem heldIW (w : World) (B : Nat) (v : Value) (k0 n : Nat) (h : OwnI w B v (marks k0 n)) (hn : n ≤ 4194304) (hk0 : k0 ≤ 1152921504606846976) :
    Calls Tryz.prog 45 #[v, .int .i64 k0] w fun e w' => e = .returned (.int .i64 ((k0 + n : Nat) : Int)) ∧ w = w' := by
  rcases ownI_row h with ⟨rfl, h0⟩ | ⟨g, cap, f, rfl, hB, hle, hcap, hrow, hf⟩
  · obtain rfl : n = 0 := by have := congrArg List.length h0; rwa [marks_len] at this
    go_enter Tryz.func45, Tryz.ntmps45
    go_wp2
    go_loopw [1, 5] (fun m i wr => i = .int .i64 0 ∧ m = .int .i64 k0 ∧ wr = w) (fun _ _ _ => 0)
    case atStart => exact ⟨rfl, rfl, rfl⟩
    case round =>
      obtain ⟨rfl, rfl, rfl⟩ := hrel
      go_wp2
      go_ret
      exact ⟨rfl, rfl⟩
  · rw [marks_len] at hle hf ⊢
    have HW := Lib.hid hrow
    have hcap' : cap ≤ 9223372036854775807 := by unfold maxLen at hcap; omega
    have HF : Hid (∀ j, j < n → f j = .int .i64 ((k0 + j : Nat) : Int)) := Lib.hid fun j hj => by
      have := hf j hj
      rw [marks_at hj] at this
      exact (Option.some.inj this).symm
    clear hrow hf hcap h
    go_enter Tryz.func45, Tryz.ntmps45
    go_wp2
    go_loopw [1, 5] (fun m i wr => ∃ k : Nat, k ≤ n ∧ i = .int .i64 k ∧ m = .int .i64 ((k0 + k : Nat) : Int) ∧ wr = w) (fun _ i _ => n - (intOf i).toNat)
    case atStart => exact ⟨0, Nat.zero_le _, rfl, rfl, rfl⟩
    case round =>
      obtain ⟨k, hk, rfl, rfl, rfl⟩ := hrel
      obtain ⟨m, hm⟩ : ∃ m : Nat, m = k0 + k := ⟨_, rfl⟩
      rw [← hm]
      have hm1 : m ≤ 4700000000000000000 := by omega
      have HM := Lib.hid hm
      by_cases hlt : k < n
      · have g1 : wr.cell? ⟨g, k, none⟩ = some (.int .i64 m) := by
          rw [World.rowIs.cell HW.out (by omega), HF.out _ (by omega), hm]
        clear hm
        go_wp2
        go_roundw
        case rel => exact ⟨k + 1, by omega, by go_num, by have := HM.out; congr 1; omega, by first | rfl | trivial⟩
        case measure => simp [intOf]; omega
      · obtain rfl : k = n := by omega
        clear hm
        go_wp2
        go_ret
        exact ⟨by show Ending.returned (.int .i64 (m : Int)) = _; rw [HM.out], rfl⟩
theorem ResI.eqW {w : World} {lo hi lo' hi' : Nat} {A A' : Option Addr} {n n' c c' : Nat} {l l' : List Int} (h1 : ResI w lo hi (.slice A n c) l) (h2 : ResI w lo' hi' (.slice A' n' c') l') (hn : l.length ≤ 4194304) (b : Bool) (hb : b = true ↔ l = l') :
    Calls Tryz.prog 41 #[.slice A n c, .slice A' n' c'] w fun e w' => e = .returned (.bool b) ∧ Below w.heap.size w w' := by
  have e1 := (ownI_at h1.own).1
  exact (eqIntsW w w.heap.size _ _ n n' c c' l l' (ownI_at h1.own) (ownI_at h2.own) (by omega) b hb).mono fun _ _ ⟨he, m, hm⟩ => ⟨he, hm ▸ below_drewN (Below.refl _ _) m⟩
theorem ResI.markW {w : World} {lo hi : Nat} {v : Value} {l : List Int} (h : ResI w lo hi v l) (hn : l.length ≤ 4194304) (z : Int) (k0 : Nat) (hz : z = (k0 : Int)) (hk0 : k0 ≤ 1152921504606846976) :
    Calls Tryz.prog 44 #[v, .int .i64 z] w fun e w' => e = .returned (.int .i64 ((k0 + l.length : Nat) : Int)) ∧ ResI w' lo hi v (marks k0 l.length) ∧ OnlyS (fun b => lo ≤ b ∧ b < hi) w w' := by
  subst hz
  refine (markIW w lo v l h.own hn k0 hk0).mono ?_
  rintro e w' ⟨rfl, h1, h2⟩
  exact ⟨rfl, ⟨h1, h.top, by rw [h2.size]; exact h.le⟩, h2.s fun b hb => ⟨ownI_lows h.own b hb, h.top b hb⟩⟩
theorem ResI.heldW {w : World} {lo hi : Nat} {v : Value} {n k0 : Nat} (h : ResI w lo hi v (marks k0 n)) (hn : n ≤ 4194304) (z : Int) (hz : z = (k0 : Int)) (hk0 : k0 ≤ 1152921504606846976) :
    Calls Tryz.prog 45 #[v, .int .i64 z] w fun e w' => e = .returned (.int .i64 ((k0 + n : Nat) : Int)) ∧ w = w' := by
  subst hz
  exact heldIW w lo v k0 n h.own hn hk0
theorem ResI.ints {w : World} {lo hi : Nat} {A : Option Addr} {n c : Nat} {l : List Int} (h : ResI w lo hi (.slice A n c) l) : Ints w w.heap.size A n l := ownI_at h.own
/-- toIntS: a copy of the law's own. -/
theorem toInts_r (w : World) (B : Nat) (A : Option Addr) (n c : Nat) (xs : List Int) (hi : Ints w B A n xs) (hB : B ≤ w.heap.size) (hn : n ≤ 1048576) :
    Calls Tryz.prog 112 #[.slice A n c] w fun e w' => (e = .returned (.slice (some ⟨w.heap.size, 0, none⟩) n n) ∧ ResI w' w.heap.size w'.heap.size (.slice (some ⟨w.heap.size, 0, none⟩) n n) xs) ∧ Below w.heap.size w w' := by
  refine (toInts w B A n c xs hi hB hn).mono ?_
  rintro e w' ⟨rfl, rfl⟩
  have hr := IntRow.made w xs w.heap.size rfl
  refine ⟨⟨rfl, ⟨?_, fun b hb => ?_, Nat.le_refl _⟩⟩, (Below.refl _ _).alloc (Nat.le_refl _) _⟩
  · have hl := hi.1
    refine ownI_of_row (Nat.le_refl _) hl (Nat.le_refl _) (by unfold maxLen; omega) (f := fun j => .int .i64 (xs.getD j 0)) ?_ fun j hj => ?_
    · have h2 := hr
      unfold IntRow at h2
      rwa [hl] at h2
    · rw [List.getElem?_map, List.getD_eq_getElem?_getD, List.getElem?_eq_getElem (by omega)]; rfl
  · have : w.heap.size = b := Option.some.inj hb
    rw [World.size_alloc]
    omega
section
variable {H : Type} {enc : TypeId × Value → H} {W : World}
open Go.ChangeShapes Go.WideShapes
theorem open_intsN {b0 : Nat} {v : Value} {d : DataW H} {p : List MemPlace} (hv : Value.okWide Tryz.prog W .any b0 29 v) (h : DataW.Trod enc Tryz.prog W 0 (fun _ => true) true 29 v d p) :
    ∃ A n c xs, v = .slice A n c ∧ n ≤ 9223372036854775807 ∧ Ints W W.heap.size A n xs := by
  obtain ⟨A, n, c, rfl⟩ := okWide_slice Tryz.underlying29 hv
  obtain ⟨fuel, hf⟩ := h
  rcases open_ints Tryz.underlying29 Tryz.underlying3 (by kernel_rfl) hf with ⟨hcs, _⟩ | ⟨x, l, c', zs, hcs, _, hl, hm, hz, _, hcell, hwz⟩
  · simp [Value.cells] at hcs
    obtain ⟨rfl, rfl, rfl⟩ := hcs
    exact ⟨none, 0, 0, [], rfl, by omega, rfl, fun k hk => absurd hk (Nat.not_lt_zero _)⟩
  · simp [Value.cells] at hcs
    obtain ⟨rfl, rfl, rfl⟩ := hcs
    have hz' : zs.length = c := by simpa using hz
    refine ⟨_, n, c, zs.take n, rfl, by unfold maxLen at hm; omega, by rw [List.length_take]; omega, fun k hk => ?_⟩
    have h0 := hcell k (by omega)
    obtain ⟨b, off, spot⟩ := x
    have hspot : spot = none := by
      have h00 := hcell 0 (by omega)
      have := World.cell?_spot h00
      simpa [Addr.add] using this
    subst hspot
    have e : (⟨b, off, none⟩ : Addr).add k = ⟨b, off + k, none⟩ := by unfold Addr.add; split <;> simp_all
    rw [e] at h0
    refine ⟨b, off, rfl, World.block_lt_of_cell? W _ h0, ?_⟩
    rw [h0, List.getD_eq_getElem?_getD, List.getD_eq_getElem?_getD, List.getElem?_take_of_lt hk]
end
end Go.Proofs.YtceiocdemhkcdaaGreat.num
namespace Go.Proofs.YtceiocdemhkcdaaGreat
set_option maxRecDepth 20000
open Go

theorem leaving_alone {P : Program} {last : Machine} {w : World} {t : Trace} (h : aloneAtReturn P last w t) : leavingAtReturn P last w t := by
  obtain ⟨⟨h1, h0⟩, h2, h3⟩ := h
  refine ⟨h2, ⟨fun g hg => ?_, h0⟩, h3⟩
  refine ⟨0, ?_⟩
  unfold Machine.othersDone at h1
  unfold Goroutine.LeavesIn
  have := List.all_eq_true.1 h1 g (by simpa using hg)
  simpa using this
theorem leaving_handed {a : Assume} {C : Checked} {os : Os} {f : FuncId} {r : Reach} {Pre : World → Array Value → Prop} {Post : World → Array Value → Value → World → Prop}
    (h : ReturnsInHanded a C os f r Pre Post) : ReturnsInLeavingWide a C os f r Pre Post := fun enter =>
  ReturnsInOpen.mono (fun _ _ _ x => leaving_alone x) (fun _ x => x) (h enter)
end Go.Proofs.YtceiocdemhkcdaaGreat
