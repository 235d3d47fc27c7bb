/- Contracts of functions that the laws of this chapter call, packed. -/
import Derived.Test.YtadjoiahllekdaaGreatDoorItemSpec
import Derived.Test.YtadjoiahllekdaaGreatDoorRegion
import Derived.Test.YtadjoiahllekdaaGreatDoorPtA
import Derived.Test.YtadjoiahllekdaaGreatDoorItemDraw
import Derived.Test.YtadjoiahllekdaaGreatDoorWishAny
import Derived.Test.YtadjoiahllekdaaGreatDoorPairDraw
import Derived.Test.YtadjoiahllekdaaGreatDoorPairLaw
import Derived.Test.YtadjoiahllekdaaGreatDoorDraw3
import Derived.Lib.ItoaNum
import Derived.Lib.Strings
import Derived.Test.YtadjoiahllekdaaGreatDoorProg
import Derived.WalkKit
import Derived.ProofKit
import Derived.Outline
import Derived.Laws.IdiomStrings
import Derived.Laws.Concat
import Derived.Lib.Hide
import Derived.Test.YtadjoiahllekdaaGreatDoorShelf
import Derived.Lib.LaidTab
import Derived.Lib.AppendIntMem
import Derived.Test.YtadjoiahllekdaaGreatDoorItemImpl
import Derived.Lib.Join
import Derived.Lib.SplitLaws
import Derived.Lib.IndexBytes
import Derived.Test.YtadjoiahllekdaaGreatDoorPairSpecC
import Derived.Test.YtadjoiahllekdaaGreatDoorItemOpen
import Derived.Deep.Strs
import Derived.LaidLaws
import Derived.Test.YtadjoiahllekdaaGreatDoorWishSpecB
import Derived.Test.YtadjoiahllekdaaGreatDoorWishSpecC
import Derived.Test.YtadjoiahllekdaaGreatDoorExpSpec
import Derived.Lib.OthersKept
import Derived.Lib.DecodeN
import Derived.WalkSpells
namespace Go.Proofs.YtadjoiahllekdaaGreatDoor.num
set_option maxRecDepth 20000
set_option maxRecDepth 20000
open Go.RowKit
set_option linter.unusedSimpArgs false

/-- The first k numbers rise. -/
def Rise (l : List Int) (k : Nat) : Prop := ∀ j, 0 < j → j < k → l.getD (j - 1) 0 < l.getD j 0
theorem Rise.zero (l : List Int) : Rise l 0 := fun j _ h => by omega
theorem Rise.step {l : List Int} {k : Nat} (h : Rise l k) (h1 : 0 < k → l.getD (k - 1) 0 < l.getD k 0) : Rise l (k + 1) := fun j h0 hj => by
  by_cases e : j = k
  · subst e; exact h1 h0
  · exact h j h0 (by omega)
/-- What makes a list of items. -/
def AreP (ds : List (Int × List Int)) : Prop := (∀ d ∈ ds, IsP d) ∧ Rise (ds.map (·.1)) ds.length ∧ ds.length ≤ 16
theorem id_at {its : List It} {k : Nat} {t : It} (h : its[k]? = some t) : ((its.map It.dat).map (·.1)).getD k 0 = t.id := by
  simp [List.getD_eq_getElem?_getD, h, It.dat]
theorem dat_mem {its : List It} {k : Nat} {t : It} (h : its[k]? = some t) : t.dat ∈ its.map It.dat := List.mem_map.2 ⟨t, mem_of_at h, rfl⟩

/-- IsItem in a world that still bears what held of w0 below its end. -/
theorem sIsItem_in (w0 w : World) (B : Nat) (t : It) (hi : Ints w0 B t.A t.n t.xs) (hB : B ≤ w0.heap.size) (hw : Below w0.heap.size w0 w) (hn : t.n ≤ 1048576) (b : Bool) (hb : b = true ↔ IsP t.dat) :
    Calls Tryz.prog 13 #[t.val] w fun e w' => e = .returned (.bool b) ∧ Below w0.heap.size w0 w' :=
  (sIsItem w B t (hi.below (hw.mono hB)) (Nat.le_trans hB hw.size) hn b hb).mono fun _ _ ⟨he, h⟩ => ⟨he, hw.trans (h.mono hw.size)⟩

theorem are_step {its : List It} {k : Nat} {t : It} (hat : its[k]? = some t) (h : ∀ u ∈ its.take k, IsP u.dat) (h1 : IsP t.dat) : ∀ u ∈ its.take (k + 1), IsP u.dat := by
  rw [take_at hat]
  intro u hu
  rcases List.mem_append.1 hu with h2 | h2
  · exact h u h2
  · obtain rfl := List.mem_singleton.1 h2
    exact h1

set_option maxRecDepth 20000 in
set_option maxHeartbeats 1600000 in
theorem sAre (w : World) (B : Nat) (A : Option Addr) (n c : Nat) (its : List It) (hi : Items w B A n its) (hB : B ≤ w.heap.size) (hn : n ≤ 1048576) (hN : ∀ t ∈ its, t.n ≤ 1048576) (b : Bool) (hb : b = true ↔ AreP (its.map It.dat)) :
    Calls Tryz.prog 35 #[.slice A n c] w fun e w' => e = .returned (.bool b) ∧ Below w.heap.size w w' := by
  have HX := Lib.hid hi
  have HN := Lib.hid hN
  have HBo := Lib.hid hb
  clear hi hN hb
  go_enter Tryz.func35, Tryz.ntmps35
  go_wp2
  go_loopw [3] (fun i wr => ∃ k : Nat, k ≤ n ∧ i = .int .i64 k ∧ (∀ t ∈ its.take k, IsP t.dat) ∧ Rise ((its.map It.dat).map (·.1)) k ∧ Below w.heap.size w wr) (fun i _ => n - (intOf i).toNat)
  case atStart => exact ⟨0, Nat.zero_le _, rfl, by simp, Rise.zero _, Below.refl _ _⟩
  case round =>
    obtain ⟨k, hk, rfl, hall, hrise, hbel⟩ := hrel
    have HA := Lib.hid hall
    have HR := Lib.hid hrise
    have HB := Lib.hid hbel
    clear hall hrise
    by_cases hlt : k < n
    · obtain ⟨b1, off, t, hA1, hb1, hat, hc1, hd1, hx⟩ := HX.out.at k hlt
      have f1 := (hbel.cell (p := ⟨b1, off + k * 2, none⟩) (by exact Nat.lt_of_lt_of_le hb1 hB)).trans hc1
      have f2 := (hbel.cell (p := ⟨b1, off + k * 2 + 1, none⟩) (by exact Nat.lt_of_lt_of_le hb1 hB)).trans hd1
      have HI := Lib.hid (hx.below (hbel.mono hB))
      have HAt := Lib.hid hat
      have htn := Lib.hid (HN.out t (mem_of_at hat))
      have hsz := Lib.hid hbel.size
      have hlt' : (k : Int) < (n : Int) := by omega
      obtain ⟨q, hq⟩ := bool_of (IsP t.dat)
      have HQ := Lib.hid hq
      clear hc1 hd1 hx hat hq
      cases q
      · have HF : Hid (b = false) := by
          show _ = _
          cases b
          · rfl
          · exact absurd ((HBo.out.1 rfl).1 _ (dat_mem HAt.out)) (fun h => by have := HQ.out.2 h; cases this)
        subst hA1
        clear hbel
        go_wp2
        have hs0 : Below wr.heap.size wr wr.drew ∧ wr.drew.cell? ⟨b1, off + k * 2, none⟩ = some (.int .i64 t.id) ∧ wr.drew.cell? ⟨b1, off + k * 2 + 1, none⟩ = some (.slice t.A t.n t.c) := ⟨(Below.refl _ _).drew, f1, f2⟩
        refine wp_region_held (S := fun w' => Below wr.heap.size wr w' ∧ w'.cell? ⟨b1, off + k * 2, none⟩ = some (.int .i64 t.id) ∧ w'.cell? ⟨b1, off + k * 2 + 1, none⟩ = some (.slice t.A t.n t.c)) (by kernel_rfl) ?_
        change wpAnyH _ _ _ _ _ _ _ _ (World.drew _)
        refine takeY 10 (i := 0) (v := ?v0a) rfl rfl (by kernel_rfl) (by kernel_rfl) (by kernel_rfl) (fun _ _ _ h => h) (by kernel_rfl) ?y0a hs0 ?_
        case y0a =>
          intro w' hw'; (try dsimp only at hw'); obtain ⟨e0, e1, e2⟩ := hw'; go_simp; try with_reducible rfl
        simp only [Act.put, List.setIfInBounds_toArray, List.set_cons_zero, List.set_cons_succ]
        refine takeY 11 (i := 1) (v := ?v1a) rfl rfl (by kernel_rfl) (by kernel_rfl) (by kernel_rfl) (fun _ _ _ h => h) (by kernel_rfl) ?y1a hs0 ?_
        case y1a =>
          intro w' hw'; (try dsimp only at hw'); obtain ⟨e0, e1, e2⟩ := hw'; go_simp; try with_reducible rfl
        simp only [Act.put, List.setIfInBounds_toArray, List.set_cons_zero, List.set_cons_succ]
        refine takeY 12 (i := 2) (v := ?v2a) rfl rfl (by kernel_rfl) (by kernel_rfl) (by kernel_rfl) (fun _ _ _ h => h) (by kernel_rfl) ?y2a hs0 ?_
        case y2a =>
          intro w' hw'; (try dsimp only at hw'); obtain ⟨e0, e1, e2⟩ := hw'; go_simp; try with_reducible rfl
        simp only [Act.put, List.setIfInBounds_toArray, List.set_cons_zero, List.set_cons_succ]
        refine takeY 13 (i := 3) (v := ?v3a) rfl rfl (by kernel_rfl) (by kernel_rfl) (by kernel_rfl) (fun _ _ _ h => h) (by kernel_rfl) ?y3a hs0 ?_
        case y3a =>
          intro w' hw'; (try dsimp only at hw'); obtain ⟨e0, e1, e2⟩ := hw'; go_simp; try with_reducible rfl
        simp only [Act.put, List.setIfInBounds_toArray, List.set_cons_zero, List.set_cons_succ]
        refine wpAnyH_ready (rs := [4]) (by kernel_rfl) (by simp) ?_
        refine AllReadyH.cons rfl (fun K hK => ?_) AllReadyH.nil
        go_simp; go_at_call 13; refine (sIsItem_in wr _ B t HI.out (Nat.le_trans hB hsz.out) (Below.refl _ _).drew htn.out false HQ.out).mono ?_; rintro e w3 ⟨rfl, hb3⟩
        refine hK.out _ _ ⟨hb3, (hb3.cell (p := ⟨b1, off + k * 2, none⟩) (by exact Nat.lt_of_lt_of_le hb1 (Nat.le_trans hB hsz.out))).trans f1, (hb3.cell (p := ⟨b1, off + k * 2 + 1, none⟩) (by exact Nat.lt_of_lt_of_le hb1 (Nat.le_trans hB hsz.out))).trans f2⟩ (fun hS1 => ?_)
        clear hK K
        try simp only [Act.put, List.setIfInBounds_toArray, List.set_cons_zero, List.set_cons_succ]
        refine takeY 15 (i := 5) (v := ?v5a) rfl rfl (by kernel_rfl) (by kernel_rfl) (by kernel_rfl) (fun _ _ _ h => h) (by kernel_rfl) ?y5a hS1 ?_
        case y5a =>
          intro w' hw'; (try dsimp only at hw'); obtain ⟨e0, e1, e2⟩ := hw'; go_simp; try with_reducible rfl
        simp only [Act.put, List.setIfInBounds_toArray, List.set_cons_zero, List.set_cons_succ]
        refine takeY 16 (i := 6) (v := ?v6a) rfl rfl (by kernel_rfl) (by kernel_rfl) (by kernel_rfl) (fun _ _ _ h => h) (by kernel_rfl) ?y6a hS1 ?_
        case y6a =>
          intro w' hw'; (try dsimp only at hw'); obtain ⟨e0, e1, e2⟩ := hw'; go_simp; try with_reducible rfl
        simp only [Act.put, List.setIfInBounds_toArray, List.set_cons_zero, List.set_cons_succ]
        refine takeU 17 (i := 7) rfl rfl (by kernel_rfl) (by kernel_rfl) (by kernel_rfl) (fun _ _ _ h => h) (by kernel_rfl) hS1 ?_
        simp only [Act.put, List.setIfInBounds_toArray, List.set_cons_zero, List.set_cons_succ]
        refine takeU 18 (i := 8) rfl rfl (by kernel_rfl) (by kernel_rfl) (by kernel_rfl) (fun _ _ _ h => h) (by kernel_rfl) hS1 ?_
        simp only [Act.put, List.setIfInBounds_toArray, List.set_cons_zero, List.set_cons_succ]
        refine takeU 19 (i := 9) rfl rfl (by kernel_rfl) (by kernel_rfl) (by kernel_rfl) (fun _ _ _ h => h) (by kernel_rfl) hS1 ?_
        simp only [Act.put, List.setIfInBounds_toArray, List.set_cons_zero, List.set_cons_succ]
        refine takeU 20 (i := 10) rfl rfl (by kernel_rfl) (by kernel_rfl) (by kernel_rfl) (fun _ _ _ h => h) (by kernel_rfl) hS1 ?_
        simp only [Act.put, List.setIfInBounds_toArray, List.set_cons_zero, List.set_cons_succ]
        refine takeU 21 (i := 11) rfl rfl (by kernel_rfl) (by kernel_rfl) (by kernel_rfl) (fun _ _ _ h => h) (by kernel_rfl) hS1 ?_
        simp only [Act.put, List.setIfInBounds_toArray, List.set_cons_zero, List.set_cons_succ]
        refine takeU 22 (i := 12) rfl rfl (by kernel_rfl) (by kernel_rfl) (by kernel_rfl) (fun _ _ _ h => h) (by kernel_rfl) hS1 ?_
        simp only [Act.put, List.setIfInBounds_toArray, List.set_cons_zero, List.set_cons_succ]
        refine takeU 23 (i := 13) rfl rfl (by kernel_rfl) (by kernel_rfl) (by kernel_rfl) (fun _ _ _ h => h) (by kernel_rfl) hS1 ?_
        simp only [Act.put, List.setIfInBounds_toArray, List.set_cons_zero, List.set_cons_succ]
        refine takeU 24 (i := 14) rfl rfl (by kernel_rfl) (by kernel_rfl) (by kernel_rfl) (fun _ _ _ h => h) (by kernel_rfl) hS1 ?_
        simp only [Act.put, List.setIfInBounds_toArray, List.set_cons_zero, List.set_cons_succ]
        refine takeU 25 (i := 15) rfl rfl (by kernel_rfl) (by kernel_rfl) (by kernel_rfl) (fun _ _ _ h => h) (by kernel_rfl) hS1 ?_
        simp only [Act.put, List.setIfInBounds_toArray, List.set_cons_zero, List.set_cons_succ]
        refine takeU 26 (i := 16) rfl rfl (by kernel_rfl) (by kernel_rfl) (by kernel_rfl) (fun _ _ _ h => h) (by kernel_rfl) hS1 ?_
        simp only [Act.put, List.setIfInBounds_toArray, List.set_cons_zero, List.set_cons_succ]
        refine takeU 27 (i := 17) rfl rfl (by kernel_rfl) (by kernel_rfl) (by kernel_rfl) (fun _ _ _ h => h) (by kernel_rfl) hS1 ?_
        simp only [Act.put, List.setIfInBounds_toArray, List.set_cons_zero, List.set_cons_succ]
        refine takeU 28 (i := 18) rfl rfl (by kernel_rfl) (by kernel_rfl) (by kernel_rfl) (fun _ _ _ h => h) (by kernel_rfl) hS1 ?_
        simp only [Act.put, List.setIfInBounds_toArray, List.set_cons_zero, List.set_cons_succ]
        refine takeU 29 (i := 19) rfl rfl (by kernel_rfl) (by kernel_rfl) (by kernel_rfl) (fun _ _ _ h => h) (by kernel_rfl) hS1 ?_
        simp only [Act.put, List.setIfInBounds_toArray, List.set_cons_zero, List.set_cons_succ]
        refine takeU 30 (i := 20) rfl rfl (by kernel_rfl) (by kernel_rfl) (by kernel_rfl) (fun _ _ _ h => h) (by kernel_rfl) hS1 ?_
        simp only [Act.put, List.setIfInBounds_toArray, List.set_cons_zero, List.set_cons_succ]
        refine takeU 31 (i := 21) rfl rfl (by kernel_rfl) (by kernel_rfl) (by kernel_rfl) (fun _ _ _ h => h) (by kernel_rfl) hS1 ?_
        simp only [Act.put, List.setIfInBounds_toArray, List.set_cons_zero, List.set_cons_succ]
        refine takeU 32 (i := 22) rfl rfl (by kernel_rfl) (by kernel_rfl) (by kernel_rfl) (fun _ _ _ h => h) (by kernel_rfl) hS1 ?_
        simp only [Act.put, List.setIfInBounds_toArray, List.set_cons_zero, List.set_cons_succ]
        refine takeY 33 (i := 23) (v := ?v23a) rfl rfl (by kernel_rfl) (by kernel_rfl) (by kernel_rfl) (fun _ _ _ h => h) (by kernel_rfl) ?y23a hS1 ?_
        case y23a =>
          intro w' hw'; (try dsimp only at hw'); obtain ⟨e0, e1, e2⟩ := hw'; go_simp; try with_reducible rfl
        simp only [Act.put, List.setIfInBounds_toArray, List.set_cons_zero, List.set_cons_succ]
        refine wpAnyH_done (by kernel_rfl) ?_ _
        go_wp2
        go_ret
        exact ⟨HF.out.symm ▸ rfl, HB.out.trans (hb3.mono hsz.out)⟩
      · have HD := Lib.hid (HQ.out.1 rfl)
        rcases Nat.eq_zero_or_pos k with h0 | h0
        · have HK := Lib.hid h0
          subst hA1
          clear hbel h0
          go_wp2
          have hk0 : decide (0 < k) = false := decide_eq_false (by have := HK.out; omega)
          have hs0 : Below wr.heap.size wr wr.drew ∧ wr.drew.cell? ⟨b1, off + k * 2, none⟩ = some (.int .i64 t.id) ∧ wr.drew.cell? ⟨b1, off + k * 2 + 1, none⟩ = some (.slice t.A t.n t.c) := ⟨(Below.refl _ _).drew, f1, f2⟩
          refine wp_region_held (S := fun w' => Below wr.heap.size wr w' ∧ w'.cell? ⟨b1, off + k * 2, none⟩ = some (.int .i64 t.id) ∧ w'.cell? ⟨b1, off + k * 2 + 1, none⟩ = some (.slice t.A t.n t.c)) (by kernel_rfl) ?_
          change wpAnyH _ _ _ _ _ _ _ _ (World.drew _)
          refine takeY 10 (i := 0) (v := ?v0b) rfl rfl (by kernel_rfl) (by kernel_rfl) (by kernel_rfl) (fun _ _ _ h => h) (by kernel_rfl) ?y0b hs0 ?_
          case y0b =>
            intro w' hw'; (try dsimp only at hw'); obtain ⟨e0, e1, e2⟩ := hw'; go_simp; try with_reducible rfl
          simp only [Act.put, List.setIfInBounds_toArray, List.set_cons_zero, List.set_cons_succ]
          refine takeY 11 (i := 1) (v := ?v1b) rfl rfl (by kernel_rfl) (by kernel_rfl) (by kernel_rfl) (fun _ _ _ h => h) (by kernel_rfl) ?y1b hs0 ?_
          case y1b =>
            intro w' hw'; (try dsimp only at hw'); obtain ⟨e0, e1, e2⟩ := hw'; go_simp; try with_reducible rfl
          simp only [Act.put, List.setIfInBounds_toArray, List.set_cons_zero, List.set_cons_succ]
          refine takeY 12 (i := 2) (v := ?v2b) rfl rfl (by kernel_rfl) (by kernel_rfl) (by kernel_rfl) (fun _ _ _ h => h) (by kernel_rfl) ?y2b hs0 ?_
          case y2b =>
            intro w' hw'; (try dsimp only at hw'); obtain ⟨e0, e1, e2⟩ := hw'; go_simp; try with_reducible rfl
          simp only [Act.put, List.setIfInBounds_toArray, List.set_cons_zero, List.set_cons_succ]
          refine takeY 13 (i := 3) (v := ?v3b) rfl rfl (by kernel_rfl) (by kernel_rfl) (by kernel_rfl) (fun _ _ _ h => h) (by kernel_rfl) ?y3b hs0 ?_
          case y3b =>
            intro w' hw'; (try dsimp only at hw'); obtain ⟨e0, e1, e2⟩ := hw'; go_simp; try with_reducible rfl
          simp only [Act.put, List.setIfInBounds_toArray, List.set_cons_zero, List.set_cons_succ]
          refine wpAnyH_ready (rs := [4]) (by kernel_rfl) (by simp) ?_
          refine AllReadyH.cons rfl (fun K hK => ?_) AllReadyH.nil
          go_simp; go_at_call 13; refine (sIsItem_in wr _ B t HI.out (Nat.le_trans hB hsz.out) (Below.refl _ _).drew htn.out true ⟨fun _ => HD.out, fun _ => rfl⟩).mono ?_; rintro e w3 ⟨rfl, hb3⟩
          refine hK.out _ _ ⟨hb3, (hb3.cell (p := ⟨b1, off + k * 2, none⟩) (by exact Nat.lt_of_lt_of_le hb1 (Nat.le_trans hB hsz.out))).trans f1, (hb3.cell (p := ⟨b1, off + k * 2 + 1, none⟩) (by exact Nat.lt_of_lt_of_le hb1 (Nat.le_trans hB hsz.out))).trans f2⟩ (fun hS1 => ?_)
          clear hK K
          try simp only [Act.put, List.setIfInBounds_toArray, List.set_cons_zero, List.set_cons_succ]
          refine takeY 15 (i := 5) (v := ?v5b) rfl rfl (by kernel_rfl) (by kernel_rfl) (by kernel_rfl) (fun _ _ _ h => h) (by kernel_rfl) ?y5b hS1 ?_
          case y5b =>
            intro w' hw'; (try dsimp only at hw'); obtain ⟨e0, e1, e2⟩ := hw'; go_simp; try with_reducible rfl
          simp only [Act.put, List.setIfInBounds_toArray, List.set_cons_zero, List.set_cons_succ]
          refine takeY 16 (i := 6) (v := ?v6b) rfl rfl (by kernel_rfl) (by kernel_rfl) (by kernel_rfl) (fun _ _ _ h => h) (by kernel_rfl) ?y6b hS1 ?_
          case y6b =>
            intro w' hw'; (try dsimp only at hw'); obtain ⟨e0, e1, e2⟩ := hw'; go_simp; try with_reducible rfl
          simp only [Act.put, List.setIfInBounds_toArray, List.set_cons_zero, List.set_cons_succ]
          refine takeY 17 (i := 7) (v := ?v7b) rfl rfl (by kernel_rfl) (by kernel_rfl) (by kernel_rfl) (fun _ _ _ h => h) (by kernel_rfl) ?y7b hS1 ?_
          case y7b =>
            intro w' hw'; (try dsimp only at hw'); obtain ⟨e0, e1, e2⟩ := hw'; go_simp; try with_reducible rfl
          simp only [Act.put, List.setIfInBounds_toArray, List.set_cons_zero, List.set_cons_succ]
          refine takeY 18 (i := 8) (v := ?v8b) rfl rfl (by kernel_rfl) (by kernel_rfl) (by kernel_rfl) (fun _ _ _ h => h) (by kernel_rfl) ?y8b hS1 ?_
          case y8b =>
            intro w' hw'; (try dsimp only at hw'); obtain ⟨e0, e1, e2⟩ := hw'; go_simp; try with_reducible rfl
          simp only [Act.put, List.setIfInBounds_toArray, List.set_cons_zero, List.set_cons_succ]
          refine takeY 19 (i := 9) (v := ?v9b) rfl rfl (by kernel_rfl) (by kernel_rfl) (by kernel_rfl) (fun _ _ _ h => h) (by kernel_rfl) ?y9b hS1 ?_
          case y9b =>
            intro w' hw'; (try dsimp only at hw'); obtain ⟨e0, e1, e2⟩ := hw'; go_simp; try with_reducible rfl
          simp only [Act.put, List.setIfInBounds_toArray, List.set_cons_zero, List.set_cons_succ]
          refine takeU 20 (i := 10) rfl rfl (by kernel_rfl) (by kernel_rfl) (by kernel_rfl) (fun _ _ _ h => h) (by kernel_rfl) hS1 ?_
          simp only [Act.put, List.setIfInBounds_toArray, List.set_cons_zero, List.set_cons_succ]
          refine takeU 21 (i := 11) rfl rfl (by kernel_rfl) (by kernel_rfl) (by kernel_rfl) (fun _ _ _ h => h) (by kernel_rfl) hS1 ?_
          simp only [Act.put, List.setIfInBounds_toArray, List.set_cons_zero, List.set_cons_succ]
          refine takeU 22 (i := 12) rfl rfl (by kernel_rfl) (by kernel_rfl) (by kernel_rfl) (fun _ _ _ h => h) (by kernel_rfl) hS1 ?_
          simp only [Act.put, List.setIfInBounds_toArray, List.set_cons_zero, List.set_cons_succ]
          refine takeU 23 (i := 13) rfl rfl (by kernel_rfl) (by kernel_rfl) (by kernel_rfl) (fun _ _ _ h => h) (by kernel_rfl) hS1 ?_
          simp only [Act.put, List.setIfInBounds_toArray, List.set_cons_zero, List.set_cons_succ]
          refine takeU 24 (i := 14) rfl rfl (by kernel_rfl) (by kernel_rfl) (by kernel_rfl) (fun _ _ _ h => h) (by kernel_rfl) hS1 ?_
          simp only [Act.put, List.setIfInBounds_toArray, List.set_cons_zero, List.set_cons_succ]
          refine takeU 25 (i := 15) rfl rfl (by kernel_rfl) (by kernel_rfl) (by kernel_rfl) (fun _ _ _ h => h) (by kernel_rfl) hS1 ?_
          simp only [Act.put, List.setIfInBounds_toArray, List.set_cons_zero, List.set_cons_succ]
          refine takeU 26 (i := 16) rfl rfl (by kernel_rfl) (by kernel_rfl) (by kernel_rfl) (fun _ _ _ h => h) (by kernel_rfl) hS1 ?_
          simp only [Act.put, List.setIfInBounds_toArray, List.set_cons_zero, List.set_cons_succ]
          refine takeU 27 (i := 17) rfl rfl (by kernel_rfl) (by kernel_rfl) (by kernel_rfl) (fun _ _ _ h => h) (by kernel_rfl) hS1 ?_
          simp only [Act.put, List.setIfInBounds_toArray, List.set_cons_zero, List.set_cons_succ]
          refine takeU 28 (i := 18) rfl rfl (by kernel_rfl) (by kernel_rfl) (by kernel_rfl) (fun _ _ _ h => h) (by kernel_rfl) hS1 ?_
          simp only [Act.put, List.setIfInBounds_toArray, List.set_cons_zero, List.set_cons_succ]
          refine takeU 29 (i := 19) rfl rfl (by kernel_rfl) (by kernel_rfl) (by kernel_rfl) (fun _ _ _ h => h) (by kernel_rfl) hS1 ?_
          simp only [Act.put, List.setIfInBounds_toArray, List.set_cons_zero, List.set_cons_succ]
          refine takeU 30 (i := 20) rfl rfl (by kernel_rfl) (by kernel_rfl) (by kernel_rfl) (fun _ _ _ h => h) (by kernel_rfl) hS1 ?_
          simp only [Act.put, List.setIfInBounds_toArray, List.set_cons_zero, List.set_cons_succ]
          refine takeU 31 (i := 21) rfl rfl (by kernel_rfl) (by kernel_rfl) (by kernel_rfl) (fun _ _ _ h => h) (by kernel_rfl) hS1 ?_
          simp only [Act.put, List.setIfInBounds_toArray, List.set_cons_zero, List.set_cons_succ]
          refine takeY 32 (i := 22) (v := ?v22b) rfl rfl (by kernel_rfl) (by kernel_rfl) (by kernel_rfl) (fun _ _ _ h => h) (by kernel_rfl) ?y22b hS1 ?_
          case y22b =>
            intro w' hw'; (try dsimp only at hw'); obtain ⟨e0, e1, e2⟩ := hw'; go_simp; try with_reducible rfl
          simp only [Act.put, List.setIfInBounds_toArray, List.set_cons_zero, List.set_cons_succ]
          refine takeY 33 (i := 23) (v := ?v23b) rfl rfl (by kernel_rfl) (by kernel_rfl) (by kernel_rfl) (fun _ _ _ h => h) (by kernel_rfl) ?y23b hS1 ?_
          case y23b =>
            intro w' hw'; (try dsimp only at hw'); obtain ⟨e0, e1, e2⟩ := hw'; go_simp; try with_reducible rfl
          simp only [Act.put, List.setIfInBounds_toArray, List.set_cons_zero, List.set_cons_succ]
          refine wpAnyH_done (by kernel_rfl) ?_ _
          clear hk0
          go_wp2
          go_roundw
          case rel => exact ⟨k + 1, by omega, by go_num, are_step HAt.out HA.out HD.out, HR.out.step (fun h0 => absurd h0 (by have := HK.out; omega)), HB.out.trans (hb3.mono hsz.out)⟩
          case measure => simp [intOf]; omega
        · obtain ⟨j, hj⟩ : ∃ j, j + 1 = k := ⟨k - 1, by omega⟩
          obtain ⟨b2, off2, t0, hA2, hb2, hat2, hc2, _, _⟩ := HX.out.at j (by omega)
          obtain ⟨rfl, rfl⟩ : b1 = b2 ∧ off = off2 := by rw [hA1] at hA2; injection hA2 with h; injection h with h1 h2; exact ⟨h1, h2⟩
          have f3 := (hbel.cell (p := ⟨b1, off + j * 2, none⟩) (by exact Nat.lt_of_lt_of_le hb1 hB)).trans hc2
          have HAt0 := Lib.hid hat2
          have HJ := Lib.hid hj
          have HK0 : Hid ((0 : Int) < (k : Int)) := by show _ < _; omega
          have hkj : (k : Int) - 1 = (j : Int) := by omega
          have hkw : IntKind.i64.wrap ((k : Int) - 1) = (j : Int) := by rw [hkj]; exact IntWalk.i64_in _ ⟨by omega, by omega⟩
          have hjw : IntKind.i64.wrap (j : Int) = (j : Int) := IntWalk.i64_in _ ⟨by omega, by omega⟩
          have hjn : (j : Int) < (n : Int) := by omega
          have hjn' : j < n := by omega
          subst hA1
          clear hbel h0 hj hc2 hat2 hA2
          have HLt : Hid (((its.map It.dat).map (·.1)).getD (k - 1) 0 = t0.id ∧ ((its.map It.dat).map (·.1)).getD k 0 = t.id) := by
            refine ⟨?_, id_at HAt.out⟩
            rw [show k - 1 = j by have := HJ.out; omega]
            exact id_at HAt0.out
          by_cases hle : t.id ≤ t0.id
          · have HF : Hid (b = false) := by
              show _ = _
              cases b
              · rfl
              · have hr := (HBo.out.1 rfl).2.1 k (by omega) (by rw [List.length_map, HX.out.1]; exact hlt)
                rw [HLt.out.1, HLt.out.2] at hr
                omega
            go_wp2
            have hk0 : decide (0 < k) = true := decide_eq_true (by have := HK0.out; omega)
            have hs0 : Below wr.heap.size wr wr.drew ∧ wr.drew.cell? ⟨b1, off + k * 2, none⟩ = some (.int .i64 t.id) ∧ wr.drew.cell? ⟨b1, off + k * 2 + 1, none⟩ = some (.slice t.A t.n t.c) ∧ wr.drew.cell? ⟨b1, off + j * 2, none⟩ = some (.int .i64 t0.id) := ⟨(Below.refl _ _).drew, f1, f2, f3⟩
            refine wp_region_held (S := fun w' => Below wr.heap.size wr w' ∧ w'.cell? ⟨b1, off + k * 2, none⟩ = some (.int .i64 t.id) ∧ w'.cell? ⟨b1, off + k * 2 + 1, none⟩ = some (.slice t.A t.n t.c) ∧ w'.cell? ⟨b1, off + j * 2, none⟩ = some (.int .i64 t0.id)) (by kernel_rfl) ?_
            change wpAnyH _ _ _ _ _ _ _ _ (World.drew _)
            refine takeY 10 (i := 0) (v := ?v0c) rfl rfl (by kernel_rfl) (by kernel_rfl) (by kernel_rfl) (fun _ _ _ h => h) (by kernel_rfl) ?y0c hs0 ?_
            case y0c =>
              intro w' hw'; (try dsimp only at hw'); obtain ⟨e0, e1, e2, e3⟩ := hw'; go_simp; try with_reducible rfl
            simp only [Act.put, List.setIfInBounds_toArray, List.set_cons_zero, List.set_cons_succ]
            refine takeY 11 (i := 1) (v := ?v1c) rfl rfl (by kernel_rfl) (by kernel_rfl) (by kernel_rfl) (fun _ _ _ h => h) (by kernel_rfl) ?y1c hs0 ?_
            case y1c =>
              intro w' hw'; (try dsimp only at hw'); obtain ⟨e0, e1, e2, e3⟩ := hw'; go_simp; try with_reducible rfl
            simp only [Act.put, List.setIfInBounds_toArray, List.set_cons_zero, List.set_cons_succ]
            refine takeY 12 (i := 2) (v := ?v2c) rfl rfl (by kernel_rfl) (by kernel_rfl) (by kernel_rfl) (fun _ _ _ h => h) (by kernel_rfl) ?y2c hs0 ?_
            case y2c =>
              intro w' hw'; (try dsimp only at hw'); obtain ⟨e0, e1, e2, e3⟩ := hw'; go_simp; try with_reducible rfl
            simp only [Act.put, List.setIfInBounds_toArray, List.set_cons_zero, List.set_cons_succ]
            refine takeY 13 (i := 3) (v := ?v3c) rfl rfl (by kernel_rfl) (by kernel_rfl) (by kernel_rfl) (fun _ _ _ h => h) (by kernel_rfl) ?y3c hs0 ?_
            case y3c =>
              intro w' hw'; (try dsimp only at hw'); obtain ⟨e0, e1, e2, e3⟩ := hw'; go_simp; try with_reducible rfl
            simp only [Act.put, List.setIfInBounds_toArray, List.set_cons_zero, List.set_cons_succ]
            refine wpAnyH_ready (rs := [4]) (by kernel_rfl) (by simp) ?_
            refine AllReadyH.cons rfl (fun K hK => ?_) AllReadyH.nil
            go_simp; go_at_call 13; refine (sIsItem_in wr _ B t HI.out (Nat.le_trans hB hsz.out) (Below.refl _ _).drew htn.out true ⟨fun _ => HD.out, fun _ => rfl⟩).mono ?_; rintro e w3 ⟨rfl, hb3⟩
            refine hK.out _ _ ⟨hb3, (hb3.cell (p := ⟨b1, off + k * 2, none⟩) (by exact Nat.lt_of_lt_of_le hb1 (Nat.le_trans hB hsz.out))).trans f1, (hb3.cell (p := ⟨b1, off + k * 2 + 1, none⟩) (by exact Nat.lt_of_lt_of_le hb1 (Nat.le_trans hB hsz.out))).trans f2, (hb3.cell (p := ⟨b1, off + j * 2, none⟩) (by exact Nat.lt_of_lt_of_le hb1 (Nat.le_trans hB hsz.out))).trans f3⟩ (fun hS1 => ?_)
            clear hK K
            try simp only [Act.put, List.setIfInBounds_toArray, List.set_cons_zero, List.set_cons_succ]
            refine takeY 15 (i := 5) (v := ?v5c) rfl rfl (by kernel_rfl) (by kernel_rfl) (by kernel_rfl) (fun _ _ _ h => h) (by kernel_rfl) ?y5c hS1 ?_
            case y5c =>
              intro w' hw'; (try dsimp only at hw'); obtain ⟨e0, e1, e2, e3⟩ := hw'; go_simp; try with_reducible rfl
            simp only [Act.put, List.setIfInBounds_toArray, List.set_cons_zero, List.set_cons_succ]
            refine takeY 16 (i := 6) (v := ?v6c) rfl rfl (by kernel_rfl) (by kernel_rfl) (by kernel_rfl) (fun _ _ _ h => h) (by kernel_rfl) ?y6c hS1 ?_
            case y6c =>
              intro w' hw'; (try dsimp only at hw'); obtain ⟨e0, e1, e2, e3⟩ := hw'; go_simp; try with_reducible rfl
            simp only [Act.put, List.setIfInBounds_toArray, List.set_cons_zero, List.set_cons_succ]
            refine takeY 17 (i := 7) (v := ?v7c) rfl rfl (by kernel_rfl) (by kernel_rfl) (by kernel_rfl) (fun _ _ _ h => h) (by kernel_rfl) ?y7c hS1 ?_
            case y7c =>
              intro w' hw'; (try dsimp only at hw'); obtain ⟨e0, e1, e2, e3⟩ := hw'; go_simp; try with_reducible rfl
            simp only [Act.put, List.setIfInBounds_toArray, List.set_cons_zero, List.set_cons_succ]
            refine takeY 18 (i := 8) (v := ?v8c) rfl rfl (by kernel_rfl) (by kernel_rfl) (by kernel_rfl) (fun _ _ _ h => h) (by kernel_rfl) ?y8c hS1 ?_
            case y8c =>
              intro w' hw'; (try dsimp only at hw'); obtain ⟨e0, e1, e2, e3⟩ := hw'; go_simp; try with_reducible rfl
            simp only [Act.put, List.setIfInBounds_toArray, List.set_cons_zero, List.set_cons_succ]
            refine takeY 19 (i := 9) (v := ?v9c) rfl rfl (by kernel_rfl) (by kernel_rfl) (by kernel_rfl) (fun _ _ _ h => h) (by kernel_rfl) ?y9c hS1 ?_
            case y9c =>
              intro w' hw'; (try dsimp only at hw'); obtain ⟨e0, e1, e2, e3⟩ := hw'; go_simp; try with_reducible rfl
            simp only [Act.put, List.setIfInBounds_toArray, List.set_cons_zero, List.set_cons_succ]
            refine takeY 20 (i := 10) (v := ?v10c) rfl rfl (by kernel_rfl) (by kernel_rfl) (by kernel_rfl) (fun _ _ _ h => h) (by kernel_rfl) ?y10c hS1 ?_
            case y10c =>
              intro w' hw'; (try dsimp only at hw'); obtain ⟨e0, e1, e2, e3⟩ := hw'; go_simp; try with_reducible rfl
            simp only [Act.put, List.setIfInBounds_toArray, List.set_cons_zero, List.set_cons_succ]
            refine takeY 21 (i := 11) (v := ?v11c) rfl rfl (by kernel_rfl) (by kernel_rfl) (by kernel_rfl) (fun _ _ _ h => h) (by kernel_rfl) ?y11c hS1 ?_
            case y11c =>
              intro w' hw'; (try dsimp only at hw'); obtain ⟨e0, e1, e2, e3⟩ := hw'; go_simp; try with_reducible rfl
            simp only [Act.put, List.setIfInBounds_toArray, List.set_cons_zero, List.set_cons_succ]
            refine takeY 22 (i := 12) (v := ?v12c) rfl rfl (by kernel_rfl) (by kernel_rfl) (by kernel_rfl) (fun _ _ _ h => h) (by kernel_rfl) ?y12c hS1 ?_
            case y12c =>
              intro w' hw'; (try dsimp only at hw'); obtain ⟨e0, e1, e2, e3⟩ := hw'; go_simp; try with_reducible rfl
            simp only [Act.put, List.setIfInBounds_toArray, List.set_cons_zero, List.set_cons_succ]
            refine takeY 23 (i := 13) (v := ?v13c) rfl rfl (by kernel_rfl) (by kernel_rfl) (by kernel_rfl) (fun _ _ _ h => h) (by kernel_rfl) ?y13c hS1 ?_
            case y13c =>
              intro w' hw'; (try dsimp only at hw'); obtain ⟨e0, e1, e2, e3⟩ := hw'; go_simp; try with_reducible rfl
            simp only [Act.put, List.setIfInBounds_toArray, List.set_cons_zero, List.set_cons_succ]
            refine takeY 24 (i := 14) (v := ?v14c) rfl rfl (by kernel_rfl) (by kernel_rfl) (by kernel_rfl) (fun _ _ _ h => h) (by kernel_rfl) ?y14c hS1 ?_
            case y14c =>
              intro w' hw'; (try dsimp only at hw'); obtain ⟨e0, e1, e2, e3⟩ := hw'; go_simp; try with_reducible rfl
            simp only [Act.put, List.setIfInBounds_toArray, List.set_cons_zero, List.set_cons_succ]
            refine takeY 25 (i := 15) (v := ?v15c) rfl rfl (by kernel_rfl) (by kernel_rfl) (by kernel_rfl) (fun _ _ _ h => h) (by kernel_rfl) ?y15c hS1 ?_
            case y15c =>
              intro w' hw'; (try dsimp only at hw'); obtain ⟨e0, e1, e2, e3⟩ := hw'; go_simp; try with_reducible rfl
            simp only [Act.put, List.setIfInBounds_toArray, List.set_cons_zero, List.set_cons_succ]
            refine takeY 26 (i := 16) (v := ?v16c) rfl rfl (by kernel_rfl) (by kernel_rfl) (by kernel_rfl) (fun _ _ _ h => h) (by kernel_rfl) ?y16c hS1 ?_
            case y16c =>
              intro w' hw'; (try dsimp only at hw'); obtain ⟨e0, e1, e2, e3⟩ := hw'; go_simp; try with_reducible rfl
            simp only [Act.put, List.setIfInBounds_toArray, List.set_cons_zero, List.set_cons_succ]
            refine takeY 27 (i := 17) (v := ?v17c) rfl rfl (by kernel_rfl) (by kernel_rfl) (by kernel_rfl) (fun _ _ _ h => h) (by kernel_rfl) ?y17c hS1 ?_
            case y17c =>
              intro w' hw'; (try dsimp only at hw'); obtain ⟨e0, e1, e2, e3⟩ := hw'; go_simp; try with_reducible rfl
            simp only [Act.put, List.setIfInBounds_toArray, List.set_cons_zero, List.set_cons_succ]
            refine takeY 28 (i := 18) (v := ?v18c) rfl rfl (by kernel_rfl) (by kernel_rfl) (by kernel_rfl) (fun _ _ _ h => h) (by kernel_rfl) ?y18c hS1 ?_
            case y18c =>
              intro w' hw'; (try dsimp only at hw'); obtain ⟨e0, e1, e2, e3⟩ := hw'; go_simp; try with_reducible rfl
            simp only [Act.put, List.setIfInBounds_toArray, List.set_cons_zero, List.set_cons_succ]
            refine takeY 29 (i := 19) (v := ?v19c) rfl rfl (by kernel_rfl) (by kernel_rfl) (by kernel_rfl) (fun _ _ _ h => h) (by kernel_rfl) ?y19c hS1 ?_
            case y19c =>
              intro w' hw'; (try dsimp only at hw'); obtain ⟨e0, e1, e2, e3⟩ := hw'; go_simp; try with_reducible rfl
            simp only [Act.put, List.setIfInBounds_toArray, List.set_cons_zero, List.set_cons_succ]
            refine takeY 30 (i := 20) (v := ?v20c) rfl rfl (by kernel_rfl) (by kernel_rfl) (by kernel_rfl) (fun _ _ _ h => h) (by kernel_rfl) ?y20c hS1 ?_
            case y20c =>
              intro w' hw'; (try dsimp only at hw'); obtain ⟨e0, e1, e2, e3⟩ := hw'; go_simp; try with_reducible rfl
            simp only [Act.put, List.setIfInBounds_toArray, List.set_cons_zero, List.set_cons_succ]
            refine takeY 31 (i := 21) (v := ?v21c) rfl rfl (by kernel_rfl) (by kernel_rfl) (by kernel_rfl) (fun _ _ _ h => h) (by kernel_rfl) ?y21c hS1 ?_
            case y21c =>
              intro w' hw'; (try dsimp only at hw'); obtain ⟨e0, e1, e2, e3⟩ := hw'; go_simp; try with_reducible rfl
            simp only [Act.put, List.setIfInBounds_toArray, List.set_cons_zero, List.set_cons_succ]
            refine takeY 32 (i := 22) (v := ?v22c) rfl rfl (by kernel_rfl) (by kernel_rfl) (by kernel_rfl) (fun _ _ _ h => h) (by kernel_rfl) ?y22c hS1 ?_
            case y22c =>
              intro w' hw'; (try dsimp only at hw'); obtain ⟨e0, e1, e2, e3⟩ := hw'; go_simp; try with_reducible rfl
            simp only [Act.put, List.setIfInBounds_toArray, List.set_cons_zero, List.set_cons_succ]
            refine takeY 33 (i := 23) (v := ?v23c) rfl rfl (by kernel_rfl) (by kernel_rfl) (by kernel_rfl) (fun _ _ _ h => h) (by kernel_rfl) ?y23c hS1 ?_
            case y23c =>
              intro w' hw'; (try dsimp only at hw'); obtain ⟨e0, e1, e2, e3⟩ := hw'; go_simp; try with_reducible rfl
            simp only [Act.put, List.setIfInBounds_toArray, List.set_cons_zero, List.set_cons_succ]
            refine wpAnyH_done (by kernel_rfl) ?_ _
            clear hk0
            go_wp2
            go_ret
            exact ⟨HF.out.symm ▸ rfl, HB.out.trans (hb3.mono hsz.out)⟩
          · go_wp2
            have hk0 : decide (0 < k) = true := decide_eq_true (by have := HK0.out; omega)
            have hs0 : Below wr.heap.size wr wr.drew ∧ wr.drew.cell? ⟨b1, off + k * 2, none⟩ = some (.int .i64 t.id) ∧ wr.drew.cell? ⟨b1, off + k * 2 + 1, none⟩ = some (.slice t.A t.n t.c) ∧ wr.drew.cell? ⟨b1, off + j * 2, none⟩ = some (.int .i64 t0.id) := ⟨(Below.refl _ _).drew, f1, f2, f3⟩
            refine wp_region_held (S := fun w' => Below wr.heap.size wr w' ∧ w'.cell? ⟨b1, off + k * 2, none⟩ = some (.int .i64 t.id) ∧ w'.cell? ⟨b1, off + k * 2 + 1, none⟩ = some (.slice t.A t.n t.c) ∧ w'.cell? ⟨b1, off + j * 2, none⟩ = some (.int .i64 t0.id)) (by kernel_rfl) ?_
            change wpAnyH _ _ _ _ _ _ _ _ (World.drew _)
            refine takeY 10 (i := 0) (v := ?v0d) rfl rfl (by kernel_rfl) (by kernel_rfl) (by kernel_rfl) (fun _ _ _ h => h) (by kernel_rfl) ?y0d hs0 ?_
            case y0d =>
              intro w' hw'; (try dsimp only at hw'); obtain ⟨e0, e1, e2, e3⟩ := hw'; go_simp; try with_reducible rfl
            simp only [Act.put, List.setIfInBounds_toArray, List.set_cons_zero, List.set_cons_succ]
            refine takeY 11 (i := 1) (v := ?v1d) rfl rfl (by kernel_rfl) (by kernel_rfl) (by kernel_rfl) (fun _ _ _ h => h) (by kernel_rfl) ?y1d hs0 ?_
            case y1d =>
              intro w' hw'; (try dsimp only at hw'); obtain ⟨e0, e1, e2, e3⟩ := hw'; go_simp; try with_reducible rfl
            simp only [Act.put, List.setIfInBounds_toArray, List.set_cons_zero, List.set_cons_succ]
            refine takeY 12 (i := 2) (v := ?v2d) rfl rfl (by kernel_rfl) (by kernel_rfl) (by kernel_rfl) (fun _ _ _ h => h) (by kernel_rfl) ?y2d hs0 ?_
            case y2d =>
              intro w' hw'; (try dsimp only at hw'); obtain ⟨e0, e1, e2, e3⟩ := hw'; go_simp; try with_reducible rfl
            simp only [Act.put, List.setIfInBounds_toArray, List.set_cons_zero, List.set_cons_succ]
            refine takeY 13 (i := 3) (v := ?v3d) rfl rfl (by kernel_rfl) (by kernel_rfl) (by kernel_rfl) (fun _ _ _ h => h) (by kernel_rfl) ?y3d hs0 ?_
            case y3d =>
              intro w' hw'; (try dsimp only at hw'); obtain ⟨e0, e1, e2, e3⟩ := hw'; go_simp; try with_reducible rfl
            simp only [Act.put, List.setIfInBounds_toArray, List.set_cons_zero, List.set_cons_succ]
            refine wpAnyH_ready (rs := [4]) (by kernel_rfl) (by simp) ?_
            refine AllReadyH.cons rfl (fun K hK => ?_) AllReadyH.nil
            go_simp; go_at_call 13; refine (sIsItem_in wr _ B t HI.out (Nat.le_trans hB hsz.out) (Below.refl _ _).drew htn.out true ⟨fun _ => HD.out, fun _ => rfl⟩).mono ?_; rintro e w3 ⟨rfl, hb3⟩
            refine hK.out _ _ ⟨hb3, (hb3.cell (p := ⟨b1, off + k * 2, none⟩) (by exact Nat.lt_of_lt_of_le hb1 (Nat.le_trans hB hsz.out))).trans f1, (hb3.cell (p := ⟨b1, off + k * 2 + 1, none⟩) (by exact Nat.lt_of_lt_of_le hb1 (Nat.le_trans hB hsz.out))).trans f2, (hb3.cell (p := ⟨b1, off + j * 2, none⟩) (by exact Nat.lt_of_lt_of_le hb1 (Nat.le_trans hB hsz.out))).trans f3⟩ (fun hS1 => ?_)
            clear hK K
            try simp only [Act.put, List.setIfInBounds_toArray, List.set_cons_zero, List.set_cons_succ]
            refine takeY 15 (i := 5) (v := ?v5d) rfl rfl (by kernel_rfl) (by kernel_rfl) (by kernel_rfl) (fun _ _ _ h => h) (by kernel_rfl) ?y5d hS1 ?_
            case y5d =>
              intro w' hw'; (try dsimp only at hw'); obtain ⟨e0, e1, e2, e3⟩ := hw'; go_simp; try with_reducible rfl
            simp only [Act.put, List.setIfInBounds_toArray, List.set_cons_zero, List.set_cons_succ]
            refine takeY 16 (i := 6) (v := ?v6d) rfl rfl (by kernel_rfl) (by kernel_rfl) (by kernel_rfl) (fun _ _ _ h => h) (by kernel_rfl) ?y6d hS1 ?_
            case y6d =>
              intro w' hw'; (try dsimp only at hw'); obtain ⟨e0, e1, e2, e3⟩ := hw'; go_simp; try with_reducible rfl
            simp only [Act.put, List.setIfInBounds_toArray, List.set_cons_zero, List.set_cons_succ]
            refine takeY 17 (i := 7) (v := ?v7d) rfl rfl (by kernel_rfl) (by kernel_rfl) (by kernel_rfl) (fun _ _ _ h => h) (by kernel_rfl) ?y7d hS1 ?_
            case y7d =>
              intro w' hw'; (try dsimp only at hw'); obtain ⟨e0, e1, e2, e3⟩ := hw'; go_simp; try with_reducible rfl
            simp only [Act.put, List.setIfInBounds_toArray, List.set_cons_zero, List.set_cons_succ]
            refine takeY 18 (i := 8) (v := ?v8d) rfl rfl (by kernel_rfl) (by kernel_rfl) (by kernel_rfl) (fun _ _ _ h => h) (by kernel_rfl) ?y8d hS1 ?_
            case y8d =>
              intro w' hw'; (try dsimp only at hw'); obtain ⟨e0, e1, e2, e3⟩ := hw'; go_simp; try with_reducible rfl
            simp only [Act.put, List.setIfInBounds_toArray, List.set_cons_zero, List.set_cons_succ]
            refine takeY 19 (i := 9) (v := ?v9d) rfl rfl (by kernel_rfl) (by kernel_rfl) (by kernel_rfl) (fun _ _ _ h => h) (by kernel_rfl) ?y9d hS1 ?_
            case y9d =>
              intro w' hw'; (try dsimp only at hw'); obtain ⟨e0, e1, e2, e3⟩ := hw'; go_simp; try with_reducible rfl
            simp only [Act.put, List.setIfInBounds_toArray, List.set_cons_zero, List.set_cons_succ]
            refine takeY 20 (i := 10) (v := ?v10d) rfl rfl (by kernel_rfl) (by kernel_rfl) (by kernel_rfl) (fun _ _ _ h => h) (by kernel_rfl) ?y10d hS1 ?_
            case y10d =>
              intro w' hw'; (try dsimp only at hw'); obtain ⟨e0, e1, e2, e3⟩ := hw'; go_simp; try with_reducible rfl
            simp only [Act.put, List.setIfInBounds_toArray, List.set_cons_zero, List.set_cons_succ]
            refine takeY 21 (i := 11) (v := ?v11d) rfl rfl (by kernel_rfl) (by kernel_rfl) (by kernel_rfl) (fun _ _ _ h => h) (by kernel_rfl) ?y11d hS1 ?_
            case y11d =>
              intro w' hw'; (try dsimp only at hw'); obtain ⟨e0, e1, e2, e3⟩ := hw'; go_simp; try with_reducible rfl
            simp only [Act.put, List.setIfInBounds_toArray, List.set_cons_zero, List.set_cons_succ]
            refine takeY 22 (i := 12) (v := ?v12d) rfl rfl (by kernel_rfl) (by kernel_rfl) (by kernel_rfl) (fun _ _ _ h => h) (by kernel_rfl) ?y12d hS1 ?_
            case y12d =>
              intro w' hw'; (try dsimp only at hw'); obtain ⟨e0, e1, e2, e3⟩ := hw'; go_simp; try with_reducible rfl
            simp only [Act.put, List.setIfInBounds_toArray, List.set_cons_zero, List.set_cons_succ]
            refine takeY 23 (i := 13) (v := ?v13d) rfl rfl (by kernel_rfl) (by kernel_rfl) (by kernel_rfl) (fun _ _ _ h => h) (by kernel_rfl) ?y13d hS1 ?_
            case y13d =>
              intro w' hw'; (try dsimp only at hw'); obtain ⟨e0, e1, e2, e3⟩ := hw'; go_simp; try with_reducible rfl
            simp only [Act.put, List.setIfInBounds_toArray, List.set_cons_zero, List.set_cons_succ]
            refine takeY 24 (i := 14) (v := ?v14d) rfl rfl (by kernel_rfl) (by kernel_rfl) (by kernel_rfl) (fun _ _ _ h => h) (by kernel_rfl) ?y14d hS1 ?_
            case y14d =>
              intro w' hw'; (try dsimp only at hw'); obtain ⟨e0, e1, e2, e3⟩ := hw'; go_simp; try with_reducible rfl
            simp only [Act.put, List.setIfInBounds_toArray, List.set_cons_zero, List.set_cons_succ]
            refine takeY 25 (i := 15) (v := ?v15d) rfl rfl (by kernel_rfl) (by kernel_rfl) (by kernel_rfl) (fun _ _ _ h => h) (by kernel_rfl) ?y15d hS1 ?_
            case y15d =>
              intro w' hw'; (try dsimp only at hw'); obtain ⟨e0, e1, e2, e3⟩ := hw'; go_simp; try with_reducible rfl
            simp only [Act.put, List.setIfInBounds_toArray, List.set_cons_zero, List.set_cons_succ]
            refine takeY 26 (i := 16) (v := ?v16d) rfl rfl (by kernel_rfl) (by kernel_rfl) (by kernel_rfl) (fun _ _ _ h => h) (by kernel_rfl) ?y16d hS1 ?_
            case y16d =>
              intro w' hw'; (try dsimp only at hw'); obtain ⟨e0, e1, e2, e3⟩ := hw'; go_simp; try with_reducible rfl
            simp only [Act.put, List.setIfInBounds_toArray, List.set_cons_zero, List.set_cons_succ]
            refine takeY 27 (i := 17) (v := ?v17d) rfl rfl (by kernel_rfl) (by kernel_rfl) (by kernel_rfl) (fun _ _ _ h => h) (by kernel_rfl) ?y17d hS1 ?_
            case y17d =>
              intro w' hw'; (try dsimp only at hw'); obtain ⟨e0, e1, e2, e3⟩ := hw'; go_simp; try with_reducible rfl
            simp only [Act.put, List.setIfInBounds_toArray, List.set_cons_zero, List.set_cons_succ]
            refine takeY 28 (i := 18) (v := ?v18d) rfl rfl (by kernel_rfl) (by kernel_rfl) (by kernel_rfl) (fun _ _ _ h => h) (by kernel_rfl) ?y18d hS1 ?_
            case y18d =>
              intro w' hw'; (try dsimp only at hw'); obtain ⟨e0, e1, e2, e3⟩ := hw'; go_simp; try with_reducible rfl
            simp only [Act.put, List.setIfInBounds_toArray, List.set_cons_zero, List.set_cons_succ]
            refine takeY 29 (i := 19) (v := ?v19d) rfl rfl (by kernel_rfl) (by kernel_rfl) (by kernel_rfl) (fun _ _ _ h => h) (by kernel_rfl) ?y19d hS1 ?_
            case y19d =>
              intro w' hw'; (try dsimp only at hw'); obtain ⟨e0, e1, e2, e3⟩ := hw'; go_simp; try with_reducible rfl
            simp only [Act.put, List.setIfInBounds_toArray, List.set_cons_zero, List.set_cons_succ]
            refine takeY 30 (i := 20) (v := ?v20d) rfl rfl (by kernel_rfl) (by kernel_rfl) (by kernel_rfl) (fun _ _ _ h => h) (by kernel_rfl) ?y20d hS1 ?_
            case y20d =>
              intro w' hw'; (try dsimp only at hw'); obtain ⟨e0, e1, e2, e3⟩ := hw'; go_simp; try with_reducible rfl
            simp only [Act.put, List.setIfInBounds_toArray, List.set_cons_zero, List.set_cons_succ]
            refine takeY 31 (i := 21) (v := ?v21d) rfl rfl (by kernel_rfl) (by kernel_rfl) (by kernel_rfl) (fun _ _ _ h => h) (by kernel_rfl) ?y21d hS1 ?_
            case y21d =>
              intro w' hw'; (try dsimp only at hw'); obtain ⟨e0, e1, e2, e3⟩ := hw'; go_simp; try with_reducible rfl
            simp only [Act.put, List.setIfInBounds_toArray, List.set_cons_zero, List.set_cons_succ]
            refine takeY 32 (i := 22) (v := ?v22d) rfl rfl (by kernel_rfl) (by kernel_rfl) (by kernel_rfl) (fun _ _ _ h => h) (by kernel_rfl) ?y22d hS1 ?_
            case y22d =>
              intro w' hw'; (try dsimp only at hw'); obtain ⟨e0, e1, e2, e3⟩ := hw'; go_simp; try with_reducible rfl
            simp only [Act.put, List.setIfInBounds_toArray, List.set_cons_zero, List.set_cons_succ]
            refine takeY 33 (i := 23) (v := ?v23d) rfl rfl (by kernel_rfl) (by kernel_rfl) (by kernel_rfl) (fun _ _ _ h => h) (by kernel_rfl) ?y23d hS1 ?_
            case y23d =>
              intro w' hw'; (try dsimp only at hw'); obtain ⟨e0, e1, e2, e3⟩ := hw'; go_simp; try with_reducible rfl
            simp only [Act.put, List.setIfInBounds_toArray, List.set_cons_zero, List.set_cons_succ]
            refine wpAnyH_done (by kernel_rfl) ?_ _
            clear hk0
            go_wp2
            go_roundw
            case rel => exact ⟨k + 1, by omega, by go_num, are_step HAt.out HA.out HD.out, HR.out.step (fun h0 => by rw [HLt.out.1, HLt.out.2]; omega), HB.out.trans (hb3.mono hsz.out)⟩
            case measure => simp [intOf]; omega
    · obtain rfl : k = n := by omega
      clear hbel
      obtain ⟨q, hq⟩ := bool_of (k ≤ 16)
      have hbq : Hid (b = q) := by
        show _ = _
        have h1 := HA.out
        rw [take_all HX.out.1] at h1
        rw [Bool.eq_iff_iff, HBo.out, hq]
        unfold AreP
        rw [List.length_map, HX.out.1]
        exact ⟨fun h => h.2.2, fun h => ⟨fun d hd => by obtain ⟨u, hu, rfl⟩ := List.mem_map.1 hd; exact h1 u hu, HR.out, h⟩⟩
      cases q
      · have hq' : ¬ ((k : Int) ≤ 16) := by have := mt hq.2 (by simp); omega
        clear hq
        go_wp2
        go_ret
        exact ⟨hbq.out.symm ▸ rfl, HB.out⟩
      · have hq' : (k : Int) ≤ 16 := by have := hq.1 rfl; omega
        clear hq
        go_wp2
        go_ret
        exact ⟨hbq.out.symm ▸ rfl, HB.out⟩
end Go.Proofs.YtadjoiahllekdaaGreatDoor.num
namespace Go.Proofs.YtadjoiahllekdaaGreatDoor.num
set_option maxRecDepth 20000
open Go.RowKit
set_option linter.unusedVariables false
set_option linter.unusedSimpArgs false

set_option maxRecDepth 20000 in
/-- A pick tells which numbers it picks from. -/
theorem pick_p (P : Int → Prop) (gl N : Nat) (hN : 0 < N) (hN2 : N ≤ 100) (w : World) (g : Nat) (a : Option Addr) (len cap : Nat) (hlen : len ≤ 1048576) (hc : Cur w g a len cap) (B : Nat) (hB : B ≤ g) (hrow : Row w B a len) (hl : ∀ k, k < N → ∃ z : Int, w.cell? ⟨gl, k, none⟩ = some (.int .i64 z) ∧ P z) (hne : gl ≠ g) :
    Calls Tryz.prog 92 #[.pointer (some ⟨g, 0, none⟩), .slice (some ⟨gl, 0, none⟩) N N] w (Out P w g a len cap) := by
  have HC := Lib.hid hc
  have HR := Lib.hid hrow
  have HL := Lib.hid hl
  clear hc hrow hl
  go_enter Tryz.func92, Tryz.ntmps92
  go_wp2_with fail
  refine (below_any _ (by omega) _ g a len cap hlen HC.out B hB HR.out).mono ?_
  rintro e w1 ⟨x1, rfl, hx, hc1, hg1⟩
  have hx2 := hx.2 (by omega)
  obtain ⟨r, rfl⟩ := Int.eq_ofNat_of_zero_le hx2.1
  have hrN : r < N := by omega
  obtain ⟨z, hz, hzI⟩ := HL.out r hrN
  have hz1 : w1.cell? ⟨gl, r, none⟩ = some (.int .i64 z) := by
    have hlt := World.block_lt_of_cell? w _ hz
    exact (World.cell?_of_block (hg1.block gl hlt (fun e => by injection e; omega))).trans hz
  have HC1 := Lib.hid hc1
  have HG1 := Lib.hid hg1
  have HZ := Lib.hid hzI
  clear hc1 hg1 hzI hz hx hx2
  go_wp2
  go_ret
  exact ⟨z, rfl, HZ.out, HC1.out, HG1.out⟩
def itemCells (t : It) : List Value := [.int .i64 t.id, .slice t.A t.n t.c]
theorem itemCells_len (t : It) : (itemCells t).length = 2 := rfl
theorem itemCells_one (t : It) : ∀ u ∈ itemCells t, u.oneCell' = true := by
  intro u hu
  simp only [itemCells, List.mem_cons, List.not_mem_nil, or_false] at hu
  rcases hu with rfl | rfl <;> rfl
theorem info_itemD : (Tryz.prog.info? 26).map (fun i => (i.zero, i.size, i.bytes)) = some (some (.agg #[.int .i64 0, .slice none 0 0]), 2, 32) := by kernel_rfl
/-- A slice of items that a draw filled. -/
structure DrI (w : World) (B : Nat) (v : Value) (its : List It) : Prop where
  r : OwnG 26 itemCells 2 w B v its
  x : ∀ t ∈ its, OwnI w B (.slice t.A t.n t.c) t.xs ∧ t.xs.length ≤ 4
  a : ∀ t ∈ its, ∀ b, (Value.slice t.A t.n t.c).ownBlock = some b → v.ownBlock ≠ some b
theorem DrI.blocks {w w' : World} {B : Nat} {v : Value} {its : List It} (h : DrI w B v its) (hb : ∀ b, B ≤ b → b < w.heap.size → w'.heap[b]? = w.heap[b]?) : DrI w' B v its :=
  ⟨h.r.blocks fun k hk => hb k (h.r.lows k hk) (h.r.tops k hk), fun t ht => ⟨ownI_blocks (h.x t ht).1 fun k hk => hb k (ownI_lows (h.x t ht).1 k hk) (ownI_tops (h.x t ht).1 k hk), (h.x t ht).2⟩, h.a⟩
theorem ownI_n {w : World} {B : Nat} {A : Option Addr} {n c : Nat} {l : List Int} (h : OwnI w B (.slice A n c) l) : n = l.length := by
  rcases h.2 with ⟨e, hl⟩ | ⟨g, cap, cur, e, _⟩ <;> (injection e with e1 e2 e3 <;> omega)
theorem DrI.items {w : World} {B : Nat} {A : Option Addr} {n c : Nat} {its : List It} (h : DrI w B (.slice A n c) its) : Items w w.heap.size A n its ∧ ∀ t ∈ its, t.n ≤ 1048576 := by
  have hr := h.r.read itemCells_len
  refine ⟨⟨hr.len, fun k hk => ?_⟩, fun t ht => by have := ownI_n (h.x t ht).1; have := (h.x t ht).2; omega⟩
  obtain ⟨b, off, e, hb, hc⟩ := hr.at' k its[k] (List.getElem?_eq_getElem hk)
  exact ⟨b, off, e, hb, hc 0 _ rfl, hc 1 _ rfl, ownI_at (h.x _ (List.getElem_mem hk)).1⟩
theorem DrI.snoc {w w' : World} {B N : Nat} {v v' : Value} {its : List It} {t : It} (h : DrI w B v its) (hg : w.grownBy w' v.ownBlock) (hat : v'.ownBlock = v.ownBlock ∨ v'.ownBlock = some N) (hN : w.heap.size ≤ N) (hr : OwnG 26 itemCells 2 w' B v' (its ++ [t])) (hx : OwnI w B (.slice t.A t.n t.c) t.xs ∧ t.xs.length ≤ 4) (ha : ∀ b, (Value.slice t.A t.n t.c).ownBlock = some b → v.ownBlock ≠ some b) : DrI w' B v' (its ++ [t]) := by
  have hall : ∀ x ∈ its ++ [t], (OwnI w B (.slice x.A x.n x.c) x.xs ∧ x.xs.length ≤ 4) ∧ ∀ b, (Value.slice x.A x.n x.c).ownBlock = some b → v.ownBlock ≠ some b := fun x hx' => by
    rcases List.mem_append.1 hx' with h1 | h1
    · exact ⟨h.x x h1, h.a x h1⟩
    · rw [List.mem_singleton.1 h1]; exact ⟨hx, ha⟩
  refine ⟨hr, fun x hx' => ⟨ownI_blocks (hall x hx').1.1 fun b hb => hg.block b (ownI_tops (hall x hx').1.1 b hb) fun e => (hall x hx').2 b hb e.symm, (hall x hx').1.2⟩, fun x hx' b hb e => ?_⟩
  rcases hat with q | q
  · exact (hall x hx').2 b hb (q ▸ e)
  · rw [q] at e
    have h1 := Option.some.inj e
    have h2 := ownI_tops (hall x hx').1.1 b hb
    omega
def OutIs (N : Nat) (w : World) (g : Nat) (a : Option Addr) (len cap : Nat) (e : Ending) (w' : World) : Prop :=
  ∃ v its, e = .returned v ∧ DrI w' w.heap.size v its ∧ its.length ≤ N ∧ Cur w' g a len cap ∧ w.grownBy w' (some g)
/-- One item behind those that were drawn. -/
theorem dri_app {w w0 w1 w2 : World} {g : Nat} {a : Option Addr} {len cap : Nat} {v v' : Value} {its : List It} {t : It} (h : DrI w1 w0.heap.size v its) (hx : OwnI w1 w0.heap.size (.slice t.A t.n t.c) t.xs ∧ t.xs.length ≤ 4) (ha : ∀ b, (Value.slice t.A t.n t.c).ownBlock = some b → v.ownBlock ≠ some b) (hga : w1.grownBy w2 v.ownBlock) (hat : v'.ownBlock = v.ownBlock ∨ v'.ownBlock = some (w1.heap.size + 1)) (hr : OwnG 26 itemCells 2 w2 w0.heap.size v' (its ++ [t]))
    (hc : Cur w1 g a len cap) (hg : w.grownBy w1 (some g)) (h0 : w.heap.size ≤ w0.heap.size) (hgl : g < w0.heap.size) (hw0 : w0.heap.size ≤ w1.heap.size) : DrI w2 w0.heap.size v' (its ++ [t]) ∧ Cur w2 g a len cap ∧ w.grownBy w2 (some g) := by
  have hb : Below w0.heap.size w1 w2 := (Below.refl _ w1).grown hga hw0 (fun k hk => h.r.lows k hk)
  exact ⟨h.snoc hga hat (by omega) hr hx ha, hc.kept (hb.block g hgl), grown_tail hg (hb.mono h0)⟩

set_option maxRecDepth 20000 in
set_option maxHeartbeats 3200000 in
theorem items_any (most : Nat) (hm : most ≤ 100) (w : World) (g : Nat) (a : Option Addr) (len cap : Nat) (hlen : len ≤ 1048576) (hc : Cur w g a len cap) (B : Nat) (hB : B ≤ g) (hrow : Row w B a len) :
    Calls Tryz.prog 119 #[.pointer (some ⟨g, 0, none⟩), .int .i64 most] w (OutIs most w g a len cap) := by
  have hgl := hc.lt
  have HR := Lib.hid hrow
  have HE : Hid (DrI (w.alloc (.cells #[] 26)) w.heap.size (.slice (some ⟨w.heap.size, 0, none⟩) 0 0) []) := Lib.hid ⟨OwnG.empty w _ (Nat.le_refl _), by simp, by simp⟩
  have HC0 : Hid (Cur (w.alloc (.cells #[] 26)) g a len cap) := Lib.hid (hc.kept (Below.heap_alloc _ _ _ hgl))
  have HG0 : Hid (w.grownBy (w.alloc (.cells #[] 26)) (some g)) := Lib.hid (World.grownBy_alloc w _ _)
  clear hc hrow
  have HCa : Hid (Cur ((w.alloc (.cells #[] 26)).alloc (.cells #[.int .i64 2, .int .i64 4, .int .i64 10] 3)) g a len cap) := Lib.hid (HC0.out.kept (Below.heap_alloc _ _ _ (by simp; omega)))
  have HGa : Hid (w.grownBy ((w.alloc (.cells #[] 26)).alloc (.cells #[.int .i64 2, .int .i64 4, .int .i64 10] 3)) (some g)) := Lib.hid (grown_alloc HG0.out _)
  have HEa : Hid (DrI ((w.alloc (.cells #[] 26)).alloc (.cells #[.int .i64 2, .int .i64 4, .int .i64 10] 3)) w.heap.size (.slice (some ⟨w.heap.size, 0, none⟩) 0 0) []) := Lib.hid (HE.out.blocks fun b _ hb => Below.heap_alloc _ _ _ hb)
  have HP := Lib.hid (pick_p (fun z => 0 < z ∧ z ≤ 1000) (w.alloc (.cells #[] 26)).heap.size 3 (by decide) (by decide) ((w.alloc (.cells #[] 26)).alloc (.cells #[.int .i64 2, .int .i64 4, .int .i64 10] 3)) g a len cap hlen HCa.out B hB (HR.out.below (grown_below HGa.out hB (by omega))) (fun k hk => by
    rcases (show k = 0 ∨ k = 1 ∨ k = 2 by omega) with rfl | rfl | rfl
    · exact ⟨2, World.cell?_alloc_at _ _ _ _ rfl, by decide, by decide⟩
    · exact ⟨4, World.cell?_alloc_at _ _ _ _ rfl, by decide, by decide⟩
    · exact ⟨10, World.cell?_alloc_at _ _ _ _ rfl, by decide, by decide⟩) (by simp; omega))
  rw [World.size_alloc] at HP
  have hmw : IntKind.i64.wrap ((most : Int) + 1) = (most : Int) + 1 := IntWalk.i64_in _ ⟨by omega, by omega⟩
  go_enter Tryz.func119, Tryz.ntmps119
  go_wp2_with fail
  refine HP.out.mono ?_
  rintro e w1 ⟨wide, rfl, ⟨hw0, hw1⟩, hc1, hg1⟩
  have HC1 := Lib.hid hc1
  have HG1 := Lib.hid (grown_trans HGa.out hg1)
  have HO1 : Hid (DrI w1 w.heap.size (.slice (some ⟨w.heap.size, 0, none⟩) 0 0) []) := Lib.hid (HEa.out.blocks fun b h1 h2 => hg1.block b h2 (fun e => by have := Option.some.inj e; omega))
  clear hc1 hg1 HP HE HC0 HG0 HCa HGa HEa
  go_wp2_with fail
  refine (below_any 3 (by omega) _ g a len cap hlen HC1.out B hB (HR.out.below (grown_below HG1.out hB (by omega)))).mono ?_
  rintro e w2 ⟨id, rfl, hid, hc2, hg2⟩
  obtain ⟨id0, id1⟩ := hid.2 (by omega)
  have HC2 := Lib.hid hc2
  have HG2 := Lib.hid (grown_trans HG1.out hg2)
  have HO2 : Hid (DrI w2 w.heap.size (.slice (some ⟨w.heap.size, 0, none⟩) 0 0) []) := Lib.hid (HO1.out.blocks fun b h1 h2 => hg2.block b h2 (fun e => by have := Option.some.inj e; omega))
  clear hid hc2 hg2
  go_wp2_with fail
  refine (below_any ((most : Int) + 1) (by omega) _ g a len cap hlen HC2.out B hB (HR.out.below (grown_below HG2.out hB (by omega)))).mono ?_
  rintro e w3 ⟨n, rfl, hn, hc3, hg3⟩
  obtain ⟨n0, n1⟩ := hn.2 (by omega)
  have HC3 := Lib.hid hc3
  have HG3 := Lib.hid (grown_trans HG2.out hg3)
  have HO3 : Hid (DrI w3 w.heap.size (.slice (some ⟨w.heap.size, 0, none⟩) 0 0) []) := Lib.hid (HO2.out.blocks fun b h1 h2 => hg3.block b h2 (fun e => by have := Option.some.inj e; omega))
  clear hn hc3 hg3
  go_wp2
  go_loopw [5, 7, 8] (fun v idv nv wr => ∃ (its : List It) (V : Value) (d m : Int), V = v ∧ idv = .int .i64 d ∧ nv = .int .i64 m ∧ 0 ≤ d ∧ d ≤ 3 + 2 * its.length ∧ 0 ≤ m ∧ m + its.length ≤ most ∧ DrI wr w.heap.size V its ∧ Cur wr g a len cap ∧ w.grownBy wr (some g)) (fun _ _ nv _ => (intOf nv).toNat)
  case atStart => exact ⟨[], _, id, n, rfl, rfl, rfl, id0, by simp; omega, n0, by simp; omega, HO3.out, HC3.out, HG3.out⟩
  case round =>
    obtain ⟨its, v, d, m, rfl, rfl, rfl, d0, d1, m0, m1, ho, hc, hg⟩ := hrel
    have HO := Lib.hid ho
    have HC := Lib.hid hc
    have HG := Lib.hid hg
    have hs : w.heap.size ≤ wr.heap.size := hg.size
    clear ho hc hg
    by_cases hpos : 0 < m
    · go_wp2_with fail
      refine (item_any d wide hw0 hw1 _ g a len cap hlen HC.out B hB (HR.out.below (grown_below HG.out hB (by omega)))).mono ?_
      rintro e w4 ⟨t, rfl, hot, t3, t4, hc4, hg4⟩
      have HC4 := Lib.hid hc4
      have HG4 := Lib.hid (grown_trans HG.out hg4)
      have HO4 : Hid (DrI w4 w.heap.size v its) := Lib.hid (HO.out.blocks fun b h1 h2 => hg4.block b h2 (fun e => by have := Option.some.inj e; omega))
      have hs4 : w.heap.size ≤ w4.heap.size := HG4.out.size
      have HT : Hid (OwnI w4 wr.heap.size (.slice t.A t.n t.c) t.xs ∧ t.xs.length ≤ 4) := Lib.hid ⟨hot, by omega⟩
      obtain ⟨v', w5, hr, hown, hga, hat⟩ := run_oneG itemCells_len itemCells_one (ty := 57) (c := 1) Tryz.underlying57 info_itemD rfl (by decide) (by decide) t (cs := #[.int .i64 t.id, .slice t.A t.n t.c]) rfl HO4.out.r rfl (by omega) hs4
      have HF := Lib.hid (dri_app HO4.out ⟨ownI_lowD HT.out.1 hs, HT.out.2⟩ (fun b h1 h2 => by
        have q1 := ownI_lows HT.out.1 b h1
        have q2 := HO.out.r.tops b h2
        omega) hga hat hown HC4.out HG4.out (Nat.le_refl _) hgl hs4)
      clear hot hc4 hg4 hown hga hat
      unfold It.val
      go_wp2_with (first | (at_builtin; refine Go.Lib.wpList_append_run_sl _ (by rfl) (.tmp 23) (.tmp 28) 57 (by rfl) _ _ (by rfl) (by rfl) hr ?_) | fail)
      refine (below_any 2 (by omega) _ g a len cap hlen HF.out.2.1 B hB (HR.out.below (grown_below HF.out.2.2 hB (by omega)))).mono ?_
      rintro e w6 ⟨u, rfl, hu, hc6, hg6⟩
      obtain ⟨u0, u1⟩ := hu.2 (by omega)
      have HC6 := Lib.hid hc6
      have HG6 := Lib.hid (grown_trans HF.out.2.2 hg6)
      have HO6 : Hid (DrI w6 w.heap.size v' (its ++ [t])) := Lib.hid (HF.out.1.blocks fun b h1 h2 => hg6.block b h2 (fun e => by have := Option.some.inj e; omega))
      have hw2 : IntKind.i64.wrap (d + 1) = d + 1 := IntWalk.i64_in _ ⟨by omega, by omega⟩
      have hw3 : IntKind.i64.wrap (d + 1 + u) = d + 1 + u := IntWalk.i64_in _ ⟨by omega, by omega⟩
      have hw4 : IntKind.i64.wrap (m - 1) = m - 1 := IntWalk.i64_in _ ⟨by omega, by omega⟩
      clear hu hc6 hg6 hr
      go_wp2
      go_roundw
      case rel => exact ⟨its ++ [t], _, d + 1 + u, m - 1, rfl, by first | rfl | go_num, by first | rfl | go_num, by omega, by rw [List.length_append]; simp; omega, by omega, by rw [List.length_append]; simp; omega, HO6.out, HC6.out, HG6.out⟩
      case measure => simp [intOf]; omega
    · have hd : decide (m > 0) = false := by simp; omega
      have hF : OutIs most w g a len cap (.returned v) wr := ⟨v, its, rfl, HO.out, by omega, HC.out, HG.out⟩
      have HF := Lib.hid hF
      have hm' : m = 0 := by omega
      subst hm'
      clear hF
      go_wp2
      go_ret
      exact HF.out

set_option maxRecDepth 20000 in
set_option maxHeartbeats 1600000 in
theorem any_items (w : World) (g : Nat) (a : Option Addr) (len cap : Nat) (hlen : len ≤ 1048576) (hc : Cur w g a len cap) (B : Nat) (hB : B ≤ g) (hrow : Row w B a len) :
    Calls Tryz.prog 81 #[.pointer (some ⟨g, 0, none⟩)] w (OutIs 8 w g a len cap) := by
  have hgl := hc.lt
  have HR := Lib.hid hrow
  have HI : Hid (Calls Tryz.prog 119 #[.pointer (some ⟨g, 0, none⟩), .int .i64 7] w (OutIs 7 w g a len cap)) := Lib.hid (items_any 7 (by decide) w g a len cap hlen hc B hB hrow)
  clear hc hrow
  go_enter Tryz.func81, Tryz.ntmps81
  go_wp2_with fail
  refine HI.out.mono ?_
  rintro e w1 ⟨v, its, rfl, ho, l1, hc1, hg1⟩
  have HO := Lib.hid ho
  have HC1 := Lib.hid hc1
  have HG1 := Lib.hid hg1
  have hs1 : w.heap.size ≤ w1.heap.size := hg1.size
  clear ho hc1 hg1 HI
  go_wp2_with fail
  refine (once_any 8 (by omega) _ g a len cap hlen HC1.out B hB (HR.out.below (grown_below HG1.out hB (by omega)))).mono ?_
  rintro e w2 ⟨q, rfl, hc2, hg2⟩
  have HC2 := Lib.hid hc2
  have HG2 := Lib.hid (grown_trans HG1.out hg2)
  have HO2 : Hid (DrI w2 w.heap.size v its) := Lib.hid (HO.out.blocks fun b h1 h2 => hg2.block b h2 (fun e => by have := Option.some.inj e; omega))
  have hs2 : w.heap.size ≤ w2.heap.size := HG2.out.size
  clear hc2 hg2
  cases q
  · have HF : Hid (OutIs 8 w g a len cap (.returned v) w2) := Lib.hid ⟨v, its, rfl, HO2.out, by omega, HC2.out, HG2.out⟩
    go_wp2
    go_ret
    exact HF.out
  · go_wp2_with fail
    refine (any_item _ g a len cap hlen HC2.out B hB (HR.out.below (grown_below HG2.out hB (by omega)))).mono ?_
    rintro e w3 ⟨t, rfl, hot, t3, t4, hc3, hg3⟩
    have HC3 := Lib.hid hc3
    have HG3 := Lib.hid (grown_trans HG2.out hg3)
    have HO3 : Hid (DrI w3 w.heap.size v its) := Lib.hid (HO2.out.blocks fun b h1 h2 => hg3.block b h2 (fun e => by have := Option.some.inj e; omega))
    have hs3 : w.heap.size ≤ w3.heap.size := HG3.out.size
    have HT : Hid (OwnI w3 w2.heap.size (.slice t.A t.n t.c) t.xs ∧ t.xs.length ≤ 4) := Lib.hid ⟨hot, t4⟩
    obtain ⟨v', w5, hr, hown, hga, hat⟩ := run_oneG itemCells_len itemCells_one (ty := 57) (c := 1) Tryz.underlying57 info_itemD rfl (by decide) (by decide) t (cs := #[.int .i64 t.id, .slice t.A t.n t.c]) rfl HO3.out.r rfl (by omega) hs3
    have HA := Lib.hid (dri_app HO3.out ⟨ownI_lowD HT.out.1 hs2, HT.out.2⟩ (fun b h1 h2 => by
      have q1 := ownI_lows HT.out.1 b h1
      have q2 := HO2.out.r.tops b h2
      omega) hga hat hown HC3.out HG3.out (Nat.le_refl _) hgl hs3)
    have HF : Hid (OutIs 8 w g a len cap (.returned v') w5) := Lib.hid ⟨v', _, rfl, HA.out.1, by rw [List.length_append]; simp; omega, HA.out.2.1, HA.out.2.2⟩
    clear hot hc3 hg3 hown hga hat
    unfold It.val
    go_wp2_with (at_builtin; refine Go.Lib.wpList_append_run_sl _ (by rfl) (.tmp 8) (.tmp 11) 57 (by rfl) _ _ (by rfl) (by rfl) hr ?_)
    clear hr
    go_wp2
    go_ret
    exact HF.out
theorem DrI.read {w : World} {B : Nat} {v : Value} {its : List It} (h : DrI w B v its) (h8 : its.length ≤ 8) : ∃ A n c, v = .slice A n c ∧ Items w w.heap.size A n its ∧ (∀ t ∈ its, t.n ≤ 1048576) ∧ n ≤ c ∧ c ≤ maxLen ∧ n ≤ 8 := by
  obtain ⟨A, c, rfl, h1, h2⟩ := h.r.shape
  exact ⟨A, _, c, rfl, h.items.1, h.items.2, h1, h2, h8⟩
end Go.Proofs.YtadjoiahllekdaaGreatDoor.num
namespace Go.Proofs.YtadjoiahllekdaaGreatDoor.num
set_option maxRecDepth 20000
open Go.RowKit
set_option linter.unusedVariables false
set_option linter.unusedSimpArgs false

theorem KeepN.less {lo lo' : Nat} {w : World} {A : Option Addr} {n : Nat} {ns : List Nd} (h : KeepN lo w A n ns) (hl : lo' ≤ lo) : KeepN lo' w A n ns := fun w'' h1 h2 => h w'' h1 fun b h3 h4 => h2 b (Nat.le_trans hl h3) h4
theorem KeepN.below {lo : Nat} {w w' : World} {A : Option Addr} {n : Nat} {ns : List Nd} (h : KeepN lo w A n ns) (hb : Below w.heap.size w w') : KeepN lo w' A n ns := h.step hb.size fun b _ h2 => hb.block b h2
theorem KeepN.grown {lo g : Nat} {w w' : World} {A : Option Addr} {n : Nat} {ns : List Nd} (h : KeepN lo w A n ns) (hg : w.grownBy w' (some g)) (hlo : g < lo) : KeepN lo w' A n ns := h.step hg.size fun b h1 h2 => hg.block b h2 (fun e => by have := Option.some.inj e; omega)
def TEx (w : World) (A : Option Addr) (n c : Nat) (ns : List Nd) : Prop := Nodes w w.heap.size A n ns ∧ n ≤ c ∧ c ≤ maxLen ∧ ShortN ns ∧ n ≤ 10
theorem five_setD {w : World} {g : Nat} {t : TypeId} {u0 u1 u2 u3 u4 v0 v1 v2 v3 v4 : Value} (h : w.heap[g]? = some (.cells #[u0, u1, u2, u3, u4] t (0, 0))) : (((((w.setCell ⟨g, 0, none⟩ v0).setCell ⟨g, 1, none⟩ v1).setCell ⟨g, 2, none⟩ v2).setCell ⟨g, 3, none⟩ v3).setCell ⟨g, 4, none⟩ v4).heap[g]? = some (.cells #[v0, v1, v2, v3, v4] t (0, 0)) := by
  have h := heap_setCell_same _ g 4 _ _ v4 (heap_setCell_same _ g 3 _ _ v3 (heap_setCell_same _ g 2 _ _ v2 (heap_setCell_same _ g 1 _ _ v1 (heap_setCell_same w g 0 _ _ v0 h))))
  simpa using h
set_option maxRecDepth 20000 in
theorem draw_item (w : World) (a : Option Addr) (len cap : Nat) (hlen : len ≤ 1048576) (hrow : Row w w.heap.size a len) :
    Calls Tryz.prog 6 #[.slice a len cap] w fun e w' => ∃ t : It, e = .returned t.val ∧ Ints w' w'.heap.size t.A t.n t.xs ∧ t.n ≤ 4 ∧ Below w.heap.size w w' := by
  have HR := Lib.hid hrow
  have HB0 : Hid (Below w.heap.size w (w.alloc (.cells #[.int .i64 0, .slice none 0 0] 26))) := Lib.hid ((Below.refl _ w).alloc (Nat.le_refl _) _)
  have HW0 : Hid ((w.alloc (.cells #[.int .i64 0, .slice none 0 0] 26)).heap[w.heap.size]? = some (.cells #[.int .i64 0, .slice none 0 0] 26 (0, 0))) := Lib.hid (heap_alloc_new w _)
  clear hrow
  go_enter Tryz.func6, Tryz.ntmps6
  go_wp2_with fail
  refine (new_any _ a len cap hlen w.heap.size (HR.out.below HB0.out)).mono ?_
  rintro e w1 ⟨g, rfl, hgw, hc1, hb1⟩
  have hg0 : w.heap.size < g := by rw [World.size_alloc] at hgw; omega
  have HC1 := Lib.hid hc1
  have HB1 := Lib.hid (below_on HB0.out hb1)
  have HW1 : Hid (w1.heap[w.heap.size]? = some (.cells #[.int .i64 0, .slice none 0 0] 26 (0, 0))) := Lib.hid ((hb1.block _ (by simp)).trans HW0.out)
  have hgl : g < w1.heap.size := hc1.lt
  clear hc1 hb1 hgw
  go_wp2_with fail
  refine (any_item w1 g a len cap hlen HC1.out w.heap.size (Nat.le_of_lt hg0) (HR.out.below HB1.out)).mono ?_
  rintro e w2 ⟨t, rfl, ho, h3, h4, hc2, hg2⟩
  have hl : t.n = t.xs.length := ownI_n ho
  have HB2 := Lib.hid (HB1.out.trans (grown_below hg2 (Nat.le_of_lt hg0) HB1.out.size))
  have HW2 : Hid (w2.heap[w.heap.size]? = some (.cells #[.int .i64 0, .slice none 0 0] 26 (0, 0))) := Lib.hid ((hg2.block _ (lt_of_block HW1.out) (fun e => by have := Option.some.inj e; omega)).trans HW1.out)
  have HO := Lib.hid ho
  have HN : Hid (t.n ≤ 4) := Lib.hid (by omega)
  have hw1 : w.heap.size < w1.heap.size := by omega
  have d0 : w2.cell? ⟨w.heap.size, 0, none⟩ = some (.int .i64 0) := cell_of_row w2 _ 0 _ _ (0, 0) HW2.out
  have d1 : w2.cell? ⟨w.heap.size, 1, none⟩ = some (.slice none 0 0) := cell_of_row w2 _ 1 _ _ (0, 0) HW2.out
  have g0 : w2.frozen? ⟨w.heap.size, 0, none⟩ = false := frozen_of_row w2 _ 0 _ _ HW2.out
  have g1 : w2.frozen? ⟨w.heap.size, 1, none⟩ = false := frozen_of_row w2 _ 1 _ _ HW2.out
  clear ho h3 h4 hc2 hg2 hl
  unfold It.val
  go_wp2
  refine bodyPost_ret_by (results_cell_row rfl _ _ w.heap.size 26 _ (0, 0) _ rfl (two_setD HW2.out) Tryz.underlying26 rfl (by kernel_rfl)) rfl ?_
  refine ⟨t, rfl, ownI_at (ownI_blocks HO.out fun k hk => ?_), HN.out, (HB2.out.setCell (Nat.le_refl _) _).setCell (Nat.le_refl _) _⟩
  have h1 := ownI_lows HO.out k hk
  exact (heap_setCell_other _ _ _ _ (by show k ≠ w.heap.size; omega)).trans (heap_setCell_other _ _ _ _ (by show k ≠ w.heap.size; omega))
set_option maxRecDepth 20000 in
theorem draw_pairs (w : World) (a : Option Addr) (len cap : Nat) (hlen : len ≤ 1048576) (hrow : Row w w.heap.size a len) :
    Calls Tryz.prog 9 #[.slice a len cap] w fun e w' => ∃ A n c ps, e = .returned (.slice A n c) ∧ Pairs w' w'.heap.size A n ps ∧ n ≤ 5 ∧ Below w.heap.size w w' := by
  have HR := Lib.hid hrow
  clear hrow
  go_enter Tryz.func9, Tryz.ntmps9
  go_wp2_with fail
  refine (new_any w a len cap hlen w.heap.size HR.out).mono ?_
  rintro e w1 ⟨g, rfl, hgw, hc1, hb1⟩
  have HC1 := Lib.hid hc1
  have HB1 := Lib.hid hb1
  clear hc1 hb1
  go_wp2_with fail
  refine (any_any w1 g a len cap hlen HC1.out w.heap.size hgw (HR.out.below HB1.out)).mono ?_
  rintro e w2 ⟨v, ps, rfl, ho, hl, hc2, hg2⟩
  have HB2 := Lib.hid (HB1.out.trans (grown_below hg2 hgw HB1.out.size))
  obtain ⟨A, n, c, rfl, hp⟩ := ho.pairs
  have HF := Lib.hid (And.intro (OwnP.at ho) (show n ≤ 5 by rw [← hp.1]; exact hl))
  clear ho hl hc2 hg2 hp
  go_wp2
  go_ret
  exact ⟨A, n, c, ps, rfl, HF.out.1, HF.out.2, HB2.out⟩
set_option maxRecDepth 20000 in
set_option maxHeartbeats 800000 in
theorem draw_wish (w : World) (a : Option Addr) (len cap : Nat) (hlen : len ≤ 1048576) (hrow : Row w w.heap.size a len) :
    Calls Tryz.prog 16 #[.slice a len cap] w fun e w' => ∃ t : Wi, e = .returned t.val ∧ WiIn w' w'.heap.size t ∧ t.Short ∧ Below w.heap.size w w' := by
  have HR := Lib.hid hrow
  have HB0 : Hid (Below w.heap.size w (w.alloc (.cells #[.int .i64 0, .int .i64 0, .int .i64 0, .slice none 0 0, .slice none 0 0] 39))) := Lib.hid ((Below.refl _ w).alloc (Nat.le_refl _) _)
  have HW0 : Hid ((w.alloc (.cells #[.int .i64 0, .int .i64 0, .int .i64 0, .slice none 0 0, .slice none 0 0] 39)).heap[w.heap.size]? = some (.cells #[.int .i64 0, .int .i64 0, .int .i64 0, .slice none 0 0, .slice none 0 0] 39 (0, 0))) := Lib.hid (heap_alloc_new w _)
  clear hrow
  go_enter Tryz.func16, Tryz.ntmps16
  go_wp2_with fail
  refine (new_any _ a len cap hlen w.heap.size (HR.out.below HB0.out)).mono ?_
  rintro e w1 ⟨g, rfl, hgw, hc1, hb1⟩
  have hg0 : w.heap.size < g := by rw [World.size_alloc] at hgw; omega
  have HC1 := Lib.hid hc1
  have HB1 := Lib.hid (below_on HB0.out hb1)
  have HW1 : Hid (w1.heap[w.heap.size]? = some (.cells #[.int .i64 0, .int .i64 0, .int .i64 0, .slice none 0 0, .slice none 0 0] 39 (0, 0))) := Lib.hid ((hb1.block _ (by simp)).trans HW0.out)
  have hgl : g < w1.heap.size := hc1.lt
  clear hc1 hb1 hgw
  go_wp2_with fail
  refine (any_wish w1 g a len cap hlen HC1.out w.heap.size (Nat.le_of_lt hg0) (HR.out.below HB1.out)).mono ?_
  rintro e w2 ⟨t, rfl, ho, h4, hc2, hg2⟩
  have HB2 := Lib.hid (HB1.out.trans (grown_below hg2 (Nat.le_of_lt hg0) HB1.out.size))
  have HW2 : Hid (w2.heap[w.heap.size]? = some (.cells #[.int .i64 0, .int .i64 0, .int .i64 0, .slice none 0 0, .slice none 0 0] 39 (0, 0))) := Lib.hid ((hg2.block _ (lt_of_block HW1.out) (fun e => by have := Option.some.inj e; omega)).trans HW1.out)
  have HO := Lib.hid ho
  have hw1 : w.heap.size < w1.heap.size := by omega
  have d0 : w2.cell? ⟨w.heap.size, 0, none⟩ = some (.int .i64 0) := cell_of_row w2 _ 0 _ _ (0, 0) HW2.out
  have d1 : w2.cell? ⟨w.heap.size, 1, none⟩ = some (.int .i64 0) := cell_of_row w2 _ 1 _ _ (0, 0) HW2.out
  have d2 : w2.cell? ⟨w.heap.size, 2, none⟩ = some (.int .i64 0) := cell_of_row w2 _ 2 _ _ (0, 0) HW2.out
  have d3 : w2.cell? ⟨w.heap.size, 3, none⟩ = some (.slice none 0 0) := cell_of_row w2 _ 3 _ _ (0, 0) HW2.out
  have d4 : w2.cell? ⟨w.heap.size, 4, none⟩ = some (.slice none 0 0) := cell_of_row w2 _ 4 _ _ (0, 0) HW2.out
  have g0 : w2.frozen? ⟨w.heap.size, 0, none⟩ = false := frozen_of_row w2 _ 0 _ _ HW2.out
  have g1 : w2.frozen? ⟨w.heap.size, 1, none⟩ = false := frozen_of_row w2 _ 1 _ _ HW2.out
  have g2 : w2.frozen? ⟨w.heap.size, 2, none⟩ = false := frozen_of_row w2 _ 2 _ _ HW2.out
  have g3 : w2.frozen? ⟨w.heap.size, 3, none⟩ = false := frozen_of_row w2 _ 3 _ _ HW2.out
  have g4 : w2.frozen? ⟨w.heap.size, 4, none⟩ = false := frozen_of_row w2 _ 4 _ _ HW2.out
  clear ho h4 hc2 hg2
  have hvw : t.val = .agg #[.int .i64 t.kind, .int .i64 t.field, .int .i64 t.value, .slice t.LA t.Ln t.Lc, .slice t.PA t.Pn t.Pc] := rfl
  rw [hvw]
  clear hvw
  go_wp2
  refine bodyPost_ret_by (results_cell_row rfl _ _ w.heap.size 39 _ (0, 0) _ rfl (five_setD HW2.out) Tryz.underlying39 rfl (by kernel_rfl)) rfl ?_
  have hk : WiOwn (((((w2.setCell ⟨w.heap.size, 0, none⟩ (.int .i64 t.kind)).setCell ⟨w.heap.size, 1, none⟩ (.int .i64 t.field)).setCell ⟨w.heap.size, 2, none⟩ (.int .i64 t.value)).setCell ⟨w.heap.size, 3, none⟩ (.slice t.LA t.Ln t.Lc)).setCell ⟨w.heap.size, 4, none⟩ (.slice t.PA t.Pn t.Pc)) w1.heap.size t := HO.out.keep fun b hb => by
    have h1 := (HO.out.has_in hb).1
    have hne : b ≠ w.heap.size := by omega
    exact (heap_setCell_other _ _ _ _ hne).trans ((heap_setCell_other _ _ _ _ hne).trans ((heap_setCell_other _ _ _ _ hne).trans ((heap_setCell_other _ _ _ _ hne).trans (heap_setCell_other _ _ _ _ hne))))
  exact ⟨t, rfl, hk.wi, hk.short, ((((HB2.out.setCell (Nat.le_refl _) _).setCell (Nat.le_refl _) _).setCell (Nat.le_refl _) _).setCell (Nat.le_refl _) _).setCell (Nat.le_refl _) _⟩
set_option maxRecDepth 20000 in
theorem draw_fexp (w : World) (a : Option Addr) (len cap : Nat) (hlen : len ≤ 1048576) (hrow : Row w w.heap.size a len) :
    Calls Tryz.prog 19 #[.slice a len cap] w fun e w' => ∃ A n c ns, e = .returned (.slice A n c) ∧ TEx w' A n c ns ∧ Below w.heap.size w w' := by
  have HR := Lib.hid hrow
  clear hrow
  go_enter Tryz.func19, Tryz.ntmps19
  go_wp2_with fail
  refine (new_any w a len cap hlen w.heap.size HR.out).mono ?_
  rintro e w1 ⟨g, rfl, hgw, hc1, hb1⟩
  have HC1 := Lib.hid hc1
  have HB1 := Lib.hid hb1
  clear hc1 hb1
  go_wp2_with fail
  refine (any_expression w1 g a len cap hlen HC1.out w.heap.size hgw (HR.out.below HB1.out)).mono ?_
  rintro e w2 ⟨A, n, c, ns, rfl, hK, q1, q2, q3, q4, hc2, hg2⟩
  have HF : Hid (TEx w2 A n c ns ∧ Below w.heap.size w w2) := Lib.hid ⟨⟨hK.now, q1, q2, q3, q4⟩, HB1.out.trans (grown_below hg2 hgw HB1.out.size)⟩
  clear hK q1 q2 q3 q4 hc2 hg2
  go_wp2
  go_ret
  exact ⟨A, n, c, ns, rfl, HF.out.1, HF.out.2⟩
set_option maxRecDepth 20000 in
set_option maxHeartbeats 800000 in
theorem draw_eqs (w : World) (a : Option Addr) (len cap : Nat) (hlen : len ≤ 1048576) (hrow : Row w w.heap.size a len) :
    Calls Tryz.prog 27 #[.slice a len cap] w fun e w' => ∃ A n c ns A' n' c' ns', e = .returned (.tuple #[.slice A n c, .slice A' n' c']) ∧ TEx w' A n c ns ∧ (Nodes w' w'.heap.size A' n' ns' ∧ ShortN ns' ∧ n' ≤ 10) ∧ Below w.heap.size w w' := by
  have HR := Lib.hid hrow
  clear hrow
  go_enter Tryz.func27, Tryz.ntmps27
  go_wp2_with fail
  refine (new_any w a len cap hlen w.heap.size HR.out).mono ?_
  rintro e w1 ⟨g, rfl, hgw, hc1, hb1⟩
  have HC1 := Lib.hid hc1
  have HB1 := Lib.hid hb1
  have hgl : g < w1.heap.size := hc1.lt
  clear hc1 hb1
  go_wp2_with fail
  refine (any_expression w1 g a len cap hlen HC1.out w.heap.size hgw (HR.out.below HB1.out)).mono ?_
  rintro e w2 ⟨A, n, c, ns, rfl, hK, q1, q2, q3, q4, hc2, hg2⟩
  have HQ := Lib.hid (And.intro q1 (And.intro q2 (And.intro q3 q4)))
  have HK2 := Lib.hid hK
  have HC2 := Lib.hid hc2
  have hs2 : w1.heap.size ≤ w2.heap.size := hg2.size
  have HB2 := Lib.hid (HB1.out.trans (grown_below hg2 hgw HB1.out.size))
  clear hK q1 q2 q3 q4 hc2 hg2
  go_wp2_with fail
  refine (once_any 2 (by omega) _ g a len cap hlen HC2.out w.heap.size hgw (HR.out.below HB2.out)).mono ?_
  rintro e w3 ⟨q, rfl, hc3, hg3⟩
  have HC3 := Lib.hid hc3
  have HK3 := Lib.hid (HK2.out.grown hg3 hgl)
  have HB3 := Lib.hid (HB2.out.trans (grown_below hg3 hgw HB2.out.size))
  clear hc3 hg3
  cases q
  · go_wp2_with fail
    refine (any_expression w3 g a len cap hlen HC3.out w.heap.size hgw (HR.out.below HB3.out)).mono ?_
    rintro e w4 ⟨A', n', c', ns', rfl, hK4, r1, r2, r3, r4, hc4, hg4⟩
    have HF : Hid (TEx w4 A n c ns ∧ (Nodes w4 w4.heap.size A' n' ns' ∧ ShortN ns' ∧ n' ≤ 10) ∧ Below w.heap.size w w4) := Lib.hid ⟨⟨(HK3.out.grown hg4 hgl).now, HQ.out.1, HQ.out.2.1, HQ.out.2.2.1, HQ.out.2.2.2⟩, ⟨hK4.now, r3, r4⟩, HB3.out.trans (grown_below hg4 hgw HB3.out.size)⟩
    clear hK4 r1 r2 r3 r4 hc4 hg4
    go_wp2
    go_ret2
    exact ⟨A, n, c, ns, A', n', c', ns', rfl, HF.out.1, HF.out.2.1, HF.out.2.2⟩
  · have hn10 := HQ.out.2.2.2
    go_wp2_with fail
    refine (sCopyN_c w3 w3.heap.size A n c ns HK3.out.now (Nat.le_refl _) (by omega) HQ.out.2.2.1).mono ?_
    rintro e w4 ⟨v, ns', rfl, hd, hs, ho, hb4⟩
    obtain ⟨A', c', rfl, -, -⟩ := ho.r.shape
    have hl : ns'.length ≤ 10 := by
      have h1 := congrArg List.length hd
      unfold datN at h1
      rw [List.length_map, List.length_map, HK3.out.now.len] at h1
      omega
    have HF : Hid (TEx w4 A n c ns ∧ (Nodes w4 w4.heap.size A' ns'.length ns' ∧ ShortN ns' ∧ ns'.length ≤ 10) ∧ Below w.heap.size w w4) := Lib.hid ⟨⟨(HK3.out.below hb4).now, HQ.out.1, HQ.out.2.1, HQ.out.2.2.1, HQ.out.2.2.2⟩, ⟨ho.nodes, hs, hl⟩, below_on HB3.out hb4⟩
    clear hd hs ho hb4 hl
    go_wp2
    go_ret2
    exact ⟨A, n, c, ns, A', _, c', ns', rfl, HF.out.1, HF.out.2.1, HF.out.2.2⟩
set_option maxRecDepth 20000 in
set_option maxHeartbeats 800000 in
theorem draw_join (w : World) (a : Option Addr) (len cap : Nat) (hlen : len ≤ 1048576) (hrow : Row w w.heap.size a len) :
    Calls Tryz.prog 28 #[.slice a len cap] w fun e w' => ∃ A n c ns A' n' c' ns', ∃ op : Int, e = .returned (.tuple #[.slice A n c, .slice A' n' c', .int .i64 op]) ∧ TEx w' A n c ns ∧ TEx w' A' n' c' ns' ∧ (-1 ≤ op ∧ op ≤ 5) ∧ Below w.heap.size w w' := by
  have HR := Lib.hid hrow
  clear hrow
  go_enter Tryz.func28, Tryz.ntmps28
  go_wp2_with fail
  refine (new_any w a len cap hlen w.heap.size HR.out).mono ?_
  rintro e w1 ⟨g, rfl, hgw, hc1, hb1⟩
  have HC1 := Lib.hid hc1
  have HB1 := Lib.hid hb1
  have hgl : g < w1.heap.size := hc1.lt
  clear hc1 hb1
  go_wp2_with fail
  refine (any_expression w1 g a len cap hlen HC1.out w.heap.size hgw (HR.out.below HB1.out)).mono ?_
  rintro e w2 ⟨A, n, c, ns, rfl, hK, q1, q2, q3, q4, hc2, hg2⟩
  have HQ := Lib.hid (And.intro q1 (And.intro q2 (And.intro q3 q4)))
  have HK2 := Lib.hid hK
  have HC2 := Lib.hid hc2
  have hs2 : w1.heap.size ≤ w2.heap.size := hg2.size
  have HB2 := Lib.hid (HB1.out.trans (grown_below hg2 hgw HB1.out.size))
  clear hK q1 q2 q3 q4 hc2 hg2
  go_wp2_with fail
  refine (any_expression w2 g a len cap hlen HC2.out w.heap.size hgw (HR.out.below HB2.out)).mono ?_
  rintro e w3 ⟨A', n', c', ns', rfl, hK3, r1, r2, r3, r4, hc3, hg3⟩
  have HQ2 := Lib.hid (And.intro r1 (And.intro r2 (And.intro r3 r4)))
  have HC3 := Lib.hid hc3
  have HK3 := Lib.hid (HK2.out.grown hg3 hgl)
  have HK3' := Lib.hid (hK3.less hs2)
  have HB3 := Lib.hid (HB2.out.trans (grown_below hg3 hgw HB2.out.size))
  clear hK3 r1 r2 r3 r4 hc3 hg3
  go_wp2_with fail
  refine (below_any 6 (by omega) w3 g a len cap hlen HC3.out w.heap.size hgw (HR.out.below HB3.out)).mono ?_
  rintro e w4 ⟨u, rfl, hu, hc4, hg4⟩
  obtain ⟨hu0, hu1⟩ := hu.2 (by omega)
  have HF : Hid (TEx w4 A n c ns ∧ TEx w4 A' n' c' ns' ∧ (-1 ≤ u - 1 ∧ u - 1 ≤ 5) ∧ Below w.heap.size w w4) := Lib.hid ⟨⟨(HK3.out.grown hg4 hgl).now, HQ.out.1, HQ.out.2.1, HQ.out.2.2.1, HQ.out.2.2.2⟩, ⟨(HK3'.out.grown hg4 hgl).now, HQ2.out.1, HQ2.out.2.1, HQ2.out.2.2.1, HQ2.out.2.2.2⟩, by omega, HB3.out.trans (grown_below hg4 hgw HB3.out.size)⟩
  clear hu hc4 hg4
  go_wp2
  go_ret3
  exact ⟨A, n, c, ns, A', n', c', ns', _, rfl, HF.out.1, HF.out.2.1, HF.out.2.2.1, HF.out.2.2.2⟩
set_option maxRecDepth 20000 in
theorem draw_fitems (w : World) (a : Option Addr) (len cap : Nat) (hlen : len ≤ 1048576) (hrow : Row w w.heap.size a len) :
    Calls Tryz.prog 31 #[.slice a len cap] w fun e w' => ∃ A n c its, e = .returned (.slice A n c) ∧ (Items w' w'.heap.size A n its ∧ (∀ t ∈ its, t.n ≤ 1048576) ∧ n ≤ c ∧ c ≤ maxLen ∧ n ≤ 8) ∧ Below w.heap.size w w' := by
  have HR := Lib.hid hrow
  clear hrow
  go_enter Tryz.func31, Tryz.ntmps31
  go_wp2_with fail
  refine (new_any w a len cap hlen w.heap.size HR.out).mono ?_
  rintro e w1 ⟨g, rfl, hgw, hc1, hb1⟩
  have HC1 := Lib.hid hc1
  have HB1 := Lib.hid hb1
  clear hc1 hb1
  go_wp2_with fail
  refine (any_items w1 g a len cap hlen HC1.out w.heap.size hgw (HR.out.below HB1.out)).mono ?_
  rintro e w2 ⟨v, its, rfl, ho, hl, hc2, hg2⟩
  obtain ⟨A, n, c, rfl, hI⟩ := ho.read hl
  have HF := Lib.hid (And.intro hI (HB1.out.trans (grown_below hg2 hgw HB1.out.size)))
  clear ho hc2 hg2 hI
  go_wp2
  go_ret
  exact ⟨A, n, c, its, rfl, HF.out.1, HF.out.2⟩
end Go.Proofs.YtadjoiahllekdaaGreatDoor.num
namespace Go.Proofs.YtadjoiahllekdaaGreatDoor.num
set_option maxRecDepth 20000

theorem take_snoc (s : ByteArray) (k : Nat) (h : k < s.size) : s.data.toList.take (k + 1) = s.data.toList.take k ++ [s[k]] := by
  rw [List.take_succ_eq_append_getElem (by simpa using h)]; rfl
end Go.Proofs.YtadjoiahllekdaaGreatDoor.num
namespace Go.Proofs.YtadjoiahllekdaaGreatDoor.num
set_option maxRecDepth 20000
open Go

def isD (b : UInt8) : Bool := decide (48 ≤ b.toNat ∧ b.toNat ≤ 57)
def dstep (n : Nat) (b : UInt8) : Nat := if isD b then 10 * n + (b.toNat - 48) else n
def scanV (l : List UInt8) : Nat := l.foldl dstep 0
def dash (l : List UInt8) : Bool := l.head? == some 45
def dgs (l : List UInt8) : List UInt8 := if dash l then l.tail else l
theorem scanV_snoc (l : List UInt8) (b : UInt8) : scanV (l ++ [b]) = dstep (scanV l) b := by simp [scanV, List.foldl_append]
theorem scanV_lt (k : Nat) : ∀ l : List UInt8, l.length ≤ k → scanV l < 10 ^ k := by
  induction k with
  | zero =>
    intro l h
    obtain rfl : l = [] := List.eq_nil_of_length_eq_zero (by omega)
    simp [scanV]
  | succ k ih =>
    intro l h
    rcases l.eq_nil_or_concat with rfl | ⟨l', b, rfl⟩
    · have h1 : 10 ^ 0 ≤ 10 ^ (k + 1) := Nat.pow_le_pow_right (by decide) (Nat.zero_le _)
      have h2 : (10 : Nat) ^ 0 = 1 := by decide
      show 0 < 10 ^ (k + 1)
      omega
    · rw [List.concat_eq_append] at h ⊢
      have h1 := ih l' (by simp at h; omega)
      rw [scanV_snoc, Nat.pow_succ]
      unfold dstep
      split
      · rename_i hd
        have : b.toNat ≤ 57 := (of_decide_eq_true hd).2
        omega
      · omega
theorem scanV_le9 (l : List UInt8) (h : l.length ≤ 9) : scanV l ≤ 999999999 := by
  have := scanV_lt 9 l h
  have e : (10 : Nat) ^ 9 = 1000000000 := by decide
  omega
theorem dec_all (u : Nat) : (Lib.decDigits u).all isD = true := by
  induction u using Nat.strongRecOn with
  | _ u ih =>
    rw [Lib.decDigits]
    split
    · simp [isD]; omega
    · rw [List.all_append, ih (u / 10) (by omega)]
      simp [isD]; omega
theorem dec_dash (u : Nat) : dash (Lib.decDigits u) = false := by
  have h := dec_all u
  cases hl : Lib.decDigits u with
  | nil => rfl
  | cons b l =>
    rw [hl] at h
    simp only [List.all_cons, Bool.and_eq_true] at h
    have hb := h.1
    unfold dash
    simp only [List.head?_cons]
    rw [beq_eq_false_iff_ne]
    intro e
    injection e with e
    subst e
    simp [isD] at hb
theorem dgs_itoa (m : Int) : dgs (Lib.itoa m) = Lib.decDigits m.natAbs := by
  unfold Lib.itoa
  split
  · simp [dgs, dash]
  · have e : m.toNat = m.natAbs := by omega
    rw [e, dgs, dec_dash]; rfl
theorem dash_itoa (m : Int) : dash (Lib.itoa m) = decide (m < 0) := by
  unfold Lib.itoa
  split
  · rename_i h; simp [dash, h]
  · rename_i h; rw [dec_dash]; simp [h]
theorem scanV_dec (u : Nat) : scanV (Lib.decDigits u) = u := by
  induction u using Nat.strongRecOn with
  | _ u ih =>
    rw [Lib.decDigits]
    split
    · rename_i h
      have e : (UInt8.ofNat (48 + u)).toNat = 48 + u := by simp; omega
      simp only [scanV, List.foldl_cons, List.foldl_nil, dstep, isD, e]
      rw [if_pos (by simp; omega)]; omega
    · have e : (UInt8.ofNat (48 + u % 10)).toNat = 48 + u % 10 := by simp; omega
      rw [scanV_snoc, ih (u / 10) (by omega), dstep, isD, e]
      rw [if_pos (by simp; omega)]; omega
theorem dec_len (k u : Nat) : (Lib.decDigits u).length ≤ k + 1 ↔ u < 10 ^ (k + 1) := by
  induction k generalizing u with
  | zero =>
    rw [Lib.decDigits]
    split
    · simp; assumption
    · rename_i h
      constructor
      · intro h2
        rw [Lib.decDigits] at h2
        split at h2 <;> simp at h2
      · intro h2; simp at h2; omega
  | succ k ih =>
    rw [Lib.decDigits]
    split
    · rename_i h
      have : 10 ^ 1 ≤ 10 ^ (k + 1 + 1) := Nat.pow_le_pow_right (by decide) (by omega)
      constructor
      · intro; omega
      · intro; simp
    · rw [List.length_append, List.length_singleton]
      have h1 := ih (u / 10)
      rw [Nat.pow_succ]
      constructor
      · intro h2
        have := h1.1 (by omega)
        omega
      · intro h2
        have := h1.2 (Nat.div_lt_of_lt_mul (by omega))
        omega

/-- The number with its sign. -/
def signed (l : List UInt8) (v : Nat) : Int := if dash l then -(v : Int) else (v : Int)
def pOk (l : List UInt8) : Bool := decide ((dgs l).length ≤ 9 ∧ (dgs l).all isD = true ∧ Lib.itoa (signed l (scanV (dgs l))) = l)
def pVal (l : List UInt8) : Int := if pOk l then signed l (scanV (dgs l)) else 0
/-- The program's tests. -/
theorem pOk_p1 (l : List UInt8) (h : ¬ ((dgs l).length ≤ 9 ∧ (dgs l).all isD = true)) : pOk l = false ∧ pVal l = 0 := by
  have hok : pOk l = false := decide_eq_false fun ⟨h1, h2, _⟩ => h ⟨h1, h2⟩
  exact ⟨hok, by rw [pVal, hok]; rfl⟩
theorem pOk_p2 (l : List UInt8) (h1 : (dgs l).length ≤ 9) (h2 : (dgs l).all isD = true) (b : Bool) (hb : b = true ↔ Lib.itoa (signed l (scanV (dgs l))) = l) :
    pOk l = b ∧ pVal l = if b then signed l (scanV (dgs l)) else 0 := by
  have hok : pOk l = b := by
    cases b
    · exact decide_eq_false fun ⟨_, _, h3⟩ => by have := hb.2 h3; cases this
    · exact decide_eq_true ⟨h1, h2, hb.1 rfl⟩
  exact ⟨hok, by rw [pVal, hok]⟩
/-- What is read back of a number's own text. -/
theorem pOk_itoa (m : Int) : pOk (Lib.itoa m) = decide (-1000000000 < m ∧ m < 1000000000) ∧ (pOk (Lib.itoa m) = true → pVal (Lib.itoa m) = m) := by
  have hs : signed (Lib.itoa m) (scanV (dgs (Lib.itoa m))) = m := by
    unfold signed
    rw [dash_itoa, dgs_itoa, scanV_dec]
    by_cases h : m < 0
    · simp [h]; omega
    · simp [h]; omega
  have hl := dec_len 8 m.natAbs
  have e : (10 : Nat) ^ (8 + 1) = 1000000000 := by decide
  rw [e] at hl
  have hok : pOk (Lib.itoa m) = decide (-1000000000 < m ∧ m < 1000000000) := by
    unfold pOk
    rw [hs, dgs_itoa]
    rw [Bool.eq_iff_iff]
    simp only [decide_eq_true_eq, dec_all, and_true]
    constructor
    · intro h; have := hl.1 h; omega
    · intro h; exact hl.2 (by omega)
  refine ⟨hok, fun h => ?_⟩
  rw [pVal, if_pos h, hs]
theorem hasDash (l : List UInt8) : Lib.hasPrefix l [45] = dash l := by
  cases l with
  | nil => rfl
  | cons b l =>
    simp only [Lib.hasPrefix, dash, List.isPrefixOf, List.head?_cons, Bool.and_true]
    by_cases h : b = 45
    · subst h; rfl
    · have h1 : ((45 : UInt8) == b) = false := by rw [beq_eq_false_iff_ne]; exact fun e => h e.symm
      have h2 : (some b == some (45 : UInt8)) = false := by
        rw [beq_eq_false_iff_ne]
        intro e
        injection e with e
        exact h e
      rw [h1, h2]
theorem trimDash (l : List UInt8) : Lib.trimPrefix l [45] = dgs l := by
  unfold Lib.trimPrefix dgs
  rw [hasDash]
  cases l <;> rfl
end Go.Proofs.YtadjoiahllekdaaGreatDoor.num
namespace Go.Proofs.YtadjoiahllekdaaGreatDoor.num
set_option maxRecDepth 20000
open Go.RowKit

end Go.Proofs.YtadjoiahllekdaaGreatDoor.num
namespace Go.Proofs.YtadjoiahllekdaaGreatDoor.num
set_option maxRecDepth 20000
open Go.RowKit

theorem cons_bytes (b : UInt8) (l : List UInt8) : (ByteArray.mk #[b]) ++ ByteArray.mk l.toArray = ByteArray.mk (b :: l).toArray :=
  ByteArray.mk_append_mk [b] l

/-- The string of a slice of one new byte. -/
theorem one_byte {P : Program} (w : World) (src dst e : TypeId) (hs : P.underlying src = some (.slice e)) (he : P.underlying e = some (.int .u8)) (hd : P.underlying dst = some .string) (x : Int) (b : UInt8) (hx : x = (b.toNat : Int)) :
    (convert src dst (.slice (some ⟨w.heap.size, 0, none⟩) 1 1)).run P (w.alloc (.cells #[.int .u8 x] e)) = .ok (.string ⟨#[b]⟩) (w.alloc (.cells #[.int .u8 x] e)) :=
  run_convert_bytes_back _ src dst e ⟨w.heap.size, 0, none⟩ 1 [b] hs he hd (fun j hj => by
    obtain rfl : j = 0 := by simpa using hj
    subst hx
    simp [Addr.add])

end Go.Proofs.YtadjoiahllekdaaGreatDoor.num
namespace Go.Proofs.YtadjoiahllekdaaGreatDoor.num
set_option maxRecDepth 20000
open Go.RowKit

/-- The library's table of powers of ten holds them. -/
def Pow (w : World) : Prop := Lib.TabIs Tryz.prog w "internal/strconv.uint64pow10" .u64 Lib.pow10Tab
theorem gPow : Tryz.prog.globalNamed "internal/strconv.uint64pow10" = some 3 := by kernel_rfl
theorem Pow.below {w w' : World} (h : Pow w) (hb : Below w.heap.size w w') : Pow w' := by
  unfold Pow Lib.TabIs World.var? at h ⊢
  rw [gPow] at h ⊢
  simp only [Option.bind_some] at h ⊢
  have hlt : 3 < w.heap.size := by
    rcases Nat.lt_or_ge 3 w.heap.size with h' | h'
    · exact h'
    · rw [Array.getElem?_eq_none h'] at h; cases h
  rw [hb.block _ hlt]; exact h

def fmtB (n : Int) : ByteArray := ⟨(Lib.itoa n).toArray⟩

theorem iFormat (n : Int) (h0 : -9223372036854775808 ≤ n) (h1 : n ≤ 9223372036854775807) (w : World) (hp : Pow w) :
    Calls Tryz.prog 46 #[.int .i64 n] w fun e w' => e = .returned (.string (fmtB n)) ∧ Below w.heap.size w w' := by
  go_enter Tryz.func46, Tryz.ntmps46
  go_wp2_with fail
  refine (Tryz.strconv_Itoa n h0 h1 _ hp).mono ?_
  rintro e w1 ⟨rfl, k, os, rfl⟩
  go_wp2
  go_ret
  exact ⟨rfl, Lib.below_grow _ w (Nat.le_refl _) k os⟩

def digB (q : Nat) : UInt8 := UInt8.ofNat (48 + q)
theorem digB_toNat (q : Nat) (h : q ≤ 9) : (digB q).toNat = 48 + q := by simp [digB]; omega
/-- The digits of u, none for 0. -/
def dec0 (u : Nat) : List UInt8 := if u = 0 then [] else Lib.decDigits u
theorem dec0_step (u : Nat) (h : 0 < u) : dec0 u = dec0 (u / 10) ++ [digB (u % 10)] := by
  unfold dec0
  rw [if_neg (by omega), Lib.decDigits]
  by_cases h10 : u < 10
  · rw [dif_pos h10, if_pos (by omega)]
    have : u % 10 = u := by omega
    simp only [List.nil_append, digB, this]
  · rw [dif_neg h10, if_neg (by omega)]; rfl
theorem dec0_len (k u : Nat) (h : u < 10 ^ k) : (dec0 u).length ≤ k := by
  induction k generalizing u with
  | zero =>
    obtain rfl : u = 0 := by simpa using h
    simp [dec0]
  | succ k ih =>
    by_cases h0 : u = 0
    · simp [dec0, h0]
    · rw [dec0_step u (by omega), List.length_append]
      have := ih (u / 10) (by rw [Nat.pow_succ] at h; exact Nat.div_lt_of_lt_mul (by omega))
      simp only [List.length_cons, List.length_nil]
      omega
theorem dec0_len20 (u : Nat) (h : u ≤ 9223372036854775808) : (dec0 u).length ≤ 19 := dec0_len 19 u (by
  have : (10 : Nat) ^ 19 = 10000000000000000000 := by decide
  omega)
/-- What the model's loop keeps. -/
def DecInv (u m : Nat) (out : List UInt8) : Prop := dec0 m ++ out = dec0 u
theorem DecInv.len {u m : Nat} {out : List UInt8} (h : DecInv u m out) (hu : u ≤ 9223372036854775808) : out.length ≤ 19 := by
  have h1 := dec0_len20 u hu
  rw [← h, List.length_append] at h1
  omega
theorem DecInv.step {u m : Nat} {out : List UInt8} (h : DecInv u m out) (hm : 0 < m) : DecInv u (m / 10) (digB (m % 10) :: out) := by
  unfold DecInv at h ⊢
  rw [← h, dec0_step m hm]; simp
theorem DecInv.fin {u : Nat} {out : List UInt8} (h : DecInv u 0 out) : out = dec0 u := by
  unfold DecInv at h
  rw [← h]; rfl
theorem itoa_pos (u : Nat) (h : 0 < u) : Lib.itoa (u : Int) = dec0 u := by
  unfold Lib.itoa dec0
  rw [if_neg (by omega), if_neg (by omega)]; simp
theorem itoa_neg (u : Nat) (h : 0 < u) : Lib.itoa (-(u : Int)) = 45 :: dec0 u := by
  unfold Lib.itoa dec0
  rw [if_pos (by omega), if_neg (by omega)]; simp

set_option maxRecDepth 20000 in
theorem sFormat_pos (u : Nat) (hu0 : 0 < u) (hu : u ≤ 9223372036854775807) (w : World) :
    Calls Tryz.prog 57 #[.int .i64 u] w fun e w' => e = .returned (.string (fmtB u)) ∧ Below w.heap.size w w' := by
  have HF := Lib.hid (itoa_pos u hu0)
  have hz : ((u : Int) == 0) = false := by rw [beq_eq_false_iff_ne]; omega
  go_enter Tryz.func57, Tryz.ntmps57
  go_wp2
  go_loopw [0, 3] (fun x v wr => ∃ (m : Nat) (out : List UInt8), m ≤ 9223372036854775807 ∧ x = .int .i64 m ∧ v = .string ⟨out.toArray⟩ ∧ Hid (DecInv u m out) ∧ Below w.heap.size w wr) (fun x _ _ => (intOf x).toNat)
  case atStart => exact ⟨u, [], hu, rfl, rfl, by simp [Hid, DecInv], Below.refl _ _⟩
  case round =>
    obtain ⟨m, out, hm, rfl, rfl, HI, hbel⟩ := hrel
    have hol := HI.out.len (by omega)
    by_cases h0 : 0 < m
    · have hcv := one_byte (P := Tryz.prog) wr 22 9 5 Tryz.underlying22 Tryz.underlying5 Tryz.underlying9 (48 + (m : Int) % 10) (digB (m % 10)) (by rw [digB_toNat _ (by omega)]; omega)
      go_wp2
      go_roundw
      case rel => exact ⟨m / 10, digB (m % 10) :: out, by omega, by go_num, by rw [cons_bytes], HI.out.step h0, hbel.alloc hbel.size _⟩
      case measure => simp [intOf]; omega
    · obtain rfl : m = 0 := by omega
      go_wp2
      go_ret
      refine ⟨?_, hbel⟩
      rw [fmtB, HF.out, HI.out.fin]; rfl

theorem neg_facts (m : Nat) (h : m ≤ 9223372036854775808) : ∃ q r : Nat, q ≤ 9 ∧ r ≤ 922337203685477580 ∧ Hid (m % 10 = q ∧ m / 10 = r) ∧
    Hid ((-(m : Int)).tmod 10 = -(q : Int) ∧ (-(m : Int)).tdiv 10 = -(r : Int) ∧ IntKind.i64.wrap (-(q : Int)) = -(q : Int) ∧ IntKind.i64.wrap (-(r : Int)) = -(r : Int)) := by
  refine ⟨m % 10, m / 10, by omega, by omega, ⟨rfl, rfl⟩, ?_, ?_, IntWalk.i64_in _ ⟨by omega, by omega⟩, IntWalk.i64_in _ ⟨by omega, by omega⟩⟩
  · rw [Int.neg_tmod, Int.tmod_eq_emod_of_nonneg (by omega)]; omega
  · rw [Int.neg_tdiv, Int.tdiv_eq_ediv_of_nonneg (by omega)]; omega

set_option maxRecDepth 20000 in
theorem sFormat_neg (u : Nat) (hu0 : 0 < u) (hu : u ≤ 9223372036854775808) (w : World) :
    Calls Tryz.prog 57 #[.int .i64 (-(u : Int))] w fun e w' => e = .returned (.string (fmtB (-(u : Int)))) ∧ Below w.heap.size w w' := by
  have HF := Lib.hid (itoa_neg u hu0)
  have hz : (-(u : Int) == 0) = false := by rw [beq_eq_false_iff_ne]; omega
  have hneg : decide (-(u : Int) < 0) = true := by simp; omega
  go_enter Tryz.func57, Tryz.ntmps57
  go_wp2
  go_loopw [0, 3] (fun x v wr => ∃ (m : Nat) (out : List UInt8), m ≤ 9223372036854775808 ∧ x = .int .i64 (-(m : Int)) ∧ v = .string ⟨out.toArray⟩ ∧ Hid (DecInv u m out) ∧ Below w.heap.size w wr) (fun x _ _ => (-(intOf x)).toNat)
  case atStart => exact ⟨u, [], hu, rfl, rfl, by simp [Hid, DecInv], Below.refl _ _⟩
  case round =>
    obtain ⟨m, out, hm, rfl, rfl, HI, hbel⟩ := hrel
    have hol := HI.out.len (by omega)
    by_cases h0 : 0 < m
    · obtain ⟨q, r, hq, hr, HQ, HE⟩ := neg_facts m hm
      have hne : (-(m : Int) != 0) = true := by rw [bne_iff_ne]; omega
      by_cases hq0 : 0 < q
      · have hcv := one_byte (P := Tryz.prog) wr 22 9 5 Tryz.underlying22 Tryz.underlying5 Tryz.underlying9 (48 + (q : Int)) (digB q) (by rw [digB_toNat _ hq]; omega)
        obtain ⟨e1, e2, e3, e4⟩ := HE.out
        go_wp2
        clear e1 e2 e3 e4
        go_roundw
        case rel => exact ⟨r, digB q :: out, by omega, rfl, by rw [cons_bytes], by rw [← HQ.out.1, ← HQ.out.2]; exact HI.out.step h0, hbel.alloc hbel.size _⟩
        case measure => have := HQ.out.2; simp [intOf]; omega
      · obtain rfl : q = 0 := by omega
        have hcv := one_byte (P := Tryz.prog) wr 22 9 5 Tryz.underlying22 Tryz.underlying5 Tryz.underlying9 48 (digB 0) (by rw [digB_toNat _ hq]; rfl)
        have HE' : Hid ((-(m : Int)).tmod 10 = 0 ∧ (-(m : Int)).tdiv 10 = -(r : Int) ∧ IntKind.i64.wrap (-(r : Int)) = -(r : Int)) := ⟨HE.out.1, HE.out.2.1, HE.out.2.2.2⟩
        obtain ⟨e1, e2, e4⟩ := HE'.out
        go_wp2
        clear e1 e2 e4
        go_roundw
        case rel => exact ⟨r, digB 0 :: out, by omega, rfl, by rw [cons_bytes], by rw [← HQ.out.1, ← HQ.out.2]; exact HI.out.step h0, hbel.alloc hbel.size _⟩
        case measure => have := HQ.out.2; simp [intOf]; omega
    · obtain rfl : m = 0 := by omega
      go_wp2
      go_ret
      refine ⟨?_, hbel⟩
      rw [fmtB, HF.out, ← HI.out.fin, ← cons_bytes]; rfl

theorem sFormat_zero (w : World) :
    Calls Tryz.prog 57 #[.int .i64 0] w fun e w' => e = .returned (.string (fmtB 0)) ∧ Below w.heap.size w w' := by
  have h : fmtB 0 = ⟨#[48]⟩ := by
    unfold fmtB Lib.itoa
    rw [if_neg (by omega), Lib.decDigits, dif_pos (by decide)]
    rfl
  rw [h]
  clear h
  go_enter Tryz.func57, Tryz.ntmps57
  go_wp2
  go_ret
  exact ⟨rfl, Below.refl _ _⟩

theorem sFormat (n : Int) (h0 : -9223372036854775808 ≤ n) (h1 : n ≤ 9223372036854775807) (w : World) :
    Calls Tryz.prog 57 #[.int .i64 n] w fun e w' => e = .returned (.string (fmtB n)) ∧ Below w.heap.size w w' := by
  rcases Int.lt_trichotomy n 0 with h | rfl | h
  · obtain ⟨u, rfl⟩ : ∃ u : Nat, n = -(u : Int) := ⟨n.natAbs, by omega⟩
    exact sFormat_neg u (by omega) (by omega) w
  · exact sFormat_zero w
  · obtain ⟨u, rfl⟩ := Int.eq_ofNat_of_zero_le (show 0 ≤ n by omega)
    exact sFormat_pos u (by omega) (by omega) w
end Go.Proofs.YtadjoiahllekdaaGreatDoor.num
namespace Go.Proofs.YtadjoiahllekdaaGreatDoor.num
set_option maxRecDepth 20000
open Go.RowKit
set_option linter.unusedSimpArgs false

instance (d : Int × List Int) : Decidable (IsP d) := by unfold IsP; infer_instance
def listB (xs : List Int) : ByteArray := ⟨(Lib.join (xs.map Lib.itoa) [44]).toArray⟩
/-- An item's text. -/
def textB (d : Int × List Int) : ByteArray := if IsP d then fmtB d.1 ++ ⟨#[58]⟩ ++ listB d.2 else ⟨#[]⟩
theorem textB_no {d : Int × List Int} (h : ¬ IsP d) : textB d = ⟨#[]⟩ := if_neg h
theorem textB_yes {d : Int × List Int} (h : IsP d) : textB d = fmtB d.1 ++ ⟨#[58]⟩ ++ listB d.2 := if_pos h
theorem isP_parts {id a b c : Int} (h : IsP (id, [a, b, c])) : (0 ≤ id ∧ id ≤ 99) ∧ (0 ≤ a ∧ a ≤ 9) ∧ (0 ≤ b ∧ b ≤ 9) ∧ (0 ≤ c ∧ c ≤ 9) := by
  simp only [IsP, List.mem_cons, List.not_mem_nil, or_false] at h
  exact ⟨h.2.1, h.1 a (.inl rfl), h.1 b (.inr (.inl rfl)), h.1 c (.inr (.inr rfl))⟩
theorem fmt_small (n : Int) (h0 : 0 ≤ n) (h1 : n ≤ 99) : (fmtB n).size ≤ 2 := by
  show (Lib.itoa n).toArray.size ≤ 2
  obtain ⟨u, rfl⟩ : ∃ u : Nat, n = u := ⟨n.toNat, by omega⟩
  rw [List.size_toArray]
  by_cases h : u = 0
  · subst h
    have : Lib.itoa ((0 : Nat) : Int) = [48] := by simp [Lib.itoa, Lib.decDigits]
    rw [this]; decide
  · rw [itoa_pos u (by omega)]
    exact dec0_len 2 u (by omega)
theorem list3 (a b c : Int) : listB [a, b, c] = fmtB a ++ ⟨#[44]⟩ ++ fmtB b ++ ⟨#[44]⟩ ++ fmtB c := by
  unfold listB fmtB
  rw [List.map_cons, List.map_cons, List.map_cons, List.map_nil, Lib.join_cons]
  simp [Lib.joinTail, ByteArray.mk_append_mk]
theorem listB_small {a b c : Int} (h : (0 ≤ a ∧ a ≤ 9) ∧ (0 ≤ b ∧ b ≤ 9) ∧ (0 ≤ c ∧ c ≤ 9)) : (listB [a, b, c]).size ≤ 50 := by
  rw [list3]
  have h1 := fmt_small a h.1.1 (by omega)
  have h2 := fmt_small b h.2.1.1 (by omega)
  have h3 := fmt_small c h.2.2.1 (by omega)
  simp only [ByteArray.size_append]
  have : (⟨#[44]⟩ : ByteArray).size = 1 := rfl
  omega

/-- The model's text behind k rounds. -/
def preB (a b c : Int) : Nat → ByteArray
  | 0 => ⟨#[]⟩
  | 1 => fmtB a
  | 2 => fmtB a ++ ⟨#[44]⟩ ++ fmtB b
  | _ => fmtB a ++ ⟨#[44]⟩ ++ fmtB b ++ ⟨#[44]⟩ ++ fmtB c
theorem empty_append (x : ByteArray) : (⟨#[]⟩ : ByteArray) ++ x = x := by
  obtain ⟨⟨x⟩⟩ := x
  simp [ByteArray.mk_append_mk]

theorem sList (w : World) (B : Nat) (A : Option Addr) (cc : Nat) (a b c : Int) (hi : Ints w B A 3 [a, b, c]) (hB : B ≤ w.heap.size) (h : (0 ≤ a ∧ a ≤ 9) ∧ (0 ≤ b ∧ b ≤ 9) ∧ (0 ≤ c ∧ c ≤ 9)) :
    Calls Tryz.prog 58 #[.slice A 3 cc] w fun e w' => e = .returned (.string (listB [a, b, c])) ∧ Below w.heap.size w w' := by
  have HX := Lib.hid hi
  have ka := fmt_small a h.1.1 (by omega)
  have kb := fmt_small b h.2.1.1 (by omega)
  have kc := fmt_small c h.2.2.1 (by omega)
  have H := Lib.hid h
  have HL := Lib.hid (list3 a b c)
  have hz : (⟨#[]⟩ : ByteArray).size = 0 := rfl
  have ho : (⟨#[44]⟩ : ByteArray).size = 1 := rfl
  have HZ := Lib.hid (And.intro hz ho)
  clear hi h hz ho
  go_enter Tryz.func58, Tryz.ntmps58
  go_wp2
  go_loopw [3, 4] (fun s i wr => ∃ k : Nat, k ≤ 3 ∧ i = .int .i64 k ∧ s = .string (preB a b c k) ∧ Below w.heap.size w wr) (fun _ i _ => 3 - (intOf i).toNat)
  case atStart => exact ⟨0, by decide, rfl, rfl, Below.refl _ _⟩
  case round =>
    obtain ⟨k, hk, rfl, rfl, hbel⟩ := hrel
    have HB := Lib.hid hbel
    rcases (show k = 0 ∨ k = 1 ∨ k = 2 ∨ k = 3 by omega) with rfl | rfl | rfl | rfl
    · obtain ⟨b1, off, rfl, hb1, hc⟩ := HX.out.2 0 (by decide)
      have f1 := (hbel.cell (p := ⟨b1, off + 0, none⟩) (by exact Nat.lt_of_lt_of_le hb1 hB)).trans hc
      simp only [Nat.add_zero, List.getD_cons_zero] at f1
      clear hc hbel
      unfold preB
      go_wp2_with fail
      refine (sFormat a (by have := H.out; omega) (by have := H.out; omega) _).mono ?_
      rintro e w1 ⟨rfl, hb⟩
      have HB1 := Lib.hid (HB.out.trans (hb.mono HB.out.size))
      clear hb
      go_wp2
      go_roundw
      case rel => exact ⟨1, by decide, rfl, by first | rfl | (rw [empty_append]; rfl) | (simp [preB, empty_append]), HB1.out⟩
      case measure => simp [intOf]
    · obtain ⟨b1, off, rfl, hb1, hc⟩ := HX.out.2 1 (by decide)
      have f1 := (hbel.cell (p := ⟨b1, off + 1, none⟩) (by exact Nat.lt_of_lt_of_le hb1 hB)).trans hc
      simp only [List.getD_cons_zero, List.getD_cons_succ] at f1
      clear hc hbel
      unfold preB
      go_wp2_with fail
      refine (sFormat b (by have := H.out; omega) (by have := H.out; omega) _).mono ?_
      rintro e w1 ⟨rfl, hb⟩
      have HB1 := Lib.hid (HB.out.trans (hb.mono HB.out.size))
      clear hb
      go_wp2
      go_roundw
      case rel => exact ⟨2, by decide, rfl, by first | rfl | simp [preB], HB1.out⟩
      case measure => simp [intOf]
    · obtain ⟨b1, off, rfl, hb1, hc⟩ := HX.out.2 2 (by decide)
      have f1 := (hbel.cell (p := ⟨b1, off + 2, none⟩) (by exact Nat.lt_of_lt_of_le hb1 hB)).trans hc
      simp only [List.getD_cons_zero, List.getD_cons_succ] at f1
      clear hc hbel
      unfold preB
      go_wp2_with fail
      refine (sFormat c (by have := H.out; omega) (by have := H.out; omega) _).mono ?_
      rintro e w1 ⟨rfl, hb⟩
      have HB1 := Lib.hid (HB.out.trans (hb.mono HB.out.size))
      clear hb
      go_wp2
      go_roundw
      case rel => exact ⟨3, by decide, rfl, by first | rfl | simp [preB], HB1.out⟩
      case measure => simp [intOf]
    · clear hbel
      unfold preB
      go_wp2
      go_ret
      exact ⟨by rw [HL.out]; rfl, HB.out⟩

theorem info_string : (Tryz.prog.info? 9).map (fun i => (i.zero, i.size, i.bytes)) = some (some (.string ⟨#[]⟩), 1, 16) := by kernel_rfl
theorem iJoin (w : World) (B : Nat) (A : Option Addr) (cc : Nat) (a b c : Int) (hi : Ints w B A 3 [a, b, c]) (hB : B ≤ w.heap.size) (h : (0 ≤ a ∧ a ≤ 9) ∧ (0 ≤ b ∧ b ≤ 9) ∧ (0 ≤ c ∧ c ≤ 9)) (hpow : Pow w) :
    Calls Tryz.prog 47 #[.slice A 3 cc, .string ⟨#[44]⟩, .func (.func 46) #[] #[]] w fun e w' => e = .returned (.string (listB [a, b, c])) ∧ Below w.heap.size w w' := by
  have hmk := run_make_row' (P := Tryz.prog) 86 9 (.string ⟨#[]⟩) 16 Tryz.underlying86 info_string rfl .i64 .i64 3 (by decide) (by decide)
  have hmk' : ∀ w : World, (Instr.makeSlice 86 (.int .i64 3) (.int .i64 3)).run Tryz.prog w = .ok (.slice (some ⟨w.heap.size, 0, none⟩) 3 3) (w.alloc (.cells (madeCells #[.string ⟨#[]⟩] 3) 9)) := hmk
  have HX := Lib.hid hi
  have HP := Lib.hid hpow
  have H := Lib.hid h
  clear hi hpow h hmk
  go_enter Tryz.func47, Tryz.ntmps47
  go_wp2
  clear hmk'
  go_loopw [15] (fun i wr => ∃ k : Nat, k ≤ 3 ∧ i = .int .i64 k ∧ wr.rowIs w.heap.size 9 3 (fun j => if j < k then .string (fmtB ([a, b, c].getD j 0)) else .string ⟨#[]⟩) ∧ Below w.heap.size w wr) (fun i _ => 3 - (intOf i).toNat)
  case atStart =>
    exact ⟨0, by decide, rfl, by simpa using World.rowIs_made w (.string ⟨#[]⟩) 3 9, (Below.refl _ _).alloc (Nat.le_refl _) _⟩
  case round =>
    obtain ⟨k, hk, rfl, hrow, hbel⟩ := hrel
    have HR := Lib.hid hrow
    have HB := Lib.hid hbel
    by_cases hlt : k < 3
    · obtain ⟨b1, off, rfl, hb1, hc⟩ := HX.out.2 k hlt
      have f1 := (hbel.cell (p := ⟨b1, off + k, none⟩) (by exact Nat.lt_of_lt_of_le hb1 hB)).trans hc
      obtain ⟨v, hv⟩ : ∃ v, [a, b, c].getD k 0 = v := ⟨_, rfl⟩
      rw [hv] at f1
      have hvr : 0 ≤ v ∧ v ≤ 9 := by
        have := H.out
        rcases (show k = 0 ∨ k = 1 ∨ k = 2 by omega) with rfl | rfl | rfl <;> subst hv <;> simp only [List.getD_cons_zero, List.getD_cons_succ] <;> omega
      have HV := Lib.hid hv
      have hlt' : (k : Int) < 3 := by omega
      clear hrow hbel hc hv
      go_wp2_with fail
      refine (iFormat v (by omega) (by omega) _ (HP.out.below HB.out)).mono ?_
      rintro e w1 ⟨rfl, hb⟩
      have hrow1 := rowIs_below HR.out hb (World.rowIs.lt HR.out)
      have g1 : w1.cell? ⟨w.heap.size, k, none⟩ = some (.string ⟨#[]⟩) := by rw [World.rowIs.cell hrow1 hlt, if_neg (by omega)]
      have g2 := World.rowIs.frozen hrow1 k
      have HR1 := Lib.hid hrow1
      have HB1 := Lib.hid (HB.out.trans (hb.mono HB.out.size))
      clear hb hrow1
      go_wp2
      go_roundw
      case rel =>
        refine ⟨k + 1, by omega, by go_num, (World.rowIs.set HR1.out k (.string (fmtB v))).congr (fun j _ => ?_), HB1.out.setCell (Nat.le_refl _) _⟩
        by_cases h1 : j = k
        · subst h1; rw [if_pos rfl, if_pos (by omega), HV.out]
        · by_cases h2 : j < k
          · rw [if_neg h1, if_pos h2, if_pos (by omega)]
          · rw [if_neg h1, if_neg h2, if_neg (by omega)]
      case measure => simp [intOf]; omega
    · obtain rfl : k = 3 := by omega
      have hcells : ∀ (j : Nat) x, [fmtB a, fmtB b, fmtB c][j]? = some x → wr.cell? ⟨w.heap.size, 0 + j, none⟩ = some (.string x) := by
        intro j x hx
        have hj : j < 3 := by
          rcases Nat.lt_or_ge j 3 with h' | h'
          · exact h'
          · rw [List.getElem?_eq_none (by simpa using h')] at hx; cases hx
        rw [Nat.zero_add, World.rowIs.cell hrow hj, if_pos hj]
        rcases (show j = 0 ∨ j = 1 ∨ j = 2 by omega) with rfl | rfl | rfl <;> simp at hx <;> subst hx <;> rfl
      have HC := Lib.hid hcells
      have HLt := Lib.hid (World.rowIs.lt hrow)
      have HE : Hid ((⟨(Lib.join ([fmtB a, fmtB b, fmtB c].map (·.data.toList)) (⟨#[44]⟩ : ByteArray).data.toList).toArray⟩ : ByteArray) = listB [a, b, c]) := Lib.hid rfl
      have HS : Hid ((Lib.join ([fmtB a, fmtB b, fmtB c].map (·.data.toList)) (⟨#[44]⟩ : ByteArray).data.toList).length ≤ 140737488355328) := Lib.hid (by
        have h1 := listB_small H.out
        have h2 : (listB [a, b, c]).size = (Lib.join ([fmtB a, fmtB b, fmtB c].map (·.data.toList)) (⟨#[44]⟩ : ByteArray).data.toList).length := by simp [listB, fmtB, ByteArray.size]
        omega)
      clear hrow hbel hcells
      go_wp2_with fail
      refine (Tryz.strings_Join w.heap.size 0 3 [fmtB a, fmtB b, fmtB c] ⟨#[44]⟩ wr HC.out HLt.out (by simp) (by simp) HS.out).mono ?_
      rintro e w1 ⟨rfl, hb⟩
      have HB1 := Lib.hid (HB.out.trans (hb.mono HB.out.size))
      clear hb
      go_wp2
      go_ret
      exact ⟨by rw [← HE.out]; rfl, HB1.out⟩

set_option maxRecDepth 20000 in
set_option maxHeartbeats 1600000 in
theorem sFmt (w : World) (B : Nat) (t : It) (hi : Ints w B t.A t.n t.xs) (hB : B ≤ w.heap.size) (hn : t.n ≤ 1048576) :
    Calls Tryz.prog 12 #[t.val] w fun e w' => e = .returned (.string (textB t.dat)) ∧ Below w.heap.size w w' := by
  obtain ⟨id, A, n, cc, xs⟩ := t
  unfold It.val
  simp only [] at hi hn ⊢
  have HI := Lib.hid hi
  obtain ⟨q, hq⟩ := bool_of (IsP (id, xs))
  have HQ := Lib.hid hq
  clear hi hq
  go_enter Tryz.func12, Tryz.ntmps12
  go_wp2_with fail
  refine (sIsItem _ B ⟨id, A, n, cc, xs⟩ (HI.out.below ((Below.refl B w).alloc hB _)) (by simp; omega) hn q HQ.out).mono ?_
  rintro e w1 ⟨rfl, hb1⟩
  have hx := (Below.refl w.heap.size w).alloc (Nat.le_refl _) (.cells #[.int .i64 id, .slice A n cc] 26)
  have HB1 := Lib.hid (hx.trans (hb1.mono (by simp)))
  cases q
  · have HT : Hid (textB (id, xs) = ⟨#[]⟩) := Lib.hid (textB_no (fun h => by have := HQ.out.2 h; cases this))
    clear hb1 hx
    go_wp2
    go_ret
    exact ⟨by show Ending.returned (.string ⟨#[]⟩) = _; simp only [It.dat]; rw [HT.out], HB1.out⟩
  · have HP := Lib.hid (HQ.out.1 rfl)
    obtain ⟨a, b, c, rfl⟩ := three_of HP.out.2.2
    obtain rfl : n = 3 := HI.out.1.symm
    have hd : (0 ≤ id ∧ id ≤ 99) ∧ (0 ≤ a ∧ a ≤ 9) ∧ (0 ≤ b ∧ b ≤ 9) ∧ (0 ≤ c ∧ c ≤ 9) := isP_parts HP.out
    obtain ⟨⟨h1, h2⟩, ha, hb, hc⟩ := hd
    have HABC := Lib.hid (And.intro ha (And.intro hb hc))
    clear ha hb hc
    obtain ⟨wg, hwg⟩ : ∃ wg, wg = w1 := ⟨_, rfl⟩
    rw [← hwg] at hb1 HB1 ⊢
    clear hwg
    have hg : w.heap.size < wg.heap.size := by have := hb1.size; simp at this; omega
    have q0 : wg.cell? ⟨w.heap.size, 0, none⟩ = some (.int .i64 id) := (hb1.cell (p := ⟨w.heap.size, 0, none⟩) (by simp)).trans (World.cell?_alloc_at _ _ _ _ rfl)
    have q1 : wg.cell? ⟨w.heap.size, 1, none⟩ = some (.slice A 3 cc) := (hb1.cell (p := ⟨w.heap.size, 1, none⟩) (by simp)).trans (World.cell?_alloc_at _ _ _ _ rfl)
    have HI1 := Lib.hid (HI.out.below (HB1.out.drew.mono hB))
    have HF := Lib.hid (fmt_small id h1 h2)
    have hf := HF.out
    have hl : (listB [a, b, c]).size ≤ 50 := listB_small HABC.out
    have hcat1 : ¬ (9223372036854775807 < (fmtB id).size + 1) := by omega
    have hcat2 : ¬ (9223372036854775807 < (fmtB id).size + 1 + (listB [a, b, c]).size) := by omega
    clear hb1 hx
    go_wp2
    have hs0 : Below wg.heap.size wg wg.drew ∧ wg.drew.cell? ⟨w.heap.size, 0, none⟩ = some (.int .i64 id) ∧ wg.drew.cell? ⟨w.heap.size, 1, none⟩ = some (.slice A 3 cc) := ⟨(Below.refl _ _).drew, q0, q1⟩
    refine wp_region_held (S := fun w' => Below wg.heap.size wg w' ∧ w'.cell? ⟨w.heap.size, 0, none⟩ = some (.int .i64 id) ∧ w'.cell? ⟨w.heap.size, 1, none⟩ = some (.slice A 3 cc)) (by kernel_rfl) ?_
    change wpAnyH _ _ _ _ _ _ _ _ (World.drew _)
    refine takeY 6 (i := 0) (v := ?v0a) rfl rfl (by kernel_rfl) (by kernel_rfl) (by kernel_rfl) (fun _ _ _ h => h) (by kernel_rfl) ?y0a hs0 ?_
    case y0a =>
      intro w' hw'; (try dsimp only at hw'); obtain ⟨e0, e1, e2⟩ := hw'; go_simp; try with_reducible rfl
    simp only [Act.put, List.setIfInBounds_toArray, List.set_cons_zero, List.set_cons_succ]
    refine takeY 7 (i := 1) (v := ?v1a) rfl rfl (by kernel_rfl) (by kernel_rfl) (by kernel_rfl) (fun _ _ _ h => h) (by kernel_rfl) ?y1a hs0 ?_
    case y1a =>
      intro w' hw'; (try dsimp only at hw'); obtain ⟨e0, e1, e2⟩ := hw'; go_simp; try with_reducible rfl
    simp only [Act.put, List.setIfInBounds_toArray, List.set_cons_zero, List.set_cons_succ]
    refine takeY 10 (i := 4) (v := ?v4a) rfl rfl (by kernel_rfl) (by kernel_rfl) (by kernel_rfl) (fun _ _ _ h => h) (by kernel_rfl) ?y4a hs0 ?_
    case y4a =>
      intro w' hw'; (try dsimp only at hw'); obtain ⟨e0, e1, e2⟩ := hw'; go_simp; try with_reducible rfl
    simp only [Act.put, List.setIfInBounds_toArray, List.set_cons_zero, List.set_cons_succ]
    refine takeY 11 (i := 5) (v := ?v5a) rfl rfl (by kernel_rfl) (by kernel_rfl) (by kernel_rfl) (fun _ _ _ h => h) (by kernel_rfl) ?y5a hs0 ?_
    case y5a =>
      intro w' hw'; (try dsimp only at hw'); obtain ⟨e0, e1, e2⟩ := hw'; go_simp; try with_reducible rfl
    simp only [Act.put, List.setIfInBounds_toArray, List.set_cons_zero, List.set_cons_succ]
    refine wpAnyH_ready (rs := [2]) (by kernel_rfl) (by simp) ?_
    refine AllReadyH.cons rfl (fun K hK => ?_) AllReadyH.nil
    go_simp; go_at_call 57; refine (sFormat id (by omega) (by omega) _).mono ?_; rintro e w3 ⟨rfl, h3⟩; replace h3 := (Below.refl wg.heap.size wg).drew.trans (h3.mono (Nat.le_refl _))
    refine hK.out _ _ ⟨h3, (h3.cell (p := ⟨w.heap.size, 0, none⟩) hg).trans q0, (h3.cell (p := ⟨w.heap.size, 1, none⟩) hg).trans q1⟩ (fun hS1 => ?_)
    clear hK K
    try simp only [Act.put, List.setIfInBounds_toArray, List.set_cons_zero, List.set_cons_succ]
    refine takeY 9 (i := 3) (v := ?v3a) rfl rfl (by kernel_rfl) (by kernel_rfl) (by kernel_rfl) (fun _ _ _ h => h) (by kernel_rfl) ?y3a hS1 ?_
    case y3a =>
      intro w' hw'; (try dsimp only at hw'); obtain ⟨e0, e1, e2⟩ := hw'; go_simp; try with_reducible rfl
    simp only [Act.put, List.setIfInBounds_toArray, List.set_cons_zero, List.set_cons_succ]
    refine wpAnyH_ready (rs := [6]) (by kernel_rfl) (by simp) ?_
    refine AllReadyH.cons rfl (fun K hK => ?_) AllReadyH.nil
    go_simp; go_at_call 58; refine (sList _ B A cc a b c (HI.out.below ((HB1.out.trans (h3.mono HB1.out.size)).mono hB)) (Nat.le_trans hB (Nat.le_trans HB1.out.size h3.size)) HABC.out).mono ?_; rintro e w4 ⟨rfl, h4⟩; replace h4 := h3.trans (h4.mono h3.size)
    refine hK.out _ _ ⟨h4, (h4.cell (p := ⟨w.heap.size, 0, none⟩) hg).trans q0, (h4.cell (p := ⟨w.heap.size, 1, none⟩) hg).trans q1⟩ (fun hS2 => ?_)
    clear hK K
    try simp only [Act.put, List.setIfInBounds_toArray, List.set_cons_zero, List.set_cons_succ]
    refine takeY 13 (i := 7) (v := ?v7a) rfl rfl (by kernel_rfl) (by kernel_rfl) (by kernel_rfl) (fun _ _ _ h => h) (by kernel_rfl) ?y7a hS2 ?_
    case y7a =>
      intro w' hw'; (try dsimp only at hw'); obtain ⟨e0, e1, e2⟩ := hw'; go_simp; try with_reducible rfl
    simp only [Act.put, List.setIfInBounds_toArray, List.set_cons_zero, List.set_cons_succ]
    refine takeY 2 (i := 8) (v := ?v8a) rfl rfl (by kernel_rfl) (by kernel_rfl) (by kernel_rfl) (fun _ _ _ h => h) (by kernel_rfl) ?y8a hS2 ?_
    case y8a =>
      intro w' hw'; (try dsimp only at hw'); obtain ⟨e0, e1, e2⟩ := hw'; go_simp; try with_reducible rfl
    simp only [Act.put, List.setIfInBounds_toArray, List.set_cons_zero, List.set_cons_succ]
    refine wpAnyH_done (by kernel_rfl) ?_ _
    clear hcat1 hcat2 hf hl
    go_wp2
    go_ret
    exact ⟨by simp only [It.dat]; rw [textB_yes HP.out]; rfl, HB1.out.trans (h4.mono HB1.out.size)⟩
set_option maxRecDepth 20000 in
set_option maxHeartbeats 1600000 in
theorem iFmt (w : World) (B : Nat) (t : It) (hi : Ints w B t.A t.n t.xs) (hB : B ≤ w.heap.size) (hpow : Pow w) :
    Calls Tryz.prog 7 #[t.val] w fun e w' => e = .returned (.string (textB t.dat)) ∧ Below w.heap.size w w' := by
  obtain ⟨id, A, n, cc, xs⟩ := t
  unfold It.val
  simp only [] at hi ⊢
  have HI := Lib.hid hi
  have HPw := Lib.hid hpow
  clear hpow
  obtain ⟨q, hq⟩ := bool_of (IsP (id, xs))
  have HQ := Lib.hid hq
  clear hi hq
  go_enter Tryz.func7, Tryz.ntmps7
  go_wp2_with fail
  refine (iIsItem _ B ⟨id, A, n, cc, xs⟩ (HI.out.below ((Below.refl B w).alloc hB _)) (by simp; omega) q HQ.out).mono ?_
  rintro e w1 ⟨rfl, hb1⟩
  have hx := (Below.refl w.heap.size w).alloc (Nat.le_refl _) (.cells #[.int .i64 id, .slice A n cc] 26)
  have HB1 := Lib.hid (hx.trans (hb1.mono (by simp)))
  cases q
  · have HT : Hid (textB (id, xs) = ⟨#[]⟩) := Lib.hid (textB_no (fun h => by have := HQ.out.2 h; cases this))
    clear hb1 hx
    go_wp2
    go_ret
    exact ⟨by show Ending.returned (.string ⟨#[]⟩) = _; simp only [It.dat]; rw [HT.out], HB1.out⟩
  · have HP := Lib.hid (HQ.out.1 rfl)
    obtain ⟨a, b, c, rfl⟩ := three_of HP.out.2.2
    obtain rfl : n = 3 := HI.out.1.symm
    have hd : (0 ≤ id ∧ id ≤ 99) ∧ (0 ≤ a ∧ a ≤ 9) ∧ (0 ≤ b ∧ b ≤ 9) ∧ (0 ≤ c ∧ c ≤ 9) := isP_parts HP.out
    obtain ⟨⟨h1, h2⟩, ha, hb, hc⟩ := hd
    have HABC := Lib.hid (And.intro ha (And.intro hb hc))
    clear ha hb hc
    obtain ⟨wg, hwg⟩ : ∃ wg, wg = w1 := ⟨_, rfl⟩
    rw [← hwg] at hb1 HB1 ⊢
    clear hwg
    have hg : w.heap.size < wg.heap.size := by have := hb1.size; simp at this; omega
    have q0 : wg.cell? ⟨w.heap.size, 0, none⟩ = some (.int .i64 id) := (hb1.cell (p := ⟨w.heap.size, 0, none⟩) (by simp)).trans (World.cell?_alloc_at _ _ _ _ rfl)
    have q1 : wg.cell? ⟨w.heap.size, 1, none⟩ = some (.slice A 3 cc) := (hb1.cell (p := ⟨w.heap.size, 1, none⟩) (by simp)).trans (World.cell?_alloc_at _ _ _ _ rfl)
    have HI1 := Lib.hid (HI.out.below (HB1.out.drew.mono hB))
    have HF := Lib.hid (fmt_small id h1 h2)
    have hf := HF.out
    have hl : (listB [a, b, c]).size ≤ 50 := listB_small HABC.out
    have hcat1 : ¬ (9223372036854775807 < (fmtB id).size + 1) := by omega
    have hcat2 : ¬ (9223372036854775807 < (fmtB id).size + 1 + (listB [a, b, c]).size) := by omega
    clear hb1 hx
    go_wp2
    have hs0 : Below wg.heap.size wg wg.drew ∧ wg.drew.cell? ⟨w.heap.size, 0, none⟩ = some (.int .i64 id) ∧ wg.drew.cell? ⟨w.heap.size, 1, none⟩ = some (.slice A 3 cc) := ⟨(Below.refl _ _).drew, q0, q1⟩
    refine wp_region_held (S := fun w' => Below wg.heap.size wg w' ∧ w'.cell? ⟨w.heap.size, 0, none⟩ = some (.int .i64 id) ∧ w'.cell? ⟨w.heap.size, 1, none⟩ = some (.slice A 3 cc)) (by kernel_rfl) ?_
    change wpAnyH _ _ _ _ _ _ _ _ (World.drew _)
    refine takeY 6 (i := 0) (v := ?v0b) rfl rfl (by kernel_rfl) (by kernel_rfl) (by kernel_rfl) (fun _ _ _ h => h) (by kernel_rfl) ?y0b hs0 ?_
    case y0b =>
      intro w' hw'; (try dsimp only at hw'); obtain ⟨e0, e1, e2⟩ := hw'; go_simp; try with_reducible rfl
    simp only [Act.put, List.setIfInBounds_toArray, List.set_cons_zero, List.set_cons_succ]
    refine takeY 7 (i := 1) (v := ?v1b) rfl rfl (by kernel_rfl) (by kernel_rfl) (by kernel_rfl) (fun _ _ _ h => h) (by kernel_rfl) ?y1b hs0 ?_
    case y1b =>
      intro w' hw'; (try dsimp only at hw'); obtain ⟨e0, e1, e2⟩ := hw'; go_simp; try with_reducible rfl
    simp only [Act.put, List.setIfInBounds_toArray, List.set_cons_zero, List.set_cons_succ]
    refine takeY 10 (i := 4) (v := ?v4b) rfl rfl (by kernel_rfl) (by kernel_rfl) (by kernel_rfl) (fun _ _ _ h => h) (by kernel_rfl) ?y4b hs0 ?_
    case y4b =>
      intro w' hw'; (try dsimp only at hw'); obtain ⟨e0, e1, e2⟩ := hw'; go_simp; try with_reducible rfl
    simp only [Act.put, List.setIfInBounds_toArray, List.set_cons_zero, List.set_cons_succ]
    refine takeY 11 (i := 5) (v := ?v5b) rfl rfl (by kernel_rfl) (by kernel_rfl) (by kernel_rfl) (fun _ _ _ h => h) (by kernel_rfl) ?y5b hs0 ?_
    case y5b =>
      intro w' hw'; (try dsimp only at hw'); obtain ⟨e0, e1, e2⟩ := hw'; go_simp; try with_reducible rfl
    simp only [Act.put, List.setIfInBounds_toArray, List.set_cons_zero, List.set_cons_succ]
    refine wpAnyH_ready (rs := [2]) (by kernel_rfl) (by simp) ?_
    refine AllReadyH.cons rfl (fun K hK => ?_) AllReadyH.nil
    go_simp; go_at_call 46; refine (iFormat id (by omega) (by omega) _ (HPw.out.below HB1.out.drew)).mono ?_; rintro e w3 ⟨rfl, h3⟩; replace h3 := (Below.refl wg.heap.size wg).drew.trans (h3.mono (Nat.le_refl _))
    refine hK.out _ _ ⟨h3, (h3.cell (p := ⟨w.heap.size, 0, none⟩) hg).trans q0, (h3.cell (p := ⟨w.heap.size, 1, none⟩) hg).trans q1⟩ (fun hS1 => ?_)
    clear hK K
    try simp only [Act.put, List.setIfInBounds_toArray, List.set_cons_zero, List.set_cons_succ]
    refine takeY 9 (i := 3) (v := ?v3b) rfl rfl (by kernel_rfl) (by kernel_rfl) (by kernel_rfl) (fun _ _ _ h => h) (by kernel_rfl) ?y3b hS1 ?_
    case y3b =>
      intro w' hw'; (try dsimp only at hw'); obtain ⟨e0, e1, e2⟩ := hw'; go_simp; try with_reducible rfl
    simp only [Act.put, List.setIfInBounds_toArray, List.set_cons_zero, List.set_cons_succ]
    refine wpAnyH_ready (rs := [6]) (by kernel_rfl) (by simp) ?_
    refine AllReadyH.cons rfl (fun K hK => ?_) AllReadyH.nil
    go_simp; go_at_call 47; refine (iJoin _ B A cc a b c (HI.out.below ((HB1.out.trans (h3.mono HB1.out.size)).mono hB)) (Nat.le_trans hB (Nat.le_trans HB1.out.size h3.size)) HABC.out (HPw.out.below (HB1.out.trans (h3.mono HB1.out.size)))).mono ?_; rintro e w4 ⟨rfl, h4⟩; replace h4 := h3.trans (h4.mono h3.size)
    refine hK.out _ _ ⟨h4, (h4.cell (p := ⟨w.heap.size, 0, none⟩) hg).trans q0, (h4.cell (p := ⟨w.heap.size, 1, none⟩) hg).trans q1⟩ (fun hS2 => ?_)
    clear hK K
    try simp only [Act.put, List.setIfInBounds_toArray, List.set_cons_zero, List.set_cons_succ]
    refine takeY 13 (i := 7) (v := ?v7b) rfl rfl (by kernel_rfl) (by kernel_rfl) (by kernel_rfl) (fun _ _ _ h => h) (by kernel_rfl) ?y7b hS2 ?_
    case y7b =>
      intro w' hw'; (try dsimp only at hw'); obtain ⟨e0, e1, e2⟩ := hw'; go_simp; try with_reducible rfl
    simp only [Act.put, List.setIfInBounds_toArray, List.set_cons_zero, List.set_cons_succ]
    refine takeY 2 (i := 8) (v := ?v8b) rfl rfl (by kernel_rfl) (by kernel_rfl) (by kernel_rfl) (fun _ _ _ h => h) (by kernel_rfl) ?y8b hS2 ?_
    case y8b =>
      intro w' hw'; (try dsimp only at hw'); obtain ⟨e0, e1, e2⟩ := hw'; go_simp; try with_reducible rfl
    simp only [Act.put, List.setIfInBounds_toArray, List.set_cons_zero, List.set_cons_succ]
    refine wpAnyH_done (by kernel_rfl) ?_ _
    clear hcat1 hcat2 hf hl
    go_wp2
    go_ret
    exact ⟨by simp only [It.dat]; rw [textB_yes HP.out]; rfl, HB1.out.trans (h4.mono HB1.out.size)⟩
end Go.Proofs.YtadjoiahllekdaaGreatDoor.num
namespace Go.Proofs.YtadjoiahllekdaaGreatDoor.num
set_option maxRecDepth 20000
open Go.RowKit
set_option linter.unusedVariables false

/-- The pieces between the separators. -/
def pieces (c : UInt8) : List UInt8 → List (List UInt8)
  | [] => [[]]
  | x :: r => if x = c then [] :: pieces c r else match pieces c r with
    | [] => [[x]]
    | h :: t => (x :: h) :: t
theorem pieces_ne (c : UInt8) (l : List UInt8) : ∃ h t, pieces c l = h :: t := by
  cases l with
  | nil => exact ⟨[], [], rfl⟩
  | cons x r =>
    unfold pieces
    split
    · exact ⟨_, _, rfl⟩
    · split <;> exact ⟨_, _, rfl⟩
theorem pieces_hit (c : UInt8) (r : List UInt8) : pieces c (c :: r) = [] :: pieces c r := by rw [pieces, if_pos rfl]
theorem pieces_miss {c x : UInt8} {r h : List UInt8} {t : List (List UInt8)} (hx : x ≠ c) (hr : pieces c r = h :: t) : pieces c (x :: r) = (x :: h) :: t := by
  rw [pieces, if_neg hx, hr]
theorem pieces_none {c : UInt8} : ∀ {l : List UInt8}, (∀ x ∈ l, x ≠ c) → pieces c l = [l]
  | [], _ => rfl
  | x :: r, h => pieces_miss (h x List.mem_cons_self) (pieces_none fun y hy => h y (List.mem_cons_of_mem _ hy))
theorem pieces_app {c : UInt8} {r : List UInt8} : ∀ {a : List UInt8}, (∀ x ∈ a, x ≠ c) → pieces c (a ++ c :: r) = a :: pieces c r
  | [], _ => pieces_hit c r
  | x :: a, h => pieces_miss (h x List.mem_cons_self) (pieces_app fun y hy => h y (List.mem_cons_of_mem _ hy))
theorem join_cons2 (a b : List UInt8) (t : List (List UInt8)) (c : UInt8) : Lib.join (a :: b :: t) [c] = a ++ c :: Lib.join (b :: t) [c] := by
  rw [Lib.join_cons, Lib.join_cons]
  simp [Lib.joinTail]
theorem join_pieces (c : UInt8) : ∀ l : List UInt8, Lib.join (pieces c l) [c] = l
  | [] => by simp [pieces, Lib.join_one]
  | x :: r => by
    have ih := join_pieces c r
    obtain ⟨h, t, e⟩ := pieces_ne c r
    by_cases hx : x = c
    · subst hx
      rw [pieces_hit, e, join_cons2, ← e, ih]; rfl
    · rw [pieces_miss hx e]
      rw [e] at ih
      rw [← ih, Lib.join_cons, Lib.join_cons]; rfl
theorem pieces_len (c : UInt8) : ∀ l : List UInt8, ((pieces c l).map List.length).sum + (pieces c l).length = l.length + 1
  | [] => rfl
  | x :: r => by
    have ih := pieces_len c r
    obtain ⟨h, t, e⟩ := pieces_ne c r
    by_cases hx : x = c
    · subst hx
      rw [pieces_hit]
      simp only [List.map_cons, List.sum_cons, List.length_cons, List.length_nil]
      omega
    · rw [pieces_miss hx e]
      rw [e] at ih
      simp only [List.map_cons, List.sum_cons, List.length_cons] at ih ⊢
      omega
/-- The library's pieces are these. -/
theorem split_pieces (c : UInt8) : ∀ l : List UInt8, Lib.splitK [c] 0 (l.count c) l = pieces c l
  | [] => rfl
  | b :: l => by
    have ih := split_pieces c l
    obtain ⟨h, t, e⟩ := pieces_ne c l
    by_cases hb : b = c
    · subst hb
      have hix : Lib.index (b :: l) [b] = ((0 : Nat) : Int) := by rw [Lib.index]; simp [List.isPrefixOf]
      rw [pieces_hit, List.count_cons_self, Lib.splitK, if_neg (by rw [hix]; decide), hix]
      simp [ih]
    · have hix : Lib.index (b :: l) [c] = if Lib.index l [c] == -1 then -1 else Lib.index l [c] + 1 := by
        have hp : ([c] : List UInt8).isPrefixOf (b :: l) = false := by simp [List.isPrefixOf, Ne.symm hb]
        rw [Lib.index, hp]; simp
      rw [List.count_cons_of_ne hb, pieces_miss hb e]
      rw [e] at ih
      cases hk : l.count c with
      | zero =>
        rw [hk] at ih
        have : [l] = h :: t := ih
        obtain ⟨e1, e2⟩ := List.cons.inj this
        rw [Lib.splitK, ← e1, ← e2]
      | succ k =>
        rw [hk] at ih
        have hge := Lib.index_ge l [c]
        by_cases hm : Lib.index l [c] = -1
        · rw [Lib.splitK, if_pos (by rw [hm]; rfl)] at ih
          obtain ⟨e1, e2⟩ := List.cons.inj ih
          rw [Lib.splitK, if_pos (by rw [hix, hm]; rfl), ← e1, ← e2]
        · obtain ⟨j, hj⟩ : ∃ j : Nat, Lib.index l [c] = j := ⟨(Lib.index l [c]).toNat, by omega⟩
          have hix' : Lib.index (b :: l) [c] = ((j + 1 : Nat) : Int) := by rw [hix, if_neg (fun e => hm (beq_iff_eq.1 e)), hj]; omega
          rw [Lib.splitK, if_neg (fun e => hm (beq_iff_eq.1 e)), hj] at ih
          rw [Lib.splitK, if_neg (fun e => by have := beq_iff_eq.1 e; omega), hix']
          simp only [Int.toNat_natCast, Nat.add_zero, List.length_cons, List.length_nil, List.take_succ_cons, List.drop_succ_cons] at ih ⊢
          obtain ⟨e1, e2⟩ := List.cons.inj ih
          rw [← e1, ← e2]
theorem splitB_pieces (c : UInt8) (s : ByteArray) : (Lib.splitB ⟨#[c]⟩ 0 (Lib.countB s ⟨#[c]⟩) s).map (·.data.toList) = pieces c s.data.toList := by
  rw [Lib.splitB_data]
  show Lib.splitK [c] 0 (Lib.count s.data.toList [c]) s.data.toList = _
  rw [Lib.count_one, split_pieces]
theorem cut_cons (c b : UInt8) (l : List UInt8) : Lib.cut (b :: l) [c] = if b = c then ([], l, true) else if (Lib.cut l [c]).2.2 then (b :: (Lib.cut l [c]).1, (Lib.cut l [c]).2.1, true) else (b :: l, [], false) := by
  by_cases hb : b = c
  · subst hb
    have hix : Lib.index (b :: l) [b] = ((0 : Nat) : Int) := by rw [Lib.index]; simp [List.isPrefixOf]
    rw [if_pos rfl, Lib.cut, if_pos (by omega), hix]; simp
  · have hix : Lib.index (b :: l) [c] = if Lib.index l [c] == -1 then -1 else Lib.index l [c] + 1 := by
      have hp : ([c] : List UInt8).isPrefixOf (b :: l) = false := by simp [List.isPrefixOf, Ne.symm hb]
      rw [Lib.index, hp]; simp
    rw [if_neg hb]
    have hge := Lib.index_ge l [c]
    by_cases hm : Lib.index l [c] = -1
    · have h1 : Lib.cut l [c] = (l, [], false) := by rw [Lib.cut, if_neg (by omega)]
      rw [h1, if_neg (by simp), Lib.cut, hix, hm]; simp
    · obtain ⟨j, hj⟩ : ∃ j : Nat, Lib.index l [c] = j := ⟨(Lib.index l [c]).toNat, by omega⟩
      have h1 : Lib.cut l [c] = (l.take j, l.drop (j + 1), true) := by rw [Lib.cut, if_pos (by omega), hj]; simp
      have hix' : Lib.index (b :: l) [c] = ((j + 1 : Nat) : Int) := by rw [hix, if_neg (fun e => hm (beq_iff_eq.1 e)), hj]; omega
      rw [h1, if_pos rfl, Lib.cut, hix', if_pos (by omega)]; simp
theorem cut_app {c : UInt8} {r : List UInt8} : ∀ {a : List UInt8}, (∀ x ∈ a, x ≠ c) → Lib.cut (a ++ c :: r) [c] = (a, r, true)
  | [], _ => by rw [List.nil_append, cut_cons, if_pos rfl]
  | x :: a, h => by rw [List.cons_append, cut_cons, if_neg (h x List.mem_cons_self), cut_app (fun y hy => h y (List.mem_cons_of_mem _ hy))]; rfl
theorem cut_back (c : UInt8) : ∀ l : List UInt8, ((Lib.cut l [c]).2.2 = true ∧ l = (Lib.cut l [c]).1 ++ c :: (Lib.cut l [c]).2.1) ∨ ((Lib.cut l [c]).2.2 = false ∧ (Lib.cut l [c]).2.1 = [])
  | [] => .inr (by simp [Lib.cut, Lib.index])
  | b :: l => by
    rw [cut_cons]
    by_cases hb : b = c
    · rw [if_pos hb]; exact .inl ⟨rfl, by rw [hb]; rfl⟩
    · rw [if_neg hb]
      rcases cut_back c l with ⟨h1, h2⟩ | ⟨h1, h2⟩
      · rw [h1, if_pos rfl]
        refine .inl ⟨rfl, ?_⟩
        show b :: l = b :: (Lib.cut l [c]).1 ++ c :: (Lib.cut l [c]).2.1
        rw [List.cons_append, ← h2]
      · rw [h1, if_neg (by simp)]
        exact .inr ⟨rfl, rfl⟩

theorem itoa_nat (m : Int) (h : 0 ≤ m) : Lib.itoa m = Lib.decDigits m.natAbs := by
  have h1 := dgs_itoa m
  have h2 := dash_itoa m
  unfold dgs at h1
  rw [h2, if_neg (by simp; omega)] at h1
  exact h1
theorem itoa_digits {m : Int} (h : 0 ≤ m) : ∀ x ∈ Lib.itoa m, 48 ≤ x.toNat ∧ x.toNat ≤ 57 := fun x hx => by
  rw [itoa_nat m h] at hx
  have := List.all_eq_true.1 (dec_all m.natAbs) x hx
  exact of_decide_eq_true this
theorem itoa_not {m : Int} (h : 0 ≤ m) (c : UInt8) (hc : c.toNat < 48 ∨ 57 < c.toNat) : ∀ x ∈ Lib.itoa m, x ≠ c := fun x hx e => by
  have := itoa_digits h x hx
  subst e; omega
theorem ok_itoa {m : Int} (h0 : 0 ≤ m) (h1 : m ≤ 99) : pOk (Lib.itoa m) = true ∧ pVal (Lib.itoa m) = m := by
  have h := pOk_itoa m
  have ho : pOk (Lib.itoa m) = true := by rw [h.1]; exact decide_eq_true (by omega)
  exact ⟨ho, h.2 ho⟩
theorem ok_back {l : List UInt8} (h : pOk l = true) : Lib.itoa (pVal l) = l := by
  have h' := of_decide_eq_true (p := (dgs l).length ≤ 9 ∧ (dgs l).all isD = true ∧ Lib.itoa (signed l (scanV (dgs l))) = l) h
  rw [pVal, if_pos h]
  exact h'.2.2
theorem ok_nil : pOk [] = false := by
  cases h : pOk [] with
  | false => rfl
  | true =>
    have h1 := ok_back h
    have h2 : Lib.itoa (pVal []) ≠ [] := by
      have h3 : pVal [] = 0 := by rw [pVal, if_pos h]; rfl
      rw [h3]
      simp [Lib.itoa, Lib.decDigits]
    exact absurd h1 h2
/-- An item's text, as bytes. -/
def textL (d : Int × List Int) : List UInt8 := Lib.itoa d.1 ++ 58 :: Lib.join (d.2.map Lib.itoa) [44]
theorem textB_list {d : Int × List Int} (h : IsP d) : (textB d).data.toList = textL d := by
  rw [textB_yes h]
  unfold textL listB fmtB
  simp [ByteArray.mk_append_mk]
/-- Read back of an item's own text. -/
theorem parts {d : Int × List Int} (h : IsP d) : pieces 58 (textL d) = [Lib.itoa d.1, Lib.join (d.2.map Lib.itoa) [44]] ∧ Lib.cut (textL d) [58] = (Lib.itoa d.1, Lib.join (d.2.map Lib.itoa) [44], true) ∧ pieces 44 (Lib.join (d.2.map Lib.itoa) [44]) = d.2.map Lib.itoa := by
  obtain ⟨id, xs⟩ := d
  obtain ⟨a, b, c, rfl⟩ := three_of h.2.2
  obtain ⟨⟨h1, h2⟩, ⟨ha, _⟩, ⟨hb, _⟩, ⟨hc, _⟩⟩ := isP_parts h
  have e : Lib.join ([a, b, c].map Lib.itoa) [44] = Lib.itoa a ++ 44 :: (Lib.itoa b ++ 44 :: Lib.itoa c) := by
    rw [List.map_cons, List.map_cons, List.map_cons, List.map_nil, join_cons2, join_cons2, Lib.join_one]
  have n58 : ∀ x ∈ Lib.join ([a, b, c].map Lib.itoa) [44], x ≠ 58 := by
    rw [e]
    intro x hx
    simp only [List.mem_append, List.mem_cons] at hx
    rcases hx with hx | rfl | hx | rfl | hx
    · exact itoa_not ha 58 (by decide) x hx
    · decide
    · exact itoa_not hb 58 (by decide) x hx
    · decide
    · exact itoa_not hc 58 (by decide) x hx
  refine ⟨?_, cut_app (itoa_not h1 58 (by decide)), ?_⟩
  · unfold textL
    rw [pieces_app (itoa_not h1 58 (by decide)), pieces_none n58]
  · rw [e, pieces_app (itoa_not ha 44 (by decide)), pieces_app (itoa_not hb 44 (by decide)), pieces_none (itoa_not hc 44 (by decide))]; rfl
def numS (l : List UInt8) : Int := if pOk l then pVal l else -100000
theorem numS_itoa {m : Int} (h0 : 0 ≤ m) (h1 : m ≤ 99) : numS (Lib.itoa m) = m := by
  unfold numS; rw [if_pos (ok_itoa h0 h1).1, (ok_itoa h0 h1).2]
/-- What the model makes of a text. -/
def specD (s : List UInt8) : Int × List Int := (numS ((pieces 58 s).getD 0 []), if (pieces 58 s).length = 2 then (pieces 44 ((pieces 58 s).getD 1 [])).map numS else [])
theorem specD_text {d : Int × List Int} (h : IsP d) : specD (textL d) = d := by
  obtain ⟨h1, _, h3⟩ := parts h
  unfold specD
  rw [h1]
  obtain ⟨id, xs⟩ := d
  obtain ⟨a, b, c, rfl⟩ := three_of h.2.2
  obtain ⟨⟨i1, i2⟩, ⟨ha, ha'⟩, ⟨hb, hb'⟩, ⟨hc, hc'⟩⟩ := isP_parts h
  simp only [List.getD_cons_zero, List.getD_cons_succ, List.length_cons, List.length_nil]
  rw [if_pos trivial, h3]
  simp only [List.map_cons, List.map_nil]
  rw [numS_itoa i1 i2, numS_itoa ha (by omega), numS_itoa hb (by omega), numS_itoa hc (by omega)]
/-- What both functions answer at the text s. -/
def Parsed (s : List UInt8) (d : Int × List Int) (ok : Bool) : Prop := (ok = true ∧ IsP d ∧ textL d = s) ∨ (ok = false ∧ d = (0, []) ∧ ∀ d', IsP d' → textL d' ≠ s)
theorem Parsed.one {s : List UInt8} {d d' : Int × List Int} {ok ok' : Bool} (h : Parsed s d ok) (g : Parsed s d' ok') : d = d' ∧ ok = ok' := by
  rcases h with ⟨rfl, h1, h2⟩ | ⟨rfl, rfl, h2⟩ <;> rcases g with ⟨rfl, g1, g2⟩ | ⟨rfl, rfl, g2⟩
  · exact ⟨by rw [← specD_text h1, ← specD_text g1, h2, g2], rfl⟩
  · exact absurd h2 (g2 d h1)
  · exact absurd g2 (h2 d' g1)
  · exact ⟨rfl, rfl⟩
theorem bytes_ext {a b : ByteArray} (h : a.data.toList = b.data.toList) : a = b := by
  obtain ⟨⟨x⟩⟩ := a
  obtain ⟨⟨y⟩⟩ := b
  have : x = y := h
  rw [this]
def allOk (l : List (List UInt8)) : Bool := l.all pOk
theorem parsed_impl_yes {s : List UInt8} {d : Int × List Int} (h1 : pOk (Lib.cut s [58]).1 = true) (h2 : allOk (pieces 44 (Lib.cut s [58]).2.1) = true) (hd : d = (pVal (Lib.cut s [58]).1, (pieces 44 (Lib.cut s [58]).2.1).map pVal)) (hp : IsP d) : Parsed s d true := by
  rcases cut_back 58 s with ⟨_, e⟩ | ⟨_, e⟩
  · refine .inl ⟨rfl, hp, ?_⟩
    rw [e]
    unfold textL
    rw [hd, ok_back h1]
    have hm : ((pieces 44 (Lib.cut s [58]).2.1).map pVal).map Lib.itoa = pieces 44 (Lib.cut s [58]).2.1 := by
      rw [List.map_map]
      conv => rhs; rw [← List.map_id (pieces 44 (Lib.cut s [58]).2.1)]
      exact List.map_congr_left fun x hx => ok_back (List.all_eq_true.1 h2 x hx)
    show (Lib.cut s [58]).1 ++ 58 :: Lib.join (((pieces 44 (Lib.cut s [58]).2.1).map pVal).map Lib.itoa) [44] = _
    rw [hm, join_pieces, ← e]
  · rw [e] at h2
    have : pOk [] = true := List.all_eq_true.1 h2 [] (by simp [pieces])
    rw [ok_nil] at this; cases this
theorem parsed_impl_no {s : List UInt8} (h : ¬ (pOk (Lib.cut s [58]).1 = true ∧ allOk (pieces 44 (Lib.cut s [58]).2.1) = true ∧ IsP (pVal (Lib.cut s [58]).1, (pieces 44 (Lib.cut s [58]).2.1).map pVal))) : Parsed s (0, []) false := by
  refine .inr ⟨rfl, rfl, fun d hd e => h ?_⟩
  obtain ⟨_, h2, h3⟩ := parts hd
  rw [← e, h2]
  obtain ⟨id, xs⟩ := d
  obtain ⟨a, b, c, rfl⟩ := three_of hd.2.2
  obtain ⟨⟨i1, i2⟩, ⟨ha, ha'⟩, ⟨hb, hb'⟩, ⟨hc, hc'⟩⟩ := isP_parts hd
  have oi := ok_itoa i1 i2
  have oa := ok_itoa ha (by omega)
  have ob := ok_itoa hb (by omega)
  have oc := ok_itoa hc (by omega)
  show pOk (Lib.itoa id) = true ∧ allOk (pieces 44 (Lib.join ([a, b, c].map Lib.itoa) [44])) = true ∧ IsP (pVal (Lib.itoa id), (pieces 44 (Lib.join ([a, b, c].map Lib.itoa) [44])).map pVal)
  rw [h3, oi.2]
  simp only [List.map_cons, List.map_nil]
  rw [oa.2, ob.2, oc.2]
  refine ⟨oi.1, ?_, hd⟩
  simp [allOk, oa.1, ob.1, oc.1]
end Go.Proofs.YtadjoiahllekdaaGreatDoor.num
namespace Go.Proofs.YtadjoiahllekdaaGreatDoor.num
set_option maxRecDepth 20000
open Go.RowKit
set_option linter.unusedVariables false
set_option linter.unusedSimpArgs false

def pairT (p : Int × Int) : List UInt8 := Lib.itoa p.1 ++ 62 :: Lib.itoa p.2
def noneT : List UInt8 := [110, 111, 110, 101]
def pairsT (ps : List (Int × Int)) : List UInt8 := if ps = [] then noneT else Lib.join (ps.map pairT) [44]
/-- What FormatPairs answers. -/
def fmtP (ps : List (Int × Int)) (q : Bool) : ByteArray := if q then ⟨(pairsT ps).toArray⟩ else ⟨#[]⟩
theorem inR2 {n : Int} (h : InR n) : 0 ≤ n ∧ n ≤ 99 := by unfold InR at h; omega
theorem itoa_small {n : Int} (h : InR n) : (Lib.itoa n).length ≤ 2 := by
  have := fmt_small n (inR2 h).1 (inR2 h).2
  simpa [fmtB, ByteArray.size] using this
theorem pairT_len {p : Int × Int} (h : InR p.1 ∧ InR p.2) : (pairT p).length ≤ 5 := by
  have h1 := itoa_small h.1
  have h2 := itoa_small h.2
  simp only [pairT, List.length_append, List.length_cons]
  omega
theorem pieces62 {p : Int × Int} (h : InR p.1 ∧ InR p.2) : pieces 62 (pairT p) = [Lib.itoa p.1, Lib.itoa p.2] := by
  unfold pairT
  rw [pieces_app (itoa_not h.1.1 62 (by decide)), pieces_none (itoa_not h.2.1 62 (by decide))]
theorem cut62 {p : Int × Int} (h : InR p.1 ∧ InR p.2) : Lib.cut (pairT p) [62] = (Lib.itoa p.1, Lib.itoa p.2, true) := cut_app (itoa_not h.1.1 62 (by decide))
theorem pairT_not {p : Int × Int} (h : InR p.1 ∧ InR p.2) : ∀ x ∈ pairT p, x ≠ 44 := fun x hx => by
  unfold pairT at hx
  rcases List.mem_append.1 hx with hx | hx
  · exact itoa_not h.1.1 44 (by decide) x hx
  · rcases List.mem_cons.1 hx with rfl | hx
    · decide
    · exact itoa_not h.2.1 44 (by decide) x hx
theorem pieces44 : ∀ {ps : List (Int × Int)}, ps ≠ [] → (∀ p, p ∈ ps → InR p.1 ∧ InR p.2) → pieces 44 (Lib.join (ps.map pairT) [44]) = ps.map pairT
  | [], h, _ => absurd rfl h
  | [p], _, h => by
    rw [List.map_cons, List.map_nil, Lib.join_one]
    exact pieces_none (pairT_not (h p (by simp)))
  | p :: p' :: r, _, h => by
    have ih := pieces44 (ps := p' :: r) (by simp) fun x hx => h x (List.mem_cons_of_mem _ hx)
    rw [List.map_cons] at ih
    rw [List.map_cons, List.map_cons, join_cons2, pieces_app (pairT_not (h p (by simp))), ih]
theorem pairsT_pieces {ps : List (Int × Int)} (hn : ps ≠ []) (h : ∀ p, p ∈ ps → InR p.1 ∧ InR p.2) : pieces 44 (pairsT ps) = ps.map pairT := by
  unfold pairsT
  rw [if_neg hn]
  exact pieces44 hn h
theorem join_snoc (a : List UInt8) (c : UInt8) : ∀ l : List (List UInt8), l ≠ [] → Lib.join (l ++ [a]) [c] = Lib.join l [c] ++ c :: a
  | [], h => absurd rfl h
  | [b], _ => by
    show Lib.join (b :: a :: []) [c] = _
    rw [join_cons2, Lib.join_one, Lib.join_one]
  | b :: d :: r, _ => by
    have ih := join_snoc a c (d :: r) (by simp)
    show Lib.join (b :: d :: (r ++ [a])) [c] = _
    rw [join_cons2, join_cons2]
    rw [List.cons_append] at ih
    rw [ih]
    simp

/-! ### the model's text, pair by pair -/
def preP (ps : List (Int × Int)) (k : Nat) : ByteArray := ⟨(Lib.join ((ps.take k).map pairT) [44]).toArray⟩
theorem preP_zero (ps : List (Int × Int)) : preP ps 0 = ⟨#[]⟩ := rfl
theorem preP_list (ps : List (Int × Int)) (k : Nat) : (preP ps k).data.toList = Lib.join ((ps.take k).map pairT) [44] := rfl
theorem preP_one {ps : List (Int × Int)} {x y : Int} (h : ps[0]? = some (x, y)) : ((⟨#[]⟩ : ByteArray) ++ fmtB x ++ ⟨#[62]⟩ ++ fmtB y) = preP ps 1 := by
  apply bytes_ext
  rw [preP_list, ptake_at (k := 0) h]
  simp [Lib.join_one, pairT, fmtB, ByteArray.data_append]
theorem preP_step {ps : List (Int × Int)} {k : Nat} {x y : Int} (hk : 0 < k) (h : ps[k]? = some (x, y)) : (preP ps k ++ ⟨#[44]⟩ ++ fmtB x ++ ⟨#[62]⟩ ++ fmtB y) = preP ps (k + 1) := by
  have hlt : k < ps.length := by
    rcases Nat.lt_or_ge k ps.length with h' | h'
    · exact h'
    · rw [List.getElem?_eq_none h'] at h; cases h
  apply bytes_ext
  rw [preP_list, ptake_at h, List.map_append, List.map_cons, List.map_nil, join_snoc _ _ _ (by
    intro e
    have := congrArg List.length e
    rw [List.length_map, List.length_take, List.length_nil] at this
    omega)]
  simp [preP_list, pairT, fmtB, ByteArray.data_append]
theorem join_le {m : Nat} (c : UInt8) : ∀ l : List (List UInt8), (∀ x, x ∈ l → x.length ≤ m) → (Lib.join l [c]).length ≤ (m + 1) * l.length
  | [], _ => by simp [Lib.join_nil]
  | [a], h => by
    rw [Lib.join_one]
    have := h a (by simp)
    simp only [List.length_cons, List.length_nil]
    omega
  | a :: b :: r, h => by
    have ih := join_le c (b :: r) fun x hx => h x (List.mem_cons_of_mem _ hx)
    have := h a (by simp)
    rw [join_cons2, List.length_append, List.length_cons]
    simp only [List.length_cons] at ih ⊢
    have hm : (m + 1) * (r.length + 1 + 1) = (m + 1) * (r.length + 1) + (m + 1) := Nat.mul_succ _ _
    omega
theorem preP_small {ps : List (Int × Int)} (h : ∀ p, p ∈ ps → InR p.1 ∧ InR p.2) (k : Nat) : (preP ps k).size ≤ 6 * k := by
  have h1 := join_le (m := 5) 44 ((ps.take k).map pairT) fun x hx => by
    obtain ⟨p, hp, rfl⟩ := List.mem_map.1 hx
    exact pairT_len (h p (List.mem_of_mem_take hp))
  have h2 : (preP ps k).size = (Lib.join ((ps.take k).map pairT) [44]).length := by simp [preP, ByteArray.size]
  rw [List.length_map, List.length_take] at h1
  omega
theorem join_ne {ps : List (Int × Int)} (hn : ps ≠ []) : Lib.join (ps.map pairT) [44] ≠ [] := by
  obtain ⟨p, r, rfl⟩ := List.exists_cons_of_ne_nil hn
  intro e
  have := congrArg List.length e
  rw [List.map_cons, Lib.join_cons] at this
  simp [pairT] at this
theorem preP_all {ps : List (Int × Int)} {n : Nat} (hl : ps.length = n) (hn : ps ≠ []) : preP ps n = fmtP ps true ∧ (fmtP ps true).toList.isEmpty = false ∧ ((fmtP ps true).toList == []) = false := by
  have he : preP ps n = ⟨(Lib.join (ps.map pairT) [44]).toArray⟩ := by unfold preP; rw [ptake_all hl]
  have hf : fmtP ps true = ⟨(Lib.join (ps.map pairT) [44]).toArray⟩ := by unfold fmtP pairsT; rw [if_pos rfl, if_neg hn]
  have hd : (fmtP ps true).toList = Lib.join (ps.map pairT) [44] := by rw [hf, ByteArray.toList_eq]
  have hne := join_ne hn
  refine ⟨he.trans hf.symm, ?_, ?_⟩
  · rw [hd]
    cases e : Lib.join (ps.map pairT) [44] with
    | nil => exact absurd e hne
    | cons a r => rfl
  · rw [hd, beq_eq_false_iff_ne]
    exact hne

/-! ### reading back -/
def ParsedP (s : List UInt8) (ps : List (Int × Int)) (ok : Bool) : Prop := (ok = true ∧ OkP ps ∧ pairsT ps = s) ∨ (ok = false ∧ ps = [] ∧ ∀ ps', OkP ps' → pairsT ps' ≠ s)
theorem pieces_noneT : pieces 44 noneT = [noneT] := pieces_none (by decide)
theorem pairsT_ne {ps : List (Int × Int)} (hn : ps ≠ []) (h : ∀ p, p ∈ ps → InR p.1 ∧ InR p.2) : pairsT ps ≠ noneT := fun e => by
  have h1 := pairsT_pieces hn h
  rw [e, pieces_noneT] at h1
  obtain ⟨p, r, rfl⟩ := List.exists_cons_of_ne_nil hn
  rw [List.map_cons] at h1
  have h2 : noneT = pairT p := (List.cons.inj h1).1
  have h3 := pieces62 (h p (by simp))
  rw [← h2, show pieces 62 noneT = [noneT] from pieces_none (by decide)] at h3
  have := congrArg List.length h3
  simp at this
def numP (c : List UInt8) : Int × Int := (numS ((pieces 62 c).getD 0 []), numS ((pieces 62 c).getD 1 []))
theorem numP_pairT {p : Int × Int} (h : InR p.1 ∧ InR p.2) : numP (pairT p) = p := by
  unfold numP
  rw [pieces62 h]
  simp only [List.getD_cons_zero, List.getD_cons_succ]
  rw [numS_itoa (inR2 h.1).1 (inR2 h.1).2, numS_itoa (inR2 h.2).1 (inR2 h.2).2]
theorem map_back {f : List UInt8 → Int × Int} {ps : List (Int × Int)} (h : ∀ p, p ∈ ps → f (pairT p) = p) : (ps.map pairT).map f = ps := by
  rw [List.map_map]
  have : ∀ l : List (Int × Int), (∀ p, p ∈ l → f (pairT p) = p) → l.map (f ∘ pairT) = l := by
    intro l
    induction l with
    | nil => intro _; rfl
    | cons a r ih =>
      intro h
      rw [List.map_cons, ih fun x hx => h x (List.mem_cons_of_mem _ hx)]
      show f (pairT a) :: r = _
      rw [h a (by simp)]
  exact this ps h
theorem pairsT_inj {ps ps' : List (Int × Int)} (h : OkP ps) (h' : OkP ps') (e : pairsT ps = pairsT ps') : ps = ps' := by
  by_cases hn : ps = []
  · subst hn
    by_cases hn' : ps' = []
    · exact hn'.symm
    · exact absurd e.symm (pairsT_ne hn' h'.1.rng)
  · by_cases hn' : ps' = []
    · subst hn'
      exact absurd e (pairsT_ne hn h.1.rng)
    · have h1 := pairsT_pieces hn h.1.rng
      have h2 := pairsT_pieces hn' h'.1.rng
      rw [e, h2] at h1
      have h3 := congrArg (List.map numP) h1
      rw [map_back fun p hp => numP_pairT (h'.1.rng p hp), map_back fun p hp => numP_pairT (h.1.rng p hp)] at h3
      exact h3.symm
theorem ParsedP.one {s : List UInt8} {ps ps' : List (Int × Int)} {ok ok' : Bool} (h : ParsedP s ps ok) (h' : ParsedP s ps' ok') : ps = ps' ∧ ok = ok' := by
  rcases h with ⟨rfl, h1, h2⟩ | ⟨rfl, rfl, h2⟩ <;> rcases h' with ⟨rfl, g1, g2⟩ | ⟨rfl, rfl, g2⟩
  · exact ⟨pairsT_inj h1 g1 (h2.trans g2.symm), rfl⟩
  · exact absurd h2 (g2 _ h1)
  · exact absurd g2 (h2 _ g1)
  · exact ⟨rfl, rfl⟩
theorem ParsedP.len {s : List UInt8} {ps : List (Int × Int)} {ok : Bool} (h : ParsedP s ps ok) : ps.length ≤ 8 := by
  rcases h with ⟨_, h, _⟩ | ⟨_, rfl, _⟩
  · exact h.2
  · simp
theorem ok_nilP : OkP [] := ⟨Good.nil, by simp⟩
theorem parsedP_none : ParsedP noneT [] true := .inl ⟨rfl, ok_nilP, rfl⟩
/-- A text that stands for pairs, other than 'none', is theirs piece by piece. -/
theorem pieces_of {s : List UInt8} (hs : s ≠ noneT) {ps : List (Int × Int)} (h : OkP ps) (e : pairsT ps = s) : pieces 44 s = ps.map pairT := by
  have hn : ps ≠ [] := fun hn => by subst hn; exact hs (e.symm.trans rfl)
  rw [← e]
  exact pairsT_pieces hn h.1.rng
def twoB (c : List UInt8) : Bool := (pieces 62 c).length == 2
def okC (c : List UInt8) : Bool := pOk (Lib.cut c [62]).1 && pOk (Lib.cut c [62]).2.1
def valC (c : List UInt8) : Int × Int := (pVal (Lib.cut c [62]).1, pVal (Lib.cut c [62]).2.1)
theorem okC_back {c : List UInt8} (h : okC c = true) : pairT (valC c) = c := by
  unfold okC at h
  rw [Bool.and_eq_true] at h
  rcases cut_back 62 c with ⟨_, e⟩ | ⟨_, e⟩
  · unfold pairT valC
    rw [ok_back h.1, ok_back h.2]
    exact e.symm
  · rw [e, ok_nil] at h
    cases h.2
theorem okC_pairT {p : Int × Int} (h : InR p.1 ∧ InR p.2) : okC (pairT p) = true ∧ valC (pairT p) = p := by
  unfold okC valC
  rw [cut62 h]
  obtain ⟨h1, h2⟩ := ok_itoa (inR2 h.1).1 (inR2 h.1).2
  obtain ⟨h3, h4⟩ := ok_itoa (inR2 h.2).1 (inR2 h.2).2
  simp only
  rw [h1, h2, h3, h4]
  exact ⟨rfl, rfl⟩
theorem impl_yesP {s : List UInt8} (hall : (pieces 44 s).all okC = true) (hok : OkP ((pieces 44 s).map valC)) : ParsedP s ((pieces 44 s).map valC) true := by
  refine .inl ⟨rfl, hok, ?_⟩
  obtain ⟨a, r, hp⟩ := pieces_ne 44 s
  have hne : (pieces 44 s).map valC ≠ [] := by rw [hp]; simp
  unfold pairsT
  rw [if_neg hne]
  have hb : ((pieces 44 s).map valC).map pairT = pieces 44 s := by
    rw [List.map_map]
    have : ∀ l : List (List UInt8), l.all okC = true → l.map (pairT ∘ valC) = l := by
      intro l
      induction l with
      | nil => intro _; rfl
      | cons a r ih =>
        intro h
        rw [List.all_cons, Bool.and_eq_true] at h
        rw [List.map_cons, ih h.2]
        show pairT (valC a) :: r = _
        rw [okC_back h.1]
    exact this _ hall
  rw [hb]
  exact join_pieces 44 s
theorem impl_noP {s : List UInt8} (hs : s ≠ noneT) (h : ¬ ((pieces 44 s).all okC = true ∧ OkP ((pieces 44 s).map valC))) : ParsedP s [] false :=
  .inr ⟨rfl, rfl, fun ps' h' e => by
    have hp := pieces_of hs h' e
    refine h ⟨?_, ?_⟩
    · rw [hp, List.all_eq_true]
      intro c hc
      obtain ⟨p, hp, rfl⟩ := List.mem_map.1 hc
      exact (okC_pairT (h'.1.rng p hp)).1
    · rw [hp, map_back fun p hp => (okC_pairT (h'.1.rng p hp)).2]
      exact h'⟩
/-- Where each piece holds something, there are few. -/
theorem few {s : List UInt8} (h : ∀ c ∈ pieces 44 s, 1 ≤ c.length) : 2 * (pieces 44 s).length ≤ s.length + 1 := by
  have h1 := pieces_len 44 s
  have : ∀ l : List (List UInt8), (∀ c ∈ l, 1 ≤ c.length) → l.length ≤ (l.map List.length).sum := by
    intro l
    induction l with
    | nil => intro _; simp
    | cons a r ih =>
      intro h
      have := ih fun c hc => h c (List.mem_cons_of_mem _ hc)
      have := h a (by simp)
      simp only [List.map_cons, List.sum_cons, List.length_cons]
      omega
  have := this _ h
  omega
theorem okC_len {c : List UInt8} (h : okC c = true) : 1 ≤ c.length := by
  cases c with
  | nil =>
    unfold okC at h
    rcases cut_back 62 [] with ⟨_, e⟩ | ⟨_, e⟩
    · have := congrArg List.length e; simp at this
    · rw [e, ok_nil] at h; simp at h
  | cons a r => simp
end Go.Proofs.YtadjoiahllekdaaGreatDoor.num
namespace Go.Proofs.YtadjoiahllekdaaGreatDoor.num
set_option maxRecDepth 20000
open Go.RowKit Go.ChangeShapes Go.WideShapes Go.Deep
set_option linter.unusedVariables false

/-- The five words. -/
def kwT : List (List UInt8) := [[108, 111, 119], [104, 105, 103, 104], [110, 101, 97, 114], [97, 109, 111, 110, 103], [111, 114, 100, 101, 114]]
def kwB (i : Nat) : ByteArray := ⟨(kwT.getD i []).toArray⟩
theorem gKw : Tryz.prog.globalNamed "loop.example/g01987/impl.kindWords" = some 0 := by kernel_rfl
theorem gKwType : (Tryz.prog.globals[0]?).map (·.type) = some 86 := by kernel_rfl
theorem cellsStr : Tryz.prog.cellsOf 9 = 1 := by kernel_rfl
/-- The variable holds them. -/
def Kw (w : World) : Prop := ∃ (b off c : Nat), w.cell? ⟨0, 0, none⟩ = some (.slice (some ⟨b, off, none⟩) 5 c) ∧ 0 < w.heap.size ∧ b < w.heap.size ∧ ∀ i, i < 5 → w.cell? ⟨b, off + i, none⟩ = some (.string (kwB i))
theorem Kw.below {w w' : World} (h : Kw w) (hb : Below w.heap.size w w') : Kw w' := by
  obtain ⟨b, off, c, h1, h2, h3, h4⟩ := h
  exact ⟨b, off, c, (hb.cell (p := ⟨0, 0, none⟩) h2).trans h1, Nat.lt_of_lt_of_le h2 hb.size, Nat.lt_of_lt_of_le h3 hb.size, fun i hi => (hb.cell (p := ⟨b, off + i, none⟩) h3).trans (h4 i hi)⟩
theorem kw_of {W : World} {rest : List (String × DataW Unit)} (h : laidMet Tryz.prog (("loop.example/g01987/impl.kindWords", .slice (kwT.map fun l => .lit (.string l)) []) :: rest) W) : Kw W := by
  obtain ⟨ps, ⟨g', t', cs, fuel, p, q, hg', ht', hvar, hd, _, _⟩, _⟩ := h
  obtain rfl := Option.some.inj (gKw.symm.trans hg')
  obtain rfl := Option.some.inj (gKwType.symm.trans ht')
  rcases open_strs Tryz.underlying86 Tryz.underlying9 cellsStr hd with ⟨hc, hx⟩ | ⟨a, len, cap, m, Sx, hc, _, hl, hm, hmm, hx, hcell⟩
  · simp at hx
  · simp only [Prod.mk.injEq, DataW.slice.injEq] at hx
    obtain ⟨⟨e1, e2⟩, _⟩ := hx
    have hlen : len = 5 := by
      have := congrArg List.length e1
      simpa [kwT] using this.symm
    subst hlen
    have hS : ∀ i, i < 5 → Sx i = kwB i := fun i hi => by
      have h1 := congrArg (fun l => l[i]?) e1
      simp only [List.getElem?_map, List.getElem?_range hi, Option.map_some] at h1
      have h2 : kwT[i]? = some (kwT.getD i []) := by
        rw [List.getD_eq_getElem?_getD, List.getElem?_eq_getElem (by simpa [kwT] using hi)]; rfl
      rw [h2] at h1
      simp only [Option.map_some, Option.some.injEq, DataW.lit.injEq, Lit.string.injEq] at h1
      apply bytes_ext
      unfold kwB
      simpa using h1.symm
    have hm5 : 5 ≤ m := by rw [hmm]; split <;> omega
    obtain ⟨b, off, rfl, hb, h0⟩ := add_flat (hcell 0 (by omega)).1 (hcell 0 (by omega)).1
    have hg0 : W.cell? ⟨0, 0, none⟩ = some (.slice (some ⟨b, off, none⟩) 5 cap) := by
      rw [World.var?_cell gKw hvar 0]
      have : cs = #[.slice (some ⟨b, off, none⟩) 5 cap] := by
        apply Array.ext'
        simpa using hc
      rw [this]; rfl
    refine ⟨b, off, cap, hg0, World.block_lt_of_cell? W _ hg0, hb, fun i hi => ?_⟩
    obtain ⟨b', off', e, _, h1⟩ := add_flat (hcell 0 (by omega)).1 (hcell i (by omega)).1
    injection e with e3 e4
    subst e3 e4
    rw [h1, hS i hi]
end Go.Proofs.YtadjoiahllekdaaGreatDoor.num
namespace Go.Proofs.YtadjoiahllekdaaGreatDoor.num
set_option maxRecDepth 20000
open Go.RowKit Go.ChangeShapes Go.WideShapes Go.Deep
set_option linter.unusedVariables false

/-- The five words. -/
def owT : List (List UInt8) := [[], [97, 110, 100], [116, 104, 101, 110], [110, 111, 116], [98, 111, 116, 104]]
def owB (i : Nat) : ByteArray := ⟨(owT.getD i []).toArray⟩
theorem gOw : Tryz.prog.globalNamed "loop.example/g01987/impl.opWords" = some 1 := by kernel_rfl
theorem gOwType : (Tryz.prog.globals[1]?).map (·.type) = some 86 := by kernel_rfl
/-- The variable holds them. -/
def Ow (w : World) : Prop := ∃ (b off c : Nat), w.cell? ⟨1, 0, none⟩ = some (.slice (some ⟨b, off, none⟩) 5 c) ∧ 1 < w.heap.size ∧ b < w.heap.size ∧ ∀ i, i < 5 → w.cell? ⟨b, off + i, none⟩ = some (.string (owB i))
theorem Ow.below {w w' : World} (h : Ow w) (hb : Below w.heap.size w w') : Ow w' := by
  obtain ⟨b, off, c, h1, h2, h3, h4⟩ := h
  exact ⟨b, off, c, (hb.cell (p := ⟨1, 0, none⟩) h2).trans h1, Nat.lt_of_lt_of_le h2 hb.size, Nat.lt_of_lt_of_le h3 hb.size, fun i hi => (hb.cell (p := ⟨b, off + i, none⟩) h3).trans (h4 i hi)⟩
theorem ow_of {W : World} {rest : List (String × DataW Unit)} (h : laidMet Tryz.prog (("loop.example/g01987/impl.opWords", .slice (owT.map fun l => .lit (.string l)) []) :: rest) W) : Ow W := by
  obtain ⟨ps, ⟨g', t', cs, fuel, p, q, hg', ht', hvar, hd, _, _⟩, _⟩ := h
  obtain rfl := Option.some.inj (gOw.symm.trans hg')
  obtain rfl := Option.some.inj (gOwType.symm.trans ht')
  rcases open_strs Tryz.underlying86 Tryz.underlying9 cellsStr hd with ⟨hc, hx⟩ | ⟨a, len, cap, m, Sx, hc, _, hl, hm, hmm, hx, hcell⟩
  · simp at hx
  · simp only [Prod.mk.injEq, DataW.slice.injEq] at hx
    obtain ⟨⟨e1, e2⟩, _⟩ := hx
    have hlen : len = 5 := by
      have := congrArg List.length e1
      simpa [owT] using this.symm
    subst hlen
    have hS : ∀ i, i < 5 → Sx i = owB i := fun i hi => by
      have h1 := congrArg (fun l => l[i]?) e1
      simp only [List.getElem?_map, List.getElem?_range hi, Option.map_some] at h1
      have h2 : owT[i]? = some (owT.getD i []) := by
        rw [List.getD_eq_getElem?_getD, List.getElem?_eq_getElem (by simpa [owT] using hi)]; rfl
      rw [h2] at h1
      simp only [Option.map_some, Option.some.injEq, DataW.lit.injEq, Lit.string.injEq] at h1
      apply bytes_ext
      unfold owB
      simpa using h1.symm
    have hm5 : 5 ≤ m := by rw [hmm]; split <;> omega
    obtain ⟨b, off, rfl, hb, h0⟩ := add_flat (hcell 0 (by omega)).1 (hcell 0 (by omega)).1
    have hg0 : W.cell? ⟨1, 0, none⟩ = some (.slice (some ⟨b, off, none⟩) 5 cap) := by
      rw [World.var?_cell gOw hvar 0]
      have : cs = #[.slice (some ⟨b, off, none⟩) 5 cap] := by
        apply Array.ext'
        simpa using hc
      rw [this]; rfl
    refine ⟨b, off, cap, hg0, World.block_lt_of_cell? W _ hg0, hb, fun i hi => ?_⟩
    obtain ⟨b', off', e, _, h1⟩ := add_flat (hcell 0 (by omega)).1 (hcell i (by omega)).1
    injection e with e3 e4
    subst e3 e4
    rw [h1, hS i hi]
end Go.Proofs.YtadjoiahllekdaaGreatDoor.num
namespace Go.Proofs.YtadjoiahllekdaaGreatDoor.num
set_option maxRecDepth 20000
open Go.RowKit
set_option linter.unusedVariables false

def intsT (l : List Int) : List UInt8 := Lib.join (l.map Lib.itoa) [44]
def preI (l : List Int) (k : Nat) : ByteArray := ⟨(intsT (l.take k)).toArray⟩
theorem preI_list (l : List Int) (k : Nat) : (preI l k).data.toList = intsT (l.take k) := rfl
theorem preI_zero (l : List Int) : preI l 0 = ⟨#[]⟩ := rfl
theorem preI_one {l : List Int} {x : Int} (h : l[0]? = some x) : (⟨#[]⟩ : ByteArray) ++ fmtB x = preI l 1 := by
  apply bytes_ext
  rw [preI_list, ptake_at (k := 0) h]
  simp [intsT, Lib.join_one, fmtB, ByteArray.data_append]
theorem preI_step {l : List Int} {k : Nat} {x : Int} (hk : 0 < k) (h : l[k]? = some x) : preI l k ++ ⟨#[44]⟩ ++ fmtB x = preI l (k + 1) := by
  have hlt : k < l.length := (List.getElem?_eq_some_iff.1 h).1
  apply bytes_ext
  rw [preI_list, ptake_at h]
  unfold intsT
  rw [List.map_append, List.map_cons, List.map_nil, join_snoc _ _ _ (by
    intro e
    have := congrArg List.length e
    rw [List.length_map, List.length_take, List.length_nil] at this
    omega)]
  simp [preI, intsT, fmtB, ByteArray.data_append]
theorem intsT_len {l : List Int} (h : ∀ v ∈ l, InR v) : (intsT l).length ≤ 3 * l.length := by
  have h1 := join_le (m := 2) 44 (l.map Lib.itoa) fun x hx => by
    obtain ⟨v, hv, rfl⟩ := List.mem_map.1 hx
    exact itoa_small (h v hv)
  rw [List.length_map] at h1
  unfold intsT
  omega
theorem preI_small {l : List Int} (h : ∀ v ∈ l, InR v) (k : Nat) : (preI l k).size ≤ 3 * k := by
  have h1 := intsT_len (l := l.take k) fun v hv => h v (List.mem_of_mem_take hv)
  have h2 : (preI l k).size = (intsT (l.take k)).length := by simp [preI, ByteArray.size]
  have h3 : (l.take k).length ≤ k := by rw [List.length_take]; omega
  omega
/-- What stands behind the field. -/
def restT (d : WD) : List UInt8 := if d.kind = 2 then 32 :: Lib.itoa d.value else if d.kind = 3 then 32 :: intsT d.ls else if d.kind = 4 then 32 :: pairsT d.ps else []
def wishT (d : WD) : List UInt8 := kwT.getD d.kind.toNat [] ++ 32 :: 102 :: (Lib.itoa d.field ++ restT d)
/-- What FormatWish answers. -/
def fmtW (d : WD) (q : Bool) : ByteArray := if q then ⟨(wishT d).toArray⟩ else ⟨#[]⟩
end Go.Proofs.YtadjoiahllekdaaGreatDoor.num
namespace Go.Proofs.YtadjoiahllekdaaGreatDoor.num
set_option maxRecDepth 20000
open Go.RowKit Go.Maps
set_option linter.unusedVariables false
set_option linter.unusedSimpArgs false

theorem pair_bytes (x y : Int) : fmtB x ++ ⟨#[62]⟩ ++ fmtB y = ⟨(pairT (x, y)).toArray⟩ := by
  apply bytes_ext
  simp [pairT, fmtB, ByteArray.data_append]
theorem fmt_R {n : Int} (h : InR n) : (fmtB n).size ≤ 2 := fmt_small n (inR2 h).1 (inR2 h).2
set_option maxRecDepth 20000 in
set_option maxHeartbeats 1600000 in
theorem iFmtPair (w : World) (x y : Int) (hx : InR x) (hy : InR y) (hpow : Pow w) :
    Calls Tryz.prog 54 #[.agg #[.int .i64 x, .int .i64 y]] w fun e w' => e = .returned (.string ⟨(pairT (x, y)).toArray⟩) ∧ Below w.heap.size w w' := by
  have HPw := Lib.hid hpow
  have hfx := fmt_R hx
  have hfy := fmt_R hy
  have hx0 := inR2 hx
  have hy0 := inR2 hy
  have hcat1 : ¬ (9223372036854775807 < (fmtB x).size + 1) := by omega
  have hcat2 : ¬ (9223372036854775807 < (fmtB x).size + 1 + (fmtB y).size) := by omega
  clear hpow hx hy
  go_enter Tryz.func54, Tryz.ntmps54
  go_wp2
  obtain ⟨wg, hwg⟩ : ∃ wg, wg = w.alloc (.cells #[.int .i64 x, .int .i64 y] 78) := ⟨_, rfl⟩
  rw [← hwg]
  have HB1 : Hid (Below w.heap.size w wg) := Lib.hid (by rw [hwg]; exact (Below.refl _ w).alloc (Nat.le_refl _) _)
  have hg : w.heap.size < wg.heap.size := by rw [hwg]; simp
  have q0 : wg.cell? ⟨w.heap.size, 0, none⟩ = some (.int .i64 x) := by rw [hwg]; exact World.cell?_alloc_at _ _ _ _ rfl
  have q1 : wg.cell? ⟨w.heap.size, 1, none⟩ = some (.int .i64 y) := by rw [hwg]; exact World.cell?_alloc_at _ _ _ _ rfl
  clear hwg
  have hs0 : Below wg.heap.size wg wg.drew ∧ wg.drew.cell? ⟨w.heap.size, 0, none⟩ = some (.int .i64 x) ∧ wg.drew.cell? ⟨w.heap.size, 1, none⟩ = some (.int .i64 y) := ⟨(Below.refl _ _).drew, q0, q1⟩
  refine wp_region_held (S := fun w' => Below wg.heap.size wg w' ∧ w'.cell? ⟨w.heap.size, 0, none⟩ = some (.int .i64 x) ∧ w'.cell? ⟨w.heap.size, 1, none⟩ = some (.int .i64 y)) (by kernel_rfl) ?_
  change wpAnyH _ _ _ _ _ _ _ _ (World.drew _)
  refine takeY 3 (i := 0) (v := ?v0a) rfl rfl (by kernel_rfl) (by kernel_rfl) (by kernel_rfl) (fun _ _ _ h => h) (by kernel_rfl) ?y0a hs0 ?_
  case y0a =>
    intro w' hw'; (try dsimp only at hw'); obtain ⟨e0, e1, e2⟩ := hw'; go_simp; try with_reducible rfl
  simp only [Act.put, List.setIfInBounds_toArray, List.set_cons_zero, List.set_cons_succ]
  refine takeY 4 (i := 1) (v := ?v1a) rfl rfl (by kernel_rfl) (by kernel_rfl) (by kernel_rfl) (fun _ _ _ h => h) (by kernel_rfl) ?y1a hs0 ?_
  case y1a =>
    intro w' hw'; (try dsimp only at hw'); obtain ⟨e0, e1, e2⟩ := hw'; go_simp; try with_reducible rfl
  simp only [Act.put, List.setIfInBounds_toArray, List.set_cons_zero, List.set_cons_succ]
  refine takeY 7 (i := 4) (v := ?v4a) rfl rfl (by kernel_rfl) (by kernel_rfl) (by kernel_rfl) (fun _ _ _ h => h) (by kernel_rfl) ?y4a hs0 ?_
  case y4a =>
    intro w' hw'; (try dsimp only at hw'); obtain ⟨e0, e1, e2⟩ := hw'; go_simp; try with_reducible rfl
  simp only [Act.put, List.setIfInBounds_toArray, List.set_cons_zero, List.set_cons_succ]
  refine takeY 8 (i := 5) (v := ?v5a) rfl rfl (by kernel_rfl) (by kernel_rfl) (by kernel_rfl) (fun _ _ _ h => h) (by kernel_rfl) ?y5a hs0 ?_
  case y5a =>
    intro w' hw'; (try dsimp only at hw'); obtain ⟨e0, e1, e2⟩ := hw'; go_simp; try with_reducible rfl
  simp only [Act.put, List.setIfInBounds_toArray, List.set_cons_zero, List.set_cons_succ]
  refine wpAnyH_ready (rs := [2]) (by kernel_rfl) (by simp) ?_
  refine AllReadyH.cons rfl (fun K hK => ?_) AllReadyH.nil
  go_simp; go_at_call 46; refine (iFormat x (by omega) (by omega) _ (HPw.out.below HB1.out.drew)).mono ?_; rintro e w3 ⟨rfl, h3⟩; replace h3 := (Below.refl wg.heap.size wg).drew.trans (h3.mono (Nat.le_refl _))
  refine hK.out _ _ ⟨h3, (h3.cell (p := ⟨w.heap.size, 0, none⟩) hg).trans q0, (h3.cell (p := ⟨w.heap.size, 1, none⟩) hg).trans q1⟩ (fun hS1 => ?_)
  clear hK K
  try simp only [Act.put, List.setIfInBounds_toArray, List.set_cons_zero, List.set_cons_succ]
  refine takeY 6 (i := 3) (v := ?v3a) rfl rfl (by kernel_rfl) (by kernel_rfl) (by kernel_rfl) (fun _ _ _ h => h) (by kernel_rfl) ?y3a hS1 ?_
  case y3a =>
    intro w' hw'; (try dsimp only at hw'); obtain ⟨e0, e1, e2⟩ := hw'; go_simp; try with_reducible rfl
  simp only [Act.put, List.setIfInBounds_toArray, List.set_cons_zero, List.set_cons_succ]
  refine wpAnyH_ready (rs := [6]) (by kernel_rfl) (by simp) ?_
  refine AllReadyH.cons rfl (fun K hK => ?_) AllReadyH.nil
  go_simp; go_at_call 46; refine (iFormat y (by omega) (by omega) _ (HPw.out.below (HB1.out.trans (h3.mono HB1.out.size)))).mono ?_; rintro e w4 ⟨rfl, h4⟩; replace h4 := h3.trans (h4.mono h3.size)
  refine hK.out _ _ ⟨h4, (h4.cell (p := ⟨w.heap.size, 0, none⟩) hg).trans q0, (h4.cell (p := ⟨w.heap.size, 1, none⟩) hg).trans q1⟩ (fun hS2 => ?_)
  clear hK K
  try simp only [Act.put, List.setIfInBounds_toArray, List.set_cons_zero, List.set_cons_succ]
  refine takeY 10 (i := 7) (v := ?v7a) rfl rfl (by kernel_rfl) (by kernel_rfl) (by kernel_rfl) (fun _ _ _ h => h) (by kernel_rfl) ?y7a hS2 ?_
  case y7a =>
    intro w' hw'; (try dsimp only at hw'); obtain ⟨e0, e1, e2⟩ := hw'; go_simp; try with_reducible rfl
  simp only [Act.put, List.setIfInBounds_toArray, List.set_cons_zero, List.set_cons_succ]
  refine takeY 2 (i := 8) (v := ?v8a) rfl rfl (by kernel_rfl) (by kernel_rfl) (by kernel_rfl) (fun _ _ _ h => h) (by kernel_rfl) ?y8a hS2 ?_
  case y8a =>
    intro w' hw'; (try dsimp only at hw'); obtain ⟨e0, e1, e2⟩ := hw'; go_simp; try with_reducible rfl
  simp only [Act.put, List.setIfInBounds_toArray, List.set_cons_zero, List.set_cons_succ]
  refine wpAnyH_done (by kernel_rfl) ?_ _
  clear hcat1 hcat2 hfx hfy
  go_wp2
  go_ret
  exact ⟨by rw [← pair_bytes]; rfl, HB1.out.trans (h4.mono HB1.out.size)⟩

def wordP (ps : List (Int × Int)) (j : Nat) : ByteArray := ⟨(pairT (ps.getD j (0, 0))).toArray⟩
theorem wordP_at {ps : List (Int × Int)} {k : Nat} {p : Int × Int} (h : ps[k]? = some p) : wordP ps k = ⟨(pairT p).toArray⟩ := by
  unfold wordP
  rw [List.getD_eq_getElem?_getD, h]; rfl
set_option maxHeartbeats 1600000 in
theorem iJoinP (w : World) (B : Nat) (A : Option Addr) (n cc : Nat) (ps : List (Int × Int)) (hi : Pairs w B A n ps) (hB : B ≤ w.heap.size) (h8 : n ≤ 8) (h : ∀ p, p ∈ ps → InR p.1 ∧ InR p.2) (hpow : Pow w) :
    Calls Tryz.prog 53 #[.slice A n cc, .string ⟨#[44]⟩, .func (.func 54) #[] #[]] w fun e w' => e = .returned (.string ⟨(Lib.join (ps.map pairT) [44]).toArray⟩) ∧ Below w.heap.size w w' := by
  have hmk := run_make_row' (P := Tryz.prog) 86 9 (.string ⟨#[]⟩) 16 Tryz.underlying86 info_string rfl .i64 .i64 n (by omega) (by omega)
  have HX := Lib.hid hi
  have HP := Lib.hid hpow
  have HR0 := Lib.hid h
  clear hi hpow h
  go_enter Tryz.func53, Tryz.ntmps53
  go_wp2
  clear hmk
  go_loopw [15] (fun i wr => ∃ k : Nat, k ≤ n ∧ i = .int .i64 k ∧ wr.rowIs w.heap.size 9 n (fun j => if j < k then .string (wordP ps j) else .string ⟨#[]⟩) ∧ Below w.heap.size w wr) (fun i _ => n - (intOf i).toNat)
  case atStart =>
    exact ⟨0, Nat.zero_le _, rfl, by simpa using World.rowIs_made w (.string ⟨#[]⟩) n 9, (Below.refl _ _).alloc (Nat.le_refl _) _⟩
  case round =>
    obtain ⟨k, hk, rfl, hrow, hbel⟩ := hrel
    have HR := Lib.hid hrow
    have HB := Lib.hid hbel
    by_cases hlt : k < n
    · obtain ⟨b1, off, x, y, rfl, hb1, hat, hc1, hc2⟩ := HX.out.at k hlt
      have f1 := (hbel.cell (p := ⟨b1, off + k * 2, none⟩) (by exact Nat.lt_of_lt_of_le hb1 hB)).trans hc1
      have f2 := (hbel.cell (p := ⟨b1, off + k * 2 + 1, none⟩) (by exact Nat.lt_of_lt_of_le hb1 hB)).trans hc2
      have HT := Lib.hid hat
      have HRng := Lib.hid (HR0.out (x, y) (List.mem_of_getElem? hat))
      have hx1 := hbel.alloc hbel.size (.cells #[.int .i64 x, .int .i64 y] 78)
      have hx2 := (Below.refl wr.heap.size wr).alloc (Nat.le_refl _) (.cells #[.int .i64 x, .int .i64 y] 78)
      have HX1 := Lib.hid hx1
      have HX2 := Lib.hid hx2
      have hlt' : (k : Int) < (n : Int) := by omega
      clear hrow hbel hc1 hc2 hat hx1 hx2
      go_wp2_with fail
      refine (iFmtPair _ x y HRng.out.1 HRng.out.2 (HP.out.below HX1.out)).mono ?_
      rintro e w1 ⟨rfl, hb⟩
      have HB2 := Lib.hid (HX2.out.trans (hb.mono HX2.out.size))
      have hrow1 := rowIs_below HR.out HB2.out (World.rowIs.lt HR.out)
      have g1 : w1.cell? ⟨w.heap.size, k, none⟩ = some (.string ⟨#[]⟩) := by rw [World.rowIs.cell hrow1 hlt, if_neg (by omega)]
      have g2 := World.rowIs.frozen hrow1 k
      have HR1 := Lib.hid hrow1
      have HB1 := Lib.hid (HX1.out.trans (hb.mono HX1.out.size))
      clear hb hrow1 f1 f2
      go_wp2
      go_roundw
      case rel =>
        refine ⟨k + 1, by omega, by go_num, (World.rowIs.set HR1.out k (.string ⟨(pairT (x, y)).toArray⟩)).congr (fun j _ => ?_), HB1.out.setCell (Nat.le_refl _) _⟩
        by_cases h1 : j = k
        · subst h1; rw [if_pos rfl, if_pos (by omega), wordP_at HT.out]
        · by_cases h2 : j < k
          · rw [if_neg h1, if_pos h2, if_pos (by omega)]
          · rw [if_neg h1, if_neg h2, if_neg (by omega)]
      case measure => simp [intOf]; omega
    · obtain rfl : k = n := by omega
      obtain ⟨xs, hxs⟩ : ∃ xs : List ByteArray, xs = ps.map fun p => ⟨(pairT p).toArray⟩ := ⟨_, rfl⟩
      have hxl : xs.length = k := by rw [hxs, List.length_map]; exact HX.out.1
      have hmap : xs.map (·.data.toList) = ps.map pairT := by rw [hxs, List.map_map]; rfl
      have hcells : ∀ (j : Nat) x, xs[j]? = some x → wr.cell? ⟨w.heap.size, 0 + j, none⟩ = some (.string x) := by
        intro j x hx
        have hj : j < k := by
          rcases Nat.lt_or_ge j xs.length with h' | h'
          · omega
          · rw [List.getElem?_eq_none h'] at hx; cases hx
        rw [hxs, List.getElem?_map] at hx
        obtain ⟨p, hp, rfl⟩ := Option.map_eq_some_iff.1 hx
        rw [Nat.zero_add, World.rowIs.cell hrow hj, if_pos hj, wordP_at hp]
      have hsz : (Lib.join (xs.map (·.data.toList)) (⟨#[44]⟩ : ByteArray).data.toList).length ≤ 140737488355328 := by
        rw [hmap]
        have := join_le (m := 5) 44 (ps.map pairT) fun x hx => by
          obtain ⟨p, hp, rfl⟩ := List.mem_map.1 hx
          exact pairT_len (HR0.out p hp)
        rw [List.length_map, HX.out.1] at this
        show (Lib.join (ps.map pairT) [44]).length ≤ _
        omega
      have hJ := Tryz.strings_Join w.heap.size 0 k xs ⟨#[44]⟩ wr hcells (World.rowIs.lt hrow) (by omega) (by omega) hsz
      rw [hxl, hmap] at hJ
      have HJ := Lib.hid hJ
      clear hrow hbel hcells hJ hsz hmap hxl hxs
      go_wp2_with fail
      refine HJ.out.mono ?_
      rintro e w1 ⟨rfl, hb⟩
      have HB1 := Lib.hid (HB.out.trans (hb.mono HB.out.size))
      clear hb
      go_wp2
      go_ret
      exact ⟨rfl, HB1.out⟩

theorem OkP.n8 {w : World} {B : Nat} {A : Option Addr} {n : Nat} {ps : List (Int × Int)} (h : OkP ps) (hi : Pairs w B A n ps) : n ≤ 8 := by have := h.2; have := hi.1; omega
set_option maxHeartbeats 1600000 in
theorem iFmtP (w : World) (B : Nat) (A : Option Addr) (n c : Nat) (ps : List (Int × Int)) (hi : Pairs w B A n ps) (hB : B ≤ w.heap.size) (hn : n ≤ 1048576) (q : Bool) (hq : q = true ↔ OkP ps) (hpow : Pow w) :
    Calls Tryz.prog 10 #[.slice A n c] w fun e w' => e = .returned (.string (fmtP ps q)) ∧ Below w.heap.size w w' := by
  have HX := Lib.hid hi
  have HQ := Lib.hid hq
  have HP := Lib.hid hpow
  clear hi hq hpow
  go_enter Tryz.func10, Tryz.ntmps10
  go_wp2_with fail
  refine (iArePairs w B A n c ps HX.out hB hn q HQ.out).mono ?_
  rintro e w1 ⟨rfl, hb1⟩
  have HB1 := Lib.hid hb1
  clear hb1
  cases q
  · go_wp2
    go_ret
    exact ⟨rfl, HB1.out⟩
  · have hok := HQ.out.1 (by first | rfl | trivial)
    have h8 := hok.n8 HX.out
    have HOk := Lib.hid hok
    clear hok
    by_cases h0 : n = 0
    · have hps : Hid (ps = []) := Lib.hid (List.eq_nil_of_length_eq_zero (HX.out.1.trans h0))
      subst h0
      go_wp2
      go_ret
      exact ⟨by rw [hps.out]; rfl, HB1.out⟩
    · have hps : Hid (ps ≠ []) := Lib.hid fun e => h0 (by rw [← HX.out.1, e]; rfl)
      have hne : ((n : Int) == 0) = false := by simpa using h0
      go_wp2_with fail
      refine (iJoinP w1 B A n c ps (HX.out.below (HB1.out.mono hB)) (Nat.le_trans hB HB1.out.size) h8 HOk.out.1.rng (HP.out.below HB1.out)).mono ?_
      rintro e w2 ⟨rfl, hb2⟩
      have HB2 := Lib.hid (HB1.out.trans (hb2.mono HB1.out.size))
      clear hb2
      go_wp2
      go_ret
      exact ⟨by unfold fmtP pairsT; rw [if_pos rfl, if_neg hps.out]; rfl, HB2.out⟩

set_option maxRecDepth 20000 in
set_option maxHeartbeats 3200000 in
theorem sFmtP (w : World) (B : Nat) (A : Option Addr) (n c : Nat) (ps : List (Int × Int)) (hi : Pairs w B A n ps) (hB : B ≤ w.heap.size) (hn : n ≤ 1048576) (q : Bool) (hq : q = true ↔ OkP ps) :
    Calls Tryz.prog 14 #[.slice A n c] w fun e w' => e = .returned (.string (fmtP ps q)) ∧ Below w.heap.size w w' := by
  have HX := Lib.hid hi
  have HQ := Lib.hid hq
  clear hi hq
  go_enter Tryz.func14, Tryz.ntmps14
  go_wp2_with fail
  refine (sArePairs w B A n c ps HX.out hB hn q HQ.out).mono ?_
  rintro e w1 ⟨rfl, hb1⟩
  have HB1 := Lib.hid hb1
  clear hb1
  cases q
  · go_wp2
    go_ret
    exact ⟨rfl, HB1.out⟩
  · have hok := HQ.out.1 (by first | rfl | trivial)
    have h8 := hok.n8 HX.out
    have HOk := Lib.hid hok
    clear hok
    go_wp2
    go_loopw [3, 4] (fun s i wr => ∃ k : Nat, k ≤ n ∧ i = .int .i64 k ∧ s = .string (preP ps k) ∧ Below w.heap.size w wr) (fun _ i _ => n - (intOf i).toNat)
    case atStart => exact ⟨0, Nat.zero_le _, rfl, rfl, HB1.out⟩
    case round =>
      clear HB1
      obtain ⟨k, hk, rfl, rfl, hbel⟩ := hrel
      have HB := Lib.hid hbel
      have hpre := preP_small HOk.out.1.rng k
      by_cases hlt : k < n
      · obtain ⟨b1, off, x, y, rfl, hb1, hat, hc1, hc2⟩ := HX.out.at k hlt
        have f1 := (hbel.cell (p := ⟨b1, off + k * 2, none⟩) (by exact Nat.lt_of_lt_of_le hb1 hB)).trans hc1
        have f2 := (hbel.cell (p := ⟨b1, off + k * 2 + 1, none⟩) (by exact Nat.lt_of_lt_of_le hb1 hB)).trans hc2
        have hl1 : b1 < wr.heap.size := Nat.lt_of_lt_of_le hb1 (Nat.le_trans hB hbel.size)
        have hrng := HOk.out.1.rng (x, y) (List.mem_of_getElem? hat)
        have hfx := fmt_R hrng.1
        have hfy := fmt_R hrng.2
        obtain ⟨hx0, hx1⟩ := inR2 hrng.1
        obtain ⟨hy0, hy1⟩ := inR2 hrng.2
        have hlt' : (k : Int) < (n : Int) := by omega
        dsimp only at hfx hfy hx0 hx1 hy0 hy1
        by_cases hk0 : k = 0
        · have hstep : preP ps k ++ fmtB x ++ ⟨#[62]⟩ ++ fmtB y = preP ps (k + 1) := by
            subst hk0
            rw [preP_zero]
            exact preP_one hat
          obtain ⟨sb, hsb⟩ : ∃ sb : ByteArray, sb = preP ps k := ⟨_, rfl⟩
          rw [← hsb] at hstep hpre ⊢
          have HStep := Lib.hid hstep
          have hsz : sb.size ≤ 50 := by omega
          have hkn : ¬ ((0 : Int) < (k : Int)) := by omega
          clear hsb hat hrng hc1 hc2 hbel hpre hstep hk0
          go_wp2
          clear hkn
          have hc1 : ¬ (9223372036854775807 < sb.size + (fmtB x).size) := by omega
          have hc2 : ¬ (9223372036854775807 < sb.size + (fmtB x).size + 1) := by omega
          have hc3 : ¬ (9223372036854775807 < sb.size + (fmtB x).size + 1 + (fmtB y).size) := by omega
          have hs0 : Below wr.heap.size wr wr.drew ∧ wr.drew.cell? ⟨b1, off + k * 2, none⟩ = some (.int .i64 x) ∧ wr.drew.cell? ⟨b1, off + k * 2 + 1, none⟩ = some (.int .i64 y) := ⟨(Below.refl _ _).drew, f1, f2⟩
          refine wp_region_held (S := fun w' => Below wr.heap.size wr w' ∧ w'.cell? ⟨b1, off + k * 2, none⟩ = some (.int .i64 x) ∧ w'.cell? ⟨b1, off + k * 2 + 1, none⟩ = some (.int .i64 y)) (by kernel_rfl) ?_
          change wpAnyH _ _ _ _ _ _ _ _ (World.drew _)
          refine takeY 18 (i := 0) (v := ?v0b) rfl rfl (by kernel_rfl) (by kernel_rfl) (by kernel_rfl) (fun _ _ _ h => h) (by kernel_rfl) ?y0b hs0 ?_
          case y0b =>
            intro w' hw'; (try dsimp only at hw'); obtain ⟨e0, e1, e2⟩ := hw'; go_simp; try with_reducible rfl
          simp only [Act.put, List.setIfInBounds_toArray, List.set_cons_zero, List.set_cons_succ]
          refine takeY 19 (i := 1) (v := ?v1b) rfl rfl (by kernel_rfl) (by kernel_rfl) (by kernel_rfl) (fun _ _ _ h => h) (by kernel_rfl) ?y1b hs0 ?_
          case y1b =>
            intro w' hw'; (try dsimp only at hw'); obtain ⟨e0, e1, e2⟩ := hw'; go_simp; try with_reducible rfl
          simp only [Act.put, List.setIfInBounds_toArray, List.set_cons_zero, List.set_cons_succ]
          refine takeY 20 (i := 2) (v := ?v2b) rfl rfl (by kernel_rfl) (by kernel_rfl) (by kernel_rfl) (fun _ _ _ h => h) (by kernel_rfl) ?y2b hs0 ?_
          case y2b =>
            intro w' hw'; (try dsimp only at hw'); obtain ⟨e0, e1, e2⟩ := hw'; go_simp; try with_reducible rfl
          simp only [Act.put, List.setIfInBounds_toArray, List.set_cons_zero, List.set_cons_succ]
          refine takeY 21 (i := 3) (v := ?v3b) rfl rfl (by kernel_rfl) (by kernel_rfl) (by kernel_rfl) (fun _ _ _ h => h) (by kernel_rfl) ?y3b hs0 ?_
          case y3b =>
            intro w' hw'; (try dsimp only at hw'); obtain ⟨e0, e1, e2⟩ := hw'; go_simp; try with_reducible rfl
          simp only [Act.put, List.setIfInBounds_toArray, List.set_cons_zero, List.set_cons_succ]
          refine takeY 22 (i := 4) (v := ?v4b) rfl rfl (by kernel_rfl) (by kernel_rfl) (by kernel_rfl) (fun _ _ _ h => h) (by kernel_rfl) ?y4b hs0 ?_
          case y4b =>
            intro w' hw'; (try dsimp only at hw'); obtain ⟨e0, e1, e2⟩ := hw'; go_simp; try with_reducible rfl
          simp only [Act.put, List.setIfInBounds_toArray, List.set_cons_zero, List.set_cons_succ]
          refine takeY 23 (i := 5) (v := ?v5b) rfl rfl (by kernel_rfl) (by kernel_rfl) (by kernel_rfl) (fun _ _ _ h => h) (by kernel_rfl) ?y5b hs0 ?_
          case y5b =>
            intro w' hw'; (try dsimp only at hw'); obtain ⟨e0, e1, e2⟩ := hw'; go_simp; try with_reducible rfl
          simp only [Act.put, List.setIfInBounds_toArray, List.set_cons_zero, List.set_cons_succ]
          refine takeY 27 (i := 9) (v := ?v9b) rfl rfl (by kernel_rfl) (by kernel_rfl) (by kernel_rfl) (fun _ _ _ h => h) (by kernel_rfl) ?y9b hs0 ?_
          case y9b =>
            intro w' hw'; (try dsimp only at hw'); obtain ⟨e0, e1, e2⟩ := hw'; go_simp; try with_reducible rfl
          simp only [Act.put, List.setIfInBounds_toArray, List.set_cons_zero, List.set_cons_succ]
          refine takeY 28 (i := 10) (v := ?v10b) rfl rfl (by kernel_rfl) (by kernel_rfl) (by kernel_rfl) (fun _ _ _ h => h) (by kernel_rfl) ?y10b hs0 ?_
          case y10b =>
            intro w' hw'; (try dsimp only at hw'); obtain ⟨e0, e1, e2⟩ := hw'; go_simp; try with_reducible rfl
          simp only [Act.put, List.setIfInBounds_toArray, List.set_cons_zero, List.set_cons_succ]
          refine takeY 29 (i := 11) (v := ?v11b) rfl rfl (by kernel_rfl) (by kernel_rfl) (by kernel_rfl) (fun _ _ _ h => h) (by kernel_rfl) ?y11b hs0 ?_
          case y11b =>
            intro w' hw'; (try dsimp only at hw'); obtain ⟨e0, e1, e2⟩ := hw'; go_simp; try with_reducible rfl
          simp only [Act.put, List.setIfInBounds_toArray, List.set_cons_zero, List.set_cons_succ]
          refine takeY 30 (i := 12) (v := ?v12b) rfl rfl (by kernel_rfl) (by kernel_rfl) (by kernel_rfl) (fun _ _ _ h => h) (by kernel_rfl) ?y12b hs0 ?_
          case y12b =>
            intro w' hw'; (try dsimp only at hw'); obtain ⟨e0, e1, e2⟩ := hw'; go_simp; try with_reducible rfl
          simp only [Act.put, List.setIfInBounds_toArray, List.set_cons_zero, List.set_cons_succ]
          refine takeY 31 (i := 13) (v := ?v13b) rfl rfl (by kernel_rfl) (by kernel_rfl) (by kernel_rfl) (fun _ _ _ h => h) (by kernel_rfl) ?y13b hs0 ?_
          case y13b =>
            intro w' hw'; (try dsimp only at hw'); obtain ⟨e0, e1, e2⟩ := hw'; go_simp; try with_reducible rfl
          simp only [Act.put, List.setIfInBounds_toArray, List.set_cons_zero, List.set_cons_succ]
          refine wpAnyH_ready (rs := [6]) (by kernel_rfl) (by simp) ?_
          refine AllReadyH.cons rfl (fun K hK => ?_) AllReadyH.nil
          go_simp; go_at_call 57; refine (sFormat x (by omega) (by omega) _).mono ?_; rintro e w3 ⟨rfl, h3⟩; replace h3 := (Below.refl wr.heap.size wr).drew.trans (h3.mono (Nat.le_refl _))
          refine hK.out _ _ ⟨h3, (h3.cell (p := ⟨b1, off + k * 2, none⟩) hl1).trans f1, (h3.cell (p := ⟨b1, off + k * 2 + 1, none⟩) hl1).trans f2⟩ (fun hS1 => ?_)
          clear hK K
          try simp only [Act.put, List.setIfInBounds_toArray, List.set_cons_zero, List.set_cons_succ]
          refine takeY 25 (i := 7) (v := ?v7b) rfl rfl (by kernel_rfl) (by kernel_rfl) (by kernel_rfl) (fun _ _ _ h => h) (by kernel_rfl) ?y7b hS1 ?_
          case y7b =>
            intro w' hw'; (try dsimp only at hw'); obtain ⟨e0, e1, e2⟩ := hw'; go_simp; try with_reducible rfl
          simp only [Act.put, List.setIfInBounds_toArray, List.set_cons_zero, List.set_cons_succ]
          refine takeY 26 (i := 8) (v := ?v8b) rfl rfl (by kernel_rfl) (by kernel_rfl) (by kernel_rfl) (fun _ _ _ h => h) (by kernel_rfl) ?y8b hS1 ?_
          case y8b =>
            intro w' hw'; (try dsimp only at hw'); obtain ⟨e0, e1, e2⟩ := hw'; go_simp; try with_reducible rfl
          simp only [Act.put, List.setIfInBounds_toArray, List.set_cons_zero, List.set_cons_succ]
          refine wpAnyH_ready (rs := [14]) (by kernel_rfl) (by simp) ?_
          refine AllReadyH.cons rfl (fun K hK => ?_) AllReadyH.nil
          go_simp; go_at_call 57; refine (sFormat y (by omega) (by omega) _).mono ?_; rintro e w4 ⟨rfl, h4⟩; replace h4 := h3.trans (h4.mono h3.size)
          refine hK.out _ _ ⟨h4, (h4.cell (p := ⟨b1, off + k * 2, none⟩) hl1).trans f1, (h4.cell (p := ⟨b1, off + k * 2 + 1, none⟩) hl1).trans f2⟩ (fun hS2 => ?_)
          clear hK K
          try simp only [Act.put, List.setIfInBounds_toArray, List.set_cons_zero, List.set_cons_succ]
          refine takeY 33 (i := 15) (v := ?v15b) rfl rfl (by kernel_rfl) (by kernel_rfl) (by kernel_rfl) (fun _ _ _ h => h) (by kernel_rfl) ?y15b hS2 ?_
          case y15b =>
            intro w' hw'; (try dsimp only at hw'); obtain ⟨e0, e1, e2⟩ := hw'; go_simp; try with_reducible rfl
          simp only [Act.put, List.setIfInBounds_toArray, List.set_cons_zero, List.set_cons_succ]
          refine takeY 3 (i := 16) (v := ?v16b) rfl rfl (by kernel_rfl) (by kernel_rfl) (by kernel_rfl) (fun _ _ _ h => h) (by kernel_rfl) ?y16b hS2 ?_
          case y16b =>
            intro w' hw'; (try dsimp only at hw'); obtain ⟨e0, e1, e2⟩ := hw'; go_simp; try with_reducible rfl
          simp only [Act.put, List.setIfInBounds_toArray, List.set_cons_zero, List.set_cons_succ]
          refine wpAnyH_done (by kernel_rfl) ?_ _
          have HB' := Lib.hid (HB.out.trans (h4.mono HB.out.size))
          clear hc1 hc2 hc3 hs0 hS1 hS2 h3 h4 f1 f2 HB
          go_wp2
          go_roundw
          case rel => exact ⟨k + 1, by omega, by go_num, by rw [← HStep.out], HB'.out⟩
          case measure => simp [intOf]; omega
        · have HStep := Lib.hid (preP_step (by omega) hat)
          have hkp : (0 : Int) < (k : Int) := by omega
          have hc0 : ¬ (9223372036854775807 < (preP ps k).size + 1) := by omega
          obtain ⟨sb, hsb⟩ : ∃ sb : ByteArray, sb = preP ps k ++ ⟨#[44]⟩ := ⟨_, rfl⟩
          have hsz : sb.size ≤ 50 := by
            rw [hsb, ByteArray.size_append]
            have : (⟨#[44]⟩ : ByteArray).size = 1 := rfl
            omega
          rw [← hsb] at HStep
          clear hat hrng hc1 hc2 hbel hpre
          go_wp2
          rw [← hsb]
          clear hsb hc0
          have hc1 : ¬ (9223372036854775807 < sb.size + (fmtB x).size) := by omega
          have hc2 : ¬ (9223372036854775807 < sb.size + (fmtB x).size + 1) := by omega
          have hc3 : ¬ (9223372036854775807 < sb.size + (fmtB x).size + 1 + (fmtB y).size) := by omega
          have hs0 : Below wr.heap.size wr wr.drew ∧ wr.drew.cell? ⟨b1, off + k * 2, none⟩ = some (.int .i64 x) ∧ wr.drew.cell? ⟨b1, off + k * 2 + 1, none⟩ = some (.int .i64 y) := ⟨(Below.refl _ _).drew, f1, f2⟩
          refine wp_region_held (S := fun w' => Below wr.heap.size wr w' ∧ w'.cell? ⟨b1, off + k * 2, none⟩ = some (.int .i64 x) ∧ w'.cell? ⟨b1, off + k * 2 + 1, none⟩ = some (.int .i64 y)) (by kernel_rfl) ?_
          change wpAnyH _ _ _ _ _ _ _ _ (World.drew _)
          refine takeY 18 (i := 0) (v := ?v0c) rfl rfl (by kernel_rfl) (by kernel_rfl) (by kernel_rfl) (fun _ _ _ h => h) (by kernel_rfl) ?y0c hs0 ?_
          case y0c =>
            intro w' hw'; (try dsimp only at hw'); obtain ⟨e0, e1, e2⟩ := hw'; go_simp; try with_reducible rfl
          simp only [Act.put, List.setIfInBounds_toArray, List.set_cons_zero, List.set_cons_succ]
          refine takeY 19 (i := 1) (v := ?v1c) rfl rfl (by kernel_rfl) (by kernel_rfl) (by kernel_rfl) (fun _ _ _ h => h) (by kernel_rfl) ?y1c hs0 ?_
          case y1c =>
            intro w' hw'; (try dsimp only at hw'); obtain ⟨e0, e1, e2⟩ := hw'; go_simp; try with_reducible rfl
          simp only [Act.put, List.setIfInBounds_toArray, List.set_cons_zero, List.set_cons_succ]
          refine takeY 20 (i := 2) (v := ?v2c) rfl rfl (by kernel_rfl) (by kernel_rfl) (by kernel_rfl) (fun _ _ _ h => h) (by kernel_rfl) ?y2c hs0 ?_
          case y2c =>
            intro w' hw'; (try dsimp only at hw'); obtain ⟨e0, e1, e2⟩ := hw'; go_simp; try with_reducible rfl
          simp only [Act.put, List.setIfInBounds_toArray, List.set_cons_zero, List.set_cons_succ]
          refine takeY 21 (i := 3) (v := ?v3c) rfl rfl (by kernel_rfl) (by kernel_rfl) (by kernel_rfl) (fun _ _ _ h => h) (by kernel_rfl) ?y3c hs0 ?_
          case y3c =>
            intro w' hw'; (try dsimp only at hw'); obtain ⟨e0, e1, e2⟩ := hw'; go_simp; try with_reducible rfl
          simp only [Act.put, List.setIfInBounds_toArray, List.set_cons_zero, List.set_cons_succ]
          refine takeY 22 (i := 4) (v := ?v4c) rfl rfl (by kernel_rfl) (by kernel_rfl) (by kernel_rfl) (fun _ _ _ h => h) (by kernel_rfl) ?y4c hs0 ?_
          case y4c =>
            intro w' hw'; (try dsimp only at hw'); obtain ⟨e0, e1, e2⟩ := hw'; go_simp; try with_reducible rfl
          simp only [Act.put, List.setIfInBounds_toArray, List.set_cons_zero, List.set_cons_succ]
          refine takeY 23 (i := 5) (v := ?v5c) rfl rfl (by kernel_rfl) (by kernel_rfl) (by kernel_rfl) (fun _ _ _ h => h) (by kernel_rfl) ?y5c hs0 ?_
          case y5c =>
            intro w' hw'; (try dsimp only at hw'); obtain ⟨e0, e1, e2⟩ := hw'; go_simp; try with_reducible rfl
          simp only [Act.put, List.setIfInBounds_toArray, List.set_cons_zero, List.set_cons_succ]
          refine takeY 27 (i := 9) (v := ?v9c) rfl rfl (by kernel_rfl) (by kernel_rfl) (by kernel_rfl) (fun _ _ _ h => h) (by kernel_rfl) ?y9c hs0 ?_
          case y9c =>
            intro w' hw'; (try dsimp only at hw'); obtain ⟨e0, e1, e2⟩ := hw'; go_simp; try with_reducible rfl
          simp only [Act.put, List.setIfInBounds_toArray, List.set_cons_zero, List.set_cons_succ]
          refine takeY 28 (i := 10) (v := ?v10c) rfl rfl (by kernel_rfl) (by kernel_rfl) (by kernel_rfl) (fun _ _ _ h => h) (by kernel_rfl) ?y10c hs0 ?_
          case y10c =>
            intro w' hw'; (try dsimp only at hw'); obtain ⟨e0, e1, e2⟩ := hw'; go_simp; try with_reducible rfl
          simp only [Act.put, List.setIfInBounds_toArray, List.set_cons_zero, List.set_cons_succ]
          refine takeY 29 (i := 11) (v := ?v11c) rfl rfl (by kernel_rfl) (by kernel_rfl) (by kernel_rfl) (fun _ _ _ h => h) (by kernel_rfl) ?y11c hs0 ?_
          case y11c =>
            intro w' hw'; (try dsimp only at hw'); obtain ⟨e0, e1, e2⟩ := hw'; go_simp; try with_reducible rfl
          simp only [Act.put, List.setIfInBounds_toArray, List.set_cons_zero, List.set_cons_succ]
          refine takeY 30 (i := 12) (v := ?v12c) rfl rfl (by kernel_rfl) (by kernel_rfl) (by kernel_rfl) (fun _ _ _ h => h) (by kernel_rfl) ?y12c hs0 ?_
          case y12c =>
            intro w' hw'; (try dsimp only at hw'); obtain ⟨e0, e1, e2⟩ := hw'; go_simp; try with_reducible rfl
          simp only [Act.put, List.setIfInBounds_toArray, List.set_cons_zero, List.set_cons_succ]
          refine takeY 31 (i := 13) (v := ?v13c) rfl rfl (by kernel_rfl) (by kernel_rfl) (by kernel_rfl) (fun _ _ _ h => h) (by kernel_rfl) ?y13c hs0 ?_
          case y13c =>
            intro w' hw'; (try dsimp only at hw'); obtain ⟨e0, e1, e2⟩ := hw'; go_simp; try with_reducible rfl
          simp only [Act.put, List.setIfInBounds_toArray, List.set_cons_zero, List.set_cons_succ]
          refine wpAnyH_ready (rs := [6]) (by kernel_rfl) (by simp) ?_
          refine AllReadyH.cons rfl (fun K hK => ?_) AllReadyH.nil
          go_simp; go_at_call 57; refine (sFormat x (by omega) (by omega) _).mono ?_; rintro e w3 ⟨rfl, h3⟩; replace h3 := (Below.refl wr.heap.size wr).drew.trans (h3.mono (Nat.le_refl _))
          refine hK.out _ _ ⟨h3, (h3.cell (p := ⟨b1, off + k * 2, none⟩) hl1).trans f1, (h3.cell (p := ⟨b1, off + k * 2 + 1, none⟩) hl1).trans f2⟩ (fun hS1 => ?_)
          clear hK K
          try simp only [Act.put, List.setIfInBounds_toArray, List.set_cons_zero, List.set_cons_succ]
          refine takeY 25 (i := 7) (v := ?v7c) rfl rfl (by kernel_rfl) (by kernel_rfl) (by kernel_rfl) (fun _ _ _ h => h) (by kernel_rfl) ?y7c hS1 ?_
          case y7c =>
            intro w' hw'; (try dsimp only at hw'); obtain ⟨e0, e1, e2⟩ := hw'; go_simp; try with_reducible rfl
          simp only [Act.put, List.setIfInBounds_toArray, List.set_cons_zero, List.set_cons_succ]
          refine takeY 26 (i := 8) (v := ?v8c) rfl rfl (by kernel_rfl) (by kernel_rfl) (by kernel_rfl) (fun _ _ _ h => h) (by kernel_rfl) ?y8c hS1 ?_
          case y8c =>
            intro w' hw'; (try dsimp only at hw'); obtain ⟨e0, e1, e2⟩ := hw'; go_simp; try with_reducible rfl
          simp only [Act.put, List.setIfInBounds_toArray, List.set_cons_zero, List.set_cons_succ]
          refine wpAnyH_ready (rs := [14]) (by kernel_rfl) (by simp) ?_
          refine AllReadyH.cons rfl (fun K hK => ?_) AllReadyH.nil
          go_simp; go_at_call 57; refine (sFormat y (by omega) (by omega) _).mono ?_; rintro e w4 ⟨rfl, h4⟩; replace h4 := h3.trans (h4.mono h3.size)
          refine hK.out _ _ ⟨h4, (h4.cell (p := ⟨b1, off + k * 2, none⟩) hl1).trans f1, (h4.cell (p := ⟨b1, off + k * 2 + 1, none⟩) hl1).trans f2⟩ (fun hS2 => ?_)
          clear hK K
          try simp only [Act.put, List.setIfInBounds_toArray, List.set_cons_zero, List.set_cons_succ]
          refine takeY 33 (i := 15) (v := ?v15c) rfl rfl (by kernel_rfl) (by kernel_rfl) (by kernel_rfl) (fun _ _ _ h => h) (by kernel_rfl) ?y15c hS2 ?_
          case y15c =>
            intro w' hw'; (try dsimp only at hw'); obtain ⟨e0, e1, e2⟩ := hw'; go_simp; try with_reducible rfl
          simp only [Act.put, List.setIfInBounds_toArray, List.set_cons_zero, List.set_cons_succ]
          refine takeY 3 (i := 16) (v := ?v16c) rfl rfl (by kernel_rfl) (by kernel_rfl) (by kernel_rfl) (fun _ _ _ h => h) (by kernel_rfl) ?y16c hS2 ?_
          case y16c =>
            intro w' hw'; (try dsimp only at hw'); obtain ⟨e0, e1, e2⟩ := hw'; go_simp; try with_reducible rfl
          simp only [Act.put, List.setIfInBounds_toArray, List.set_cons_zero, List.set_cons_succ]
          refine wpAnyH_done (by kernel_rfl) ?_ _
          have HB' := Lib.hid (HB.out.trans (h4.mono HB.out.size))
          clear hc1 hc2 hc3 hs0 hS1 hS2 h3 h4 f1 f2 HB
          go_wp2
          go_roundw
          case rel => exact ⟨k + 1, by omega, by go_num, by rw [← HStep.out], HB'.out⟩
          case measure => simp [intOf]; omega
      · obtain rfl : k = n := by omega
        clear hbel hpre
        by_cases h0 : k = 0
        · have hps : Hid (ps = []) := Lib.hid (List.eq_nil_of_length_eq_zero (HX.out.1.trans h0))
          subst h0
          rw [preP_zero]
          go_wp2
          go_ret
          exact ⟨by rw [hps.out]; rfl, HB.out⟩
        · have hps : ps ≠ [] := fun e => h0 (by rw [← HX.out.1, e]; rfl)
          obtain ⟨h1, h2, h3⟩ := preP_all HX.out.1 hps
          rw [h1]
          obtain ⟨sb, hsb⟩ : ∃ sb : ByteArray, sb = fmtP ps true := ⟨_, rfl⟩
          rw [← hsb] at h2 h3 ⊢
          have HSb := Lib.hid hsb
          clear hsb h1 hps
          go_wp2
          go_ret
          exact ⟨by rw [← HSb.out]; rfl, HB.out⟩
end Go.Proofs.YtadjoiahllekdaaGreatDoor.num
namespace Go.Proofs.YtadjoiahllekdaaGreatDoor.num
set_option maxRecDepth 20000
open Go.RowKit
set_option linter.unusedVariables false

theorem fmt_R' {n : Int} (h : InR n) : (fmtB n).size ≤ 2 := fmt_small n (inR2 h).1 (inR2 h).2
set_option maxHeartbeats 1600000 in
theorem sInts (w : World) (B : Nat) (A : Option Addr) (n c : Nat) (l : List Int) (hi : Ints w B A n l) (hB : B ≤ w.heap.size) (hn : n ≤ 1048576) (h : ∀ v ∈ l, InR v) :
    Calls Tryz.prog 58 #[.slice A n c] w fun e w' => e = .returned (.string ⟨(intsT l).toArray⟩) ∧ Below w.heap.size w w' := by
  have HX := Lib.hid hi
  have HR := Lib.hid h
  clear hi h
  go_enter Tryz.func58, Tryz.ntmps58
  go_wp2
  go_loopw [3, 4] (fun s i wr => ∃ k : Nat, k ≤ n ∧ i = .int .i64 k ∧ s = .string (preI l k) ∧ Below w.heap.size w wr) (fun _ i _ => n - (intOf i).toNat)
  case atStart => exact ⟨0, Nat.zero_le _, rfl, rfl, Below.refl _ _⟩
  case round =>
    obtain ⟨k, hk, rfl, rfl, hbel⟩ := hrel
    have HB := Lib.hid hbel
    have hpre := preI_small HR.out k
    by_cases hlt : k < n
    · obtain ⟨b1, off, x, rfl, hb1, hat, hc1⟩ := HX.out.at k hlt
      have f1 := (hbel.cell (p := ⟨b1, off + k, none⟩) (by exact Nat.lt_of_lt_of_le hb1 hB)).trans hc1
      have hrng := HR.out x (List.mem_of_getElem? hat)
      have hfx := fmt_R' hrng
      obtain ⟨hx0, hx1⟩ := inR2 hrng
      have hlt' : (k : Int) < (n : Int) := by omega
      by_cases hk0 : k = 0
      · have hstep : preI l k ++ fmtB x = preI l (k + 1) := by
          subst hk0
          rw [preI_zero]
          exact preI_one hat
        obtain ⟨sb, hsb⟩ : ∃ sb : ByteArray, sb = preI l k := ⟨_, rfl⟩
        rw [← hsb] at hstep hpre ⊢
        have HStep := Lib.hid hstep
        have hsz : sb.size ≤ 3145728 := by omega
        have hkn : ¬ ((0 : Int) < (k : Int)) := by omega
        clear hsb hat hrng hc1 hbel hpre hstep hk0
        go_wp2_with fail
        refine (sFormat x (by omega) (by omega) _).mono ?_
        rintro e w1 ⟨rfl, hb⟩
        have HB1 := Lib.hid (HB.out.trans (hb.mono HB.out.size))
        have hc1 : ¬ (9223372036854775807 < sb.size + (fmtB x).size) := by omega
        clear hb f1 hkn
        go_wp2
        go_roundw
        case rel => exact ⟨k + 1, by omega, by go_num, by rw [HStep.out], HB1.out⟩
        case measure => simp [intOf]; omega
      · have hstep : preI l k ++ ⟨#[44]⟩ ++ fmtB x = preI l (k + 1) := preI_step (by omega) hat
        obtain ⟨sb, hsb⟩ : ∃ sb : ByteArray, sb = preI l k := ⟨_, rfl⟩
        rw [← hsb] at hstep hpre ⊢
        have HStep := Lib.hid hstep
        have hsz : sb.size ≤ 3145728 := by omega
        have hkn : (0 : Int) < (k : Int) := by omega
        have hc0 : ¬ (9223372036854775807 < sb.size + 1) := by omega
        have hc1 : ¬ (9223372036854775807 < sb.size + 1 + (fmtB x).size) := by omega
        clear hsb hat hrng hbel hpre hstep hk0
        go_wp2_with fail
        refine (sFormat x (by omega) (by omega) _).mono ?_
        rintro e w1 ⟨rfl, hb⟩
        have HB1 := Lib.hid (HB.out.trans (hb.mono HB.out.size))
        clear hb f1 hkn
        go_wp2
        go_roundw
        case rel => exact ⟨k + 1, by omega, by go_num, by rw [HStep.out], HB1.out⟩
        case measure => simp [intOf]; omega
    · obtain rfl : k = n := by omega
      clear hbel hpre
      go_wp2
      go_ret
      exact ⟨by unfold preI; rw [ptake_all HX.out.1]; rfl, HB.out⟩

def wordI (l : List Int) (j : Nat) : ByteArray := fmtB (l.getD j 0)
theorem wordI_at {l : List Int} {k : Nat} {x : Int} (h : l[k]? = some x) : wordI l k = fmtB x := by
  unfold wordI
  rw [List.getD_eq_getElem?_getD, h]; rfl
set_option maxHeartbeats 1600000 in
theorem iInts (w : World) (B : Nat) (A : Option Addr) (n cc : Nat) (l : List Int) (hi : Ints w B A n l) (hB : B ≤ w.heap.size) (hn : n ≤ 1048576) (h : ∀ v ∈ l, InR v) (hpow : Pow w) :
    Calls Tryz.prog 47 #[.slice A n cc, .string ⟨#[44]⟩, .func (.func 46) #[] #[]] w fun e w' => e = .returned (.string ⟨(intsT l).toArray⟩) ∧ Below w.heap.size w w' := by
  have hmk := run_make_row' (P := Tryz.prog) 86 9 (.string ⟨#[]⟩) 16 Tryz.underlying86 info_string rfl .i64 .i64 n (by omega) (by omega)
  have HX := Lib.hid hi
  have HP := Lib.hid hpow
  have HR0 := Lib.hid h
  clear hi hpow h
  go_enter Tryz.func47, Tryz.ntmps47
  go_wp2
  clear hmk
  go_loopw [15] (fun i wr => ∃ k : Nat, k ≤ n ∧ i = .int .i64 k ∧ wr.rowIs w.heap.size 9 n (fun j => if j < k then .string (wordI l j) else .string ⟨#[]⟩) ∧ Below w.heap.size w wr) (fun i _ => n - (intOf i).toNat)
  case atStart =>
    exact ⟨0, Nat.zero_le _, rfl, by simpa using World.rowIs_made w (.string ⟨#[]⟩) n 9, (Below.refl _ _).alloc (Nat.le_refl _) _⟩
  case round =>
    obtain ⟨k, hk, rfl, hrow, hbel⟩ := hrel
    have HR := Lib.hid hrow
    have HB := Lib.hid hbel
    by_cases hlt : k < n
    · obtain ⟨b1, off, x, rfl, hb1, hat, hc1⟩ := HX.out.at k hlt
      have f1 := (hbel.cell (p := ⟨b1, off + k, none⟩) (by exact Nat.lt_of_lt_of_le hb1 hB)).trans hc1
      have HT := Lib.hid hat
      have hrng := HR0.out x (List.mem_of_getElem? hat)
      obtain ⟨hx0, hx1⟩ := inR2 hrng
      have hlt' : (k : Int) < (n : Int) := by omega
      clear hrow hbel hc1 hat hrng
      go_wp2_with fail
      refine (iFormat x (by omega) (by omega) _ (HP.out.below HB.out)).mono ?_
      rintro e w1 ⟨rfl, hb⟩
      have HB2 := Lib.hid hb
      have hrow1 := rowIs_below HR.out HB2.out (World.rowIs.lt HR.out)
      have g1 : w1.cell? ⟨w.heap.size, k, none⟩ = some (.string ⟨#[]⟩) := by rw [World.rowIs.cell hrow1 hlt, if_neg (by omega)]
      have g2 := World.rowIs.frozen hrow1 k
      have HR1 := Lib.hid hrow1
      have HB1 := Lib.hid (HB.out.trans (hb.mono HB.out.size))
      clear hb hrow1 f1
      go_wp2
      go_roundw
      case rel =>
        refine ⟨k + 1, by omega, by go_num, (World.rowIs.set HR1.out k (.string (fmtB x))).congr (fun j _ => ?_), HB1.out.setCell (Nat.le_refl _) _⟩
        by_cases h1 : j = k
        · subst h1; rw [if_pos rfl, if_pos (by omega), wordI_at HT.out]
        · by_cases h2 : j < k
          · rw [if_neg h1, if_pos h2, if_pos (by omega)]
          · rw [if_neg h1, if_neg h2, if_neg (by omega)]
      case measure => simp [intOf]; omega
    · obtain rfl : k = n := by omega
      obtain ⟨xs, hxs⟩ : ∃ xs : List ByteArray, xs = l.map fmtB := ⟨_, rfl⟩
      have hxl : xs.length = k := by rw [hxs, List.length_map]; exact HX.out.1
      have hmap : xs.map (·.data.toList) = l.map Lib.itoa := by rw [hxs, List.map_map]; rfl
      have hcells : ∀ (j : Nat) x, xs[j]? = some x → wr.cell? ⟨w.heap.size, 0 + j, none⟩ = some (.string x) := by
        intro j x hx
        have hj : j < k := by
          rcases Nat.lt_or_ge j xs.length with h' | h'
          · omega
          · rw [List.getElem?_eq_none h'] at hx; cases hx
        rw [hxs, List.getElem?_map] at hx
        obtain ⟨p, hp, rfl⟩ := Option.map_eq_some_iff.1 hx
        rw [Nat.zero_add, World.rowIs.cell hrow hj, if_pos hj, wordI_at hp]
      have hsz : (Lib.join (xs.map (·.data.toList)) (⟨#[44]⟩ : ByteArray).data.toList).length ≤ 140737488355328 := by
        rw [hmap]
        have := intsT_len HR0.out
        rw [HX.out.1] at this
        show (intsT l).length ≤ _
        omega
      have hJ : Calls Tryz.prog 64 #[.slice (some ⟨w.heap.size, 0, none⟩) k k, .string ⟨#[44]⟩] wr fun e w' => e = .returned (.string ⟨(intsT l).toArray⟩) ∧ Below wr.heap.size wr w' := by
        have h0 := Tryz.strings_Join w.heap.size 0 k xs ⟨#[44]⟩ wr hcells (World.rowIs.lt hrow) (by omega) (by omega) hsz
        rw [hxl, hmap] at h0
        exact h0
      have HJ := Lib.hid hJ
      clear hrow hbel hcells hJ hsz hmap hxl hxs
      go_wp2_with fail
      refine HJ.out.mono ?_
      rintro e w1 ⟨rfl, hb⟩
      have HB1 := Lib.hid (HB.out.trans (hb.mono HB.out.size))
      clear hb
      go_wp2
      go_ret
      exact ⟨rfl, HB1.out⟩
end Go.Proofs.YtadjoiahllekdaaGreatDoor.num
namespace Go.Proofs.YtadjoiahllekdaaGreatDoor.num
set_option maxRecDepth 20000
open Go.RowKit
set_option linter.unusedVariables false
set_option linter.unusedSimpArgs false

theorem fmtW_ext {d : WD} {b : ByteArray} (h : b.data.toList = wishT d) : b = fmtW d true := by
  apply bytes_ext
  rw [h]
  simp [fmtW]
theorem wishT0 {f v : Int} {ls : List Int} {ps : List (Int × Int)} : wishT ⟨0, f, v, ls, ps⟩ = [108, 111, 119] ++ 32 :: 102 :: Lib.itoa f := by
  show [108, 111, 119] ++ 32 :: 102 :: (Lib.itoa f ++ []) = _
  rw [List.append_nil]
theorem wishT1 {f v : Int} {ls : List Int} {ps : List (Int × Int)} : wishT ⟨1, f, v, ls, ps⟩ = [104, 105, 103, 104] ++ 32 :: 102 :: Lib.itoa f := by
  show [104, 105, 103, 104] ++ 32 :: 102 :: (Lib.itoa f ++ []) = _
  rw [List.append_nil]
theorem wishT2 {f v : Int} {ls : List Int} {ps : List (Int × Int)} : wishT ⟨2, f, v, ls, ps⟩ = [110, 101, 97, 114] ++ 32 :: 102 :: (Lib.itoa f ++ 32 :: Lib.itoa v) := rfl
theorem wishT3 {f v : Int} {ls : List Int} {ps : List (Int × Int)} : wishT ⟨3, f, v, ls, ps⟩ = [97, 109, 111, 110, 103] ++ 32 :: 102 :: (Lib.itoa f ++ 32 :: intsT ls) := rfl
theorem wishT4 {f v : Int} {ls : List Int} {ps : List (Int × Int)} : wishT ⟨4, f, v, ls, ps⟩ = [111, 114, 100, 101, 114] ++ 32 :: 102 :: (Lib.itoa f ++ 32 :: pairsT ps) := rfl
theorem pairsT_len {ps : List (Int × Int)} (h : OkP ps) : (pairsT ps).length ≤ 60 := by
  unfold pairsT
  split
  · decide
  · have := join_le (m := 5) 44 (ps.map pairT) fun x hx => by
      obtain ⟨p, hp, rfl⟩ := List.mem_map.1 hx
      exact pairT_len (h.1.rng p hp)
    rw [List.length_map] at this
    have := h.2
    omega
theorem IsW.asc {d : WD} (h : IsW d) (hk : d.kind = 3) : Asc d.ls := by have := h.l; rwa [if_pos hk] at this
theorem IsW.okp {d : WD} (h : IsW d) (hk : d.kind = 4) : OkP d.ps := by have := h.p; rwa [if_pos hk] at this
set_option maxRecDepth 20000 in
set_option maxHeartbeats 1600000 in
theorem sFmtW (w : World) (B : Nat) (t : Wi) (hi : WiIn w B t) (hB : B ≤ w.heap.size) (hn : t.Short) (q : Bool) (hq : q = true ↔ IsW t.dat) :
    Calls Tryz.prog 22 #[t.val] w fun e w' => e = .returned (.string (fmtW t.dat q)) ∧ Below w.heap.size w w' := by
  have HI := Lib.hid hi
  have HQ := Lib.hid hq
  have HB1 : Hid (∀ o : Obj, Below B w (w.alloc o)) := Lib.hid fun o => (Below.refl B w).alloc hB _
  have HW1 : Hid (∀ o : Obj, Below w.heap.size w (w.alloc o)) := Lib.hid fun o => (Below.refl _ w).alloc (Nat.le_refl _) _
  have HS : Hid (∀ w1 : World, WiIn w1 B t → B ≤ w1.heap.size → Calls Tryz.prog 23 #[t.val] w1 fun e w' => e = .returned (.bool q) ∧ Below w1.heap.size w1 w') := Lib.hid fun w1 h1 h2 => sIsWish w1 B t h1 h2 hn q hq
  have HN := Lib.hid hn
  clear hi hq hn
  obtain ⟨k, f, v, LA, Ln, Lc, ls, PA, Pn, Pc, ps⟩ := t
  unfold Wi.val at HS ⊢
  simp only [Wi.dat] at HQ ⊢
  have CALL := HS
  cases q
  · go_enter Tryz.func22, Tryz.ntmps22
    go_wp2_with fail
    refine (HS.out _ (HI.out.below (HB1.out _)) (by simp; omega)).mono ?_
    rintro e w1 ⟨rfl, hb1⟩
    have HBB := Lib.hid ((HW1.out _).trans (hb1.mono (by simp)))
    clear hb1
    go_wp2
    go_ret
    exact ⟨rfl, HBB.out⟩
  · have HW := Lib.hid (HQ.out.1 rfl)
    have hk := HW.out.k
    have hf := HW.out.f
    have hv : k = 2 → InR v := fun h => HW.out.val2 h
    have ha : k = 3 → Asc ls := fun h => HW.out.asc h
    have ho : k = 4 → OkP ps := fun h => HW.out.okp h
    have HP : Hid (Pairs w B PA Pn ps) := Lib.hid HI.out.p
    have HL : Hid (Ints w B LA Ln ls) := Lib.hid HI.out.l
    have HNN : Hid (Ln ≤ 1048576 ∧ Pn ≤ 1048576) := Lib.hid HN.out
    have hff : (fmtB f).size ≤ 2 := fmt_R' ⟨hf.1, by have := hf.2; dsimp only at this; omega⟩
    have hf1 : -9223372036854775808 ≤ f := by have := hf.1; dsimp only at this; omega
    have hf2 : f ≤ 9223372036854775807 := by have := hf.2; dsimp only at this; omega
    dsimp only at hk
    clear hf HQ CALL HN
    rcases (show k = 0 ∨ k = 1 ∨ k = 2 ∨ k = 3 ∨ k = 4 by omega) with rfl | rfl | rfl | rfl | rfl
    · clear hk hv ha ho
      go_enter Tryz.func22, Tryz.ntmps22
      go_wp2_with fail
      refine (HS.out _ (HI.out.below (HB1.out _)) (by simp; omega)).mono ?_
      rintro e w1 ⟨rfl, hb1⟩
      obtain ⟨c0, c1, c2, c3, c4, hg⟩ := box5 hb1
      have HBB := Lib.hid (And.intro ((HW1.out _).trans (hb1.mono (by simp))) ((HB1.out _).trans (hb1.mono (by simp; omega))))
      clear hb1
      go_wp2_with fail
      refine (sFormat f hf1 hf2 _).mono ?_
      rintro e w2 ⟨rfl, hb2⟩
      have d0 := (hb2.cell (p := ⟨w.heap.size, 0, none⟩) hg).trans c0
      have d2 := (hb2.cell (p := ⟨w.heap.size, 2, none⟩) hg).trans c2
      have d3 := (hb2.cell (p := ⟨w.heap.size, 3, none⟩) hg).trans c3
      have d4 := (hb2.cell (p := ⟨w.heap.size, 4, none⟩) hg).trans c4
      have HB2 := Lib.hid (And.intro (HBB.out.1.trans (hb2.mono HBB.out.1.size)) (HBB.out.2.trans (hb2.mono (Nat.le_trans hB HBB.out.1.size))))
      clear hb2 c0 c1 c2 c3 c4
      go_wp2
      go_ret
      refine ⟨congrArg (fun x => Ending.returned (.string x)) (fmtW_ext ?_), HB2.out.1⟩
      rw [wishT0]
      simp [fmtB, ByteArray.data_append]
    · clear hk hv ha ho
      go_enter Tryz.func22, Tryz.ntmps22
      go_wp2_with fail
      refine (HS.out _ (HI.out.below (HB1.out _)) (by simp; omega)).mono ?_
      rintro e w1 ⟨rfl, hb1⟩
      obtain ⟨c0, c1, c2, c3, c4, hg⟩ := box5 hb1
      have HBB := Lib.hid (And.intro ((HW1.out _).trans (hb1.mono (by simp))) ((HB1.out _).trans (hb1.mono (by simp; omega))))
      clear hb1
      go_wp2_with fail
      refine (sFormat f hf1 hf2 _).mono ?_
      rintro e w2 ⟨rfl, hb2⟩
      have d0 := (hb2.cell (p := ⟨w.heap.size, 0, none⟩) hg).trans c0
      have d2 := (hb2.cell (p := ⟨w.heap.size, 2, none⟩) hg).trans c2
      have d3 := (hb2.cell (p := ⟨w.heap.size, 3, none⟩) hg).trans c3
      have d4 := (hb2.cell (p := ⟨w.heap.size, 4, none⟩) hg).trans c4
      have HB2 := Lib.hid (And.intro (HBB.out.1.trans (hb2.mono HBB.out.1.size)) (HBB.out.2.trans (hb2.mono (Nat.le_trans hB HBB.out.1.size))))
      clear hb2 c0 c1 c2 c3 c4
      go_wp2
      go_ret
      refine ⟨congrArg (fun x => Ending.returned (.string x)) (fmtW_ext ?_), HB2.out.1⟩
      rw [wishT1]
      simp [fmtB, ByteArray.data_append]
    · obtain ⟨v0, v9⟩ := hv rfl
      clear hk hv ha ho
      have hfv : (fmtB v).size ≤ 2 := fmt_R' ⟨v0, v9⟩
      go_enter Tryz.func22, Tryz.ntmps22
      go_wp2_with fail
      refine (HS.out _ (HI.out.below (HB1.out _)) (by simp; omega)).mono ?_
      rintro e w1 ⟨rfl, hb1⟩
      obtain ⟨c0, c1, c2, c3, c4, hg⟩ := box5 hb1
      have HBB := Lib.hid (And.intro ((HW1.out _).trans (hb1.mono (by simp))) ((HB1.out _).trans (hb1.mono (by simp; omega))))
      clear hb1
      go_wp2_with fail
      refine (sFormat f hf1 hf2 _).mono ?_
      rintro e w2 ⟨rfl, hb2⟩
      have d0 := (hb2.cell (p := ⟨w.heap.size, 0, none⟩) hg).trans c0
      have d2 := (hb2.cell (p := ⟨w.heap.size, 2, none⟩) hg).trans c2
      have d3 := (hb2.cell (p := ⟨w.heap.size, 3, none⟩) hg).trans c3
      have d4 := (hb2.cell (p := ⟨w.heap.size, 4, none⟩) hg).trans c4
      have HB2 := Lib.hid (And.intro (HBB.out.1.trans (hb2.mono HBB.out.1.size)) (HBB.out.2.trans (hb2.mono (Nat.le_trans hB HBB.out.1.size))))
      clear hb2 c0 c1 c2 c3 c4
      go_wp2_with fail
      refine (sFormat v (by omega) (by omega) _).mono ?_
      rintro e w3 ⟨rfl, hb3⟩
      have HB3 := Lib.hid (HB2.out.1.trans (hb3.mono HB2.out.1.size))
      clear hb3 d0 d2 d3 d4
      go_wp2
      go_ret
      refine ⟨congrArg (fun x => Ending.returned (.string x)) (fmtW_ext ?_), HB3.out⟩
      rw [wishT2]
      simp [fmtB, fmtP, ByteArray.data_append]
    · have hasc := ha rfl
      have HA := Lib.hid hasc.2.1
      have hln := HNN.out.1
      have hlen := HL.out.1
      have hT := intsT_len HA.out
      clear hk hv ha ho hasc
      go_enter Tryz.func22, Tryz.ntmps22
      go_wp2_with fail
      refine (HS.out _ (HI.out.below (HB1.out _)) (by simp; omega)).mono ?_
      rintro e w1 ⟨rfl, hb1⟩
      obtain ⟨c0, c1, c2, c3, c4, hg⟩ := box5 hb1
      have HBB := Lib.hid (And.intro ((HW1.out _).trans (hb1.mono (by simp))) ((HB1.out _).trans (hb1.mono (by simp; omega))))
      clear hb1
      go_wp2_with fail
      refine (sFormat f hf1 hf2 _).mono ?_
      rintro e w2 ⟨rfl, hb2⟩
      have d0 := (hb2.cell (p := ⟨w.heap.size, 0, none⟩) hg).trans c0
      have d2 := (hb2.cell (p := ⟨w.heap.size, 2, none⟩) hg).trans c2
      have d3 := (hb2.cell (p := ⟨w.heap.size, 3, none⟩) hg).trans c3
      have d4 := (hb2.cell (p := ⟨w.heap.size, 4, none⟩) hg).trans c4
      have HB2 := Lib.hid (And.intro (HBB.out.1.trans (hb2.mono HBB.out.1.size)) (HBB.out.2.trans (hb2.mono (Nat.le_trans hB HBB.out.1.size))))
      clear hb2 c0 c1 c2 c3 c4
      go_wp2_with fail
      refine (sInts _ B LA Ln Lc ls (HL.out.below HB2.out.2) (Nat.le_trans hB HB2.out.1.size) HNN.out.1 HA.out).mono ?_
      rintro e w3 ⟨rfl, hb3⟩
      have HB3 := Lib.hid (HB2.out.1.trans (hb3.mono HB2.out.1.size))
      clear hb3 d0 d2 d3 d4
      have hsz : (⟨(intsT ls).toArray⟩ : ByteArray).size ≤ 3145728 := by
        show (intsT ls).toArray.size ≤ _
        rw [List.size_toArray]
        omega
      go_wp2
      go_ret
      refine ⟨congrArg (fun x => Ending.returned (.string x)) (fmtW_ext ?_), HB3.out⟩
      rw [wishT3]
      simp [fmtB, fmtP, ByteArray.data_append]
    · have hok := ho rfl
      have HOk := Lib.hid hok
      have hT := pairsT_len hok
      clear hk hv ha ho hok
      go_enter Tryz.func22, Tryz.ntmps22
      go_wp2_with fail
      refine (HS.out _ (HI.out.below (HB1.out _)) (by simp; omega)).mono ?_
      rintro e w1 ⟨rfl, hb1⟩
      obtain ⟨c0, c1, c2, c3, c4, hg⟩ := box5 hb1
      have HBB := Lib.hid (And.intro ((HW1.out _).trans (hb1.mono (by simp))) ((HB1.out _).trans (hb1.mono (by simp; omega))))
      clear hb1
      go_wp2_with fail
      refine (sFormat f hf1 hf2 _).mono ?_
      rintro e w2 ⟨rfl, hb2⟩
      have d0 := (hb2.cell (p := ⟨w.heap.size, 0, none⟩) hg).trans c0
      have d2 := (hb2.cell (p := ⟨w.heap.size, 2, none⟩) hg).trans c2
      have d3 := (hb2.cell (p := ⟨w.heap.size, 3, none⟩) hg).trans c3
      have d4 := (hb2.cell (p := ⟨w.heap.size, 4, none⟩) hg).trans c4
      have HB2 := Lib.hid (And.intro (HBB.out.1.trans (hb2.mono HBB.out.1.size)) (HBB.out.2.trans (hb2.mono (Nat.le_trans hB HBB.out.1.size))))
      clear hb2 c0 c1 c2 c3 c4
      go_wp2_with fail
      refine (sFmtP _ B PA Pn Pc ps (HP.out.below HB2.out.2) (Nat.le_trans hB HB2.out.1.size) HNN.out.2 true ⟨fun _ => HOk.out, fun _ => rfl⟩).mono ?_
      rintro e w3 ⟨rfl, hb3⟩
      have HB3 := Lib.hid (HB2.out.1.trans (hb3.mono HB2.out.1.size))
      clear hb3 d0 d2 d3 d4
      have hsz : (fmtP ps true).size ≤ 60 := by
        show (pairsT ps).toArray.size ≤ _
        rw [List.size_toArray]
        omega
      go_wp2
      go_ret
      refine ⟨congrArg (fun x => Ending.returned (.string x)) (fmtW_ext ?_), HB3.out⟩
      rw [wishT4]
      simp [fmtB, fmtP, ByteArray.data_append]
end Go.Proofs.YtadjoiahllekdaaGreatDoor.num
namespace Go.Proofs.YtadjoiahllekdaaGreatDoor.num
set_option maxRecDepth 20000
open Go.RowKit
set_option linter.unusedVariables false

theorem joinS_snoc (a s : List UInt8) (l : List (List UInt8)) (h : l ≠ []) : Lib.join (l ++ [a]) s = Lib.join l s ++ s ++ a := by
  cases l with
  | nil => exact absurd rfl h
  | cons b r =>
    rw [List.cons_append, Lib.join_cons, Lib.join_cons]
    unfold Lib.joinTail
    rw [List.map_append, List.flatten_append]
    simp [List.append_assoc]
theorem joinS_le {m : Nat} (s : List UInt8) (l : List (List UInt8)) (h : ∀ x, x ∈ l → x.length ≤ m) : (Lib.join l s).length ≤ (m + s.length) * l.length := by
  cases l with
  | nil => simp [Lib.join_nil]
  | cons b r =>
    rw [Lib.join_cons]
    have h1 := h b (by simp)
    have h2 : ∀ r : List (List UInt8), (∀ x, x ∈ r → x.length ≤ m) → (Lib.joinTail s r).length ≤ (m + s.length) * r.length := fun r hr => by
      induction r with
      | nil => simp [Lib.joinTail]
      | cons c r ih =>
        have h3 := ih fun x hx => hr x (List.mem_cons_of_mem _ hx)
        have h4 := hr c (by simp)
        unfold Lib.joinTail at h3 ⊢
        rw [List.map_cons, List.flatten_cons, List.length_append, List.length_append, List.length_cons, Nat.mul_add, Nat.mul_one]
        omega
    have h3 := h2 r fun x hx => h x (List.mem_cons_of_mem _ hx)
    rw [List.length_append, List.length_cons, Nat.mul_add, Nat.mul_one]
    omega
/-- The text of a node. -/
def nodeT (nd : ND) : List UInt8 := if nd.op = 0 then wishT nd.w else owT.getD nd.op.toNat []
/-- The text of an expression. -/
def exprT (nds : List ND) : List UInt8 := Lib.join (nds.map nodeT) [59, 32]
def preE (nds : List ND) (k : Nat) : ByteArray := ⟨(exprT (nds.take k)).toArray⟩
theorem preE_list (nds : List ND) (k : Nat) : (preE nds k).data.toList = exprT (nds.take k) := rfl
theorem preE_zero (nds : List ND) : preE nds 0 = ⟨#[]⟩ := rfl
def nodeB (nd : ND) : ByteArray := ⟨(nodeT nd).toArray⟩
theorem preE_one {nds : List ND} {x : ND} (h : nds[0]? = some x) : (⟨#[]⟩ : ByteArray) ++ nodeB x = preE nds 1 := by
  apply bytes_ext
  rw [preE_list, ptake_at (k := 0) h]
  simp [exprT, Lib.join_one, nodeB, ByteArray.data_append]
theorem preE_step {nds : List ND} {k : Nat} {x : ND} (hk : 0 < k) (h : nds[k]? = some x) : preE nds k ++ ⟨#[59, 32]⟩ ++ nodeB x = preE nds (k + 1) := by
  have hlt : k < nds.length := (List.getElem?_eq_some_iff.1 h).1
  apply bytes_ext
  rw [preE_list, ptake_at h]
  unfold exprT
  rw [List.map_append, List.map_cons, List.map_nil, joinS_snoc _ _ _ (by
    intro e
    have := congrArg List.length e
    rw [List.length_map, List.length_take, List.length_nil] at this
    omega)]
  simp [preE, exprT, nodeB, ByteArray.data_append]
/-- What FormatExpression answers. -/
def fmtE (nds : List ND) (q : Bool) : ByteArray := if q then ⟨(exprT nds).toArray⟩ else ⟨#[]⟩
theorem IsE.node {nds : List ND} (h : IsE nds) {k : Nat} {nd : ND} (hk : nds[k]? = some nd) : (nd.op = 0 ∧ IsW nd.w) ∨ ((nd.op = 1 ∨ nd.op = 2 ∨ nd.op = 3 ∨ nd.op = 4) ∧ NoW nd.w) := by
  obtain ⟨_, t, ht⟩ := h
  have h1 := post_stk.1 ht
  rw [← List.take_append_drop (k + 1) nds] at h1
  obtain ⟨s, hs⟩ := h1.pre
  rw [ptake_at hk] at hs
  rcases hs.inv with ⟨h0, hw, _⟩ | ⟨h3, hw, _⟩ | ⟨hb, hw, _⟩
  · exact .inl ⟨h0, hw⟩
  · exact .inr ⟨.inr (.inr (.inl h3)), hw⟩
  · refine .inr ⟨?_, hw⟩
    unfold Bin at hb
    omega
theorem nodeT_len {nd : ND} (h : (nd.op = 0 ∧ IsW nd.w) ∨ ((nd.op = 1 ∨ nd.op = 2 ∨ nd.op = 3 ∨ nd.op = 4) ∧ NoW nd.w)) (hl : nd.w.ls.length ≤ 1048576) : (nodeT nd).length ≤ 3200000 := by
  unfold nodeT
  rcases h with ⟨h0, hw⟩ | ⟨h0, _⟩
  · rw [if_pos h0]
    unfold wishT
    have h1 : (kwT.getD nd.w.kind.toNat []).length ≤ 5 := by
      have hk := hw.k
      rcases (show nd.w.kind = 0 ∨ nd.w.kind = 1 ∨ nd.w.kind = 2 ∨ nd.w.kind = 3 ∨ nd.w.kind = 4 by omega) with e | e | e | e | e <;> rw [e] <;> decide
    have h2 : (Lib.itoa nd.w.field).length ≤ 2 := itoa_small (by have := hw.f; unfold InR; omega)
    have h3 : (restT nd.w).length ≤ 3145729 := by
      unfold restT
      split
      · next e =>
        have hv := hw.v
        rw [if_pos e] at hv
        have := itoa_small hv
        rw [List.length_cons]
        omega
      · split
        · next e =>
          have := intsT_len (hw.asc e).2.1
          rw [List.length_cons]
          omega
        · split
          · next e =>
            have := pairsT_len (hw.okp e)
            rw [List.length_cons]
            omega
          · simp
    rw [List.length_append, List.length_cons, List.length_cons, List.length_append]
    omega
  · rcases h0 with e | e | e | e <;> rw [e, if_neg (by decide)] <;> decide
theorem exprT_len {nds : List ND} (h : IsE nds) (hl : ∀ nd ∈ nds, nd.w.ls.length ≤ 1048576) (k : Nat) : (exprT (nds.take k)).length ≤ 28800018 := by
  have h1 := joinS_le (m := 3200000) [59, 32] ((nds.take k).map nodeT) fun x hx => by
    obtain ⟨nd, hnd, rfl⟩ := List.mem_map.1 hx
    have hm := List.mem_of_mem_take hnd
    obtain ⟨i, hi, rfl⟩ := List.getElem_of_mem hm
    exact nodeT_len (h.node (List.getElem?_eq_getElem hi)) (hl _ hm)
  have h2 : ((nds.take k).map nodeT).length ≤ 9 := by rw [List.length_map, List.length_take]; have := h.1; omega
  have h3 := Nat.mul_le_mul_left (3200000 + [59, 32].length) h2
  unfold exprT
  exact Nat.le_trans h1 (Nat.le_trans h3 (by decide))
theorem preE_size {nds : List ND} (h : IsE nds) (hl : ∀ nd ∈ nds, nd.w.ls.length ≤ 1048576) (k : Nat) : (preE nds k).size ≤ 28800018 := by
  have := exprT_len h hl k
  show (exprT (nds.take k)).toArray.size ≤ _
  rwa [List.size_toArray]
theorem fmtW_node {nd : ND} (h : nd.op = 0) : fmtW nd.w true = nodeB nd := by
  unfold fmtW nodeB nodeT
  rw [if_pos rfl, if_pos h]
theorem owB_node {nd : ND} (h : nd.op ≠ 0) : owB nd.op.toNat = nodeB nd := by
  unfold owB nodeB nodeT
  rw [if_neg h]
theorem nodeB_size {nd : ND} (h : (nd.op = 0 ∧ IsW nd.w) ∨ ((nd.op = 1 ∨ nd.op = 2 ∨ nd.op = 3 ∨ nd.op = 4) ∧ NoW nd.w)) (hl : nd.w.ls.length ≤ 1048576) : (nodeB nd).size ≤ 3200000 := by
  have := nodeT_len h hl
  show (nodeT nd).toArray.size ≤ _
  rwa [List.size_toArray]
theorem lens_dat {w : World} {B : Nat} {A : Option Addr} {n : Nat} {ns : List Nd} (h : Nodes w B A n ns) (hN : ShortN ns) : ∀ nd ∈ datN ns, nd.w.ls.length ≤ 1048576 := fun nd hnd => by
  unfold datN at hnd
  obtain ⟨x, hx, rfl⟩ := List.mem_map.1 hnd
  have h1 := (h.x x hx).2.l.1
  show x.t.ls.length ≤ _
  rw [h1]
  exact (hN x hx).1
end Go.Proofs.YtadjoiahllekdaaGreatDoor.num
namespace Go.Proofs.YtadjoiahllekdaaGreatDoor.num
set_option maxRecDepth 20000
open Go.RowKit
set_option linter.unusedVariables false
set_option linter.unusedSimpArgs false

/-- What stands behind the second space. -/
def argT (d : WD) : List UInt8 := if d.kind = 2 then Lib.itoa d.value else if d.kind = 3 then intsT d.ls else if d.kind = 4 then pairsT d.ps else []
/-- The word of the field. -/
def bodyT (d : WD) : List UInt8 := 102 :: Lib.itoa d.field
def kwOf (d : WD) : List UInt8 := kwT.getD d.kind.toNat []
theorem restT_arg (d : WD) (h : 0 ≤ d.kind ∧ d.kind ≤ 4) : restT d = if d.kind < 2 then [] else 32 :: argT d := by
  unfold restT argT
  rcases (show d.kind = 0 ∨ d.kind = 1 ∨ d.kind = 2 ∨ d.kind = 3 ∨ d.kind = 4 by omega) with e | e | e | e | e <;> simp [e]
theorem wishT_eq (d : WD) : wishT d = kwOf d ++ 32 :: (bodyT d ++ restT d) := rfl
theorem kw_not {k : Nat} : ∀ x ∈ kwT.getD k [], x ≠ (32 : UInt8) := by
  rcases (show k = 0 ∨ k = 1 ∨ k = 2 ∨ k = 3 ∨ k = 4 ∨ 5 ≤ k by omega) with rfl | rfl | rfl | rfl | rfl | h
  iterate 5 decide
  intro x hx
  rw [List.getD_eq_getElem?_getD, List.getElem?_eq_none (by show 5 ≤ k; omega)] at hx
  simp at hx
theorem kwOf_not (d : WD) : ∀ x ∈ kwOf d, x ≠ 32 := kw_not
theorem body_not {d : WD} (h : IsW d) : ∀ x ∈ bodyT d, x ≠ 32 := by
  intro x hx
  rcases List.mem_cons.1 hx with rfl | hx
  · decide
  · exact itoa_not h.f.1 32 (by decide) x hx
theorem join_not {c e : UInt8} (he : e ≠ c) : ∀ l : List (List UInt8), (∀ a ∈ l, ∀ x ∈ a, x ≠ c) → ∀ x ∈ Lib.join l [e], x ≠ c := by
  intro l
  induction l with
  | nil => intro _ x hx; simp [Lib.join] at hx
  | cons a t ih =>
    intro h x hx
    cases t with
    | nil => rw [Lib.join_one] at hx; exact h a (by simp) x hx
    | cons b t =>
      rw [join_cons2] at hx
      simp only [List.mem_append, List.mem_cons] at hx
      rcases hx with hx | rfl | hx
      · exact h a (by simp) x hx
      · exact he
      · exact ih (fun a' ha' => h a' (List.mem_cons_of_mem _ ha')) x (by simpa using hx)
theorem ints_not {l : List Int} (h : ∀ v ∈ l, InR v) : ∀ x ∈ intsT l, x ≠ 32 := by
  refine join_not (by decide) _ fun a ha => ?_
  obtain ⟨v, hv, rfl⟩ := List.mem_map.1 ha
  exact itoa_not (h v hv).1 32 (by decide)
theorem pairs_not {ps : List (Int × Int)} (h : ∀ p, p ∈ ps → InR p.1 ∧ InR p.2) : ∀ x ∈ pairsT ps, x ≠ 32 := by
  unfold pairsT
  split
  · decide
  · refine join_not (by decide) _ fun a ha => ?_
    obtain ⟨p, hp, rfl⟩ := List.mem_map.1 ha
    intro x hx
    unfold pairT at hx
    simp only [List.mem_append, List.mem_cons] at hx
    rcases hx with hx | rfl | hx
    · exact itoa_not (h p hp).1.1 32 (by decide) x hx
    · decide
    · exact itoa_not (h p hp).2.1 32 (by decide) x hx
theorem arg_not {d : WD} (h : IsW d) : ∀ x ∈ argT d, x ≠ 32 := by
  have h1 := h.v
  have h2 := h.l
  have h3 := h.p
  unfold argT
  split
  · rename_i e
    rw [if_pos e] at h1
    exact itoa_not h1.1 32 (by decide)
  · split
    · rename_i e
      rw [if_pos e] at h2
      exact ints_not h2.2.1
    · split
      · rename_i e
        rw [if_pos e] at h3
        exact pairs_not h3.1.rng
      · intro x hx; simp at hx
theorem wish_pieces {d : WD} (h : IsW d) : pieces 32 (wishT d) = kwOf d :: bodyT d :: (if d.kind < 2 then [] else [argT d]) := by
  rw [wishT_eq, pieces_app (kwOf_not d), restT_arg d h.k]
  split
  · rw [List.append_nil, pieces_none (body_not h)]
  · rw [pieces_app (body_not h), pieces_none (arg_not h)]
theorem cut_none {c : UInt8} : ∀ {l : List UInt8}, (∀ x ∈ l, x ≠ c) → Lib.cut l [c] = (l, [], false)
  | [], _ => rfl
  | b :: l, h => by
    rw [cut_cons, if_neg (h b (by simp)), cut_none fun x hx => h x (List.mem_cons_of_mem _ hx)]
    rfl
theorem wish_cut {d : WD} (h : IsW d) : (Lib.cut (wishT d) [32]).1 = kwOf d ∧ (Lib.cut (Lib.cut (wishT d) [32]).2.1 [32]).1 = bodyT d ∧ (Lib.cut (Lib.cut (wishT d) [32]).2.1 [32]).2.1 = argT d := by
  rw [wishT_eq, cut_app (kwOf_not d), restT_arg d h.k]
  refine ⟨rfl, ?_⟩
  show (Lib.cut (bodyT d ++ if d.kind < 2 then [] else 32 :: argT d) [32]).1 = bodyT d ∧ (Lib.cut (bodyT d ++ if d.kind < 2 then [] else 32 :: argT d) [32]).2.1 = argT d
  split
  · rename_i e
    rw [List.append_nil, cut_none (body_not h)]
    refine ⟨rfl, ?_⟩
    unfold argT
    rw [if_neg (by omega), if_neg (by omega), if_neg (by omega)]
  · rw [cut_app (body_not h)]
    exact ⟨rfl, rfl⟩
theorem ints_pieces : ∀ {l : List Int}, l ≠ [] → (∀ v ∈ l, InR v) → pieces 44 (intsT l) = l.map Lib.itoa
  | [a], _, h => by
    show pieces 44 (Lib.join [Lib.itoa a] [44]) = _
    rw [Lib.join_one, pieces_none (itoa_not (h a (by simp)).1 44 (by decide))]; rfl
  | a :: b :: t, _, h => by
    have e : intsT (a :: b :: t) = Lib.itoa a ++ 44 :: intsT (b :: t) := by
      unfold intsT
      rw [List.map_cons, List.map_cons, join_cons2]
    rw [e, pieces_app (itoa_not (h a (by simp)).1 44 (by decide)), ints_pieces (by simp) fun v hv => h v (List.mem_cons_of_mem _ hv)]
    rfl
/-- The answer to a text. -/
def ParsedW (s : List UInt8) (d : WD) (ok : Bool) : Prop := (ok = true ∧ IsW d ∧ wishT d = s) ∨ (ok = false ∧ d = ⟨0, 0, 0, [], []⟩ ∧ ∀ d', IsW d' → wishT d' ≠ s)
/-- The kind that the model reads. -/
def kindS (p : List UInt8) : Int := if p = kwT.getD 1 [] then 1 else if p = kwT.getD 2 [] then 2 else if p = kwT.getD 3 [] then 3 else if p = kwT.getD 4 [] then 4 else 0
theorem kindS_kw {k : Int} (h : 0 ≤ k ∧ k ≤ 4) : kindS (kwT.getD k.toNat []) = k := by
  rcases (show k = 0 ∨ k = 1 ∨ k = 2 ∨ k = 3 ∨ k = 4 by omega) with rfl | rfl | rfl | rfl | rfl <;> decide
/-- The field that the model reads. -/
def fS (p : List UInt8) : Int := if p.length < 2 ∨ p.head? ≠ some 102 then -1 else numS p.tail
theorem itoa_ne {m : Int} (h0 : 0 ≤ m) (h1 : m ≤ 99) : Lib.itoa m ≠ [] := fun e => by
  have h := (ok_itoa h0 h1).1
  rw [e, ok_nil] at h
  cases h
theorem fS_body {d : WD} (h : IsW d) : fS (bodyT d) = d.field := by
  have hf := h.f
  have hn := List.length_pos_iff.2 (itoa_ne hf.1 (show d.field ≤ 99 by omega))
  unfold fS bodyT
  rw [if_neg (by simp; omega)]
  exact numS_itoa hf.1 (by omega)
/-- What the model makes of a text: its pieces. -/
def argS (s : List UInt8) : List UInt8 := if (pieces 32 s).length = 3 then (pieces 32 s).getD 2 [] else []
structure SpecW (s : List UInt8) (d : WD) : Prop where
  k : d.kind = kindS ((pieces 32 s).getD 0 [])
  f : d.field = fS ((pieces 32 s).getD 1 [])
  v : d.value = if d.kind = 2 then numS (argS s) else 0
  l : d.ls = if d.kind = 3 then (pieces 44 (argS s)).map numS else []
  p : if d.kind = 4 then ∃ ok, ParsedP (argS s) d.ps ok else d.ps = []
theorem argS_text {d : WD} (h : IsW d) : argS (wishT d) = argT d := by
  unfold argS
  rw [wish_pieces h]
  by_cases e : d.kind < 2
  · have e2 : ¬ d.kind = 2 := by omega
    have e3 : ¬ d.kind = 3 := by omega
    have e4 : ¬ d.kind = 4 := by omega
    have ea : argT d = [] := by unfold argT; rw [if_neg e2, if_neg e3, if_neg e4]
    rw [if_pos e, ea]; rfl
  · rw [if_neg e]; rfl
theorem argT2 {d : WD} (e : d.kind = 2) : argT d = Lib.itoa d.value := by unfold argT; rw [if_pos e]
theorem argT3 {d : WD} (e : d.kind = 3) : argT d = intsT d.ls := by unfold argT; rw [if_neg (by omega), if_pos e]
theorem argT4 {d : WD} (e : d.kind = 4) : argT d = pairsT d.ps := by unfold argT; rw [if_neg (by omega), if_neg (by omega), if_pos e]
theorem map_numS {l : List Int} (h : ∀ v ∈ l, InR v) : (l.map Lib.itoa).map numS = l := by
  rw [List.map_map]
  refine (List.map_congr_left (g := id) fun v hv => ?_).trans (List.map_id _)
  exact numS_itoa (h v hv).1 (by have := (h v hv).2; omega)
theorem specW_self {d : WD} (h : IsW d) : SpecW (wishT d) d := by
  have hk : kindS ((pieces 32 (wishT d)).getD 0 []) = d.kind := by rw [wish_pieces h]; exact kindS_kw h.k
  have h1 := h.v
  have h2 := h.l
  have h3 := h.p
  refine ⟨hk.symm, ?_, ?_, ?_, ?_⟩
  · rw [wish_pieces h]; exact (fS_body h).symm
  · rw [argS_text h]
    by_cases e : d.kind = 2
    · rw [if_pos e] at h1 ⊢
      rw [argT2 e, numS_itoa h1.1 (by have := h1.2; omega)]
    · rw [if_neg e] at h1 ⊢; exact h1
  · rw [argS_text h]
    by_cases e : d.kind = 3
    · rw [if_pos e] at h2 ⊢
      rw [argT3 e, ints_pieces h2.1 h2.2.1, map_numS h2.2.1]
    · rw [if_neg e] at h2 ⊢; exact h2
  · rw [argS_text h]
    by_cases e : d.kind = 4
    · rw [if_pos e] at h3 ⊢
      exact ⟨true, .inl ⟨rfl, h3, (argT4 e).symm⟩⟩
    · rw [if_neg e] at h3 ⊢; exact h3
theorem SpecW.one {s : List UInt8} {d d' : WD} (h : SpecW s d) (g : SpecW s d') : d = d' := by
  obtain ⟨k, f, v, l, p⟩ := d
  obtain ⟨k', f', v', l', p'⟩ := d'
  obtain ⟨h1, h2, h3, h4, h5⟩ := h
  obtain ⟨g1, g2, g3, g4, g5⟩ := g
  dsimp only at *
  obtain rfl : k = k' := h1.trans g1.symm
  obtain rfl : f = f' := h2.trans g2.symm
  obtain rfl : v = v' := h3.trans g3.symm
  obtain rfl : l = l' := h4.trans g4.symm
  have : p = p' := by
    by_cases e : k = 4
    · rw [if_pos e] at h5 g5
      obtain ⟨o1, q1⟩ := h5
      obtain ⟨o2, q2⟩ := g5
      exact (q1.one q2).1
    · rw [if_neg e] at h5 g5
      rw [h5, g5]
  rw [this]
theorem wishT_inj {d d' : WD} (h : IsW d) (h' : IsW d') (e : wishT d = wishT d') : d = d' := (specW_self h).one (e ▸ specW_self h')
theorem ParsedW.one {s : List UInt8} {d d' : WD} {ok ok' : Bool} (h : ParsedW s d ok) (g : ParsedW s d' ok') : d = d' ∧ ok = ok' := by
  rcases h with ⟨rfl, h1, h2⟩ | ⟨rfl, h1, h2⟩ <;> rcases g with ⟨rfl, g1, g2⟩ | ⟨rfl, g1, g2⟩
  · exact ⟨wishT_inj h1 g1 (h2.trans g2.symm), rfl⟩
  · exact (g2 _ h1 h2).elim
  · exact (h2 _ g1 g2).elim
  · exact ⟨h1.trans g1.symm, rfl⟩
theorem SpecW.no {s : List UInt8} {d : WD} (h : SpecW s d) (hn : ¬ (IsW d ∧ wishT d = s)) : ParsedW s ⟨0, 0, 0, [], []⟩ false :=
  .inr ⟨rfl, rfl, fun d' h' e => hn (by obtain rfl := h.one (e ▸ specW_self h'); exact ⟨h', e⟩)⟩
/-- The kind that the program reads. -/
def kindI (p : List UInt8) : Int := if p = kwT.getD 0 [] then 0 else if p = kwT.getD 1 [] then 1 else if p = kwT.getD 2 [] then 2 else if p = kwT.getD 3 [] then 3 else if p = kwT.getD 4 [] then 4 else -1
theorem kindI_kw {k : Int} (h : 0 ≤ k ∧ k ≤ 4) : kindI (kwT.getD k.toNat []) = k := by
  rcases (show k = 0 ∨ k = 1 ∨ k = 2 ∨ k = 3 ∨ k = 4 by omega) with rfl | rfl | rfl | rfl | rfl <;> decide
def readWd (s : List UInt8) : List UInt8 := (Lib.cut s [32]).1
def readFd (s : List UInt8) : List UInt8 := (Lib.cut (Lib.cut s [32]).2.1 [32]).1
def readAr (s : List UInt8) : List UInt8 := (Lib.cut (Lib.cut s [32]).2.1 [32]).2.1
/-- What the program makes of a text. -/
structure ImplW (s : List UInt8) (d : WD) : Prop where
  k : d.kind = kindI (readWd s)
  f : d.field = pVal (Lib.trimPrefix (readFd s) [102])
  v : d.value = if d.kind = 2 then pVal (readAr s) else 0
  l : if d.kind = 3 then (allOk (pieces 44 (readAr s)) = true → d.ls = (pieces 44 (readAr s)).map pVal) else d.ls = []
  p : if d.kind = 4 then ∃ ok, ParsedP (readAr s) d.ps ok else d.ps = []
theorem map_pVal {l : List Int} (h : ∀ v ∈ l, InR v) : allOk (l.map Lib.itoa) = true ∧ (l.map Lib.itoa).map pVal = l := by
  refine ⟨?_, ?_⟩
  · unfold allOk
    rw [List.all_eq_true]
    intro a ha
    obtain ⟨v, hv, rfl⟩ := List.mem_map.1 ha
    exact (ok_itoa (h v hv).1 (by have := (h v hv).2; omega)).1
  · rw [List.map_map]
    refine (List.map_congr_left (g := id) fun v hv => ?_).trans (List.map_id _)
    exact (ok_itoa (h v hv).1 (by have := (h v hv).2; omega)).2
theorem trim_body (d : WD) : Lib.trimPrefix (bodyT d) [102] = Lib.itoa d.field := by
  unfold bodyT Lib.trimPrefix Lib.hasPrefix
  simp
theorem implW_text {d d' : WD} (h : IsW d') (g : ImplW (wishT d') d) : d = d' := by
  obtain ⟨c1, c2, c3⟩ := wish_cut h
  obtain ⟨k, f, v, l, p⟩ := d
  obtain ⟨g1, g2, g3, g4, g5⟩ := g
  unfold readWd at g1
  unfold readFd at g2
  unfold readAr at g3 g4 g5
  rw [c1] at g1
  rw [c2, trim_body] at g2
  rw [c3] at g3 g4 g5
  have h1 := h.v
  have h2 := h.l
  have h3 := h.p
  have hk := h.k
  have hf := h.f
  obtain ⟨k', f', v', l', p'⟩ := d'
  dsimp only at *
  obtain rfl : k = k' := g1.trans (kindI_kw hk)
  obtain rfl : f = f' := g2.trans (ok_itoa hf.1 (by omega)).2
  have e1 : v = v' := by
    by_cases e : k = 2
    · rw [if_pos e] at h1 g3
      rw [g3, argT2 e]
      exact (ok_itoa h1.1 (by have := h1.2; omega)).2
    · rw [if_neg e] at h1 g3
      rw [g3, h1]
  have e2 : l = l' := by
    by_cases e : k = 3
    · rw [if_pos e] at h2 g4
      rw [argT3 e] at g4
      dsimp only at g4
      rw [ints_pieces h2.1 h2.2.1] at g4
      obtain ⟨m1, m2⟩ := map_pVal h2.2.1
      rw [g4 m1, m2]
    · rw [if_neg e] at h2 g4
      rw [g4, h2]
  have e3 : p = p' := by
    by_cases e : k = 4
    · rw [if_pos e] at h3 g5
      obtain ⟨ok, q⟩ := g5
      rw [argT4 e] at q
      exact (q.one (.inl ⟨rfl, h3, rfl⟩)).1
    · rw [if_neg e] at h3 g5
      rw [g5, h3]
  rw [e1, e2, e3]
theorem ImplW.no {s : List UInt8} {d : WD} (h : ImplW s d) (hn : ¬ (IsW d ∧ wishT d = s)) : ParsedW s ⟨0, 0, 0, [], []⟩ false :=
  .inr ⟨rfl, rfl, fun d' h' e => hn (by obtain rfl := implW_text h' (e ▸ h); exact ⟨h', e⟩)⟩
theorem wishT_ne {d : WD} : wishT d ≠ [] := fun e => by
  rw [wishT_eq] at e
  simp at e
end Go.Proofs.YtadjoiahllekdaaGreatDoor.num
namespace Go.Proofs.YtadjoiahllekdaaGreatDoor.num
set_option maxRecDepth 20000
open Go.RowKit
set_option linter.unusedVariables false
set_option linter.unusedSimpArgs false

/-! A text split at a separator of more than one byte. -/
theorem joinL_cons (a : List UInt8) {l : List (List UInt8)} (h : l ≠ []) (s : List UInt8) : Lib.join (a :: l) s = a ++ s ++ Lib.join l s := by
  cases l with
  | nil => exact absurd rfl h
  | cons b r =>
    rw [Lib.join_cons, Lib.join_cons]
    unfold Lib.joinTail
    simp [List.append_assoc]
theorem index_no {c : UInt8} {t : List UInt8} : ∀ {a : List UInt8}, (∀ x ∈ a, x ≠ c) → Lib.index a (c :: t) = -1
  | [], _ => by simp [Lib.index]
  | x :: a, h => by
    have ih := index_no (t := t) (a := a) fun y hy => h y (List.mem_cons_of_mem _ hy)
    have hx := h x List.mem_cons_self
    have hp : (c :: t : List UInt8).isPrefixOf (x :: a) = false := by simp [List.isPrefixOf, Ne.symm hx]
    rw [Lib.index, hp, ih]; simp
theorem index_at {c : UInt8} {t r : List UInt8} : ∀ {a : List UInt8}, (∀ x ∈ a, x ≠ c) → Lib.index (a ++ (c :: t) ++ r) (c :: t) = (a.length : Nat)
  | [], _ => by
    have hp : (c :: t : List UInt8).isPrefixOf (c :: (t ++ r)) = true := by simp [List.isPrefixOf]
    show Lib.index (c :: (t ++ r)) (c :: t) = _
    rw [Lib.index, hp]; simp
  | x :: a, h => by
    have ih := index_at (t := t) (r := r) (a := a) fun y hy => h y (List.mem_cons_of_mem _ hy)
    have hx := h x List.mem_cons_self
    have hp : (c :: t : List UInt8).isPrefixOf (x :: (a ++ (c :: t) ++ r)) = false := by simp [List.isPrefixOf, Ne.symm hx]
    show Lib.index (x :: (a ++ (c :: t) ++ r)) (c :: t) = _
    rw [Lib.index, hp, ih]
    have : (((a.length : Nat) : Int) == -1) = false := by rw [beq_eq_false_iff_ne]; omega
    simp [this]
theorem splitK_ne (sep : List UInt8) : ∀ (k : Nat) (s : List UInt8), Lib.splitK sep 0 k s ≠ []
  | 0, s => by simp [Lib.splitK]
  | k + 1, s => by unfold Lib.splitK; split <;> simp
theorem split_join {c : UInt8} {t : List UInt8} : ∀ {l : List (List UInt8)}, l ≠ [] → (∀ a ∈ l, ∀ x ∈ a, x ≠ c) → Lib.splitK (c :: t) 0 (Lib.count (Lib.join l (c :: t)) (c :: t)) (Lib.join l (c :: t)) = l
  | [], h, _ => absurd rfl h
  | [a], _, h => by
    have h1 := index_no (t := t) (h a (by simp))
    rw [Lib.join_one, Lib.count_miss h1]; rfl
  | a :: b :: r, _, h => by
    have ih := split_join (c := c) (t := t) (l := b :: r) (by simp) fun x hx => h x (List.mem_cons_of_mem _ hx)
    rw [joinL_cons a (by simp)]
    have h1 := index_at (t := t) (r := Lib.join (b :: r) (c :: t)) (h a (by simp))
    have hd : (a ++ (c :: t) ++ Lib.join (b :: r) (c :: t)).drop (a.length + (c :: t).length) = Lib.join (b :: r) (c :: t) := by
      rw [← List.length_append, List.drop_left]
    rw [Lib.count_hit (by simp) h1, hd, Nat.add_comm 1, Lib.splitK, h1, if_neg (by simp)]
    have e : ((a.length : Nat) : Int).toNat = a.length := by omega
    rw [e, hd, ih, Nat.add_zero, List.append_assoc, List.take_left]
theorem join_split (sep : List UInt8) (hsep : sep ≠ []) : ∀ (k : Nat) (s : List UInt8), Lib.count s sep = k → Lib.join (Lib.splitK sep 0 k s) sep = s
  | 0, s, _ => Lib.join_one s sep
  | k + 1, s, hk => by
    rcases Lib.index_spec s sep with ⟨hm, _⟩ | ⟨i, hi, hle, hocc, _⟩
    · rw [Lib.count_miss hm] at hk; omega
    · have h1 := Lib.count_hit hsep hi
      have ih := join_split sep hsep k (s.drop (i + sep.length)) (by omega)
      have e : (Lib.index s sep).toNat = i := by omega
      rw [Lib.splitK, if_neg (by rw [hi]; simp), e, Nat.add_zero, joinL_cons _ (splitK_ne _ _ _), ih]
      obtain ⟨t, ht⟩ := List.isPrefixOf_iff_prefix.1 (show sep.isPrefixOf (s.drop i) = true from hocc)
      have h2 : s.drop (i + sep.length) = t := by
        rw [← List.drop_drop, ← ht, List.drop_left]
      rw [h2, List.append_assoc, ht, List.take_append_drop]
theorem splitB_words (s : ByteArray) : (Lib.splitB ⟨#[59, 32]⟩ 0 (Lib.countB s ⟨#[59, 32]⟩) s).map (·.data.toList) = Lib.splitK [59, 32] 0 (Lib.count s.data.toList [59, 32]) s.data.toList := Lib.splitB_data _ _ _ _
/-- The words that the program reads. -/
def wordsE (s : List UInt8) : List (List UInt8) := Lib.splitK [59, 32] 0 (Lib.count s [59, 32]) s
theorem wordsE_back (s : List UInt8) : Lib.join (wordsE s) [59, 32] = s := join_split _ (by simp) _ s rfl
theorem wordsE_ne (s : List UInt8) : wordsE s ≠ [] := splitK_ne _ _ _
/-! No node's text holds a semicolon; an operator's word holds no blank. -/
theorem kw_semi {k : Nat} : ∀ x ∈ kwT.getD k [], x ≠ (59 : UInt8) := by
  rcases (show k = 0 ∨ k = 1 ∨ k = 2 ∨ k = 3 ∨ k = 4 ∨ 5 ≤ k by omega) with rfl | rfl | rfl | rfl | rfl | h
  iterate 5 decide
  intro x hx
  rw [List.getD_eq_getElem?_getD, List.getElem?_eq_none (by show 5 ≤ k; omega)] at hx
  simp at hx
theorem ow_semi {k : Nat} : ∀ x ∈ owT.getD k [], x ≠ (59 : UInt8) ∧ x ≠ (32 : UInt8) := by
  rcases (show k = 0 ∨ k = 1 ∨ k = 2 ∨ k = 3 ∨ k = 4 ∨ 5 ≤ k by omega) with rfl | rfl | rfl | rfl | rfl | h
  iterate 5 decide
  intro x hx
  rw [List.getD_eq_getElem?_getD, List.getElem?_eq_none (by show 5 ≤ k; omega)] at hx
  simp at hx
theorem ints_semi {l : List Int} (h : ∀ v ∈ l, InR v) : ∀ x ∈ intsT l, x ≠ 59 := by
  refine join_not (by decide) _ fun a ha => ?_
  obtain ⟨v, hv, rfl⟩ := List.mem_map.1 ha
  exact itoa_not (h v hv).1 59 (by decide)
theorem pairs_semi {ps : List (Int × Int)} (h : ∀ p, p ∈ ps → InR p.1 ∧ InR p.2) : ∀ x ∈ pairsT ps, x ≠ 59 := by
  unfold pairsT
  split
  · decide
  · refine join_not (by decide) _ fun a ha => ?_
    obtain ⟨p, hp, rfl⟩ := List.mem_map.1 ha
    intro x hx
    unfold pairT at hx
    simp only [List.mem_append, List.mem_cons] at hx
    rcases hx with hx | rfl | hx
    · exact itoa_not (h p hp).1.1 59 (by decide) x hx
    · decide
    · exact itoa_not (h p hp).2.1 59 (by decide) x hx
theorem rest_semi {d : WD} (h : IsW d) : ∀ x ∈ restT d, x ≠ 59 := by
  have h1 := h.v
  have h2 := h.l
  have h3 := h.p
  unfold restT
  split
  · rename_i e
    rw [if_pos e] at h1
    intro x hx
    rcases List.mem_cons.1 hx with rfl | hx
    · decide
    · exact itoa_not h1.1 59 (by decide) x hx
  · split
    · rename_i e
      rw [if_pos e] at h2
      intro x hx
      rcases List.mem_cons.1 hx with rfl | hx
      · decide
      · exact ints_semi h2.2.1 x hx
    · split
      · rename_i e
        rw [if_pos e] at h3
        intro x hx
        rcases List.mem_cons.1 hx with rfl | hx
        · decide
        · exact pairs_semi h3.1.rng x hx
      · intro x hx; cases hx
theorem wish_semi {d : WD} (h : IsW d) : ∀ x ∈ wishT d, x ≠ 59 := by
  intro x hx
  unfold wishT at hx
  simp only [List.mem_append, List.mem_cons] at hx
  rcases hx with hx | rfl | rfl | hx | hx
  · exact kw_semi x hx
  · decide
  · decide
  · exact itoa_not h.f.1 59 (by decide) x hx
  · exact rest_semi h x hx
theorem wish_blank (d : WD) : (32 : UInt8) ∈ wishT d := by unfold wishT; simp

/-- A node that may stand in an expression. -/
def NodeV (nd : ND) : Prop := (nd.op = 0 ∧ IsW nd.w) ∨ ((nd.op = 1 ∨ nd.op = 2 ∨ nd.op = 3 ∨ nd.op = 4) ∧ NoW nd.w)
theorem nodeT_semi {nd : ND} (h : NodeV nd) : ∀ x ∈ nodeT nd, x ≠ 59 := by
  rcases h with ⟨h0, hw⟩ | ⟨ho, _⟩
  · rw [nodeT, if_pos h0]; exact wish_semi hw
  · rw [nodeT, if_neg (by omega)]; exact fun x hx => (ow_semi x hx).1
theorem owT_inj {a b : Int} (ha : a = 1 ∨ a = 2 ∨ a = 3 ∨ a = 4) (hb : b = 1 ∨ b = 2 ∨ b = 3 ∨ b = 4) (h : owT.getD a.toNat [] = owT.getD b.toNat []) : a = b := by
  rcases ha with rfl | rfl | rfl | rfl <;> rcases hb with rfl | rfl | rfl | rfl <;> first | rfl | exact absurd h (by decide)
theorem nowEq {a b : WD} (ha : NoW a) (hb : NoW b) : a = b := by
  obtain ⟨a1, a2, a3, a4, a5⟩ := a
  obtain ⟨b1, b2, b3, b4, b5⟩ := b
  have h1 := ha.k; have h2 := ha.f; have h3 := ha.v; have h4 := ha.l; have h5 := ha.p
  have g1 := hb.k; have g2 := hb.f; have g3 := hb.v; have g4 := hb.l; have g5 := hb.p
  simp only at h1 h2 h3 h4 h5 g1 g2 g3 g4 g5
  subst h1 h2 h3 h4 h5 g1 g2 g3 g4 g5
  rfl
theorem nodeT_inj {a b : ND} (ha : NodeV a) (hb : NodeV b) (h : nodeT a = nodeT b) : a = b := by
  obtain ⟨oa, wa⟩ := a
  obtain ⟨ob, wb⟩ := b
  unfold nodeT at h
  rcases ha with ⟨h0, hw⟩ | ⟨ho, hn⟩ <;> rcases hb with ⟨g0, gw⟩ | ⟨go, gn⟩ <;> simp only at *
  · rw [if_pos h0, if_pos g0] at h
    rw [wishT_inj hw gw h, h0, g0]
  · rw [if_pos h0, if_neg (by omega)] at h
    have := wish_blank wa
    rw [h] at this
    exact absurd rfl (ow_semi _ this).2
  · rw [if_neg (by omega), if_pos g0] at h
    have := wish_blank wb
    rw [← h] at this
    exact absurd rfl (ow_semi _ this).2
  · rw [if_neg (by omega), if_neg (by omega)] at h
    rw [owT_inj ho go h, nowEq hn gn]
theorem nodeT_ne {nd : ND} (h : NodeV nd) : nodeT nd ≠ [] := by
  rcases h with ⟨h0, hw⟩ | ⟨ho, _⟩
  · rw [nodeT, if_pos h0]; exact wishT_ne
  · rw [nodeT, if_neg (by omega)]
    rcases ho with e | e | e | e <;> rw [e] <;> decide
/-- What a reader makes of a word. -/
def ParsedN (s : List UInt8) (nd : ND) (ok : Bool) : Prop := (ok = true ∧ NodeV nd ∧ nodeT nd = s) ∨ (ok = false ∧ ¬ NodeV nd ∧ ∀ nd', NodeV nd' → nodeT nd' ≠ s) ∨ (ok = false ∧ ∀ nd', NodeV nd' → nodeT nd' ≠ s)
theorem ParsedN.of {s : List UInt8} {nd : ND} {ok : Bool} (h : ParsedN s nd ok) {nd' : ND} (hv : NodeV nd') (hs : nodeT nd' = s) : nd = nd' ∧ ok = true := by
  rcases h with ⟨h1, h2, h3⟩ | ⟨_, _, h2⟩ | ⟨_, h2⟩
  · exact ⟨nodeT_inj h2 hv (h3.trans hs.symm), h1⟩
  · exact absurd hs (h2 nd' hv)
  · exact absurd hs (h2 nd' hv)
theorem IsE.valid {nds : List ND} (h : IsE nds) : ∀ nd ∈ nds, NodeV nd := fun nd hnd => by
  obtain ⟨k, hk⟩ := List.getElem?_of_mem hnd
  exact h.node hk
theorem IsE.some {nds : List ND} (h : IsE nds) : nds ≠ [] := by
  obtain ⟨_, t, ht⟩ := h
  cases ht <;> simp
theorem nodes_semi {nds : List ND} (h : IsE nds) : ∀ a ∈ nds.map nodeT, ∀ x ∈ a, x ≠ 59 := fun a ha => by
  obtain ⟨nd, hnd, rfl⟩ := List.mem_map.1 ha
  exact nodeT_semi (h.valid nd hnd)
theorem exprT_words {nds : List ND} (h : IsE nds) : wordsE (exprT nds) = nds.map nodeT := split_join (by simp [h.some]) (nodes_semi h)
theorem nodes_inj : ∀ {a b : List ND}, (∀ nd ∈ a, NodeV nd) → (∀ nd ∈ b, NodeV nd) → a.map nodeT = b.map nodeT → a = b
  | [], [], _, _, _ => rfl
  | [], _ :: _, _, _, h => by simp at h
  | _ :: _, [], _, _, h => by simp at h
  | x :: a, y :: b, ha, hb, h => by
    rw [List.map_cons, List.map_cons] at h
    obtain ⟨h1, h2⟩ := List.cons.inj h
    rw [nodeT_inj (ha x (by simp)) (hb y (by simp)) h1, nodes_inj (fun n hn => ha n (List.mem_cons_of_mem _ hn)) (fun n hn => hb n (List.mem_cons_of_mem _ hn)) h2]
theorem exprT_inj {a b : List ND} (ha : IsE a) (hb : IsE b) (h : exprT a = exprT b) : a = b := by
  refine nodes_inj ha.valid hb.valid ?_
  rw [← exprT_words ha, ← exprT_words hb, h]
theorem exprT_ne {nds : List ND} (h : IsE nds) : exprT nds ≠ [] := by
  intro e
  have h1 := exprT_words h
  rw [e] at h1
  have h2 : wordsE [] = [[]] := by decide
  rw [h2] at h1
  cases nds with
  | nil => simp at h1
  | cons a r =>
    rw [List.map_cons] at h1
    exact nodeT_ne (h.valid a (by simp)) (List.cons.inj h1).1.symm
/-- What both answer. -/
def ParsedE (s : List UInt8) (nds : List ND) (ok : Bool) : Prop := (ok = true ∧ IsE nds ∧ exprT nds = s) ∨ (ok = false ∧ nds = [] ∧ ∀ nds', IsE nds' → exprT nds' ≠ s)
theorem ParsedE.one {s : List UInt8} {a b : List ND} {p q : Bool} (h : ParsedE s a p) (g : ParsedE s b q) : a = b ∧ p = q := by
  rcases h with ⟨rfl, h1, h2⟩ | ⟨rfl, rfl, h2⟩ <;> rcases g with ⟨rfl, g1, g2⟩ | ⟨rfl, rfl, g2⟩
  · exact ⟨exprT_inj h1 g1 (h2.trans g2.symm), rfl⟩
  · exact absurd h2 (g2 a h1)
  · exact absurd g2 (h2 b g1)
  · exact ⟨rfl, rfl⟩
theorem ParsedE.small {s : List UInt8} {ns : List Nd} {ok : Bool} (h : ParsedE s (ns.map Nd.dat) ok) : ns.length ≤ 9 := by
  rcases h with ⟨_, h, _⟩ | ⟨_, h, _⟩
  · have h9 := h.1
    rwa [List.length_map] at h9
  · have e := congrArg List.length h
    rw [List.length_map] at e
    simp at e
    simp [e]
/-- The words, read one by one. -/
def ReadE (L : List (List UInt8)) (nds : List ND) (oks : List Bool) : Prop := nds.length = L.length ∧ oks.length = L.length ∧ ∀ (k : Nat) (s : List UInt8) (nd : ND) (ok : Bool), L[k]? = some s → nds[k]? = some nd → oks[k]? = some ok → ParsedN s nd ok
/-- Where an expression has the words' text, the readers find it. -/
theorem ReadE.of {nds' nds : List ND} {oks : List Bool} (h : ReadE (nds'.map nodeT) nds oks) (hv : ∀ nd ∈ nds', NodeV nd) : nds = nds' ∧ ∀ ok ∈ oks, ok = true := by
  obtain ⟨h1, h2, h3⟩ := h
  rw [List.length_map] at h1 h2
  have h4 : ∀ k (hk : k < nds'.length), nds[k]? = some nds'[k] ∧ oks[k]? = some true := fun k hk => by
    have e1 : nds[k]? = some nds[k] := List.getElem?_eq_getElem (by omega)
    have e2 : oks[k]? = some oks[k] := List.getElem?_eq_getElem (by omega)
    have e3 := h3 k (nodeT nds'[k]) _ _ (by simp [List.getElem?_eq_getElem hk]) e1 e2
    obtain ⟨e4, e5⟩ := e3.of (hv _ (List.getElem_mem hk)) rfl
    rw [e1, e2, e4, e5]; exact ⟨rfl, rfl⟩
  constructor
  · apply List.ext_getElem? fun k => ?_
    by_cases hk : k < nds'.length
    · rw [(h4 k hk).1, List.getElem?_eq_getElem hk]
    · rw [List.getElem?_eq_none (by omega), List.getElem?_eq_none (by omega)]
  · intro ok hok
    obtain ⟨k, hk⟩ := List.getElem?_of_mem hok
    have hk' : k < oks.length := (List.getElem?_eq_some_iff.1 hk).1
    rw [(h4 k (by omega)).2] at hk
    exact (Option.some.inj hk).symm
/-- Words that were all read are the text of what was read. -/
theorem ReadE.back {L : List (List UInt8)} {nds : List ND} {oks : List Bool} (h : ReadE L nds oks) (ht : ∀ ok ∈ oks, ok = true) : nds.map nodeT = L := by
  obtain ⟨h1, h2, h3⟩ := h
  apply List.ext_getElem? fun k => ?_
  by_cases hk : k < L.length
  · have e1 : nds[k]? = some nds[k] := List.getElem?_eq_getElem (by omega)
    have e2 : oks[k]? = some oks[k] := List.getElem?_eq_getElem (by omega)
    have e3 := h3 k _ _ _ (List.getElem?_eq_getElem hk) e1 e2
    have e4 := ht oks[k] (List.getElem_mem (by omega))
    rw [e4] at e3
    rcases e3 with ⟨_, _, e5⟩ | ⟨e5, _⟩ | ⟨e5, _⟩
    · rw [List.getElem?_map, e1, List.getElem?_eq_getElem hk, Option.map_some, e5]
    · cases e5
    · cases e5
  · rw [List.getElem?_eq_none (by rw [List.length_map]; omega), List.getElem?_eq_none (by omega)]
/-- The program's answer. -/
theorem impl_yes {s : List UInt8} {nds : List ND} {oks : List Bool} (h : ReadE (wordsE s) nds oks) (ht : ∀ ok ∈ oks, ok = true) (he : IsE nds) : ParsedE s nds true :=
  .inl ⟨rfl, he, by unfold exprT; rw [h.back ht]; exact wordsE_back s⟩
theorem impl_no {s : List UInt8} {nds : List ND} {oks : List Bool} (h : ReadE (wordsE s) nds oks) (hn : ¬ ((∀ ok ∈ oks, ok = true) ∧ IsE nds)) : ParsedE s [] false :=
  .inr ⟨rfl, rfl, fun nds' he e => by
    rw [← e, exprT_words he] at h
    obtain ⟨h1, h2⟩ := h.of he.valid
    exact hn ⟨h2, by rw [h1]; exact he⟩⟩
/-- A word that can't be read is enough. -/
theorem impl_stop {s p : List UInt8} {k : Nat} {nd : ND} (hk : (wordsE s)[k]? = some p) (h : ParsedN p nd false) : ParsedE s [] false :=
  .inr ⟨rfl, rfl, fun nds' he e => by
    rw [← e, exprT_words he, List.getElem?_map] at hk
    obtain ⟨nd', h1, rfl⟩ := Option.map_eq_some_iff.1 hk
    have := h.of (he.valid nd' (List.mem_of_getElem? h1)) rfl
    cases this.2⟩
end Go.Proofs.YtadjoiahllekdaaGreatDoor.num
namespace Go.Proofs.YtadjoiahllekdaaGreatDoor.num
set_option maxRecDepth 20000
open Go.RowKit Go.Maps
set_option linter.unusedVariables false

set_option maxRecDepth 20000 in
theorem iIsWish (w : World) (B : Nat) (t : Wi) (hi : WiIn w B t) (hB : B ≤ w.heap.size) (hn : t.Short) (q : Bool) (hq : q = true ↔ IsW t.dat) :
    Calls Tryz.prog 63 #[t.val] w fun e w' => e = .returned (.bool q) ∧ Below w.heap.size w w' := by
  have HI := Lib.hid hi
  have HS := Lib.hid (fun (w1 : World) h1 h2 => taste_of w1 B t h1 h2 hn q hq)
  clear hi hq
  obtain ⟨k, f, v, LA, Ln, Lc, ls, PA, Pn, Pc, ps⟩ := t
  unfold Wi.val at HS ⊢
  go_enter Tryz.func63, Tryz.ntmps63
  go_wp2_with fail
  first
    | refine (HS.out _ HI.out hB).mono ?_
    | refine (HS.out _ (HI.out.below ((Below.refl B w).alloc hB _)) (by simp; omega)).mono ?_
  rintro e w1 ⟨⟨tv, rfl, -⟩, hb1⟩
  go_wp2
  go_ret
  first
    | exact ⟨rfl, hb1⟩
    | exact ⟨rfl, ((Below.refl _ w).alloc (Nat.le_refl _) _).trans (hb1.mono (by simp))⟩

end Go.Proofs.YtadjoiahllekdaaGreatDoor.num
namespace Go.Proofs.YtadjoiahllekdaaGreatDoor.num
set_option maxRecDepth 20000
open Go.RowKit

theorem digit_of (r : Int) (b : Bool) (hb : b = true ↔ 48 ≤ r ∧ r ≤ 57) (w : World) :
    Calls Tryz.prog 99 #[.int .i32 r] w fun e w' => e = .returned (.bool b) ∧ w = w' := by
  obtain rfl : b = (decide (48 ≤ r) && decide (r ≤ 57)) := by rw [Bool.eq_iff_iff]; simpa using hb
  clear hb
  by_cases h1 : 48 ≤ r
  · go_enter Tryz.func99, Tryz.ntmps99
    go_wp2
    go_ret
    exact ⟨by simp [h1], rfl⟩
  · go_enter Tryz.func99, Tryz.ntmps99
    go_wp2
    go_ret
    exact ⟨by simp; omega, rfl⟩
theorem cut_dash (s : ByteArray) (w : World) :
    Calls Tryz.prog 98 #[.string s, .string ⟨#[45]⟩] w fun e w' => e = .returned (.tuple #[.string ⟨(dgs s.data.toList).toArray⟩, .bool (dash s.data.toList)]) ∧ w = w' :=
  (Tryz.strings_CutPrefix s ⟨#[45]⟩ w).mono fun e w' ⟨he, hw⟩ => by
    refine ⟨?_, hw.symm⟩
    rw [he]
    show Ending.returned (.tuple #[.string ⟨(Lib.trimPrefix s.data.toList [45]).toArray⟩, .bool (Lib.hasPrefix s.data.toList [45])]) = _
    rw [hasDash, trimDash]
theorem decode_hi (s : ByteArray) (pos : Nat) (h : pos < s.size) (hb : 128 ≤ (s[pos]).toNat) : 128 ≤ (Utf8.decode s pos).1 := by
  have e : s.get! pos = s[pos]'h := by simp [ByteArray.get!, getElem!_pos, h]; rfl
  rw [Lib.decode_at, e]
  unfold Lib.decodeN
  rw [if_neg (by omega)]
  repeat' split
  all_goals first | assumption | (simp only; omega) | decide
theorem isD_at (t : ByteArray) (pos : Nat) (h : pos < t.size) (hb : isD t[pos] = false) (l : List UInt8) (hl : t.data.toList = l) : ¬ l.all isD = true := by
  subst hl
  intro ha
  have hm : t[pos] ∈ t.data.toList := by simp; exact Array.getElem_mem (xs := t.data) h
  have := List.all_eq_true.1 ha _ hm
  rw [hb] at this; cases this
theorem eq_text (m : Int) (s : ByteArray) (b : Bool) (hb : b = true ↔ Lib.itoa m = s.data.toList) : ((fmtB m).toList == s.toList) = b := by
  rw [ByteArray.toList_eq, ByteArray.toList_eq, Bool.eq_iff_iff, beq_iff_eq, hb]; rfl

set_option maxRecDepth 20000 in
set_option maxHeartbeats 400000 in
theorem iParse (s : ByteArray) (_hs : s.size ≤ 1048576) (w : World) (hpow : Pow w) :
    Calls Tryz.prog 49 #[.string s] w fun e w' => e = .returned (.tuple #[.int .i64 (pVal s.data.toList), .bool (pOk s.data.toList)]) ∧ Below w.heap.size w w' := by
  have HP := Lib.hid hpow
  clear hpow
  go_enter Tryz.func49, Tryz.ntmps49
  go_wp2_with fail
  refine (cut_dash s _).mono ?_
  rintro e w1 ⟨rfl, rfl⟩
  generalize ht : (⟨(dgs s.data.toList).toArray⟩ : ByteArray) = t
  have HT : Hid (t.data.toList = dgs s.data.toList) := by subst ht; show _ = _; rfl
  clear ht
  by_cases hlen : t.size ≤ 9
  · generalize hd : dash s.data.toList = d
    have HD := Lib.hid hd
    clear hd
    go_wp2
    go_loopw [6] (fun v wr => ∃ pos m : Nat, pos ≤ t.size ∧ v = .int .i64 m ∧ m ≤ 999999999 ∧ Hid (m = scanV (t.data.toList.take pos)) ∧ Hid ((t.data.toList.take pos).all isD = true) ∧ wr.heap[w.heap.size]? = some (.stringIter t pos) ∧ Below w.heap.size w wr) (fun _ wr => t.size - wr.iterPos w.heap.size)
    case atStart => exact ⟨0, 0, Nat.zero_le _, rfl, by omega, rfl, rfl, World.iter_heap w t 0, (Below.refl _ _).alloc (Nat.le_refl _) _⟩
    case round =>
      obtain ⟨pos, m, hp, rfl, hm, HM, HA, hit, hbel⟩ := hrel
      have HI := Lib.hid hit
      by_cases hlt : pos < t.size
      · by_cases hlow : (t[pos]).toNat < 128
        · have hnext := fun ty => Lib.run_next_ascii_at (P := Tryz.prog) wr w.heap.size t pos ty hit hlt hlow
          clear hit
          have hbel1 := Lib.below_iterAt hbel (Nat.le_refl _) t (pos + 1)
          cases hx : isD t[pos]
          · have HU := Lib.hid (pOk_p1 s.data.toList (fun h => isD_at t pos hlt hx _ HT.out h.2))
            have hnd : ¬ (48 ≤ t[pos].toNat ∧ t[pos].toNat ≤ 57) := of_decide_eq_false hx
            have HX := Lib.hid hx
            clear hx hbel
            go_wp2_with fail
            refine (digit_of _ false (by simp; omega) _).mono ?_
            rintro e wa ⟨rfl, rfl⟩
            go_wp2
            go_ret2
            refine ⟨?_, hbel1⟩
            rw [HU.out.1, HU.out.2]; rfl
          · have hdi : 48 ≤ t[pos].toNat ∧ t[pos].toNat ≤ 57 := of_decide_eq_true hx
            obtain ⟨hd1, hd2⟩ := hdi
            have hstep : scanV (t.data.toList.take (pos + 1)) = 10 * m + (t[pos].toNat - 48) := by
              rw [take_snoc t pos hlt, scanV_snoc, ← HM.out, dstep, hx]; rfl
            have hle := scanV_le9 (t.data.toList.take (pos + 1)) (by have := List.length_take_le (pos + 1) t.data.toList; omega)
            have hm2 : 10 * m + (t[pos].toNat - 48) ≤ 999999999 := by rw [← hstep]; exact hle
            have HS := Lib.hid hstep
            have hall : (t.data.toList.take (pos + 1)).all isD = true := by rw [take_snoc t pos hlt, List.all_append, HA.out]; simp [hx]
            have HA2 := Lib.hid hall
            have HX := Lib.hid hx
            have HPos : Hid (wr.iterPos w.heap.size = pos) := by show _ = _; simp [World.iterPos, HI.out]
            have HT1 := Lib.hid (Lib.iterAt_heap wr _ _ pos (pos + 1) HI.out)
            clear hx hbel hstep hle hall
            go_wp2_with fail
            refine (digit_of _ true (by simp; omega) _).mono ?_
            rintro e wa ⟨rfl, rfl⟩
            go_wp2
            go_roundw
            case rel => exact ⟨pos + 1, 10 * m + (t[pos].toNat - 48), by omega, by go_num, hm2, HS.out.symm, HA2.out, HT1.out, hbel1⟩
            case measure =>
              have h2 := HPos.out
              have h3 : (wr.iterAt w.heap.size t (pos + 1)).iterPos w.heap.size = pos + 1 := by simp [World.iterPos, HT1.out]
              omega
        · have hnext := fun ty => Lib.run_next_any_at (P := Tryz.prog) wr w.heap.size t pos ty hit hlt
          have hd := decode_hi t pos hlt (by omega)
          have HU := Lib.hid (pOk_p1 s.data.toList (fun h => isD_at t pos hlt (by simp [isD]; omega) _ HT.out h.2))
          have hbel1 := Lib.below_iterAt hbel (Nat.le_refl _) t (pos + (Utf8.decode t pos).2)
          clear hit hbel
          go_wp2_with fail
          refine (digit_of _ false (by simp; omega) _).mono ?_
          rintro e wa ⟨rfl, rfl⟩
          go_wp2
          go_ret2
          refine ⟨?_, hbel1⟩
          rw [HU.out.1, HU.out.2]; rfl
      · have hnext := fun ty => Lib.run_next_end_at (P := Tryz.prog) wr w.heap.size t pos ty hit hlt
        clear hit
        obtain rfl : pos = t.size := by omega
        have hfull : t.data.toList.take t.size = t.data.toList := List.take_of_length_le (by rw [Array.length_toList]; exact Nat.le_refl _)
        have HM2 : Hid (m = scanV (dgs s.data.toList)) := by show _ = _; rw [HM.out, hfull, HT.out]
        have HA2 : Hid ((dgs s.data.toList).all isD = true) := by have := HA.out; rw [hfull, HT.out] at this; exact this
        have HL2 : Hid ((dgs s.data.toList).length ≤ 9) := by show _ ≤ _; rw [← HT.out, Array.length_toList]; exact hlen
        clear hfull
        cases d
        · have hsg : signed s.data.toList (scanV (dgs s.data.toList)) = (m : Int) := by unfold signed; rw [HD.out, ← HM2.out]; rfl
          by_cases hb : Lib.itoa ((m : Int)) = s.data.toList
          · have hq := eq_text ((m : Int)) s true (by simp [hb])
            have HU := Lib.hid (pOk_p2 s.data.toList HL2.out HA2.out true (by rw [hsg]; simp [hb]))
            have HG := Lib.hid hsg
            clear hb hsg
            go_wp2_with fail
            refine (iFormat ((m : Int)) (by omega) (by omega) _ (HP.out.below hbel)).mono ?_
            rintro e wb ⟨rfl, hb1⟩
            go_wp2
            go_ret2
            refine ⟨?_, hbel.trans (hb1.mono hbel.size)⟩
            rw [HU.out.1, HU.out.2, HG.out]; rfl
          · have hq := eq_text ((m : Int)) s false (by simp [hb])
            have HU := Lib.hid (pOk_p2 s.data.toList HL2.out HA2.out false (by rw [hsg]; simp [hb]))
            have HG := Lib.hid hsg
            clear hb hsg
            go_wp2_with fail
            refine (iFormat ((m : Int)) (by omega) (by omega) _ (HP.out.below hbel)).mono ?_
            rintro e wb ⟨rfl, hb1⟩
            go_wp2
            go_ret2
            refine ⟨?_, hbel.trans (hb1.mono hbel.size)⟩
            rw [HU.out.1, HU.out.2]; rfl
        · have hsg : signed s.data.toList (scanV (dgs s.data.toList)) = -(m : Int) := by unfold signed; rw [HD.out, ← HM2.out]; rfl
          by_cases hb : Lib.itoa (-(m : Int)) = s.data.toList
          · have hq := eq_text (-(m : Int)) s true (by simp [hb])
            have HU := Lib.hid (pOk_p2 s.data.toList HL2.out HA2.out true (by rw [hsg]; simp [hb]))
            have HG := Lib.hid hsg
            clear hb hsg
            go_wp2_with fail
            refine (iFormat (-(m : Int)) (by omega) (by omega) _ (HP.out.below hbel)).mono ?_
            rintro e wb ⟨rfl, hb1⟩
            go_wp2
            go_ret2
            refine ⟨?_, hbel.trans (hb1.mono hbel.size)⟩
            rw [HU.out.1, HU.out.2, HG.out]; rfl
          · have hq := eq_text (-(m : Int)) s false (by simp [hb])
            have HU := Lib.hid (pOk_p2 s.data.toList HL2.out HA2.out false (by rw [hsg]; simp [hb]))
            have HG := Lib.hid hsg
            clear hb hsg
            go_wp2_with fail
            refine (iFormat (-(m : Int)) (by omega) (by omega) _ (HP.out.below hbel)).mono ?_
            rintro e wb ⟨rfl, hb1⟩
            go_wp2
            go_ret2
            refine ⟨?_, hbel.trans (hb1.mono hbel.size)⟩
            rw [HU.out.1, HU.out.2]; rfl
  · have HU := Lib.hid (pOk_p1 s.data.toList (fun h => hlen (by have := h.1; rw [← HT.out, Array.length_toList] at this; exact this)))
    go_wp2
    go_ret2
    refine ⟨?_, Below.refl _ _⟩
    rw [HU.out.1, HU.out.2]; rfl
end Go.Proofs.YtadjoiahllekdaaGreatDoor.num
