/-
  The items whose numbers are in a list, and the greatest utility: the program's and the model's functions.
-/
import Derived.Test.YtceiocdemhkcdaaItemDel
import Derived.Test.YtceiocdemhkcdaaHasInts
import Derived.Test.YtceiocdemhkcdaaCloneI
import Derived.Test.YtceiocdemhkcdaaRegGreedy
import Derived.Deep.CutRange
import Derived.Deep.Cut
namespace Go.Proofs.Ytceiocdemhkcdaa.num
set_option maxRecDepth 20000
open Go.RowKit
set_option linter.unusedVariables false
set_option linter.unusedSimpArgs false

set_option maxRecDepth 20000 in
theorem cloneT (w : World) (B : Nat) (A : Option Addr) (n c : Nat) (xs : List It) (hi : ReadG itCs 2 w B A n xs) (hB : B ≤ w.heap.size) (hn : n ≤ 1048576) :
    Calls Try.prog 57 #[.slice A n c] w fun e w' => ∃ v, e = .returned v ∧ OwnTs w' w.heap.size v xs ∧ Below w.heap.size w w' := by
  have hq : ∀ (w : World) (a : Option Addr) (n c n' c' : Nat), (binOp .eql 24 (.slice a n c) (.slice none n' c')).run Try.prog w = .ok (.bool a.isNone) w := fun w a n c n' c' => Lib.run_eql_slice_nil w _ _ a n c n' c' Try.underlying24
  have HB1 : Hid (Below B w (w.alloc (.cells #[] 43))) := Lib.hid ((Below.refl B w).alloc hB _)
  have HX := Lib.hid hi
  cases A with
  | none =>
    obtain rfl : xs = [] := by
      cases xs with
      | nil => rfl
      | cons p r => obtain ⟨_, _, h, _⟩ := hi.at' 0 p rfl; cases h
    clear hi HB1
    go_enter Try.func57, Try.ntmps57
    go_wp2
    go_ret
    exact ⟨_, rfl, .nil _ _, Below.refl _ _⟩
  | some a =>
    clear hi
    obtain ⟨v', w', hr, ho, hg, ha⟩ := run_spreadG itCs_len itCs_one (ty := 24) (c := c) Try.underlying24 info_item rfl (by decide) (by decide) (OwnG.empty (T := 43) (f := itCs) (s := 2) w w.heap.size (Nat.le_refl _)) (HX.out.below HB1.out) (by simp; omega) (by simp)
    have HO := Lib.hid ho
    have HG := Lib.hid hg
    clear ho hg ha
    go_enter Try.func57, Try.ntmps57
    go_wp2_with (at_builtin; refine Go.Lib.wpList_append_run_sl _ (by rfl) (.tmp 5) (.tmp 6) 24 (by rfl) _ _ (by rfl) (by rfl) hr ?_)
    clear hr
    go_wp2
    go_ret
    exact ⟨_, rfl, by simpa using HO.out, ((Below.refl _ w).alloc (Nat.le_refl _) _).grown HG.out (by simp) (by intro k hk; simp [Value.ownBlock] at hk; omega)⟩
set_option maxRecDepth 20000 in
theorem notIn_c (W : World) (x : It) (g : Nat) (B : Nat) (A : Option Addr) (n c : Nat) (xs : List Int) (hg : g < W.heap.size) (hc : W.cell? ⟨g, 0, none⟩ = some (.slice A n c)) (hi : Ints W B A n xs) (hB : B ≤ W.heap.size) (hn : n ≤ 1048576) :
    Calls Try.prog 77 #[x.val, .pointer (some ⟨g, 0, none⟩)] W fun e w' => e = .returned (.bool (!decide (x.id ∈ xs))) ∧ Below W.heap.size W w' := by
  have hv : x.val = .agg #[.int .i64 x.id, .slice x.A x.n x.c] := rfl
  rw [hv]
  clear hv
  have HB0 : Hid (Below W.heap.size W (W.alloc (.cells #[.int .i64 x.id, .slice x.A x.n x.c] 43))) := Lib.hid ((Below.refl _ W).alloc (Nat.le_refl _) _)
  have X0 := Lib.hid (BoxI.new W x 43)
  have hc0 := (HB0.out.cell (p := ⟨g, 0, none⟩) hg).trans hc
  have HI := Lib.hid hi
  clear hc hi hg
  obtain ⟨x_g, x_0, x_1⟩ := X0.out
  go_enter Try.func77, Try.ntmps77
  go_wp2_with fail
  refine (contains_of _ B A n c xs (HI.out.below (HB0.out.mono hB)) hn x.id (decide (x.id ∈ xs)) (by simp)).mono ?_
  rintro e w2 ⟨rfl, rfl⟩
  go_wp2
  go_ret
  exact ⟨rfl, HB0.out⟩
set_option maxRecDepth 20000 in
theorem iWith (w : World) (B : Nat) (A : Option Addr) (n c : Nat) (its : List It) (hi : ReadG itCs 2 w B A n its) (hB : B ≤ w.heap.size) (hn : n ≤ 1048576) (B2 : Nat) (A2 : Option Addr) (n2 c2 : Nat) (xs : List Int) (h2 : Ints w B2 A2 n2 xs) (hB2 : B2 ≤ w.heap.size) (hn2 : n2 ≤ 1048576) :
    Calls Try.prog 38 #[.slice A n c, .slice A2 n2 c2] w fun e w' => (∃ v, e = .returned v ∧ OwnTs w' w.heap.size v (its.filter fun u => decide (u.id ∈ xs))) ∧ Below w.heap.size w w' := by
  obtain ⟨w0, hw0⟩ : ∃ w0, w.alloc (.cells #[.slice A2 n2 c2] 25) = w0 := ⟨_, rfl⟩
  have HB0 : Hid (Below w.heap.size w w0) := Lib.hid (by subst hw0; exact (Below.refl _ w).alloc (Nat.le_refl _) _)
  have HCe : Hid (w.heap.size < w0.heap.size ∧ w0.cell? ⟨w.heap.size, 0, none⟩ = some (.slice A2 n2 c2)) := Lib.hid (by subst hw0; exact ⟨by simp, by rw [World.cell?_alloc_at _ _ _ _ rfl]; rfl⟩)
  have HCl := Lib.hid (cloneT w0 B A n c its (hi.below (HB0.out.mono hB)) (Nat.le_trans hB HB0.out.size) hn)
  have HX := Lib.hid h2
  have hl : its.length = n := hi.len
  clear hi h2
  go_enter Try.func38, Try.ntmps38
  go_upto_region 1 with (fail)
  try rw [hw0]
  clear hw0
  go_wp2_with fail
  refine HCl.out.mono ?_
  rintro e w1 ⟨v, rfl, ho, hb1⟩
  have HO := Lib.hid ho
  have HB1 := Lib.hid hb1
  clear ho hb1 HCl
  go_wp2_with fail
  refine (delItems w0 w1 v its HB1.out HO.out (by omega) 77 #[.pointer (some ⟨w.heap.size, 0, none⟩)] (enters_of Try.func77 (by kernel_rfl) rfl) (fun u => !decide (u.id ∈ xs)) (fun W hW u _ => notIn_c W u w.heap.size B2 A2 n2 c2 xs (Nat.lt_of_lt_of_le HCe.out.1 hW.size) ((hW.cell (p := ⟨w.heap.size, 0, none⟩) HCe.out.1).trans HCe.out.2) (HX.out.below ((HB0.out.trans (hW.mono HB0.out.size)).mono hB2)) (Nat.le_trans hB2 (Nat.le_trans HB0.out.size hW.size)) hn2)).mono ?_
  rintro e w2 ⟨⟨v', rfl, ho, hv⟩, hg, hb2⟩
  have HO2 := Lib.hid ho
  have HB2 := Lib.hid (HB0.out.trans (hb2.mono HB0.out.size))
  clear ho hv hg hb2
  go_wp2
  go_ret
  refine ⟨⟨_, rfl, ?_⟩, HB2.out⟩
  have h := HO2.out.low (B' := w.heap.size) HB0.out.size
  simpa using h
theorem filter_dat (its : List It) (xs : List Int) : (its.filter fun u => decide (u.id ∈ xs)).map It.dat = pk xs (its.map It.dat) := by
  unfold pk
  rw [List.filter_map]
  rfl
set_option maxRecDepth 20000 in
set_option maxHeartbeats 800000 in
theorem iGreat (w : World) (B : Nat) (A : Option Addr) (n c : Nat) (its : List It) (hi : Items w B A n its) (hB : B ≤ w.heap.size) (hn : n ≤ 1048576) (B2 : Nat) (A2 : Option Addr) (n2 c2 : Nat) (ws : List Int) (h2 : Ints w B2 A2 n2 ws) (hB2 : B2 ≤ w.heap.size) (hn2 : n2 ≤ 1048576) :
    Calls Try.prog 44 #[.slice A n c, .slice A2 n2 c2] w fun e w' => e = .returned (.int .i64 (gu ws (its.map It.dat))) ∧ Below w.heap.size w w' := by
  have HX := Lib.hid hi
  have HW := Lib.hid h2
  have hl := hi.1
  clear hi h2
  go_enter Try.func44, Try.ntmps44
  go_wp2
  go_loopw [5, 10] (fun s i wr => ∃ k : Nat, k ≤ n ∧ i = .int .i64 k ∧ s = .int .i64 (gu ws ((its.take k).map It.dat)) ∧ Below w.heap.size w wr) (fun _ i _ => n - (intOf i).toNat)
  case atStart => exact ⟨0, Nat.zero_le _, rfl, by simp [gu_nil], Below.refl _ _⟩
  case round =>
    obtain ⟨k, hk, rfl, rfl, hbel⟩ := hrel
    have HB := Lib.hid hbel
    obtain ⟨m, hm⟩ : ∃ m, gu ws ((its.take k).map It.dat) = m := ⟨_, rfl⟩
    rw [hm]
    have HM := Lib.hid hm
    clear hm
    by_cases hlt : k < n
    · obtain ⟨b, off, x, rfl, hb, hat, d0, d1, hx⟩ := HX.out.at k hlt
      have f0 := (hbel.cell (p := ⟨b, off + k * 2, none⟩) (Nat.lt_of_lt_of_le hb hB)).trans d0
      have f1 := (hbel.cell (p := ⟨b, off + k * 2 + 1, none⟩) (Nat.lt_of_lt_of_le hb hB)).trans d1
      have HAt := Lib.hid hat
      have HXx := Lib.hid hx
      have hlt' : (k : Int) < (n : Int) := by omega
      have HBa : Hid (Below w.heap.size w (wr.alloc (.cells #[.int .i64 x.id, .slice x.A x.n x.c] 43))) := Lib.hid (hbel.alloc hbel.size _)
      have HU : Hid (∀ W, Below w.heap.size w W → Calls Try.prog 23 #[.agg #[.int .i64 x.id, .slice x.A x.n x.c], .slice A2 n2 c2] W fun e w' => e = .returned (.int .i64 (utD ws x.dat)) ∧ Below W.heap.size W w') := Lib.hid fun W hW => iUtil W w.heap.size x (HXx.out.more hB |>.below hW) hW.size A2 n2 c2 ws (HW.out.more hB2 |>.below hW) hn2
      clear hx hat d0 d1 hbel
      go_wp2_with fail
      refine (HU.out _ HBa.out).mono ?_
      rintro e w2 ⟨rfl, hb2⟩
      have HB2 := Lib.hid (below_on HBa.out hb2)
      clear hb2 f0 f1 HU HBa
      go_wp2
      go_roundw
      case rel => exact ⟨k + 1, by omega, by go_num, by rw [take_at HAt.out, List.map_append, List.map_singleton, gu_snoc, HM.out], HB2.out⟩
      case measure => simp [intOf]; omega
    · obtain rfl : k = n := by omega
      have hm := HM.out
      rw [take_all hl] at hm
      go_wp2
      go_ret
      exact ⟨by rw [hm]; rfl, HB.out⟩
set_option maxRecDepth 20000 in
theorem iBestU (w : World) (B : Nat) (A : Option Addr) (n c : Nat) (its : List It) (hi : Items w B A n its) (hB : B ≤ w.heap.size) (hn : n ≤ 1048576) (B2 : Nat) (A2 : Option Addr) (n2 c2 : Nat) (xs : List Int) (h2 : Ints w B2 A2 n2 xs) (hB2 : B2 ≤ w.heap.size) (hn2 : n2 ≤ 1048576) (B3 : Nat) (A3 : Option Addr) (n3 c3 : Nat) (ws : List Int) (h3 : Ints w B3 A3 n3 ws) (hB3 : B3 ≤ w.heap.size) (hn3 : n3 ≤ 1048576) (D : Int) (hD : gu ws (pk xs (its.map It.dat)) = D) :
    Calls Try.prog 15 #[.slice A n c, .slice A2 n2 c2, .slice A3 n3 c3] w fun e w' => e = .returned (.int .i64 D) ∧ Below w.heap.size w w' := by
  have HP := Lib.hid (iWith w B A n c its hi.readT hB hn B2 A2 n2 c2 xs h2 hB2 hn2)
  have HX := Lib.hid hi
  have HW := Lib.hid h3
  have HD := Lib.hid hD
  clear hi h2 h3 hD
  go_enter Try.func15, Try.ntmps15
  go_wp2_with fail
  refine HP.out.mono ?_
  rintro e w1 ⟨⟨v, rfl, ho⟩, hb1⟩
  obtain ⟨A4, c4, rfl, -, -⟩ := ho.shape
  have hlen : (its.filter fun u => decide (u.id ∈ xs)).length ≤ 1048576 := Nat.le_trans (List.length_filter_le _ _) (by rw [HX.out.1]; exact hn)
  have HI := Lib.hid (Items.ofr (ho.read itCs_len) fun u hu => ((HX.out.all ((List.mem_filter.1 hu).1)).more hB |>.below hb1).more hb1.size)
  have HB1 := Lib.hid hb1
  clear ho hb1 HP
  go_wp2_with fail
  refine (iGreat w1 w1.heap.size _ _ _ _ HI.out (Nat.le_refl _) hlen w.heap.size A3 n3 c3 ws (HW.out.more hB3 |>.below HB1.out) HB1.out.size hn3).mono ?_
  rintro e w2 ⟨rfl, hb2⟩
  have e0 : gu ws ((its.filter fun u => decide (u.id ∈ xs)).map It.dat) = D := by rw [filter_dat]; exact HD.out
  rw [e0]
  have HB2 := Lib.hid (below_on HB1.out hb2)
  clear hb2 e0
  go_wp2
  go_ret
  exact ⟨rfl, HB2.out⟩
set_option maxRecDepth 20000 in
set_option maxHeartbeats 800000 in
theorem sBestU (w : World) (B : Nat) (A : Option Addr) (n c : Nat) (its : List It) (hi : Items w B A n its) (hB : B ≤ w.heap.size) (hn : n ≤ 1048576) (hN : ∀ t ∈ its, t.n ≤ 1048576) (B2 : Nat) (A2 : Option Addr) (n2 c2 : Nat) (xs : List Int) (h2 : Ints w B2 A2 n2 xs) (hB2 : B2 ≤ w.heap.size) (hn2 : n2 ≤ 1048577) (B3 : Nat) (A3 : Option Addr) (n3 c3 : Nat) (ws : List Int) (h3 : Ints w B3 A3 n3 ws) (hB3 : B3 ≤ w.heap.size) (hn3 : n3 ≤ 1048576) (D : Int) (hD : gu ws (pk xs (its.map It.dat)) = D) :
    Calls Try.prog 40 #[.slice A n c, .slice A2 n2 c2, .slice A3 n3 c3] w fun e w' => e = .returned (.int .i64 D) ∧ Below w.heap.size w w' := by
  have HX := Lib.hid hi
  have HH : Hid (∀ W, Below w.heap.size w W → ∀ x q, (q = true ↔ x ∈ xs) → Calls Try.prog 62 #[.slice A2 n2 c2, .int .i64 x] W fun e w' => e = .returned (.bool q) ∧ W = w') := Lib.hid fun W hW x q hq => has_of W B2 A2 n2 c2 xs (h2.below (hW.mono hB2)) (by omega) x q hq
  have HU : Hid (∀ W, Below w.heap.size w W → ∀ x ∈ its, Calls Try.prog 24 #[.agg #[.int .i64 x.id, .slice x.A x.n x.c], .slice A3 n3 c3] W fun e w' => e = .returned (.int .i64 (utD ws x.dat)) ∧ Below W.heap.size W w') := Lib.hid fun W hW x hx => sUtil W w.heap.size x ((hi.all hx).more hB |>.below hW) (hN x hx) hW.size A3 n3 c3 ws (h3.more hB3 |>.below hW) hn3
  have HD := Lib.hid hD
  have hl := hi.1
  clear hi h2 h3 hD hN
  go_enter Try.func40, Try.ntmps40
  go_wp2
  go_loopw [7, 8] (fun s i wr => ∃ k : Nat, k ≤ n ∧ i = .int .i64 k ∧ s = .int .i64 (gu ws (pk xs ((its.take k).map It.dat))) ∧ Below w.heap.size w wr) (fun _ i _ => n - (intOf i).toNat)
  case atStart => exact ⟨0, Nat.zero_le _, rfl, by simp [gu_nil, pk], Below.refl _ _⟩
  case round =>
    obtain ⟨k, hk, rfl, rfl, hbel⟩ := hrel
    have HB := Lib.hid hbel
    obtain ⟨m, hm⟩ : ∃ m, gu ws (pk xs ((its.take k).map It.dat)) = m := ⟨_, rfl⟩
    rw [hm]
    have HM := Lib.hid hm
    clear hm
    by_cases hlt : k < n
    · obtain ⟨b, off, x, rfl, hb, hat, d0, d1, hx⟩ := HX.out.at k hlt
      have f0 := (hbel.cell (p := ⟨b, off + k * 2, none⟩) (Nat.lt_of_lt_of_le hb hB)).trans d0
      have f1 := (hbel.cell (p := ⟨b, off + k * 2 + 1, none⟩) (Nat.lt_of_lt_of_le hb hB)).trans d1
      have HAt := Lib.hid hat
      have hlt' : (k : Int) < (n : Int) := by omega
      obtain ⟨q, hq⟩ := bool_of (x.id ∈ xs)
      have HQ := Lib.hid hq
      clear hx hat d0 d1 hbel hq
      go_wp2_with fail
      refine (HH.out _ HB.out x.id q HQ.out).mono ?_
      rintro e w2 ⟨rfl, rfl⟩
      have hst : pk xs ((its.take (k + 1)).map It.dat) = if x.id ∈ xs then pk xs ((its.take k).map It.dat) ++ [x.dat] else pk xs ((its.take k).map It.dat) := by
        rw [take_at HAt.out, List.map_append, List.map_singleton, pk_snoc]; rfl
      cases q
      · rw [if_neg (fun h => by have := HQ.out.2 h; cases this)] at hst
        have HSt := Lib.hid hst
        clear hst
        go_wp2
        go_roundw
        case rel => exact ⟨k + 1, by omega, by go_num, by rw [HSt.out, HM.out], HB.out⟩
        case measure => simp [intOf]; omega
      · rw [if_pos (HQ.out.1 rfl)] at hst
        have HSt := Lib.hid hst
        clear hst
        go_wp2_with fail
        refine (HU.out _ HB.out x (mem_of_at HAt.out)).mono ?_
        rintro e w2 ⟨rfl, hb2⟩
        have HB2 := Lib.hid (below_on HB.out hb2)
        clear hb2 f0 f1
        go_wp2
        go_roundw
        case rel => exact ⟨k + 1, by omega, by go_num, by rw [HSt.out, gu_snoc, HM.out], HB2.out⟩
        case measure => simp [intOf]; omega
    · obtain rfl : k = n := by omega
      have hm := HM.out
      rw [take_all hl, HD.out] at hm
      go_wp2
      go_ret
      exact ⟨by rw [hm]; rfl, HB.out⟩
end Go.Proofs.Ytceiocdemhkcdaa.num
