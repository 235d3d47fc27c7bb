/-
  The model's RegretOf: contract.
-/
import Derived.Test.YtjjlhiaghjipcaaWeightS
import Derived.Test.YtjjlhiaghjipcaaRegretG
import Derived.Test.YtjjlhiaghjipcaaItemAre
import Derived.Test.YtjjlhiaghjipcaaItemFind
import Derived.OwnWalk
namespace Go.Proofs.Ytjjlhiaghjipcaa.num
set_option maxRecDepth 20000
open Go.RowKit
set_option linter.unusedVariables false
set_option linter.unusedSimpArgs false

set_option maxRecDepth 20000 in
theorem sKnownR (w : World) (B : Nat) (A : Option Addr) (n c : Nat) (its : List It) (hi : Items w B A n its) (hB : B ≤ w.heap.size) (hn : n ≤ 1048576) (B2 : Nat) (A2 : Option Addr) (n2 c2 : Nat) (xs : List Int) (hi2 : Ints w B2 A2 n2 xs) (hB2 : B2 ≤ w.heap.size) (hn2 : n2 ≤ 1048577) (q : Bool) (hq : q = true ↔ KnownP (its.map It.dat) xs) :
    Calls Try.prog 54 #[.slice A n c, .slice A2 n2 c2] w fun e w' => e = .returned (.bool q) ∧ Below w.heap.size w w' := by
  have HX := Lib.hid hi2
  have HQ := Lib.hid hq
  have HF : Hid (∀ w1, Below w.heap.size w w1 → ∀ x, Calls Try.prog 89 #[.slice A n c, .int .i64 x] w1 fun e w' => (∃ r, e = .returned (.int .i64 r) ∧ FindP (its.map It.dat) x r) ∧ Below w1.heap.size w1 w') := Lib.hid fun w1 h1 x => sFind w1 B A n c its (hi.below (h1.mono hB)) (Nat.le_trans hB h1.size) hn x
  clear hi hi2 hq
  go_enter Try.func54, Try.ntmps54
  go_wp2
  go_loopw [5] (fun i wr => ∃ k : Nat, k ≤ n2 ∧ i = .int .i64 k ∧ (∀ x ∈ xs.take k, ∃ d ∈ its.map It.dat, d.1 = x) ∧ Below w.heap.size w wr) (fun i _ => n2 - (intOf i).toNat)
  case atStart => exact ⟨0, Nat.zero_le _, rfl, by simp, Below.refl _ _⟩
  case round =>
    obtain ⟨k, hk, rfl, hall, hbel⟩ := hrel
    have HA := Lib.hid hall
    have HB := Lib.hid hbel
    clear hall
    by_cases hlt : k < n2
    · obtain ⟨b, off, x, rfl, hb, hat, hc⟩ := HX.out.at k hlt
      have f0 := (hbel.cell (p := ⟨b, off + k, none⟩) (Nat.lt_of_lt_of_le hb hB2)).trans hc
      have HAt := Lib.hid hat
      have hlt' : (k : Int) < (n2 : Int) := by omega
      clear hc hat hbel
      go_wp2_with fail
      refine (HF.out wr HB.out x).mono ?_
      rintro e w2 ⟨⟨r, rfl, hr⟩, hb2⟩
      have HB2 := Lib.hid (below_on HB.out hb2)
      have HR := Lib.hid hr
      clear hb2 f0 hr
      by_cases hneg : r < 0
      · obtain rfl : q = false := by
          cases q
          · rfl
          · exfalso
            obtain ⟨d, hd, he⟩ := HQ.out.1 rfl x (mem_of_at HAt.out)
            rcases HR.out with ⟨_, h⟩ | ⟨k, rfl, _⟩
            · exact h d hd he
            · omega
        go_wp2
        go_ret
        exact ⟨rfl, HB2.out⟩
      · have hrr : ∃ d ∈ its.map It.dat, d.1 = x := by
          rcases HR.out with ⟨rfl, _⟩ | ⟨k, rfl, ⟨d, hd, he⟩, _⟩
          · exact absurd (by decide) hneg
          · exact ⟨d, List.mem_of_getElem? hd, he⟩
        have HH := Lib.hid hrr
        clear hrr
        go_wp2
        go_roundw
        case rel =>
          refine ⟨k + 1, by omega, by go_num, ?_, HB2.out⟩
          rw [take_at HAt.out]
          intro u hu
          rcases List.mem_append.1 hu with h | h
          · exact HA.out u h
          · obtain rfl := List.mem_singleton.1 h
            exact HH.out
        case measure => simp [intOf]; omega
    · obtain rfl : k = n2 := by omega
      have hx := HA.out
      rw [take_all HX.out.1] at hx
      obtain rfl : q = true := HQ.out.2 hx
      clear hx hbel
      go_wp2
      go_ret
      exact ⟨rfl, HB.out⟩
/-- The model's state behind i lists of weights. -/
structure RegS (w : World) (ds cs : List Da) (i : Nat) (num den : Int) (v : Value) (wr : World) : Prop where
  num : num = (regF ds cs (wl.take i)).num
  den : den = (regF ds cs (wl.take i)).den
  v : ∃ A n c, v = .slice A n c ∧ Ints wr wr.heap.size A n (regF ds cs (wl.take i)).ws
  b : Below w.heap.size w wr
theorem RegS.step {w wr w' : World} {ds cs : List Da} {i : Nat} {num den : Int} {v : Value} (h : RegS w ds cs i num den v wr) (hb : Below wr.heap.size wr w') : RegS w ds cs i num den v w' := by
  obtain ⟨A, n, c, rfl, hi⟩ := h.v
  exact ⟨h.num, h.den, ⟨A, n, c, rfl, hi.step hb⟩, below_on h.b hb⟩
set_option maxRecDepth 20000 in
set_option maxHeartbeats 3200000 in
theorem sRegretOf (w : World) (B : Nat) (A : Option Addr) (n c : Nat) (its : List It) (hi : Items w B A n its) (hB : B ≤ w.heap.size) (hn : n ≤ 1048576) (hN : ∀ t ∈ its, t.n ≤ 1048576) (B2 : Nat) (A2 : Option Addr) (n2 c2 : Nat) (xs : List Int) (h2 : Ints w B2 A2 n2 xs) (hB2 : B2 ≤ w.heap.size) (hn2 : n2 ≤ 1048577) (N D : Int) (ws : List Int) (hD : RegP (its.map It.dat) xs N D ws) :
    Calls Try.prog 13 #[.slice A n c, .slice A2 n2 c2] w fun e w' => (∃ v, e = .returned (.tuple #[.int .i64 N, .int .i64 D, v]) ∧ OwnI w' w.heap.size v ws) ∧ Below w.heap.size w w' := by
  obtain ⟨qa, hqa⟩ := bool_of (AreP (its.map It.dat))
  obtain ⟨qk, hqk⟩ := bool_of (KnownP (its.map It.dat) xs)
  have HAr : Hid (∀ W, Below w.heap.size w W → Calls Try.prog 18 #[.slice A n c] W fun e w' => e = .returned (.bool qa) ∧ Below W.heap.size W w') := Lib.hid fun W hW => sAre W B A n c its (hi.below (hW.mono hB)) (Nat.le_trans hB hW.size) hn hN qa hqa
  have HKn : Hid (∀ W, Below w.heap.size w W → Calls Try.prog 54 #[.slice A n c, .slice A2 n2 c2] W fun e w' => e = .returned (.bool qk) ∧ Below W.heap.size W w') := Lib.hid fun W hW => sKnownR W B A n c its (hi.below (hW.mono hB)) (Nat.le_trans hB hW.size) hn B2 A2 n2 c2 xs (h2.below (hW.mono hB2)) (Nat.le_trans hB2 hW.size) hn2 qk hqk
  have HId : Hid (∀ W, Below w.heap.size w W → Calls Try.prog 16 #[.slice A n c] W fun e w' => (∃ A' n' c', e = .returned (.slice A' n' c') ∧ Ints w' w'.heap.size A' n' (idL its)) ∧ Below W.heap.size W w') := Lib.hid fun W hW => sIds W B A n c its (hi.below (hW.mono hB)) (Nat.le_trans hB hW.size) hn
  have HU : Hid (∀ W (A3 : Option Addr) (n3 c3 : Nat) (ys : List Int), Below w.heap.size w W → Ints W W.heap.size A3 n3 ys → n3 ≤ 1048577 → ∀ (A4 : Option Addr) (n4 c4 : Nat) (vs : List Int), Ints W W.heap.size A4 n4 vs → n4 ≤ 1048576 → Calls Try.prog 39 #[.slice A n c, .slice A3 n3 c3, .slice A4 n4 c4] W fun e w' => e = .returned (.int .i64 (gu vs (pk ys (its.map It.dat)))) ∧ Below W.heap.size W w') := Lib.hid fun W A3 n3 c3 ys hW h3 hn3 A4 n4 c4 vs h4 hn4 => sBestU W B A n c its (hi.below (hW.mono hB)) (Nat.le_trans hB hW.size) hn hN W.heap.size A3 n3 c3 ys h3 (Nat.le_refl _) hn3 W.heap.size A4 n4 c4 vs h4 (Nat.le_refl _) hn4 _ rfl
  have HX2 : Hid (∀ W, Below w.heap.size w W → Ints W W.heap.size A2 n2 xs) := Lib.hid fun W hW => ((h2.more hB2).below hW).more hW.size
  have hil : its.length = n := hi.1
  have hidl : idL its = (its.map It.dat).map (·.1) := by unfold idL; rw [List.map_map]; rfl
  obtain ⟨ds, hds⟩ : ∃ ds, its.map It.dat = ds := ⟨_, rfl⟩
  rw [hds] at hqa hqk hD HU hidl
  have HPk : Hid (pk (idL its) ds = ds) := Lib.hid (by rw [hidl]; exact pk_all ds)
  have HYes : Hid (qa = true → qk = true → N = (reg ds (pk xs ds)).num ∧ D = (reg ds (pk xs ds)).den ∧ ws = (reg ds (pk xs ds)).ws) := Lib.hid fun h1 h2 => hD.yes (hqa.1 h1) (hqk.1 h2)
  have HNo : Hid (¬ (qa = true ∧ qk = true) → N = 0 ∧ D = 1 ∧ ws = []) := Lib.hid fun h => hD.no fun ⟨h1, h2⟩ => h ⟨hqa.2 h1, hqk.2 h2⟩
  clear hi h2 hD hqa hqk hds hidl
  have HB0 : Hid (Below w.heap.size w (w.alloc (.cells #[] 3))) := Lib.hid ((Below.refl _ w).alloc (Nat.le_refl _) _)
  have HE0 : Hid (OwnI (w.alloc (.cells #[] 3)) w.heap.size (.slice (some ⟨w.heap.size, 0, none⟩) 0 0) []) := Lib.hid (OwnI.empty w w.heap.size (Nat.le_refl _))
  go_enter Try.func13, Try.ntmps13
  go_wp2_with fail
  refine (HAr.out _ HB0.out).mono ?_
  rintro e w1 ⟨rfl, hb1⟩
  have HB1 := Lib.hid (below_on HB0.out hb1)
  have HE1 := Lib.hid (ownI_below HE0.out hb1)
  clear hb1 HE0 HB0
  cases qa
  · obtain ⟨rfl, rfl, rfl⟩ := HNo.out (fun h => by cases h.1)
    go_wp2
    go_ret3
    exact ⟨⟨_, rfl, HE1.out⟩, HB1.out⟩
  · go_wp2_with fail
    refine (HKn.out _ HB1.out).mono ?_
    rintro e w2 ⟨rfl, hb2⟩
    have HB2 := Lib.hid (below_on HB1.out hb2)
    have HE2 := Lib.hid (ownI_below HE1.out hb2)
    clear hb2 HE1 HB1
    cases qk
    · obtain ⟨rfl, rfl, rfl⟩ := HNo.out (fun h => by cases h.2)
      go_wp2
      go_ret3
      exact ⟨⟨_, rfl, HE2.out⟩, HB2.out⟩
    · obtain ⟨rfl, rfl, rfl⟩ := HYes.out (by first | rfl | trivial) (by first | rfl | trivial)
      go_wp2_with fail
      refine (HId.out _ HB2.out).mono ?_
      rintro e w3 ⟨⟨A3, n3, c3, rfl, hi3⟩, hb3⟩
      have hn3 : n3 ≤ 1048577 := by have h := hi3.1; rw [idL_len, hil] at h; omega
      have HB3 := Lib.hid (below_on HB2.out hb3)
      have HE3 := Lib.hid (ownI_below HE2.out hb3)
      have HI3 := Lib.hid hi3
      clear hb3 HE2 HB2 hi3
      go_wp2_with fail
      refine (sWL w3).mono ?_
      rintro e w4 ⟨⟨A5, c5, rows, rfl, hx, hown⟩, hb4⟩
      have HB4 := Lib.hid (below_on HB3.out hb4)
      have HE4 := Lib.hid (ownI_below HE3.out hb4)
      have HI4 := Lib.hid (HI3.out.step hb4)
      have HX := Lib.hid hx
      have HO := Lib.hid hown
      have HRd := Lib.hid (hown.r.read irC_len)
      have hrl : rows.length = 63 := by rw [← wl_len, ← hx]; simp [xsR]
      clear hb4 HE3 HB3 HI3 hx hown
      have hs : ∀ d ∈ pk xs ds, d ∈ ds := pk_sub xs ds
      have HSt : Hid (RegS w ds (pk xs ds) 0 0 1 (.slice (some ⟨w.heap.size, 0, none⟩) 0 0) w4) := Lib.hid ⟨rfl, rfl, ⟨_, _, _, rfl, ownI_at HE4.out⟩, HB4.out⟩
      have HHs := Lib.hid hs
      clear hs
      go_wp2
      go_loopw [7, 8, 9, 12] (fun nv dv v iv wr => ∃ (i : Nat) (num den : Int) (V : Value), i ≤ 63 ∧ iv = .int .i64 i ∧ nv = .int .i64 num ∧ dv = .int .i64 den ∧ V = v ∧ RegS w ds (pk xs ds) i num den V wr ∧ Below w4.heap.size w4 wr) (fun _ _ _ iv _ => 63 - (intOf iv).toNat)
      case atStart => exact ⟨0, 0, 1, _, by decide, rfl, rfl, rfl, rfl, HSt.out, Below.refl _ _⟩
      case round =>
        obtain ⟨i, num, den, V, hi, rfl, rfl, rfl, rfl, hst, hbel⟩ := hrel
        have HS := Lib.hid hst
        have HB := Lib.hid hbel
        have hrng := regF_range HHs.out (wl.take i)
        rw [← hst.num, ← hst.den] at hrng
        clear hst
        by_cases hlt : i < 63
        · obtain ⟨b, off, y, hA, hb, hat, hd⟩ := ir_at HRd.out hlt
          subst hA
          have f0 := (hbel.cell (p := ⟨b, off + i, none⟩) hb).trans hd
          have hlt' : (i : Int) < 63 := by omega
          have hyw : wl[i]? = some y.xs := by rw [← HX.out]; unfold xsR; rw [List.getElem?_map, hat]; rfl
          have HYw := Lib.hid hyw
          have HYi : Hid (∀ W, Below w4.heap.size w4 W → Ints W W.heap.size y.A y.n y.xs) := Lib.hid fun W hW => ((ownI_at (HO.out.x i y hat)).below hW).more hW.size
          have hy3 : y.n ≤ 1048576 := by
            have h1 := (ownI_at (HO.out.x i y hat)).1
            have h2 := (wl_ok (List.mem_of_getElem? hyw)).1
            omega
          have HU1 := Lib.hid fun W (hW : Below w4.heap.size w4 W) => HU.out W A3 n3 c3 (idL its) (below_on HB4.out hW) ((HI4.out.below hW).more hW.size) hn3 y.A y.n y.c y.xs (HYi.out W hW) hy3
          have HU2 := Lib.hid fun W (hW : Below w4.heap.size w4 W) => HU.out W A2 n2 c2 xs (below_on HB4.out hW) (HX2.out W (below_on HB4.out hW)) hn2 y.A y.n y.c y.xs (HYi.out W hW) hy3
          rw [HPk.out] at HU1
          have r1 := gu_range y.xs ds
          have r2 := gu_range y.xs (pk xs ds)
          have r3 := gu_mono (w := y.xs) HHs.out
          obtain ⟨D1, hD1⟩ : ∃ D, gu y.xs ds = D := ⟨_, rfl⟩
          obtain ⟨D2, hD2⟩ : ∃ D, gu y.xs (pk xs ds) = D := ⟨_, rfl⟩
          rw [hD1] at HU1 r1 r3
          rw [hD2] at HU2 r2 r3
          have HD1 := Lib.hid hD1
          have HD2 := Lib.hid hD2
          clear hd hat hyw hD1 hD2 hbel
          go_wp2_with fail
          refine (HU1.out _ HB.out).mono ?_
          rintro e w5 ⟨rfl, hb5⟩
          have HB5 := Lib.hid (below_on HB.out hb5)
          have HS5 := Lib.hid (HS.out.step hb5)
          have f5 := (hb5.cell (p := ⟨b, off + i, none⟩) (Nat.lt_of_lt_of_le hb HB.out.size)).trans f0
          clear hb5 HU1 f0
          go_wp2_with fail
          refine (HU2.out _ HB5.out).mono ?_
          rintro e w6 ⟨rfl, hb6⟩
          have HB6 := Lib.hid (below_on HB5.out hb6)
          have HS6 := Lib.hid (HS5.out.step hb6)
          have f6 := (hb6.cell (p := ⟨b, off + i, none⟩) (Nat.lt_of_lt_of_le hb HB5.out.size)).trans f5
          clear hb6 HU2 f5
          have m1 := mul_hundred (a := D1 - D2) (b := den) (by omega) (by omega) (by omega) (by omega)
          have m2 := mul_hundred (a := num) (b := D1) (by omega) (by omega) (by omega) (by omega)
          have htk := take_at HYw.out
          by_cases hgt : (D1 - D2) * den > num * D1
          · have hst : RegS w ds (pk xs ds) (i + 1) (D1 - D2) D1 (.slice y.A y.n y.c) w6 := by
              have e := regF_yes (ds := ds) (cs := pk xs ds) (l := wl.take i) (w := y.xs) (by rw [HD1.out, HD2.out, ← HS6.out.num, ← HS6.out.den]; exact hgt)
              rw [← htk, HD1.out, HD2.out] at e
              exact ⟨by rw [e], by rw [e], ⟨_, _, _, rfl, by rw [e]; exact HYi.out _ HB6.out⟩, HS6.out.b⟩
            have HSt := Lib.hid hst
            clear hst htk
            go_wp2
            go_roundw
            case rel => exact ⟨i + 1, D1 - D2, D1, _, by omega, by go_num, rfl, rfl, rfl, HSt.out, HB6.out⟩
            case measure => simp [intOf]; omega
          · have hst : RegS w ds (pk xs ds) (i + 1) num den V w6 := by
              have e := regF_no (ds := ds) (cs := pk xs ds) (l := wl.take i) (w := y.xs) (by rw [HD1.out, HD2.out, ← HS6.out.num, ← HS6.out.den]; exact hgt)
              rw [← htk] at e
              obtain ⟨A7, n7, c7, h7, h8⟩ := HS6.out.v
              exact ⟨by rw [e]; exact HS6.out.num, by rw [e]; exact HS6.out.den, ⟨A7, n7, c7, h7, by rw [e]; exact h8⟩, HS6.out.b⟩
            have HSt := Lib.hid hst
            clear hst htk
            go_wp2
            go_roundw
            case rel => exact ⟨i + 1, num, den, _, by omega, by go_num, rfl, rfl, rfl, HSt.out, HB6.out⟩
            case measure => simp [intOf]; omega
        · obtain rfl : i = 63 := by omega
          have ht : wl.take 63 = wl := List.take_of_length_le (by rw [wl_len]; decide)
          obtain ⟨h1, h2, ⟨A7, n7, c7, rfl, h3⟩, h4⟩ := HS.out
          rw [ht] at h1 h2 h3
          replace h3 : Ints wr wr.heap.size A7 n7 (reg ds (pk xs ds)).ws := h3
          have e1 : num = (reg ds (pk xs ds)).num := h1
          have e2 : den = (reg ds (pk xs ds)).den := h2
          have h7 : n7 ≤ 3 := by
            rw [← h3.1]
            rcases reg_ws (ds := ds) (cs := pk xs ds) with h | ⟨_, h⟩
            · show (reg ds (pk xs ds)).ws.length ≤ 3; rw [h]; simp
            · show (reg ds (pk xs ds)).ws.length ≤ 3; rw [h]; simp
          have E1 := Lib.hid e1
          have E2 := Lib.hid e2
          have HBz : Hid (Below wr.heap.size wr (wr.alloc (.cells #[] 3))) := Lib.hid ((Below.refl _ wr).alloc (Nat.le_refl _) _)
          obtain ⟨v', w', hr, ho, hg, ha⟩ := run_spreadI (ty := 25) (c := c7) (OwnI.empty wr wr.heap.size (Nat.le_refl _)) (h3.below HBz.out) (by simp; omega) (by simp)
          have HOo : Hid (OwnI w' wr.heap.size v' (reg ds (pk xs ds)).ws) := Lib.hid (by simpa using ho)
          have HBo : Hid (Below wr.heap.size wr w') := Lib.hid (((Below.refl _ wr).alloc (Nat.le_refl _) _).grown hg (by simp) (by intro k hk; simp [Value.ownBlock] at hk; omega))
          have HBw := Lib.hid h4
          clear ho hg ha h1 h2 h3 h4 hbel e1 e2 HS
          go_wp2_with (at_builtin; refine Go.Lib.wpList_append_run_sl _ (by rfl) (.tmp 66) (.tmp 67) 25 (by rfl) _ _ (by rfl) (by rfl) hr ?_)
          clear hr
          go_wp2
          go_ret3
          exact ⟨⟨_, by rw [← E1.out, ← E2.out]; rfl, ownI_lower HOo.out HBw.out.size⟩, below_on HBw.out HBo.out⟩
end Go.Proofs.Ytjjlhiaghjipcaa.num
