/- Contracts of functions that the laws of this chapter call, packed. -/
import Derived.BigQuiet
import Derived.Test.YtjjlhiaghjipcaaRegSets
import Derived.Test.YtjjlhiaghjipcaaItemIds
import Derived.Test.YtjjlhiaghjipcaaOwnInt
import Derived.Test.YtjjlhiaghjipcaaRegretS
namespace Go.Proofs.Ytjjlhiaghjipcaa.num
set_option maxRecDepth 20000
open Go.RowKit
set_option linter.unusedVariables false
set_option linter.unusedSimpArgs false

set_option maxRecDepth 20000 in
theorem sLess (w : World) (B : Nat) (A A' : Option Addr) (n n' c c' : Nat) (xs ys : List Int) (hx : Ints w B A n xs) (hy : Ints w B A' n' ys) (hn : n ≤ 1048576) (hn' : n' ≤ 1048576) :
    Calls Try.prog 67 #[.slice A n c, .slice A' n' c'] w fun e w' => e = .returned (.bool (ltL xs ys)) ∧ ∃ m, w' = w.drewN m := by
  have HX := Lib.hid hx
  have HY := Lib.hid hy
  have h1 := hx.1
  have h2 := hy.1
  by_cases hl : n = n'
  · subst hl
    clear hx hy h1 h2
    go_enter Try.func67, Try.ntmps67
    go_wp2
    go_loopw [5] (fun i wr => ∃ k : Nat, k ≤ n ∧ i = .int .i64 k ∧ xs.take k = ys.take k ∧ ∃ m, wr = w.drewN m) (fun i _ => n - (intOf i).toNat)
    case atStart => exact ⟨0, Nat.zero_le _, rfl, rfl, 0, rfl⟩
    case round =>
      obtain ⟨k, hk, rfl, htake, m, rfl⟩ := hrel
      have HT := Lib.hid htake
      clear htake
      by_cases hlt : k < n
      · obtain ⟨b1, o1, u, rfl, hb1, hat1, hc1⟩ := HX.out.at k hlt
        obtain ⟨b2, o2, v, rfl, hb2, hat2, hc2⟩ := HY.out.at k hlt
        have hlt' : (k : Int) < (n : Int) := by omega
        have H1 := Lib.hid hat1
        have H2 := Lib.hid hat2
        clear hat1 hat2
        by_cases he : u = v
        · subst he
          go_wp2
          go_quiet (fail)
          go_wp2
          go_roundw
          case rel => exact ⟨k + 1, by omega, by go_num, by rw [take_at H1.out, take_at H2.out, HT.out], _, rfl⟩
          case measure => simp [intOf]; omega
        · have hne : (u != v) = true := by simpa using he
          have hlx := lexC_at k HT.out H1.out H2.out
          have hcm : cmpL xs ys = lexC xs ys := by
            unfold cmpL
            rw [HX.out.1, HY.out.1, if_neg (by omega), if_neg (by omega)]
          have hr : ltL xs ys = decide (u < v) := by
            unfold ltL
            rw [hcm]
            by_cases huv : u < v
            · rw [hlx.1 huv]; simp [huv]
            · rw [hlx.2 (by omega)]; simp; omega
          have HR := Lib.hid hr
          clear hlx hcm hr
          go_wp2
          go_quiet (fail)
          go_wp2
          go_quiet (fail)
          go_wp2
          go_ret
          exact ⟨by rw [HR.out]; rfl, _, by rw [World.drewN_drewN, World.drewN_drewN]⟩
      · obtain rfl : k = n := by omega
        have hxy : xs = ys := by
          have h := HT.out
          rwa [take_all HX.out.1, take_all HY.out.1] at h
        subst hxy
        go_wp2
        go_ret
        exact ⟨by rw [ltL_irrefl]; rfl, _, rfl⟩
  · have hd : ((n : Int) != (n' : Int)) = true := by simp; omega
    have hr : ltL xs ys = decide (n < n') := by
      unfold ltL cmpL
      rw [h1, h2]
      by_cases hlt : n < n'
      · rw [if_pos hlt]; simp; omega
      · rw [if_neg hlt, if_pos (by omega)]; simp; omega
    have HR := Lib.hid hr
    clear hx hy h1 h2 hr
    go_enter Try.func67, Try.ntmps67
    go_wp2
    go_ret
    exact ⟨by rw [HR.out]; rfl, 0, rfl⟩
/-- The bit that Go asks for. -/
theorem bits_small : ∀ q : Fin 256, bits BinOp.and IntKind.i64 ((q.val : Nat) : Int) 1 = ((q.val % 2 : Nat) : Int) := by decide +kernel
theorem bit_of (k i : Nat) (hk : k < 256) : bits BinOp.and IntKind.i64 ((k : Int) / 2 ^ i) 1 = ((k / 2 ^ i % 2 : Nat) : Int) := by
  have h1 : k / 2 ^ i < 256 := Nat.lt_of_le_of_lt (Nat.div_le_self _ _) hk
  have h2 : ((k : Int) / 2 ^ i) = ((k / 2 ^ i : Nat) : Int) := by simp
  rw [h2]
  exact bits_small ⟨k / 2 ^ i, h1⟩
set_option maxRecDepth 20000 in
set_option maxHeartbeats 1600000 in
theorem sSet (w : World) (B : Nat) (A : Option Addr) (n c : Nat) (its : List It) (hi : Items w B A n its) (hB : B ≤ w.heap.size) (hn : n ≤ 8) (k : Nat) (hk : k < 256) :
    Calls Try.prog 66 #[.slice A n c, .int .i64 k] w fun e w' => (∃ v, e = .returned v ∧ OwnI w' w.heap.size v (msk (idsA (its.map It.dat)) k)) ∧ Below w.heap.size w w' := by
  have HX := Lib.hid hi
  have hl := hi.1
  clear hi
  have HB0 : Hid (Below w.heap.size w (w.alloc (.cells #[] 3))) := Lib.hid ((Below.refl _ w).alloc (Nat.le_refl _) _)
  have HE0 : Hid (OwnI (w.alloc (.cells #[] 3)) w.heap.size (.slice (some ⟨w.heap.size, 0, none⟩) 0 0) []) := Lib.hid (OwnI.empty w w.heap.size (Nat.le_refl _))
  go_enter Try.func66, Try.ntmps66
  go_wp2
  go_loopw [5, 6] (fun v i wr => ∃ (j : Nat) (V : Value), j ≤ n ∧ i = .int .i64 j ∧ V = v ∧ OwnI wr w.heap.size V (msk (idsA ((its.take j).map It.dat)) k) ∧ Below w.heap.size w wr) (fun _ i _ => n - (intOf i).toNat)
  case atStart => exact ⟨0, _, Nat.zero_le _, rfl, rfl, HE0.out, HB0.out⟩
  case round =>
    obtain ⟨j, V, hj, rfl, rfl, hown, hbel⟩ := hrel
    have HO := Lib.hid hown
    have HB := Lib.hid hbel
    clear hown
    by_cases hlt : j < n
    · obtain ⟨b, off, x, rfl, hb, hat, d0, d1, hx⟩ := HX.out.at j hlt
      have f0 := (hbel.cell (p := ⟨b, off + j * 2, none⟩) (Nat.lt_of_lt_of_le hb hB)).trans d0
      have hlt' : (j : Int) < (n : Int) := by omega
      have hids : idsA ((its.take (j + 1)).map It.dat) = idsA ((its.take j).map It.dat) ++ [x.id] := by
        rw [take_at hat]; simp [idsA, It.dat]
      have hlen : (idsA ((its.take j).map It.dat)).length = j := by simp [idsA]; omega
      have hmk : msk (idsA ((its.take (j + 1)).map It.dat)) k = msk (idsA ((its.take j).map It.dat)) k ++ (if k / 2 ^ j % 2 = 1 then [x.id] else []) := by
        rw [hids, msk_snoc, hlen]
      have hsm : (msk (idsA ((its.take j).map It.dat)) k).length ≤ 8 := by have h := msk_len (idsA ((its.take j).map It.dat)) k; omega
      have HM := Lib.hid hmk
      have HSm := Lib.hid hsm
      clear hat d0 d1 hx hids hlen hmk hsm hbel
      have hj8 : (j : Int) < 8 := by omega
      have hbit := bit_of k j hk
      have HBt : Hid (OwnI wr w.heap.size V (msk (idsA ((its.take j).map It.dat)) k)) := HO
      have hV := HO.out
      by_cases h1 : k / 2 ^ j % 2 = 1
      · rw [h1] at hbit
        rw [if_pos h1] at HM
        have HMs : Hid (((msk (idsA ((its.take j).map It.dat)) k).length + [x.id].length) * 8 ≤ 140737488355328) := Lib.hid (by have h := HSm.out; rw [List.length_singleton]; omega)
        have hbit' : bits BinOp.and IntKind.i64 ((k : Int) / 2 ^ j) 1 = 1 := hbit
        clear h1 hV hbit
        go_wp2_with (at_builtin; refine wp_appI wr (by rfl) (.tmp 19) (.tmp 25) (by rfl) w.heap.size _ _ (by rfl) HO.out _ [x.id] (by rfl) 1 1 rfl (by rfl) HMs.out HB.out.size ?_)
        rintro v' w2 ho hb2
        have HO2 : Hid (OwnI w2 w.heap.size v' (msk (idsA ((its.take (j + 1)).map It.dat)) k)) := Lib.hid (by rw [HM.out]; first | exact ho | (rw [← List.map_take] at ho; exact ho))
        have HB2 := Lib.hid (HB.out.trans hb2)
        clear ho hb2
        go_wp2
        go_roundw
        case rel => exact ⟨j + 1, v', by omega, by go_num, rfl, HO2.out, HB2.out⟩
        case measure => simp [intOf]; omega
      · have h0 : k / 2 ^ j % 2 = 0 := by omega
        rw [h0] at hbit
        rw [if_neg h1, List.append_nil] at HM
        have hbit' : bits BinOp.and IntKind.i64 ((k : Int) / 2 ^ j) 1 = 0 := hbit
        clear h1 h0 hV hbit
        go_wp2
        go_roundw
        case rel => exact ⟨j + 1, V, by omega, by go_num, rfl, by rw [HM.out]; exact HO.out, HB.out⟩
        case measure => simp [intOf]; omega
    · obtain rfl : j = n := by omega
      have h := HO.out
      rw [take_all hl] at h
      have HH := Lib.hid h
      clear h hbel
      go_wp2
      go_ret
      exact ⟨⟨_, rfl, HH.out⟩, HB.out⟩
end Go.Proofs.Ytjjlhiaghjipcaa.num
namespace Go.Proofs.Ytjjlhiaghjipcaa.num
set_option maxRecDepth 20000
open Go.RowKit
set_option linter.unusedVariables false
set_option linter.unusedSimpArgs false

/-- The model's state behind k masks. -/
def SmS (P : List Int → Prop) (ids : List Int) (k : Nat) (r : List Int) (fb : Bool) : Prop :=
  (fb = false ∧ r = [] ∧ ∀ j, j < k → ¬ P (msk ids j)) ∨ (fb = true ∧ P r ∧ (∃ j, j < k ∧ r = msk ids j) ∧ ∀ j, j < k → P (msk ids j) → ltL (msk ids j) r = false)
theorem SmS.zero (P : List Int → Prop) (ids : List Int) : SmS P ids 0 [] false := .inl ⟨rfl, rfl, fun j hj => by omega⟩
theorem SmS.no {P : List Int → Prop} {ids : List Int} {k : Nat} {r : List Int} {fb : Bool} (h : SmS P ids k r fb) (hn : ¬ P (msk ids k)) : SmS P ids (k + 1) r fb := by
  rcases h with ⟨h1, h2, h3⟩ | ⟨h1, h2, ⟨j, h3, h4⟩, h5⟩
  · refine .inl ⟨h1, h2, fun j hj => ?_⟩
    by_cases e : j = k
    · subst e; exact hn
    · exact h3 j (by omega)
  · refine .inr ⟨h1, h2, ⟨j, by omega, h4⟩, fun i hi hp => ?_⟩
    by_cases e : i = k
    · subst e; exact absurd hp hn
    · exact h5 i (by omega) hp
theorem SmS.worse {P : List Int → Prop} {ids : List Int} {k : Nat} {r : List Int} (h : SmS P ids k r true) (hl : ltL (msk ids k) r = false) : SmS P ids (k + 1) r true := by
  rcases h with ⟨h1, _⟩ | ⟨h1, h2, ⟨j, h3, h4⟩, h5⟩
  · cases h1
  · refine .inr ⟨rfl, h2, ⟨j, by omega, h4⟩, fun i hi hp => ?_⟩
    by_cases e : i = k
    · subst e; exact hl
    · exact h5 i (by omega) hp
theorem SmS.first {P : List Int → Prop} {ids : List Int} {k : Nat} {r : List Int} (h : SmS P ids k r false) (hp : P (msk ids k)) : SmS P ids (k + 1) (msk ids k) true := by
  rcases h with ⟨_, _, h3⟩ | ⟨h1, _⟩
  · refine .inr ⟨rfl, hp, ⟨k, by omega, rfl⟩, fun i hi hq => ?_⟩
    by_cases e : i = k
    · subst e; exact ltL_irrefl _
    · exact absurd hq (h3 i (by omega))
  · cases h1
theorem SmS.better {P : List Int → Prop} {ids : List Int} {k : Nat} {r : List Int} (h : SmS P ids k r true) (hl : ltL (msk ids k) r = true) (hp : P (msk ids k)) : SmS P ids (k + 1) (msk ids k) true := by
  rcases h with ⟨h1, _⟩ | ⟨_, h2, ⟨j, h3, h4⟩, h5⟩
  · cases h1
  · refine .inr ⟨rfl, hp, ⟨k, by omega, rfl⟩, fun i hi hq => ?_⟩
    by_cases e : i = k
    · subst e; exact ltL_irrefl _
    · rcases hb : ltL (msk ids i) (msk ids k) with _ | _
      · rfl
      · have := ltL_trans hb hl
        rw [h5 i (by omega) hq] at this; cases this
theorem SmS.done {P : List Int → Prop} {ids : List Int} {r : List Int} {fb : Bool} (h : SmS P ids (2 ^ ids.length) r fb) (he : P ids) : fb = true ∧ LeastS P (subs ids) r := by
  rcases h with ⟨_, _, h3⟩ | ⟨h1, h2, ⟨j, h3, h4⟩, h5⟩
  · obtain ⟨j, hj, e⟩ := subs_mem (subs_all ids)
    exact absurd (e ▸ he) (h3 j hj)
  · refine ⟨h1, h4 ▸ subs_has h3, h2, fun s hs hp => ?_⟩
    obtain ⟨i, hi, rfl⟩ := subs_mem hs
    exact h5 i hi hp
set_option maxRecDepth 20000 in
set_option maxHeartbeats 6400000 in
theorem sSmall (w : World) (B : Nat) (A : Option Addr) (n c : Nat) (its : List It) (hi : Items w B A n its) (hB : B ≤ w.heap.size) (hn : n ≤ 1048576) (hN : ∀ t ∈ its, t.n ≤ 1048576) (num den : Int) (D : List Int) (ok : Bool) (hD : SmallP (its.map It.dat) num den D ok) :
    Calls Try.prog 23 #[.slice A n c, .int .i64 num, .int .i64 den] w fun e w' => (∃ v, e = .returned (.tuple #[v, .bool ok]) ∧ OwnI w' w.heap.size v D) ∧ Below w.heap.size w w' := by
  obtain ⟨qa, hqa⟩ := bool_of (AreP (its.map It.dat))
  obtain ⟨q1, hq1⟩ := bool_of (1 ≤ den ∧ den ≤ 100)
  obtain ⟨q2, hq2⟩ := bool_of (0 ≤ num ∧ num ≤ den)
  have hil : its.length = n := hi.1
  have hdl : (its.map It.dat).length = n := by rw [List.length_map, hil]
  have HAr : Hid (∀ W, Below w.heap.size w W → Calls Try.prog 18 #[.slice A n c] W fun e w' => e = .returned (.bool qa) ∧ Below W.heap.size W w') := Lib.hid fun W hW => sAre W B A n c its (hi.below (hW.mono hB)) (Nat.le_trans hB hW.size) hn hN qa hqa
  have HSe : Hid (n ≤ 8 → ∀ W k, Below w.heap.size w W → k < 256 → Calls Try.prog 66 #[.slice A n c, .int .i64 ((k : Nat) : Int)] W fun e w' => (∃ v, e = .returned v ∧ OwnI w' W.heap.size v (msk (idsA (its.map It.dat)) k)) ∧ Below W.heap.size W w') := Lib.hid fun h8 W k hW hk => sSet W B A n c its (hi.below (hW.mono hB)) (Nat.le_trans hB hW.size) h8 k hk
  have HRe : Hid (∀ W (A4 : Option Addr) (n4 c4 : Nat) (xs : List Int) (N E : Int) (ws : List Int), Below w.heap.size w W → Ints W W.heap.size A4 n4 xs → n4 ≤ 1048577 → RegP (its.map It.dat) xs N E ws → Calls Try.prog 13 #[.slice A n c, .slice A4 n4 c4] W fun e w' => (∃ v, e = .returned (.tuple #[.int .i64 N, .int .i64 E, v]) ∧ OwnI w' W.heap.size v ws) ∧ Below W.heap.size W w') := Lib.hid fun W A4 n4 c4 xs N E ws hW h4 hn4 hP => sRegretOf W B A n c its (hi.below (hW.mono hB)) (Nat.le_trans hB hW.size) hn hN W.heap.size A4 n4 c4 xs h4 (Nat.le_refl _) hn4 N E ws hP
  obtain ⟨ds, hds⟩ : ∃ ds, its.map It.dat = ds := ⟨_, rfl⟩
  rw [hds] at hqa hD hdl HRe HSe
  have HYes : Hid (qa = true → n ≤ 8 → q1 = true → q2 = true → Valid8 ds num den) := Lib.hid fun h1 h2 h3 h4 => ⟨hqa.1 h1, by omega, (hq1.1 h3).1, (hq1.1 h3).2, (hq2.1 h4).1, (hq2.1 h4).2⟩
  have HNo : Hid (¬ (qa = true ∧ n ≤ 8 ∧ q1 = true ∧ q2 = true) → ok = false ∧ D = []) := Lib.hid fun h => hD.no fun ⟨h1, h2, h3, h4, h5, h6⟩ => h ⟨hqa.2 h1, by omega, hq1.2 ⟨h3, h4⟩, hq2.2 ⟨h5, h6⟩⟩
  have HDD := Lib.hid hD
  have HQ1 := Lib.hid hq1
  have HQ2 := Lib.hid hq2
  have HDl := Lib.hid hdl
  clear hi hD hqa hq1 hq2 hds hdl hil
  have HB0 : Hid (Below w.heap.size w (w.alloc (.cells #[] 3))) := Lib.hid ((Below.refl _ w).alloc (Nat.le_refl _) _)
  have HE0 : Hid (OwnI (w.alloc (.cells #[] 3)) w.heap.size (.slice (some ⟨w.heap.size, 0, none⟩) 0 0) []) := Lib.hid (OwnI.empty w w.heap.size (Nat.le_refl _))
  go_enter Try.func23, Try.ntmps23
  go_wp2_with fail
  refine (HAr.out _ HB0.out).mono ?_
  rintro e w1 ⟨rfl, hb1⟩
  have HB1 := Lib.hid (below_on HB0.out hb1)
  have HE1 := Lib.hid (ownI_below HE0.out hb1)
  clear hb1 HE0 HB0 HAr
  cases qa
  · obtain ⟨rfl, rfl⟩ := HNo.out (fun h => by cases h.1)
    go_wp2
    go_ret2
    exact ⟨⟨_, rfl, HE1.out⟩, HB1.out⟩
  · by_cases h8 : n ≤ 8
    · have h8' : ¬ (8 : Int) < (n : Int) := by omega
      go_wp2_with fail
      refine (in_of den 1 100 q1 HQ1.out _).mono ?_
      rintro e w2 ⟨rfl, rfl⟩
      cases q1
      · obtain ⟨rfl, rfl⟩ := HNo.out (fun h => by cases h.2.2.1)
        go_wp2
        go_ret2
        exact ⟨⟨_, rfl, HE1.out⟩, HB1.out⟩
      · go_wp2_with fail
        refine (in_of num 0 den q2 HQ2.out _).mono ?_
        rintro e w2 ⟨rfl, rfl⟩
        cases q2
        · obtain ⟨rfl, rfl⟩ := HNo.out (fun h => by cases h.2.2.2)
          go_wp2
          go_ret2
          exact ⟨⟨_, rfl, HE1.out⟩, HB1.out⟩
        · have hval := HYes.out (by first | rfl | trivial) h8 (by first | rfl | trivial) (by first | rfl | trivial)
          have HVal := Lib.hid hval
          have hrn := hval.2.2
          have hidl : (idsA ds).length = n := by rw [idsA, List.length_map, HDl.out]
          have hpow : 2 ^ n ≤ 256 := Nat.le_trans (Nat.pow_le_pow_right (by decide) h8) (by decide)
          have HIl := Lib.hid hidl
          have HPow := Lib.hid hpow
          have HSz : Hid (SmS (okS ds num den) (idsA ds) 0 [] false) := Lib.hid (SmS.zero _ _)
          clear hval hidl
          have hpi : ((2 : Int) ^ n) ≤ 256 := by have h : ((2 ^ n : Nat) : Int) ≤ 256 := by omega
                                                 simpa using h
          have hpp : (0 : Int) < ((2 : Int) ^ n) := by have h : (0 : Int) < ((2 ^ n : Nat) : Int) := by have := Nat.two_pow_pos n; omega
                                                       simpa using h
          go_wp2
          go_loopw [8, 9, 10] (fun v fv kv wr => ∃ (k : Nat) (V : Value) (fb : Bool) (r : List Int), k ≤ 2 ^ n ∧ kv = .int .i64 k ∧ fv = .bool fb ∧ V = v ∧ OwnI wr w.heap.size V r ∧ SmS (okS ds num den) (idsA ds) k r fb ∧ Below w.heap.size w wr) (fun _ _ kv _ => 2 ^ n - (intOf kv).toNat)
          case atStart => exact ⟨0, _, false, [], Nat.zero_le _, rfl, rfl, rfl, HE1.out, HSz.out, HB1.out⟩
          case round =>
            obtain ⟨k, V, fb, r, hk, rfl, rfl, rfl, hown, hsm, hbel⟩ := hrel
            have HO := Lib.hid hown
            have HSm := Lib.hid hsm
            have HB := Lib.hid hbel
            clear hown hsm hbel
            by_cases hlt : k < 2 ^ n
            · have hlt' : (k : Int) < (2 : Int) ^ n := by have h : (k : Int) < ((2 ^ n : Nat) : Int) := by omega
                                                          simpa using h
              have HCs := Lib.hid (HSe.out h8 wr k HB.out (by have := HPow.out; omega))
              go_wp2_with fail
              refine HCs.out.mono ?_
              rintro e w2 ⟨⟨v, rfl, ho⟩, hb2⟩
              have HB2 := Lib.hid (below_on HB.out hb2)
              have HO2 := Lib.hid (ownI_below HO.out hb2)
              have hvl := ownI_lower (B' := w.heap.size) ho HB.out.size
              obtain ⟨A4, n4, c4, rfl, h4⟩ := ho.ints
              have HV2 := Lib.hid hvl
              have hn4 : n4 ≤ 8 := by
                have h1 := h4.1
                have h2 := msk_len (idsA ds) k
                have h3 := HIl.out
                omega
              obtain ⟨A5, n5, c5, rfl, h5⟩ := HO2.out.ints
              have hn5 : n5 ≤ 8 := by
                have h1 := h5.1
                have h3 := HIl.out
                rcases HSm.out with ⟨_, e, _⟩ | ⟨_, _, ⟨j, _, e⟩, _⟩
                · rw [e] at h1; simp at h1; omega
                · have h2 := msk_len (idsA ds) j
                  rw [e] at h1
                  omega
              obtain ⟨N, E, ws, hP⟩ := RegP.some ds (msk (idsA ds) k)
              have hkn : KnownP ds (msk (idsA ds) k) := fun z hz => by
                obtain ⟨d, hd, he⟩ := List.mem_map.1 (msk_sub (idsA ds) k z hz)
                exact ⟨d, hd, he⟩
              obtain ⟨e1, e2, -⟩ := hP.yes HVal.out.1 hkn
              have hps := hP.small
              have HOk : Hid (okS ds num den (msk (idsA ds) k) ↔ N * den ≤ num * E) := Lib.hid (by rw [e1, e2]; exact Iff.rfl)
              have HReg : Hid (∀ W (A4 : Option Addr) (n4 c4 : Nat), Below w.heap.size w W → Ints W W.heap.size A4 n4 (msk (idsA ds) k) → n4 ≤ 1048577 → Calls Try.prog 13 #[.slice A n c, .slice A4 n4 c4] W fun e w' => (∃ v, e = .returned (.tuple #[.int .i64 N, .int .i64 E, v]) ∧ OwnI w' W.heap.size v ws) ∧ Below W.heap.size W w') := Lib.hid fun W A4 n4 c4 hW h hn => HRe.out W A4 n4 c4 _ N E ws hW h hn hP
              have m1 := mul_hundred (a := N) (b := den) (by omega) (by omega) (by omega) (by omega)
              have m2 := mul_hundred (a := num) (b := E) (by omega) (by omega) (by omega) (by omega)
              have HI4 := Lib.hid h4
              have HI5 := Lib.hid h5
              clear ho hb2 hvl HCs h4 h5 hP hkn e1 e2
              cases fb
              · go_wp2_with fail
                refine (HReg.out _ _ _ _ (HB2.out) (HI4.out) (by omega)).mono ?_
                rintro e w4 ⟨⟨v9, rfl, -⟩, hb4⟩
                have HB4 := Lib.hid (below_on (HB2.out) hb4)
                have HO4 := Lib.hid (ownI_below (HO2.out) hb4)
                have HV4 := Lib.hid (ownI_below (HV2.out) hb4)
                clear hb4
                by_cases hle : N * den ≤ num * E
                · have HNew : Hid (SmS (okS ds num den) (idsA ds) (k + 1) (msk (idsA ds) k) true) := Lib.hid (HSm.out.first (HOk.out.2 hle))
                  go_wp2
                  go_roundw
                  case rel => exact ⟨k + 1, _, true, _, by omega, by go_num, rfl, rfl, HV4.out, HNew.out, HB4.out⟩
                  case measure => simp [intOf]; omega
                · have HNew : Hid (SmS (okS ds num den) (idsA ds) (k + 1) r false) := Lib.hid (HSm.out.no fun h => hle (HOk.out.1 h))
                  go_wp2
                  go_roundw
                  case rel => exact ⟨k + 1, _, false, _, by omega, by go_num, rfl, rfl, HO4.out, HNew.out, HB4.out⟩
                  case measure => simp [intOf]; omega
              · go_wp2_with fail
                refine (sLess w2 w2.heap.size A4 A5 n4 n5 c4 c5 (msk (idsA ds) k) r HI4.out HI5.out (by omega) (by omega)).mono ?_
                rintro e w3 ⟨rfl, m, rfl⟩
                obtain ⟨z, hz⟩ : ∃ z, ltL (msk (idsA ds) k) r = z := ⟨_, rfl⟩
                rw [hz]
                have HZ := Lib.hid hz
                have hdr : Below w2.heap.size w2 (w2.drewN m) := below_drewN (Below.refl _ _) m
                have HB3 := Lib.hid (below_on HB2.out hdr)
                have HO3 := Lib.hid (ownI_below HO2.out hdr)
                have HV3 := Lib.hid (ownI_below HV2.out hdr)
                have HI3 := Lib.hid ((HI4.out.below hdr).more hdr.size)
                clear hz hdr
                cases z
                · have HNew : Hid (SmS (okS ds num den) (idsA ds) (k + 1) r true) := Lib.hid (HSm.out.worse HZ.out)
                  go_wp2
                  go_roundw
                  case rel => exact ⟨k + 1, _, true, _, by omega, by go_num, rfl, rfl, HO3.out, HNew.out, HB3.out⟩
                  case measure => simp [intOf]; omega
                · go_wp2_with fail
                  refine (HReg.out _ _ _ _ (HB3.out) (HI3.out) (by omega)).mono ?_
                  rintro e w4 ⟨⟨v9, rfl, -⟩, hb4⟩
                  have HB4 := Lib.hid (below_on (HB3.out) hb4)
                  have HO4 := Lib.hid (ownI_below (HO3.out) hb4)
                  have HV4 := Lib.hid (ownI_below (HV3.out) hb4)
                  clear hb4
                  by_cases hle : N * den ≤ num * E
                  · have HNew : Hid (SmS (okS ds num den) (idsA ds) (k + 1) (msk (idsA ds) k) true) := Lib.hid (HSm.out.better HZ.out (HOk.out.2 hle))
                    go_wp2
                    go_roundw
                    case rel => exact ⟨k + 1, _, true, _, by omega, by go_num, rfl, rfl, HV4.out, HNew.out, HB4.out⟩
                    case measure => simp [intOf]; omega
                  · have HNew : Hid (SmS (okS ds num den) (idsA ds) (k + 1) r true) := Lib.hid (HSm.out.no fun h => hle (HOk.out.1 h))
                    go_wp2
                    go_roundw
                    case rel => exact ⟨k + 1, _, true, _, by omega, by go_num, rfl, rfl, HO4.out, HNew.out, HB4.out⟩
                    case measure => simp [intOf]; omega
            · obtain rfl : k = 2 ^ n := by omega
              have hdn := HSm.out
              rw [← HIl.out] at hdn
              obtain ⟨rfl, hle⟩ := hdn.done (okS_all HVal.out.2.2.2.2.1)
              obtain ⟨rfl, rfl⟩ := HDD.out.yes HVal.out hle
              have hlt' : ¬ (((2 ^ n : Nat) : Int) < (2 : Int) ^ n) := by simp
              have HOz := HO
              clear hdn hle
              go_wp2
              go_ret2
              exact ⟨⟨_, rfl, HOz.out⟩, HB.out⟩
    · obtain ⟨rfl, rfl⟩ := HNo.out (fun h => h8 h.2.1)
      have h8' : (8 : Int) < (n : Int) := by omega
      go_wp2
      go_ret2
      exact ⟨⟨_, rfl, HE1.out⟩, HB1.out⟩
end Go.Proofs.Ytjjlhiaghjipcaa.num
