/-
  The program's HeightOf: contract.
-/
import Derived.Test.YtddpfnidnkhfpaaPairProg
namespace Go.Proofs.Ytddpfnidnkhfpaa.num
open Go.RowKit Go.Maps
set_option linter.unusedVariables false

theorem iHgt (ps : List (Int × Int)) (n : Nat) (hn : n ≤ 1048576) (B : Nat) (A : Option Addr) (c : Nat) (hg : Good ps) : ∀ (k : Nat) (v : Int) (w : World), Pairs w B A n ps → B ≤ w.heap.size → upN ps v < k → k ≤ 11 →
    Calls Try.prog 38 #[.slice A n c, .int .i64 v] w fun e w' => e = .returned (.int .i64 ((hgt ps k v : Nat) : Int)) ∧ Below w.heap.size w w'
  | 0, v, w, _, _, hk, _ => by omega
  | k + 1, v, w, hi, hB, hk, hk11 => by
    have IH := Lib.hid (iHgt ps n hn B A c hg k)
    have HX := Lib.hid hi
    have HG := Lib.hid hg
    have HK := Lib.hid hk
    clear hi hg hk
    go_enter Try.func38, Try.ntmps38
    go_wp2
    go_loopw [5, 10] (fun m i wr => ∃ j : Nat, j ≤ n ∧ i = .int .i64 j ∧ m = .int .i64 ((hstep ps k v (ps.take j) : Nat) : Int) ∧ Below w.heap.size w wr) (fun _ i _ => n - (intOf i).toNat)
    case atStart => exact ⟨0, Nat.zero_le _, rfl, rfl, Below.refl _ _⟩
    case round =>
      obtain ⟨j, hj, rfl, rfl, hbel⟩ := hrel
      have HBe := Lib.hid hbel
      by_cases hlt : j < n
      · obtain ⟨b1, off, x, y, rfl, hb1, hat, hc1, hc2⟩ := HX.out.at j hlt
        have f1 := (hbel.cell (p := ⟨b1, off + j * 2, none⟩) (by exact Nat.lt_of_lt_of_le hb1 hB)).trans hc1
        have f2 := (hbel.cell (p := ⟨b1, off + j * 2 + 1, none⟩) (by exact Nat.lt_of_lt_of_le hb1 hB)).trans hc2
        have HT := Lib.hid hat
        have hxm : Hid ((x, y) ∈ ps) := Lib.hid (List.mem_of_getElem? hat)
        have hs11 : hstep ps k v (ps.take j) ≤ 11 := hstep_le v _ fun p hp e => by
          have h1 := hgt_le ps k p.1
          omega
        obtain ⟨z, hz⟩ : ∃ z : Int, z = ((hstep ps k v (ps.take j) : Nat) : Int) := ⟨_, rfl⟩
        have hz0 : 0 ≤ z := by omega
        have hz1 : z ≤ 11 := by omega
        rw [← hz]
        have HZ := Lib.hid hz
        have hx1 := hbel.alloc hbel.size (.cells #[.int .i64 x, .int .i64 y] 29)
        have HX1 := Lib.hid hx1
        clear hat hz hs11 hc1 hc2 hbel hx1
        by_cases he : y = v
        · subst he
          have hup : upN ps x < k := by
            have := upN_lt HG.out (Reach.one hxm.out)
            have := HK.out
            omega
          have hh := hgt_le ps k x
          obtain ⟨u, hu⟩ : ∃ u : Int, u = ((hgt ps k x : Nat) : Int) := ⟨_, rfl⟩
          have hu0 : 0 ≤ u := by omega
          have hu1 : u ≤ 11 := by omega
          have HU := Lib.hid hu
          have HUp := Lib.hid hup
          clear hu hup hh
          go_wp2_with fail
          refine (IH.out x _ (HX.out.below (HX1.out.mono hB)) (Nat.le_trans hB HX1.out.size) HUp.out (by omega)).mono ?_
          rintro e w1 ⟨rfl, hb2⟩
          have HB2 := Lib.hid (HX1.out.trans (hb2.mono HX1.out.size))
          clear hb2 f1 f2
          rw [← HU.out]
          by_cases hle : z < u + 1
          · go_wp2
            go_roundw
            case rel =>
              refine ⟨j + 1, by omega, by go_num, ?_, HB2.out⟩
              rw [ptake_at HT.out, hstep_snoc, if_pos rfl]
              dsimp only
              have h1 := HZ.out
              have h2 := HU.out
              rw [Nat.max_eq_right (by omega)]
              congr 1; omega
            case measure => simp [intOf]; omega
          · go_wp2
            go_roundw
            case rel =>
              refine ⟨j + 1, by omega, by go_num, ?_, HB2.out⟩
              rw [ptake_at HT.out, hstep_snoc, if_pos rfl]
              dsimp only
              have h1 := HZ.out
              have h2 := HU.out
              rw [Nat.max_eq_left (by omega)]
              congr 1
            case measure => simp [intOf]; omega
        · have he1 : (y == v) = false := by simpa using he
          have HE := Lib.hid he
          clear he
          go_wp2
          go_roundw
          case rel =>
            refine ⟨j + 1, by omega, by go_num, ?_, HX1.out⟩
            rw [ptake_at HT.out, hstep_snoc, if_neg HE.out]
            congr 1
            first | done | exact congrArg (Value.int .i64) HZ.out | exact HZ.out
          case measure => simp [intOf]; omega
      · obtain rfl : j = n := by omega
        have HL := HX.out.1
        obtain ⟨z, hz⟩ : ∃ z : Int, z = ((hstep ps k v (ps.take j) : Nat) : Int) := ⟨_, rfl⟩
        rw [← hz]
        have HZ := Lib.hid hz
        clear hz hbel
        go_wp2
        go_ret
        refine ⟨?_, HBe.out⟩
        show Ending.returned (.int .i64 z) = _
        rw [HZ.out, ptake_all HL, hgt_succ]

theorem iHeightOf (w : World) (B : Nat) (A : Option Addr) (n c : Nat) (ps : List (Int × Int)) (hi : Pairs w B A n ps) (hB : B ≤ w.heap.size) (hn : n ≤ 1048576) (v : Int) (q : Bool) (hq : q = true ↔ OkP ps ∧ InR v) :
    Calls Try.prog 16 #[.slice A n c, .int .i64 v] w fun e w' => e = .returned (.int .i64 (htOf ps v q)) ∧ Below w.heap.size w w' := by
  have HX := Lib.hid hi
  have HQ := Lib.hid hq
  obtain ⟨m, hm⟩ := bool_of (OkP ps)
  obtain ⟨r, hr⟩ := bool_of (InR v)
  have HM := Lib.hid hm
  have HR := Lib.hid hr
  clear hi hq hm hr
  have hqf : (m && r) = false → q = false := fun h => by
    cases q
    · rfl
    · have h1 := HM.out.2 (HQ.out.1 rfl).1
      have h2 := HR.out.2 (HQ.out.1 rfl).2
      rw [h1, h2] at h
      cases h
  have HF := Lib.hid hqf
  clear hqf
  go_enter Try.func16, Try.ntmps16
  go_wp2_with fail
  refine (isValue_of v r HR.out w).mono ?_
  rintro e w1 ⟨rfl, hw1⟩
  have HB1 : Hid (Below w.heap.size w w1) := Lib.hid (by rw [← hw1]; exact Below.refl _ _)
  clear hw1
  cases r
  · obtain rfl : q = false := HF.out (by simp)
    go_wp2
    go_ret
    exact ⟨rfl, HB1.out⟩
  · go_wp2_with fail
    refine (iArePairs w1 B A n c ps (HX.out.below (HB1.out.mono hB)) (Nat.le_trans hB HB1.out.size) hn m HM.out).mono ?_
    rintro e w2 ⟨rfl, hb2⟩
    have HB2 := Lib.hid (HB1.out.trans (hb2.mono HB1.out.size))
    clear hb2
    cases m
    · obtain rfl : q = false := HF.out rfl
      go_wp2
      go_ret
      exact ⟨rfl, HB2.out⟩
    · have hok := HM.out.1 (by first | rfl | trivial)
      obtain rfl : q = true := HQ.out.2 ⟨hok, HR.out.1 (by first | rfl | trivial)⟩
      have HG := Lib.hid hok
      clear hok
      go_wp2_with fail
      refine (iHgt ps n hn B A c HG.out.1 11 v w2 (HX.out.below (HB2.out.mono hB)) (Nat.le_trans hB HB2.out.size) (by have := upN_le ps v; omega) (by decide)).mono ?_
      rintro e w3 ⟨rfl, hb3⟩
      have HB3 := Lib.hid (HB2.out.trans (hb3.mono HB2.out.size))
      clear hb3
      obtain ⟨z, hz⟩ : ∃ z : Int, z = ((hgt ps 11 v : Nat) : Int) := ⟨_, rfl⟩
      rw [← hz]
      have HZ := Lib.hid hz
      clear hz
      go_wp2
      go_ret
      refine ⟨?_, HB3.out⟩
      show Ending.returned (.int .i64 z) = _
      rw [HZ.out]
      rfl
end Go.Proofs.Ytddpfnidnkhfpaa.num
