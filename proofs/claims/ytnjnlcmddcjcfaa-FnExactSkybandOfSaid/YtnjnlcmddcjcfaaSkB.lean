/- Contracts of functions that the laws of this chapter call, packed. -/
import Derived.Test.YtnjnlcmddcjcfaaSkA
import Derived.Test.YtnjnlcmddcjcfaaItemIds
import Derived.Test.YtnjnlcmddcjcfaaWishImpl
import Derived.Test.YtnjnlcmddcjcfaaPairMark
import Derived.Test.YtnjnlcmddcjcfaaItemImpl
import Derived.Test.YtnjnlcmddcjcfaaPairMarkI
import Derived.Deep.QuietTactic
import Derived.Conc.Holds
import Derived.Handed
import Derived.Test.YtnjnlcmddcjcfaaRows
namespace Go.Proofs.Ytnjnlcmddcjcfaa.num
set_option maxRecDepth 20000
open Go.RowKit
set_option linter.unusedVariables false
set_option linter.unusedSimpArgs false

theorem any_step {its : List It} {hold : It → Bool} {k : Nat} {t : It} (hat : its[k]? = some t) (h : ∀ u ∈ its.take k, hold u = false) (h1 : hold t = false) : ∀ u ∈ its.take (k + 1), hold u = false := by
  rw [take_at hat]
  intro u hu
  rcases List.mem_append.1 hu with h2 | h2
  · exact h u h2
  · obtain rfl := List.mem_singleton.1 h2
    exact h1
set_option maxRecDepth 20000 in
set_option maxHeartbeats 800000 in
/-- slices.IndexFunc by a test with a bound receiver. -/
theorem ctIndex (w : World) (B lo p : Nat) (t : Tr) (A : Option Addr) (n c : Nat) (its : List It) (h : CtIn w B lo p t A n its) (hn : n ≤ 1048576) (rv : Value) (hold : It → Bool)
    (HC : ∀ W, Below w.heap.size w W → ∀ u ∈ its, Calls Try.prog 53 #[rv, ctV p u] W fun e w' => e = .returned (.bool (hold u)) ∧ Below W.heap.size W w') :
    Calls Try.prog 92 #[.slice A n c, .func (.func 53) #[rv] #[]] w fun e w' => (∃ r : Int, e = .returned (.int .i64 r) ∧ (0 ≤ r ↔ its.any hold = true)) ∧ Below w.heap.size w w' := by
  have HX := Lib.hid h
  have HF := Lib.hid HC
  clear h HC
  go_enter Try.func92, Try.ntmps92
  go_wp2
  go_loopw [8] (fun i wr => ∃ k : Nat, k ≤ n ∧ i = .int .i64 k ∧ (∀ u ∈ its.take k, hold u = false) ∧ Below w.heap.size w wr) (fun i _ => n - (intOf i).toNat)
  case atStart => exact ⟨0, Nat.zero_le _, rfl, by simp, Below.refl _ _⟩
  case round =>
    obtain ⟨k, hk, rfl, hall, hbel⟩ := hrel
    have HA := Lib.hid hall
    have HB := Lib.hid hbel
    clear hall
    by_cases hlt : k < n
    · obtain ⟨b, off, x, rfl, hb, hat, d0, d1, d2⟩ := ct_at HX.out.r k hlt
      have f0 := (hbel.cell (p := ⟨b, off + k * 3, none⟩) hb).trans d0
      have f1 := (hbel.cell (p := ⟨b, off + k * 3 + 1, none⟩) hb).trans d1
      have f2 := (hbel.cell (p := ⟨b, off + k * 3 + 2, none⟩) hb).trans d2
      have HAt := Lib.hid hat
      have hlt' : (k : Int) < (n : Int) := by omega
      have HC1 := HF.out wr HB.out x (mem_of_at hat)
      obtain ⟨z, hz⟩ : ∃ z, hold x = z := ⟨_, rfl⟩
      rw [hz] at HC1
      have hvx : ctV p x = .agg #[.int .i64 x.id, .slice x.A x.n x.c, .pointer (some ⟨p, 0, none⟩)] := rfl
      rw [hvx] at HC1
      have HZ := Lib.hid hz
      have HC2 := Lib.hid HC1
      clear d0 d1 d2 hat hbel hz hvx HC1
      go_wp2_with fail
      refine HC2.out.mono ?_
      rintro e w2 ⟨rfl, hb2⟩
      have HB2 := Lib.hid (below_on HB.out hb2)
      clear hb2 f0 f1 f2 HC2
      cases z
      · go_wp2
        go_roundw
        case rel => exact ⟨k + 1, by omega, by go_num, any_step HAt.out HA.out HZ.out, HB2.out⟩
        case measure => simp [intOf]; omega
      · go_wp2
        go_ret
        exact ⟨⟨k, rfl, ⟨fun _ => List.any_eq_true.2 ⟨x, mem_of_at HAt.out, HZ.out⟩, fun _ => by omega⟩⟩, HB2.out⟩
    · obtain rfl : k = n := by omega
      have h := HA.out
      rw [take_all HX.out.r.len] at h
      have HH := Lib.hid h
      clear h hbel
      go_wp2
      go_ret
      refine ⟨⟨-1, rfl, ⟨fun h => by omega, fun h => ?_⟩⟩, HB.out⟩
      obtain ⟨u, hu, hh⟩ := List.any_eq_true.1 h
      rw [HH.out u hu] at hh
      cases hh
set_option maxRecDepth 20000 in
theorem ctContains (w : World) (B lo p : Nat) (t : Tr) (A : Option Addr) (n c : Nat) (its : List It) (h : CtIn w B lo p t A n its) (hn : n ≤ 1048576) (rv : Value) (hold : It → Bool)
    (HC : ∀ W, Below w.heap.size w W → ∀ u ∈ its, Calls Try.prog 53 #[rv, ctV p u] W fun e w' => e = .returned (.bool (hold u)) ∧ Below W.heap.size W w') :
    Calls Try.prog 80 #[.slice A n c, .func (.func 53) #[rv] #[]] w fun e w' => e = .returned (.bool (its.any hold)) ∧ Below w.heap.size w w' := by
  have HI := Lib.hid (ctIndex w B lo p t A n c its h hn rv hold HC)
  clear h HC
  go_enter Try.func80, Try.ntmps80
  go_wp2_with fail
  refine HI.out.mono ?_
  rintro e w1 ⟨⟨r, rfl, hr⟩, hb1⟩
  have HB1 := Lib.hid hb1
  have HR := Lib.hid hr
  clear hr hb1
  by_cases h0 : 0 ≤ r
  · have hd : decide (r ≥ 0) = true := by simpa using h0
    go_wp2
    go_ret
    exact ⟨by rw [HR.out.1 h0]; rfl, HB1.out⟩
  · have hd : decide (r ≥ 0) = false := by simpa using h0
    have hlt : r < 0 := by omega
    go_wp2
    go_ret
    refine ⟨?_, HB1.out⟩
    cases hq : its.any hold
    · rfl
    · exact absurd (HR.out.2 hq) (by omega)
theorem bestB_any (t : Tr) (its : List It) (x : It) : bestB t (its.map It.dat) x.dat = !its.any fun y => btD t y.dat x.dat := by
  unfold bestB
  rw [List.all_map, List.not_any_eq_all_not]
  rfl
set_option maxRecDepth 20000 in
theorem iBestOf (w : World) (B lo p : Nat) (t : Tr) (A : Option Addr) (n c : Nat) (its : List It) (h : CtIn w B lo p t A n its) (hn : n ≤ 1048576) (x : It) (hx : Ints w B x.A x.n x.xs) (px : IsP x.dat) :
    Calls Try.prog 63 #[.slice A n c, ctV p x] w fun e w' => e = .returned (.bool (bestB t (its.map It.dat) x.dat)) ∧ Below w.heap.size w w' := by
  have HC : Hid (∀ w1, Below w.heap.size w w1 → Calls Try.prog 80 #[.slice A n c, .func (.func 53) #[.agg #[.int .i64 x.id, .slice x.A x.n x.c, .pointer (some ⟨p, 0, none⟩)]] #[]] w1 fun e w' => e = .returned (.bool (its.any fun y => btD t y.dat x.dat)) ∧ Below w1.heap.size w1 w') := Lib.hid fun w1 h1 =>
    ctContains w1 B lo p t A n c its (h.step h1) hn _ _ fun W hW u hu => by
      have h2 := h.step (below_on h1 hW)
      exact iBeaten W B lo p t x u h2.t h2.hB (hx.below ((below_on h1 hW).mono h.hB)) (h2.x u hu).1 px (h2.x u hu).2
  rw [bestB_any]
  generalize (its.any fun y => btD t y.dat x.dat) = z at *
  have hvx : ctV p x = .agg #[.int .i64 x.id, .slice x.A x.n x.c, .pointer (some ⟨p, 0, none⟩)] := rfl
  rw [hvx]
  clear hvx h hx px
  have HB0 : Hid (Below w.heap.size w (w.alloc (.cells #[.int .i64 x.id, .slice x.A x.n x.c, .pointer (some ⟨p, 0, none⟩)] 69))) := Lib.hid ((Below.refl _ w).alloc (Nat.le_refl _) _)
  go_enter Try.func63, Try.ntmps63
  go_wp2_with fail
  refine (HC.out _ HB0.out).mono ?_
  rintro e w1 ⟨rfl, hb1⟩
  have HB1 := Lib.hid (below_on HB0.out hb1)
  clear hb1
  go_wp2
  go_ret
  exact ⟨rfl, HB1.out⟩
theorem filter_step {its : List It} {hold : It → Bool} {k : Nat} {t : It} (hat : its[k]? = some t) : (its.take (k + 1)).filter hold = (its.take k).filter hold ++ (if hold t then [t] else []) := by
  rw [take_at hat, List.filter_append]
  congr 1
  cases h : hold t <;> simp [h]
set_option maxRecDepth 20000 in
set_option maxHeartbeats 800000 in
/-- Those that pass a test with a bound receiver. -/
theorem ctWhere (w : World) (p : Nat) (A : Option Addr) (n c : Nat) (its : List It) (h : ReadG (ctCells p) 3 w w.heap.size A n its) (hn : n ≤ 1048576) (f : FuncId) (hf : f = 63 ∨ f = 53 ∨ f = 66 ∨ False) (rv : Value) (hold : It → Bool)
    (HC : ∀ W, Below w.heap.size w W → ∀ u ∈ its, Calls Try.prog f #[rv, ctV p u] W fun e w' => e = .returned (.bool (hold u)) ∧ Below W.heap.size W w') :
    Calls Try.prog 33 #[.slice A n c, .func (.func f) #[rv] #[]] w fun e w' => (∃ v, e = .returned v ∧ OwnG 69 (ctCells p) 3 w' w.heap.size v (its.filter hold)) ∧ Below w.heap.size w w' := by
  have HX := Lib.hid h
  have HF : Hid (∀ W, Below w.heap.size w W → ∀ u ∈ its, ∀ z, hold u = z → Calls Try.prog f #[rv, .agg #[.int .i64 u.id, .slice u.A u.n u.c, .pointer (some ⟨p, 0, none⟩)]] W fun e w' => e = .returned (.bool z) ∧ Below W.heap.size W w') := Lib.hid fun W hW u hu z hz => by rw [← hz]; exact HC W hW u hu
  clear h HC
  repeat' (first | exact hf.elim | subst hf | rcases hf with hf | hf)
  all_goals
    go_enter Try.func33, Try.ntmps33
    go_wp2
    go_loopw [5, 10] (fun v i wr => ∃ k : Nat, k ≤ n ∧ i = .int .i64 k ∧ OwnG 69 (ctCells p) 3 wr w.heap.size v ((its.take k).filter hold) ∧ Below w.heap.size w wr) (fun _ i _ => n - (intOf i).toNat)
    case atStart => exact ⟨0, Nat.zero_le _, rfl, OwnG.nil _ _, Below.refl _ _⟩
    case round =>
      obtain ⟨k, hk, rfl, hown, hbel⟩ := hrel
      have HO := Lib.hid hown
      have HB := Lib.hid hbel
      clear hown
      by_cases hlt : k < n
      · obtain ⟨b, off, x, rfl, hb, hat, d0, d1, d2⟩ := ct_at HX.out k hlt
        have f0 := (hbel.cell (p := ⟨b, off + k * 3, none⟩) hb).trans d0
        have f1 := (hbel.cell (p := ⟨b, off + k * 3 + 1, none⟩) hb).trans d1
        have f2 := (hbel.cell (p := ⟨b, off + k * 3 + 2, none⟩) hb).trans d2
        have HAt := Lib.hid hat
        have hlt' : (k : Int) < (n : Int) := by omega
        obtain ⟨z, hz⟩ : ∃ z, hold x = z := ⟨_, rfl⟩
        have HZ := Lib.hid hz
        have HC1 := Lib.hid (fun W (hW : Below w.heap.size w W) => HF.out W hW x (mem_of_at hat) z hz)
        have HBa : Hid (Below w.heap.size w (wr.alloc (.cells #[.int .i64 x.id, .slice x.A x.n x.c, .pointer (some ⟨p, 0, none⟩)] 69))) := Lib.hid (HB.out.alloc HB.out.size _)
        have Xx : Hid (Box3 (wr.alloc (.cells #[.int .i64 x.id, .slice x.A x.n x.c, .pointer (some ⟨p, 0, none⟩)] 69)) wr.heap.size p x) := Lib.hid (Box3.new _ _ _ _)
        have HOa := Lib.hid (HO.out.below ((Below.refl _ wr).alloc (Nat.le_refl _) (.cells #[.int .i64 x.id, .slice x.A x.n x.c, .pointer (some ⟨p, 0, none⟩)] 69)))
        have HLn : Hid ((((its.take k).filter hold).length + 1) * 40 ≤ 140737488355328) := Lib.hid (by
          have h1 : ((its.take k).filter hold).length ≤ (its.take k).length := List.length_filter_le _ _
          rw [List.length_take] at h1
          omega)
        clear d0 d1 d2 hat hbel hz
        go_wp2_with fail
        refine (HC1.out _ HBa.out).mono ?_
        rintro e w2 ⟨rfl, hb2⟩
        have HB2 := Lib.hid (below_on HBa.out hb2)
        have HO2 := Lib.hid (HOa.out.below hb2)
        have Xx2 := Lib.hid (Xx.out.below hb2)
        clear hb2 f0 f1 f2 HC1 HBa HOa Xx
        cases z
        · go_wp2
          go_roundw
          case rel => exact ⟨k + 1, by omega, by go_num, by rw [filter_step HAt.out, HZ.out]; simpa using HO2.out, HB2.out⟩
          case measure => simp [intOf]; omega
        · obtain ⟨x_g, x_0, x_1, x_2⟩ := Xx2.out
          go_wp2_with (at_builtin; refine wp_appG (ctCells_len p) (ctCells_one p) (T := 69) (tS := 61) Try.underlying61 info_ct rfl (by decide) w2 (by rfl) (.tmp 17) (.tmp 19) (by rfl) w.heap.size _ _ (by rfl) HO2.out _ x (by rfl) 1 _ rfl (by rfl) HLn.out (by decide) HB2.out.size ?_)
          intro v' w3 hr hg hat
          have HO3 := Lib.hid hr
          have HB3 := Lib.hid (HB2.out.grown hg HB2.out.size (fun k hk => HO2.out.lows k hk))
          clear hr hg hat x_g x_0 x_1 x_2
          go_wp2
          go_roundw
          case rel => exact ⟨k + 1, by omega, by go_num, by rw [filter_step HAt.out, HZ.out]; exact HO3.out, HB3.out⟩
          case measure => simp [intOf]; omega
      · obtain rfl : k = n := by omega
        have HO1 : Hid (OwnG 69 (ctCells p) 3 wr w.heap.size u5 (its.filter hold)) := Lib.hid (by have h := HO.out; rwa [take_all HX.out.len] at h)
        clear hbel
        go_wp2
        go_ret
        exact ⟨⟨_, rfl, HO1.out⟩, HB.out⟩
set_option maxRecDepth 20000 in
set_option maxHeartbeats 800000 in
theorem ctIds (w : World) (p : Nat) (A : Option Addr) (n c : Nat) (l : List It) (h : ReadG (ctCells p) 3 w w.heap.size A n l) (hn : n ≤ 1048576) :
    Calls Try.prog 36 #[.slice A n c] w fun e w' => (∃ v, e = .returned v ∧ OwnI w' w.heap.size v (idL l)) ∧ Below w.heap.size w w' := by
  have hmk := run_make_row' (P := Try.prog) 34 3 (.int .i64 0) 8 Try.underlying34 info_int rfl .i64 .i64 n (by omega) (by omega)
  have HX := Lib.hid h
  clear h
  go_enter Try.func36, Try.ntmps36
  go_wp2
  clear hmk
  go_loopw [11] (fun i wr => ∃ k : Nat, k ≤ n ∧ i = .int .i64 k ∧ wr.rowIs w.heap.size 3 n (fun j => if j < k then .int .i64 ((idL l).getD j 0) else .int .i64 0) ∧ Below w.heap.size w wr) (fun i _ => n - (intOf i).toNat)
  case atStart =>
    exact ⟨0, Nat.zero_le _, rfl, by simpa using World.rowIs_made w (.int .i64 0) n 3, (Below.refl _ _).alloc (Nat.le_refl _) _⟩
  case round =>
    obtain ⟨k, hk, rfl, hrow, hbel⟩ := hrel
    have HR := Lib.hid hrow
    have HB := Lib.hid hbel
    by_cases hlt : k < n
    · obtain ⟨x, hat⟩ := HX.out.get hlt
      obtain ⟨b, off, rfl, hb, hc⟩ := HX.out.at' k x hat
      have f0 := (hbel.cell (p := ⟨b, off + k * 3, none⟩) hb).trans (hc 0 _ rfl)
      have f1 := (hbel.cell (p := ⟨b, off + k * 3 + 1, none⟩) hb).trans (hc 1 _ rfl)
      have f2 := (hbel.cell (p := ⟨b, off + k * 3 + 2, none⟩) hb).trans (hc 2 _ rfl)
      have hl1 := World.rowIs.lt hrow
      have g1 : wr.cell? ⟨w.heap.size, k, none⟩ = some (.int .i64 0) := by rw [World.rowIs.cell hrow hlt, if_neg (by omega)]
      have g2 := World.rowIs.frozen hrow k
      have HAt := Lib.hid hat
      have hsz := Lib.hid hbel.size
      clear hrow hbel hc hat
      go_wp2
      go_roundw
      case rel =>
        refine ⟨k + 1, by omega, by go_num, ?_, ?_⟩
        · first
          | exact (World.rowIs.set (World.rowIs.alloc HR.out _) k (.int .i64 x.id)).congr (fun j _ => by rw [← idL_get HAt.out]; exact getD_prefix (idL l) k j)
          | exact (World.rowIs.alloc (World.rowIs.set HR.out k (.int .i64 x.id)) _).congr (fun j _ => by rw [← idL_get HAt.out]; exact getD_prefix (idL l) k j)
        · first
          | exact (HB.out.alloc hsz.out _).setCell (Nat.le_refl _) _
          | exact (HB.out.setCell (p := ⟨w.heap.size, k, none⟩) (Nat.le_refl _) _).alloc (by simp [World.setCell]; exact hsz.out) _
      case measure => simp [intOf]; omega
    · obtain rfl : k = n := by omega
      clear hrow hbel
      go_wp2
      go_ret
      refine ⟨⟨_, rfl, ?_⟩, HB.out⟩
      have hl : (idL l).length = k := by rw [idL_len, HX.out.len]
      refine ownI_of_row (Nat.le_refl _) hl (Nat.le_refl _) (by unfold maxLen; omega) HR.out fun j hj => ?_
      rw [if_pos hj, List.getElem?_map, List.getD_eq_getElem?_getD, List.getElem?_eq_getElem (by omega)]; rfl
end Go.Proofs.Ytnjnlcmddcjcfaa.num
namespace Go.Proofs.Ytnjnlcmddcjcfaa.num
set_option maxRecDepth 20000
open Go.RowKit
set_option linter.unusedVariables false
set_option linter.unusedSimpArgs false

def zC (j : Nat) : Value := (#[.int .i64 0, .slice none 0 0, .pointer none] : Array Value)[j % 3]!
def ctCell (p : Nat) (l : List It) (j : Nat) : Value := cellG (ctCells p) zC l j
theorem make_ct (n : Nat) (hn : n ≤ 1048576) (w : World) :
    (Instr.makeSlice 61 (.int .i64 (n : Int)) (.int .i64 (n : Int))).run Try.prog w = .ok (.slice (some ⟨w.heap.size, 0, none⟩) n n) (w.alloc (.cells (madeCells #[.int .i64 0, .slice none 0 0, .pointer none] (n * 3)) 69)) := by
  obtain ⟨i, hi, hzz⟩ := Option.map_eq_some_iff.1 info_ct
  simp only [Prod.mk.injEq] at hzz
  obtain ⟨hz, hs, hb⟩ := hzz
  have hr := run_make (P := Try.prog) w _ _ i _ Try.underlying61 hi hz .i64 .i64 n n (by omega) (Int.le_refl _) (by rw [hb]; omega) (by omega)
  rw [hs] at hr
  simp only [Int.toNat_natCast] at hr
  exact hr
theorem made_ct (w : World) (n p : Nat) : (w.alloc (.cells (madeCells #[.int .i64 0, .slice none 0 0, .pointer none] (n * 3)) 69)).rowIs w.heap.size 69 (n * 3) (ctCell p []) :=
  ⟨_, heap_alloc_new w _, size_madeCells _ _, fun i hi => by simp [madeCells, hi, ctCell, cellG, zC]⟩
theorem ctCell_snoc {p : Nat} {l : List It} {k : Nat} (h : l.length = k) (x : It) (j : Nat) :
    (if j = k * 3 + 2 then .pointer (some ⟨p, 0, none⟩) else if j = k * 3 + 1 then .slice x.A x.n x.c else if j = k * 3 then .int .i64 x.id else ctCell p l j) = ctCell p (l ++ [x]) j := by
  have e : ∀ i v, (ctCells p x)[i]? = some v → ctCell p (l ++ [x]) (k * 3 + i) = v := fun i v hv => cellG_last (ctCells_len p) zC h x hv
  by_cases h2 : j = k * 3 + 2
  · subst h2; rw [if_pos rfl, e 2 _ rfl]
  rw [if_neg h2]
  by_cases h1 : j = k * 3 + 1
  · subst h1; rw [if_pos rfl, e 1 _ rfl]
  rw [if_neg h1]
  by_cases h0 : j = k * 3
  · subst h0; rw [if_pos rfl]; exact (e 0 _ rfl).symm
  rw [if_neg h0]
  exact (cellG_more (ctCells_len p) zC h x (by omega)).symm
theorem ctCell_zero {p : Nat} {l : List It} {k : Nat} (h : l.length = k) : ctCell p l (k * 3) = .int .i64 0 ∧ ctCell p l (k * 3 + 1) = .slice none 0 0 ∧ ctCell p l (k * 3 + 2) = .pointer none := by
  refine ⟨?_, ?_, ?_⟩
  · rw [ctCell, cellG_none (ctCells_len p) zC (by omega)]; unfold zC; rw [show k * 3 % 3 = 0 by omega]; rfl
  · rw [ctCell, cellG_none (ctCells_len p) zC (by omega)]; unfold zC; rw [show (k * 3 + 1) % 3 = 1 by omega]; rfl
  · rw [ctCell, cellG_none (ctCells_len p) zC (by omega)]; unfold zC; rw [show (k * 3 + 2) % 3 = 2 by omega]; rfl
/-- What contestOf hands back. -/
def ContOut (B lo : Nat) (nds : List ND) (its : List It) (n : Nat) (e : Ending) (w' : World) : Prop :=
  (∃ (t : Tr) (p g : Nat), IsE nds ∧ AreP (its.map It.dat) ∧ Post nds t ∧ e = .returned (.slice (some ⟨g, 0, none⟩) n n) ∧ CtIn w' B lo p t (some ⟨g, 0, none⟩) n its) ∨ (¬ (IsE nds ∧ AreP (its.map It.dat)) ∧ e = .returned (.slice none 0 0))
set_option maxRecDepth 20000 in
set_option maxHeartbeats 1600000 in
theorem iContest (w : World) (B : Nat) (A : Option Addr) (n c : Nat) (its : List It) (A2 : Option Addr) (n2 c2 : Nat) (ns : List Nd) (h : InB w B A n its A2 n2 c2 ns) :
    Calls Try.prog 28 #[.slice A n c, .slice A2 n2 c2] w fun e w' => ContOut B w.heap.size (datN ns) its n e w' ∧ Below w.heap.size w w' := by
  have HT := Lib.hid (iTreeOfW w B A2 n2 c2 ns h.e h.hB h.hnc h.hc h.se)
  obtain ⟨qa, hqa⟩ := bool_of (AreP (its.map It.dat))
  have HA : Hid (∀ w1, Below w.heap.size w w1 → Calls Try.prog 49 #[.slice A n c] w1 fun e w' => e = .returned (.bool qa) ∧ Below w1.heap.size w1 w') := Lib.hid fun w1 h1 => iAre w1 B A n c its (h.below h1).i (h.below h1).hB qa hqa
  have HX := Lib.hid h.i
  have hB := h.hB
  have hn := h.hn
  have HQ := Lib.hid hqa
  generalize datN ns = nds at *
  clear h hqa
  go_enter Try.func28, Try.ntmps28
  go_wp2_with fail
  refine HT.out.mono ?_
  rintro e w1 ⟨hout, hb1⟩
  have HB1 := Lib.hid hb1
  clear hb1 HT
  rcases hout with ⟨he, t, p, ht, rfl, hpa⟩ | ⟨he, rfl⟩
  · have HE := Lib.hid he
    have HPo := Lib.hid ht
    have HPa := Lib.hid hpa
    clear he ht hpa
    go_wp2_with fail
    refine (HA.out _ HB1.out).mono ?_
    rintro e w2 ⟨rfl, hb2⟩
    have HB2 := Lib.hid (below_on HB1.out hb2)
    have HPa2 := Lib.hid (HPa.out.below (Nat.le_trans hB HB1.out.size) hb2)
    clear hb2 HPa
    cases qa
    · go_wp2
      go_ret
      exact ⟨.inr ⟨(fun hh => by have := HQ.out.2 hh.2; cases this), rfl⟩, HB2.out⟩
    · have HAr : Hid (AreP (its.map It.dat)) := Lib.hid (HQ.out.1 (by first | rfl | trivial))
      have hmk := make_ct n hn
      go_wp2
      clear hmk
      obtain ⟨g, hg⟩ : ∃ g, g = w2.heap.size := ⟨_, rfl⟩
      have HR0 : Hid ((w2.alloc (.cells (madeCells #[.int .i64 0, .slice none 0 0, .pointer none] (n * 3)) 69)).rowIs g 69 (n * 3) (ctCell p (its.take 0))) := Lib.hid (hg ▸ made_ct w2 n p)
      have HW0 : Hid (Below w2.heap.size w2 (w2.alloc (.cells (madeCells #[.int .i64 0, .slice none 0 0, .pointer none] (n * 3)) 69))) := Lib.hid ((Below.refl _ _).alloc (Nat.le_refl _) _)
      rw [← hg]
      generalize (w2.alloc (.cells (madeCells #[.int .i64 0, .slice none 0 0, .pointer none] (n * 3)) 69)) = w3 at *
      have HG := Lib.hid hg
      clear hg
      go_loopw [23] (fun i wr => ∃ k : Nat, k ≤ n ∧ i = .int .i64 k ∧ wr.rowIs g 69 (n * 3) (ctCell p (its.take k)) ∧ Below w2.heap.size w2 wr) (fun i _ => n - (intOf i).toNat)
      case atStart => exact ⟨0, Nat.zero_le _, rfl, HR0.out, HW0.out⟩
      case round =>
        obtain ⟨k, hk, rfl, hrow, hbel⟩ := hrel
        have HR := Lib.hid hrow
        have HB := Lib.hid hbel
        by_cases hlt : k < n
        · obtain ⟨b1, off, x, rfl, hb1, hat, d0, d1, -⟩ := HX.out.at k hlt
          have hbw : b1 < w2.heap.size := Nat.lt_of_lt_of_le hb1 (Nat.le_trans hB HB2.out.size)
          have f0 := (hbel.cell (p := ⟨b1, off + k * 2, none⟩) hbw).trans ((HB2.out.cell (p := ⟨b1, off + k * 2, none⟩) (Nat.lt_of_lt_of_le hb1 hB)).trans d0)
          have f1 := (hbel.cell (p := ⟨b1, off + k * 2 + 1, none⟩) hbw).trans ((HB2.out.cell (p := ⟨b1, off + k * 2 + 1, none⟩) (Nat.lt_of_lt_of_le hb1 hB)).trans d1)
          have HAt := Lib.hid hat
          have hlk : (its.take k).length = k := by rw [List.length_take, HX.out.1]; omega
          have hz := ctCell_zero (p := p) hlk
          have g0 : wr.cell? ⟨g, k * 3, none⟩ = some (.int .i64 0) := by rw [World.rowIs.cell hrow (by omega), hz.1]
          have g1 : wr.cell? ⟨g, k * 3 + 1, none⟩ = some (.slice none 0 0) := by rw [World.rowIs.cell hrow (by omega), hz.2.1]
          have g2 : wr.cell? ⟨g, k * 3 + 2, none⟩ = some (.pointer none) := by rw [World.rowIs.cell hrow (by omega), hz.2.2]
          have z0 := World.rowIs.frozen hrow (k * 3)
          have z1 := World.rowIs.frozen hrow (k * 3 + 1)
          have z2 := World.rowIs.frozen hrow (k * 3 + 2)
          have hgl := World.rowIs.lt hrow
          have HLk := Lib.hid hlk
          have hsz := Lib.hid hbel.size
          clear hrow hbel d0 d1 hat hlk hz
          go_wp2
          go_roundw
          case rel =>
            refine ⟨k + 1, by omega, by go_num, ?_, ?_⟩
            · rw [take_at HAt.out]
              exact (World.rowIs.alloc (World.rowIs.set (World.rowIs.set (World.rowIs.set HR.out (k * 3) (.int .i64 x.id)) (k * 3 + 1) (.slice x.A x.n x.c)) (k * 3 + 2) (.pointer (some ⟨p, 0, none⟩))) _).congr (fun j _ => ctCell_snoc HLk.out x j)
            · exact (((HB.out.setCell (by rw [HG.out]; exact Nat.le_refl _) _).setCell (by rw [HG.out]; exact Nat.le_refl _) _).setCell (by rw [HG.out]; exact Nat.le_refl _) _).alloc (by simp [World.setCell]; exact hsz.out) _
          case measure => simp [intOf]; omega
        · obtain rfl : k = n := by omega
          clear hrow hbel
          go_wp2
          go_ret
          have HBw := HB2.out.trans (HB.out.mono HB2.out.size)
          refine ⟨.inl ⟨t, p, g, HE.out, HAr.out, HPo.out, rfl, ?_⟩, HBw⟩
          have hR := HR.out
          rw [take_all HX.out.1] at hR
          have hown : OwnG 69 (ctCells p) 3 wr g (.slice (some ⟨g, 0, none⟩) k k) its := OwnG.of_row (ctCells_len p) (Nat.le_refl _) HX.out.1 (Nat.le_refl _) (by unfold maxLen; omega) hR fun j hj => cellG_own (ctCells_len p) zC HX.out.1 hj
          exact ⟨OwnG.read (ctCells_len p) hown, fun u hu => ⟨(HX.out.mem hu).below (HBw.mono hB), HAr.out.1 _ (List.mem_map_of_mem hu)⟩, HPa2.out.below (Nat.le_trans hB HB2.out.size) HB.out, Nat.le_trans hB HBw.size⟩
  · have HE := Lib.hid he
    clear he
    go_wp2
    go_ret
    exact ⟨.inr ⟨fun hh => HE.out hh.1, rfl⟩, HB1.out⟩
/-! The functions. -/
theorem three_set {w : World} {g : Nat} {T : TypeId} {u0 u1 u2 v0 v1 v2 : Value} (h : w.heap[g]? = some (.cells #[u0, u1, u2] T (0, 0))) : (((w.setCell ⟨g, 0, none⟩ v0).setCell ⟨g, 1, none⟩ v1).setCell ⟨g, 2, none⟩ v2).heap[g]? = some (.cells #[v0, v1, v2] T (0, 0)) := by
  have h := heap_setCell_same _ g 2 _ _ v2 (heap_setCell_same _ g 1 _ _ v1 (heap_setCell_same w g 0 _ _ v0 h))
  simpa using h
theorem block_alloc {w : World} {g : Nat} {o : Obj} (h : w.heap[g]? = some o) (o2 : Obj) : (w.alloc o2).heap[g]? = some o := (Below.heap_alloc _ _ _ (lt_of_block h)).trans h
set_option maxRecDepth 20000 in
set_option maxHeartbeats 1600000 in
theorem ctFind (w : World) (p : Nat) (A : Option Addr) (n c : Nat) (its : List It) (h : ReadG (ctCells p) 3 w w.heap.size A n its) (hn : n ≤ 1048576) (x0 : Int) :
    Calls Try.prog 47 #[.slice A n c, .int .i64 x0] w fun e w' => ((∃ x, x ∈ its ∧ findD (its.map It.dat) x0 = some x.dat ∧ e = .returned (.tuple #[.agg #[.int .i64 x.id, .slice x.A x.n x.c, .pointer (some ⟨p, 0, none⟩)], .bool true])) ∨ (findD (its.map It.dat) x0 = none ∧ e = .returned (.tuple #[.agg #[.int .i64 0, .slice none 0 0, .pointer none], .bool false]))) ∧ Below w.heap.size w w' := by
  have HX := Lib.hid h
  have HR0 : Hid ((w.alloc (.cells #[.int .i64 0, .slice none 0 0, .pointer none] 69)).heap[w.heap.size]? = some (.cells #[.int .i64 0, .slice none 0 0, .pointer none] 69 (0, 0))) := Lib.hid (heap_alloc_new w _)
  have HB0 : Hid (Below w.heap.size w (w.alloc (.cells #[.int .i64 0, .slice none 0 0, .pointer none] 69))) := Lib.hid ((Below.refl _ w).alloc (Nat.le_refl _) _)
  clear h
  go_enter Try.func47, Try.ntmps47
  go_wp2
  go_loopw [10] (fun i wr => ∃ k : Nat, k ≤ n ∧ i = .int .i64 k ∧ (∀ u ∈ its.take k, u.id ≠ x0) ∧ wr.heap[w.heap.size]? = some (.cells #[.int .i64 0, .slice none 0 0, .pointer none] 69 (0, 0)) ∧ Below w.heap.size w wr) (fun i _ => n - (intOf i).toNat)
  case atStart => exact ⟨0, Nat.zero_le _, rfl, by simp, HR0.out, HB0.out⟩
  case round =>
    obtain ⟨k, hk, rfl, hall, hrow, hbel⟩ := hrel
    have HA := Lib.hid hall
    have HB := Lib.hid hbel
    have HR := Lib.hid hrow
    have hsz := Lib.hid hbel.size
    have g0 : wr.cell? ⟨w.heap.size, 0, none⟩ = some (.int .i64 0) := cell_of_row wr _ 0 _ _ (0, 0) hrow
    have g1 : wr.cell? ⟨w.heap.size, 1, none⟩ = some (.slice none 0 0) := cell_of_row wr _ 1 _ _ (0, 0) hrow
    have g2 : wr.cell? ⟨w.heap.size, 2, none⟩ = some (.pointer none) := cell_of_row wr _ 2 _ _ (0, 0) hrow
    have z0 : wr.frozen? ⟨w.heap.size, 0, none⟩ = false := frozen_of_row wr _ 0 _ _ hrow
    have z1 : wr.frozen? ⟨w.heap.size, 1, none⟩ = false := frozen_of_row wr _ 1 _ _ hrow
    have z2 : wr.frozen? ⟨w.heap.size, 2, none⟩ = false := frozen_of_row wr _ 2 _ _ hrow
    have hgl := lt_of_block hrow
    clear hall hrow
    by_cases hlt : k < n
    · obtain ⟨b, off, x, rfl, hb, hat, d0, d1, d2⟩ := ct_at HX.out k hlt
      have f0 := (hbel.cell (p := ⟨b, off + k * 3, none⟩) hb).trans d0
      have f1 := (hbel.cell (p := ⟨b, off + k * 3 + 1, none⟩) hb).trans d1
      have f2 := (hbel.cell (p := ⟨b, off + k * 3 + 2, none⟩) hb).trans d2
      have HAt := Lib.hid hat
      have hlt' : (k : Int) < (n : Int) := by omega
      clear d0 d1 d2 hat hbel
      by_cases he : x.id = x0
      · have he' : (x.id == x0) = true := by simpa using he
        have HE := Lib.hid he
        have HF : Hid (findD (its.map It.dat) x0 = some x.dat) := Lib.hid (findD_yes (k := k) (by rw [List.getElem?_map, HAt.out]; rfl) he fun u hu => by
          rw [← List.map_take] at hu
          obtain ⟨v, hv, rfl⟩ := List.mem_map.1 hu
          exact HA.out v hv)
        clear he
        go_wp2
        refine bodyPost_ret_by (results_row_tmp rfl _ _ w.heap.size 69 #[.int .i64 x.id, .slice x.A x.n x.c, .pointer (some ⟨p, 0, none⟩)] (0, 0) _ rfl (by first | exact three_set (block_alloc HR.out _) | exact block_alloc (three_set HR.out) _) Try.underlying69 rfl (by kernel_rfl)) rfl ?_
        exact ⟨.inl ⟨x, mem_of_at HAt.out, HF.out, rfl⟩, by first | exact (((HB.out.alloc hsz.out _).setCell (Nat.le_refl _) _).setCell (Nat.le_refl _) _).setCell (Nat.le_refl _) _ | exact (((HB.out.setCell (Nat.le_refl _) _).setCell (Nat.le_refl _) _).setCell (Nat.le_refl _) _).alloc (by simp [World.setCell]; exact hsz.out) _⟩
      · have he' : (x.id == x0) = false := by simpa using he
        have HE := Lib.hid he
        clear he
        go_wp2
        go_roundw
        case rel => exact ⟨k + 1, by omega, by go_num, ne_step HAt.out HA.out HE.out, block_alloc HR.out _, HB.out.alloc hsz.out _⟩
        case measure => simp [intOf]; omega
    · obtain rfl : k = n := by omega
      have HF : Hid (findD (its.map It.dat) x0 = none) := Lib.hid (findD_no fun d hd => by
        obtain ⟨u, hu, rfl⟩ := List.mem_map.1 hd
        have h := HA.out
        rw [take_all HX.out.len] at h
        exact h u hu)
      clear hbel
      go_wp2
      refine bodyPost_ret_by (results_row_tmp rfl _ _ w.heap.size 69 #[.int .i64 0, .slice none 0 0, .pointer none] (0, 0) _ rfl (three_set HR.out) Try.underlying69 rfl (by kernel_rfl)) rfl ?_
      exact ⟨.inr ⟨HF.out, rfl⟩, ((HB.out.setCell (Nat.le_refl _) _).setCell (Nat.le_refl _) _).setCell (Nat.le_refl _) _⟩
end Go.Proofs.Ytnjnlcmddcjcfaa.num
namespace Go.Proofs.Ytnjnlcmddcjcfaa.num
set_option maxRecDepth 20000
open Go.RowKit
set_option linter.unusedVariables false
set_option linter.unusedSimpArgs false

/-- A world that keeps all that was there. -/
structure BW (W : World) where
  w : World
  h : Below W.heap.size W w
instance (W : World) : Inhabited (BW W) := ⟨⟨W, Below.refl _ W⟩⟩
theorem wp_quiet_bw {P : Program} {id : Nat} {Q : Exit → Act → World → Prop} {a : Act} {w : World} {l : List Oper} (hm : P.follows .mixedOrders = true) (hB : Region.lexB .any l.toArray = true)
    (h : wpQuiet P l.toArray (fun w' => ∃ p : BW w, w' = p.w) (fun a' => ∀ w', (∃ p : BW w, w' = p.w) → Q .normal a' w') l a) : (Code.region id l.toArray true).wp P Q a w := by
  refine wp_region_quiet (ops := l.toArray) (C := fun w' => ∃ p : BW w, w' = p.w) hm hB ⟨⟨w.drew, (Below.refl _ w).drew⟩, rfl⟩ ?_
  exact h
theorem BW.calls {P : Program} {f : FuncId} {args : Array Value} {W : World} {p : BW W} {v : Value}
    (h : Calls P f args p.w fun e w' => e = .returned v ∧ Below p.w.heap.size p.w w') : Calls P f args p.w fun e w' => e = .returned v ∧ ∃ q : BW W, w' = q.w :=
  h.mono fun _ w' ⟨he, hb⟩ => ⟨he, ⟨w', below_on p.h hb⟩, rfl⟩

/-- How many are better than it. -/
def rankI (t : Tr) (its : List It) (x : It) : Nat := (its.filter fun u => btD t u.dat x.dat).length
theorem rankI_le (t : Tr) (its : List It) (x : It) : rankI t its x ≤ its.length := List.length_filter_le _ _
theorem rankI_dom (t : Tr) (its : List It) (x : It) : (domD t (its.map It.dat) x.dat).length = rankI t its x := by
  unfold domD rankI
  rw [List.filter_map, List.length_map]
  rfl
def BandP (nds : List ND) (ds : List Dt) (k : Int) (r : List Int) : Prop := AnsP nds ds (fun t => idsD (ds.filter fun d => decide (((domD t ds d).length : Int) < k))) [] r
theorem BandP.some (nds : List ND) (ds : List Dt) (k : Int) : ∃ r, BandP nds ds k r := AnsP.some _ _ _ _
theorem BandP.small {nds : List ND} {ds : List Dt} {k : Int} {r : List Int} (h : BandP nds ds k r) : r.length ≤ 16 := AnsP.all h (P := fun r => r.length ≤ 16) (fun ha t _ => ids_le ha) (by simp)
theorem band_ids (t : Tr) (its : List It) (k : Int) : idsD ((its.map It.dat).filter fun d => decide (((domD t (its.map It.dat) d).length : Int) < k)) = idL (its.filter fun u => decide ((rankI t its u : Int) < k)) := by
  rw [ids_fil]
  congr 1
  apply List.filter_congr
  intro u _
  rw [rankI_dom]

set_option maxRecDepth 20000 in
set_option maxHeartbeats 800000 in
theorem iRank (w : World) (B lo p : Nat) (t : Tr) (A : Option Addr) (n c : Nat) (its : List It) (h : CtIn w B lo p t A n its) (hn : n ≤ 1048576) (x : It) (hx : Ints w B x.A x.n x.xs) (px : IsP x.dat) :
    Calls Try.prog 35 #[.slice A n c, ctV p x] w fun e w' => e = .returned (.int .i64 (rankI t its x : Nat)) ∧ Below w.heap.size w w' := by
  have HC : Hid (∀ w1, Below w.heap.size w w1 → Calls Try.prog 33 #[.slice A n c, .func (.func 53) #[.agg #[.int .i64 x.id, .slice x.A x.n x.c, .pointer (some ⟨p, 0, none⟩)]] #[]] w1 fun e w' => (∃ v, e = .returned v ∧ OwnG 69 (ctCells p) 3 w' w1.heap.size v (its.filter fun u => btD t u.dat x.dat)) ∧ Below w1.heap.size w1 w') := Lib.hid fun w1 h1 =>
    ctWhere w1 p A n c its (h.step h1).r hn _ (by simp) _ _ fun W hW u hu => by
      have h2 := h.step (below_on h1 hW)
      exact iBeaten W B lo p t x u h2.t h2.hB (hx.below ((below_on h1 hW).mono h.hB)) (h2.x u hu).1 px (h2.x u hu).2
  have hvx : ctV p x = .agg #[.int .i64 x.id, .slice x.A x.n x.c, .pointer (some ⟨p, 0, none⟩)] := rfl
  rw [hvx]
  clear hvx h hx px
  have HB0 : Hid (Below w.heap.size w (w.alloc (.cells #[.int .i64 x.id, .slice x.A x.n x.c, .pointer (some ⟨p, 0, none⟩)] 69))) := Lib.hid ((Below.refl _ w).alloc (Nat.le_refl _) _)
  go_enter Try.func35, Try.ntmps35
  go_wp2_with fail
  refine (HC.out _ HB0.out).mono ?_
  rintro e w1 ⟨⟨v, rfl, ho⟩, hb1⟩
  have HB1 := Lib.hid (below_on HB0.out hb1)
  obtain ⟨Aw, cw, rfl, -, -⟩ := ho.shape
  clear ho hb1
  go_wp2
  go_ret
  exact ⟨rfl, HB1.out⟩

set_option maxRecDepth 20000 in
set_option maxHeartbeats 1600000 in
/-- The band's test: the contest and the bound lie in variables. -/
theorem bandCls (W : World) (B lo p : Nat) (t : Tr) (A : Option Addr) (n c : Nat) (its : List It) (h : CtIn W B lo p t A n its) (hn : n ≤ 1048576) (bc bk : Nat) (k : Int)
    (hbc : W.cell? ⟨bc, 0, none⟩ = some (.slice A n c)) (hcl : bc < W.heap.size) (hbk : W.cell? ⟨bk, 0, none⟩ = some (.int .i64 k)) (hkl : bk < W.heap.size) (x : It) (hx : Ints W B x.A x.n x.xs) (px : IsP x.dat) :
    Calls Try.prog 34 #[ctV p x, .pointer (some ⟨bc, 0, none⟩), .pointer (some ⟨bk, 0, none⟩)] W fun e w' => e = .returned (.bool (decide ((rankI t its x : Int) < k))) ∧ Below W.heap.size W w' := by
  have hvx : ctV p x = .agg #[.int .i64 x.id, .slice x.A x.n x.c, .pointer (some ⟨p, 0, none⟩)] := rfl
  have hb0 : Below W.heap.size W (W.alloc (.cells #[.int .i64 x.id, .slice x.A x.n x.c, .pointer (some ⟨p, 0, none⟩)] 69)) := (Below.refl _ W).alloc (Nat.le_refl _) _
  have hX := Box3.new W p x 69
  have HR : Hid (∀ W1, Below W.heap.size W W1 → Calls Try.prog 35 #[.slice A n c, .agg #[.int .i64 x.id, .slice x.A x.n x.c, .pointer (some ⟨p, 0, none⟩)]] W1 fun e w' => e = .returned (.int .i64 (rankI t its x : Nat)) ∧ Below W1.heap.size W1 w') := Lib.hid fun W1 h1 => iRank W1 B lo p t A n c its (h.step h1) hn x (hx.below (h1.mono h.hB)) px
  generalize (rankI t its x : Nat) = r at *
  have HD : Hid (∃ z, decide ((r : Int) < k) = z) := Lib.hid ⟨_, rfl⟩
  rw [hvx]
  clear h hx px hvx
  go_enter Try.func34, Try.ntmps34
  go_wp2_with fail
  obtain ⟨W2, hW2⟩ : ∃ W2, W.alloc (.cells #[.int .i64 x.id, .slice x.A x.n x.c, .pointer (some ⟨p, 0, none⟩)] 69) = W2 := ⟨_, rfl⟩
  rw [hW2] at hb0 hX
  try rw [hW2]
  have fc : ∀ q : BW W2, q.w.cell? ⟨bc, 0, none⟩ = some (.slice A n c) := fun q => (q.h.cell (p := ⟨bc, 0, none⟩) (by have := hb0.size; show bc < _; omega)).trans ((hb0.cell (p := ⟨bc, 0, none⟩) hcl).trans hbc)
  have fk : ∀ q : BW W2, q.w.cell? ⟨bk, 0, none⟩ = some (.int .i64 k) := fun q => (q.h.cell (p := ⟨bk, 0, none⟩) (by have := hb0.size; show bk < _; omega)).trans ((hb0.cell (p := ⟨bk, 0, none⟩) hkl).trans hbk)
  have f0 : ∀ q : BW W2, q.w.cell? ⟨W.heap.size, 0, none⟩ = some (.int .i64 x.id) := fun q => (hX.below q.h).2.1
  have f1 : ∀ q : BW W2, q.w.cell? ⟨W.heap.size, 1, none⟩ = some (.slice x.A x.n x.c) := fun q => (hX.below q.h).2.2.1
  have f2 : ∀ q : BW W2, q.w.cell? ⟨W.heap.size, 2, none⟩ = some (.pointer (some ⟨p, 0, none⟩)) := fun q => (hX.below q.h).2.2.2
  have HB : Hid (∀ q : BW W2, Below W.heap.size W q.w) := Lib.hid fun q => below_on hb0 q.h
  clear hbc hbk hcl hkl hb0 hX hW2
  refine wp_quiet_bw (by kernel_rfl) (by kernel_rfl) ?_
  repeat (quiet_step ((rename_i q; go_at_call 35; exact BW.calls (HR.out q.w (HB.out q)))))
  refine wpQuiet_nil ?_
  rintro _ ⟨q, rfl⟩
  go_wp2
  go_ret
  exact ⟨rfl, HB.out q⟩
/-! The functions. -/
set_option maxRecDepth 20000 in
set_option maxHeartbeats 1600000 in
theorem bandWhere (w : World) (p : Nat) (A : Option Addr) (n c : Nat) (its : List It) (h : ReadG (ctCells p) 3 w w.heap.size A n its) (hn : n ≤ 1048576) (bc bk : Nat) (hold : It → Bool)
    (HC : ∀ W, Below w.heap.size w W → ∀ u ∈ its, Calls Try.prog 34 #[ctV p u, .pointer (some ⟨bc, 0, none⟩), .pointer (some ⟨bk, 0, none⟩)] W fun e w' => e = .returned (.bool (hold u)) ∧ Below W.heap.size W w') :
    Calls Try.prog 33 #[.slice A n c, .func (.func 34) #[] #[.pointer (some ⟨bc, 0, none⟩), .pointer (some ⟨bk, 0, none⟩)]] w fun e w' => (∃ v, e = .returned v ∧ OwnG 69 (ctCells p) 3 w' w.heap.size v (its.filter hold)) ∧ Below w.heap.size w w' := by
  have HX := Lib.hid h
  have HF : Hid (∀ W, Below w.heap.size w W → ∀ u ∈ its, ∀ z, hold u = z → Calls Try.prog 34 #[.agg #[.int .i64 u.id, .slice u.A u.n u.c, .pointer (some ⟨p, 0, none⟩)], .pointer (some ⟨bc, 0, none⟩), .pointer (some ⟨bk, 0, none⟩)] W fun e w' => e = .returned (.bool z) ∧ Below W.heap.size W w') := Lib.hid fun W hW u hu z hz => by rw [← hz]; exact HC W hW u hu
  clear h HC
  go_enter Try.func33, Try.ntmps33
  go_wp2
  go_loopw [5, 10] (fun v i wr => ∃ k : Nat, k ≤ n ∧ i = .int .i64 k ∧ OwnG 69 (ctCells p) 3 wr w.heap.size v ((its.take k).filter hold) ∧ Below w.heap.size w wr) (fun _ i _ => n - (intOf i).toNat)
  case atStart => exact ⟨0, Nat.zero_le _, rfl, OwnG.nil _ _, Below.refl _ _⟩
  case round =>
    obtain ⟨k, hk, rfl, hown, hbel⟩ := hrel
    have HO := Lib.hid hown
    have HB := Lib.hid hbel
    clear hown
    by_cases hlt : k < n
    · obtain ⟨b, off, x, rfl, hb, hat, d0, d1, d2⟩ := ct_at HX.out k hlt
      have f0 := (hbel.cell (p := ⟨b, off + k * 3, none⟩) hb).trans d0
      have f1 := (hbel.cell (p := ⟨b, off + k * 3 + 1, none⟩) hb).trans d1
      have f2 := (hbel.cell (p := ⟨b, off + k * 3 + 2, none⟩) hb).trans d2
      have HAt := Lib.hid hat
      have hlt' : (k : Int) < (n : Int) := by omega
      obtain ⟨z, hz⟩ : ∃ z, hold x = z := ⟨_, rfl⟩
      have HZ := Lib.hid hz
      have HC1 := Lib.hid (fun W (hW : Below w.heap.size w W) => HF.out W hW x (mem_of_at hat) z hz)
      have HBa : Hid (Below w.heap.size w (wr.alloc (.cells #[.int .i64 x.id, .slice x.A x.n x.c, .pointer (some ⟨p, 0, none⟩)] 69))) := Lib.hid (HB.out.alloc HB.out.size _)
      have Xx : Hid (Box3 (wr.alloc (.cells #[.int .i64 x.id, .slice x.A x.n x.c, .pointer (some ⟨p, 0, none⟩)] 69)) wr.heap.size p x) := Lib.hid (Box3.new _ _ _ _)
      have HOa := Lib.hid (HO.out.below ((Below.refl _ wr).alloc (Nat.le_refl _) (.cells #[.int .i64 x.id, .slice x.A x.n x.c, .pointer (some ⟨p, 0, none⟩)] 69)))
      have HLn : Hid ((((its.take k).filter hold).length + 1) * 40 ≤ 140737488355328) := Lib.hid (by
        have h1 : ((its.take k).filter hold).length ≤ (its.take k).length := List.length_filter_le _ _
        rw [List.length_take] at h1
        omega)
      clear d0 d1 d2 hat hbel hz
      go_wp2_with fail
      refine (HC1.out _ HBa.out).mono ?_
      rintro e w2 ⟨rfl, hb2⟩
      have HB2 := Lib.hid (below_on HBa.out hb2)
      have HO2 := Lib.hid (HOa.out.below hb2)
      have Xx2 := Lib.hid (Xx.out.below hb2)
      clear hb2 f0 f1 f2 HC1 HBa HOa Xx
      cases z
      · go_wp2
        go_roundw
        case rel => exact ⟨k + 1, by omega, by go_num, by rw [filter_step HAt.out, HZ.out]; simpa using HO2.out, HB2.out⟩
        case measure => simp [intOf]; omega
      · obtain ⟨x_g, x_0, x_1, x_2⟩ := Xx2.out
        go_wp2_with (at_builtin; refine wp_appG (ctCells_len p) (ctCells_one p) (T := 69) (tS := 61) Try.underlying61 info_ct rfl (by decide) w2 (by rfl) (.tmp 17) (.tmp 19) (by rfl) w.heap.size _ _ (by rfl) HO2.out _ x (by rfl) 1 _ rfl (by rfl) HLn.out (by decide) HB2.out.size ?_)
        intro v' w3 hr hg hat
        have HO3 := Lib.hid hr
        have HB3 := Lib.hid (HB2.out.grown hg HB2.out.size (fun k hk => HO2.out.lows k hk))
        clear hr hg hat x_g x_0 x_1 x_2
        go_wp2
        go_roundw
        case rel => exact ⟨k + 1, by omega, by go_num, by rw [filter_step HAt.out, HZ.out]; exact HO3.out, HB3.out⟩
        case measure => simp [intOf]; omega
    · obtain rfl : k = n := by omega
      have HO1 : Hid (OwnG 69 (ctCells p) 3 wr w.heap.size u5 (its.filter hold)) := Lib.hid (by have h := HO.out; rwa [take_all HX.out.len] at h)
      clear hbel
      go_wp2
      go_ret
      exact ⟨⟨_, rfl, HO1.out⟩, HB.out⟩
set_option maxRecDepth 20000 in
set_option maxHeartbeats 1600000 in
theorem iSky (w : World) (B : Nat) (A : Option Addr) (n c : Nat) (its : List It) (A2 : Option Addr) (n2 c2 : Nat) (ns : List Nd) (h : InB w B A n its A2 n2 c2 ns) (k : Int) (L : List Int) (hL : BandP (datN ns) (its.map It.dat) k L) :
    Calls Try.prog 14 #[.slice A n c, .slice A2 n2 c2, .int .i64 k] w fun e w' => (∃ v, e = .returned v ∧ OwnI w' w.heap.size v L) ∧ Below w.heap.size w w' := by
  obtain ⟨Wk, hWk⟩ : ∃ Wk, w.alloc (.cells #[.int .i64 k] 3) = Wk := ⟨_, rfl⟩
  have hb0 : Below w.heap.size w Wk := by rw [← hWk]; exact (Below.refl _ w).alloc (Nat.le_refl _) _
  have hk0 : Wk.cell? ⟨w.heap.size, 0, none⟩ = some (.int .i64 k) := by rw [← hWk]; exact World.cell?_alloc_at _ _ _ _ rfl
  have hkl : w.heap.size < Wk.heap.size := by rw [← hWk]; simp
  have HC := Lib.hid (iContest Wk B A n c its A2 n2 c2 ns (h.below hb0))
  have HX := Lib.hid h.i
  have hn := h.hn
  have HL := Lib.hid hL
  have HB0 := Lib.hid hb0
  have HK0 := Lib.hid (And.intro hk0 hkl)
  clear h hL hk0 hb0 hkl
  go_enter Try.func14, Try.ntmps14
  go_wp2_with fail
  try rw [hWk]
  clear hWk
  refine HC.out.mono ?_
  rintro e w1 ⟨hout, hb1⟩
  have HB1 := Lib.hid hb1
  have HK1 : Hid (w1.cell? ⟨w.heap.size, 0, none⟩ = some (.int .i64 k) ∧ w.heap.size < w1.heap.size) := Lib.hid ⟨(hb1.cell (p := ⟨w.heap.size, 0, none⟩) HK0.out.2).trans HK0.out.1, Nat.lt_of_lt_of_le HK0.out.2 hb1.size⟩
  clear hb1 HC
  rcases hout with ⟨t, p, g, he, ha, ht, rfl, hct⟩ | ⟨hno, rfl⟩
  · have HLe : Hid (L = idL (its.filter fun u => decide ((rankI t its u : Int) < k))) := Lib.hid (by rw [HL.out.yes he ha ht]; exact band_ids t its k)
    have HCt := Lib.hid hct
    clear he ha ht hct
    obtain ⟨W2, hW2⟩ : ∃ W2, w1.alloc (.cells #[.slice (some ⟨g, 0, none⟩) n n] 61) = W2 := ⟨_, rfl⟩
    have hb2 : Below Wk.heap.size Wk W2 := by rw [← hW2]; exact HB1.out.alloc HB1.out.size _
    have hb12 : Below w1.heap.size w1 W2 := by rw [← hW2]; exact (Below.refl _ w1).alloc (Nat.le_refl _) _
    have hc0 : W2.cell? ⟨w1.heap.size, 0, none⟩ = some (.slice (some ⟨g, 0, none⟩) n n) := by rw [← hW2]; exact World.cell?_alloc_at _ _ _ _ rfl
    have hcl : w1.heap.size < W2.heap.size := by rw [← hW2]; simp
    have HB2 := Lib.hid (below_on HB0.out hb2)
    have HB12 := Lib.hid hb12
    have HC0 := Lib.hid (And.intro hc0 hcl)
    have HW2 := Lib.hid hW2
    clear hb2 hb12 hcl hc0 hW2
    go_wp2_with fail
    try rw [HW2.out]
    clear HW2
    refine (bandWhere W2 p (some ⟨g, 0, none⟩) n n its (HCt.out.step HB12.out).r (by omega) w1.heap.size w.heap.size (fun u => decide ((rankI t its u : Int) < k)) (fun W hW u hu => by
        have hs := (HCt.out.step HB12.out).step hW
        exact bandCls W B Wk.heap.size p t _ n n its hs hn w1.heap.size w.heap.size k ((hW.cell (p := ⟨w1.heap.size, 0, none⟩) HC0.out.2).trans HC0.out.1) (Nat.lt_of_lt_of_le HC0.out.2 hW.size) ((hW.cell (p := ⟨w.heap.size, 0, none⟩) (Nat.lt_of_lt_of_le HK1.out.2 HB12.out.size)).trans ((HB12.out.cell (p := ⟨w.heap.size, 0, none⟩) HK1.out.2).trans HK1.out.1)) (Nat.lt_of_lt_of_le HK1.out.2 (Nat.le_trans HB12.out.size hW.size)) u (hs.x u hu).1 (hs.x u hu).2)).mono ?_
    rintro e w3 ⟨⟨v3, rfl, ho⟩, hb3⟩
    have HB3 := Lib.hid (below_on HB2.out hb3)
    have hle : (its.filter fun u => decide ((rankI t its u : Int) < k)).length ≤ 1048576 := Nat.le_trans (List.length_filter_le _ _) (by first | simp | (rw [HX.out.1]; exact hn))
    obtain ⟨Aw, cw, rfl, -, -⟩ := ho.shape
    have HOw := Lib.hid ho
    clear ho hb3
    have hrd := OwnG.read (ctCells_len p) HOw.out
    have HRd := Lib.hid hrd
    clear hrd
    go_wp2_with fail
    refine (ctIds w3 p Aw _ cw _ HRd.out hle).mono ?_
    rintro e w4 ⟨⟨v, rfl, ho⟩, hb4⟩
    have HB4 := Lib.hid (below_on HB3.out hb4)
    have HI := Lib.hid (ownI_lower ho HB3.out.size)
    clear ho hb4 hle
    go_wp2
    go_ret
    exact ⟨⟨_, rfl, by rw [HLe.out]; exact HI.out⟩, HB4.out⟩
  · obtain rfl := HL.out.no hno
    clear hno
    obtain ⟨W2, hW2⟩ : ∃ W2, w1.alloc (.cells #[.slice none 0 0] 61) = W2 := ⟨_, rfl⟩
    have hb2 : Below Wk.heap.size Wk W2 := by rw [← hW2]; exact HB1.out.alloc HB1.out.size _
    have hb12 : Below w1.heap.size w1 W2 := by rw [← hW2]; exact (Below.refl _ w1).alloc (Nat.le_refl _) _
    have hc0 : W2.cell? ⟨w1.heap.size, 0, none⟩ = some (.slice none 0 0) := by rw [← hW2]; exact World.cell?_alloc_at _ _ _ _ rfl
    have hcl : w1.heap.size < W2.heap.size := by rw [← hW2]; simp
    have HB2 := Lib.hid (below_on HB0.out hb2)
    have HB12 := Lib.hid hb12
    have HC0 := Lib.hid (And.intro hc0 hcl)
    have HW2 := Lib.hid hW2
    clear hb2 hb12 hcl hc0 hW2
    go_wp2_with fail
    try rw [HW2.out]
    clear HW2
    refine (bandWhere W2 0 none 0 0 ([] : List It) (ReadG.nil _ _ _) (by omega) w1.heap.size w.heap.size (fun u => false) (fun W hW u hu => absurd hu (by simp))).mono ?_
    rintro e w3 ⟨⟨v3, rfl, ho⟩, hb3⟩
    have HB3 := Lib.hid (below_on HB2.out hb3)
    have hle : (([] : List It).filter fun u => false).length ≤ 1048576 := Nat.le_trans (List.length_filter_le _ _) (by first | simp | (rw [HX.out.1]; exact hn))
    obtain ⟨Aw, cw, rfl, -, -⟩ := ho.shape
    have HOw := Lib.hid ho
    clear ho hb3
    have hrd := OwnG.read (ctCells_len 0) HOw.out
    have HRd := Lib.hid hrd
    clear hrd
    go_wp2_with fail
    refine (ctIds w3 0 Aw _ cw _ HRd.out hle).mono ?_
    rintro e w4 ⟨⟨v, rfl, ho⟩, hb4⟩
    have HB4 := Lib.hid (below_on HB3.out hb4)
    have HI := Lib.hid (ownI_lower ho HB3.out.size)
    clear ho hb4 hle
    go_wp2
    go_ret
    exact ⟨⟨_, rfl, HI.out⟩, HB4.out⟩
end Go.Proofs.Ytnjnlcmddcjcfaa.num
namespace Go.Proofs.Ytnjnlcmddcjcfaa.num
set_option maxRecDepth 20000
open Go.RowKit
set_option linter.unusedVariables false
set_option linter.unusedSimpArgs false

theorem rank_at {nds : List ND} {its : List It} (he : IsE nds) (ha : AreP (its.map It.dat)) {t : Tr} (ht : Post nds t) {u : It} (hu : u ∈ its) : RankP nds (its.map It.dat) u.id (rankI t its u : Nat) := by
  refine .inl ⟨t, he, ha, ht, ?_⟩
  have hf : findD (its.map It.dat) u.id = some u.dat := findD_of ha (List.mem_map_of_mem hu)
  show ((rankI t its u : Nat) : Int) = onFind (its.map It.dat) u.id (-1) fun d => (((domD t (its.map It.dat) d).length : Nat) : Int)
  rw [onFind_some hf, rankI_dom]
set_option maxRecDepth 20000 in
set_option maxHeartbeats 3200000 in
theorem sSky (w : World) (B : Nat) (A : Option Addr) (n c : Nat) (its : List It) (A2 : Option Addr) (n2 c2 : Nat) (ns : List Nd) (h : InB w B A n its A2 n2 c2 ns) (k0 : Int) (L : List Int) (hL : BandP (datN ns) (its.map It.dat) k0 L) :
    Calls Try.prog 13 #[.slice A n c, .slice A2 n2 c2, .int .i64 k0] w fun e w' => (∃ v, e = .returned v ∧ OwnI w' w.heap.size v L) ∧ Below w.heap.size w w' := by
  obtain ⟨q, hq⟩ := bool_of (IsE (datN ns) ∧ AreP (its.map It.dat))
  have HFn : Hid (∀ w1, Below w.heap.size w w1 → Calls Try.prog 23 #[.slice A n c, .slice A2 n2 c2] w1 fun e w' => e = .returned (.bool q) ∧ Below w1.heap.size w1 w') := Lib.hid fun w1 h1 => sFine w1 B A n c its A2 n2 c2 ns (h.below h1) q hq
  have HN : Hid (q = false → L = []) := Lib.hid fun hqf => hL.no (fun hh => by rw [hq.2 hh] at hqf; cases hqf)
  have HK : Hid (∃ hold : It → Bool, (its = [] → L = []) ∧ (q = true → L = idL (its.filter hold) ∧ ∀ W, Below w.heap.size w W → ∀ u, u ∈ its → Calls Try.prog 32 #[.slice A n c, .slice A2 n2 c2, .int .i64 u.id] W fun e w' => (∃ z : Int, e = .returned (.int .i64 z) ∧ decide (z < k0) = hold u) ∧ Below W.heap.size W w')) := Lib.hid (by
    by_cases hqt : q = true
    · obtain ⟨he, ha⟩ := hq.1 hqt
      obtain ⟨t, ht⟩ := he.2
      have e : L = idL (its.filter fun u => decide ((rankI t its u : Int) < k0)) := by rw [hL.yes he ha ht]; exact band_ids t its k0
      refine ⟨fun u => decide ((rankI t its u : Int) < k0), fun h0 => by rw [e, h0]; rfl, fun _ => ⟨e, fun W hW u hu => ?_⟩⟩
      exact (sRankB W B A n c its A2 n2 c2 ns (h.below hW) u.id _ (rank_at he ha ht hu)).mono fun _ _ ⟨h1, h2⟩ => ⟨⟨_, h1, rfl⟩, h2⟩
    · exact ⟨fun _ => false, fun _ => HN.out (by cases q <;> simp_all), fun h => absurd h hqt⟩)
  have HX := Lib.hid h.i
  have hB := h.hB
  have hn := h.hn
  have HE0 := Lib.hid (OwnI.empty w w.heap.size (Nat.le_refl _))
  have HB0 : Hid (Below w.heap.size w (w.alloc (.cells #[] 3))) := Lib.hid ((Below.refl _ _).alloc (Nat.le_refl _) _)
  clear h hL hq
  obtain ⟨hold, h0, hH⟩ := HK.out
  have HH := Lib.hid hH
  have H0 := Lib.hid h0
  clear HK hH h0
  go_enter Try.func13, Try.ntmps13
  go_wp2
  go_loopw [7, 8] (fun v i wr => ∃ k : Nat, k ≤ n ∧ i = .int .i64 k ∧ (0 < k → q = true) ∧ OwnI wr w.heap.size v (idL ((its.take k).filter hold)) ∧ Below w.heap.size w wr) (fun _ i _ => n - (intOf i).toNat)
  case atStart => exact ⟨0, Nat.zero_le _, rfl, fun h => by omega, HE0.out, HB0.out⟩
  case round =>
    obtain ⟨k, hk, rfl, hkq, hown, hbel⟩ := hrel
    have HKq := Lib.hid hkq
    have HO := Lib.hid hown
    have HB := Lib.hid hbel
    clear hown hkq
    by_cases hlt : k < n
    · have hlt0 : (k : Int) < (n : Int) := by omega
      clear hbel
      go_wp2_with fail
      refine (HFn.out _ HB.out).mono ?_
      rintro e w2 ⟨rfl, hb2⟩
      have HB2 := Lib.hid (below_on HB.out hb2)
      have HO2 := Lib.hid (ownI_below HO.out hb2)
      clear hb2 hlt0
      cases q
      · obtain rfl : k = 0 := by
          rcases Nat.eq_zero_or_pos k with e | e
          · exact e
          · cases HKq.out e
        obtain rfl := HN.out (by first | rfl | trivial)
        go_wp2
        go_ret
        exact ⟨⟨_, rfl, HO2.out⟩, HB2.out⟩
      · have HC := Lib.hid (HH.out (by first | rfl | trivial)).2
        obtain ⟨b1, off, x, rfl, hb1, hat, d0, d1, -⟩ := HX.out.at k hlt
        have hbw : b1 < w.heap.size := Nat.lt_of_lt_of_le hb1 hB
        have HAt := Lib.hid hat
        have HD := Lib.hid (And.intro d0 d1)
        have hlt' : (k : Int) < (n : Int) := by omega
        have hk0 : (0 : Int) ≤ (k : Int) := by omega
        have HLn : Hid (((idL ((its.take k).filter hold)).length + [x.id].length) * 8 ≤ 140737488355328) := Lib.hid (by
          have h1 := fil_len its hold k
          simp only [List.length_cons, List.length_nil]
          omega)
        have f1 := (HB2.out.cell (p := ⟨b1, off + k * 2, none⟩) hbw).trans d0
        clear d0 d1 hat HO HB
        go_wp2_with fail
        refine (HC.out _ HB2.out x (mem_of_at HAt.out)).mono ?_
        rintro e w3 ⟨⟨z, rfl, hz⟩, hb3⟩
        have HZ := Lib.hid hz
        have HB3 := Lib.hid (below_on HB2.out hb3)
        have HO3 := Lib.hid (ownI_below HO2.out hb3)
        clear hz hb3 f1
        obtain ⟨zz, hzz⟩ : ∃ zz, hold x = zz := ⟨_, rfl⟩
        have HZz := Lib.hid hzz
        by_cases hzk : z < k0
        · have e1 : hold x = true := HZ.out.symm.trans (decide_eq_true hzk)
          have HE := Lib.hid e1
          have f1 := (HB3.out.cell (p := ⟨b1, off + k * 2, none⟩) hbw).trans HD.out.1
          clear e1 hzz
          go_wp2_with (at_builtin; refine wp_appI w3 (by rfl) (.tmp 31) (.tmp 37) (by rfl) w.heap.size _ _ (by rfl) HO3.out _ [x.id] (by rfl) 1 1 rfl (by rfl) HLn.out HB3.out.size ?_)
          intro v1 w4 hown4 hb4
          have HO4 := Lib.hid hown4
          have HB4 := Lib.hid (HB3.out.trans hb4)
          clear hown4 hb4 f1
          go_wp2
          go_roundw
          case rel => exact ⟨k + 1, by omega, by go_num, fun _ => by first | rfl | trivial, by rw [fil_snoc HAt.out, HE.out]; exact HO4.out, HB4.out⟩
          case measure => simp [intOf]; omega
        · have e1 : hold x = false := HZ.out.symm.trans (decide_eq_false hzk)
          have HE := Lib.hid e1
          clear e1 hzz
          go_wp2
          go_roundw
          case rel => exact ⟨k + 1, by omega, by go_num, fun _ => by first | rfl | trivial, by rw [fil_snoc HAt.out, HE.out]; simpa using HO3.out, HB3.out⟩
          case measure => simp [intOf]; omega
    · obtain rfl : k = n := by omega
      have HO' : Hid (OwnI wr w.heap.size u7 L) := Lib.hid (by
        have h := HO.out
        rw [take_all HX.out.1] at h
        rcases Nat.eq_zero_or_pos k with e | e
        · have hi : its = [] := List.eq_nil_of_length_eq_zero (HX.out.1.trans e)
          rw [hi] at h
          rw [H0.out hi]
          exact h
        · rw [(HH.out (HKq.out e)).1]
          exact h)
      clear hbel
      go_wp2
      go_ret
      exact ⟨⟨_, rfl, HO'.out⟩, HB.out⟩
end Go.Proofs.Ytnjnlcmddcjcfaa.num
namespace Go.Proofs.Ytnjnlcmddcjcfaa
set_option maxRecDepth 20000
open Go

theorem leaving_alone {P : Program} {last : Machine} {w : World} {t : Trace} (h : aloneAtReturn P last w t) : leavingAtReturn P last w t := by
  obtain ⟨⟨h1, h0⟩, h2, h3⟩ := h
  refine ⟨h2, ⟨fun g hg => ?_, h0⟩, h3⟩
  refine ⟨0, ?_⟩
  unfold Machine.othersDone at h1
  unfold Goroutine.LeavesIn
  have := List.all_eq_true.1 h1 g (by simpa using hg)
  simpa using this
theorem leaving_handed {a : Assume} {C : Checked} {os : Os} {f : FuncId} {r : Reach} {Pre : World → Array Value → Prop} {Post : World → Array Value → Value → World → Prop}
    (h : ReturnsInHanded a C os f r Pre Post) : ReturnsInLeavingWide a C os f r Pre Post := fun enter =>
  ReturnsInOpen.mono (fun _ _ _ x => leaving_alone x) (fun _ x => x) (h enter)
end Go.Proofs.Ytnjnlcmddcjcfaa
