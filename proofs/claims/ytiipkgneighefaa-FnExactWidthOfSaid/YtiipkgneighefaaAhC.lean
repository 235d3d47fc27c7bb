/- Contracts of functions that the laws of this chapter call, packed. -/
import Derived.Test.YtiipkgneighefaaAhB
import Derived.Test.YtiipkgneighefaaPairMarkI
namespace Go.Proofs.Ytiipkgneighefaa.num
set_option maxRecDepth 20000
open Go.RowKit
set_option linter.unusedVariables false
set_option linter.unusedSimpArgs false

def zC (j : Nat) : Value := (#[.int .i64 0, .slice none 0 0, .pointer none] : Array Value)[j % 3]!
def ctCell (p : Nat) (l : List It) (j : Nat) : Value := cellG (ctCells p) zC l j
theorem make_ct (n : Nat) (hn : n ≤ 1048576) (w : World) :
    (Instr.makeSlice 58 (.int .i64 (n : Int)) (.int .i64 (n : Int))).run Try.prog w = .ok (.slice (some ⟨w.heap.size, 0, none⟩) n n) (w.alloc (.cells (madeCells #[.int .i64 0, .slice none 0 0, .pointer none] (n * 3)) 62)) := by
  obtain ⟨i, hi, hzz⟩ := Option.map_eq_some_iff.1 info_ct
  simp only [Prod.mk.injEq] at hzz
  obtain ⟨hz, hs, hb⟩ := hzz
  have hr := run_make (P := Try.prog) w _ _ i _ Try.underlying58 hi hz .i64 .i64 n n (by omega) (Int.le_refl _) (by rw [hb]; omega) (by omega)
  rw [hs] at hr
  simp only [Int.toNat_natCast] at hr
  exact hr
theorem made_ct (w : World) (n p : Nat) : (w.alloc (.cells (madeCells #[.int .i64 0, .slice none 0 0, .pointer none] (n * 3)) 62)).rowIs w.heap.size 62 (n * 3) (ctCell p []) :=
  ⟨_, heap_alloc_new w _, size_madeCells _ _, fun i hi => by simp [madeCells, hi, ctCell, cellG, zC]⟩
theorem ctCell_snoc {p : Nat} {l : List It} {k : Nat} (h : l.length = k) (x : It) (j : Nat) :
    (if j = k * 3 + 2 then .pointer (some ⟨p, 0, none⟩) else if j = k * 3 + 1 then .slice x.A x.n x.c else if j = k * 3 then .int .i64 x.id else ctCell p l j) = ctCell p (l ++ [x]) j := by
  have e : ∀ i v, (ctCells p x)[i]? = some v → ctCell p (l ++ [x]) (k * 3 + i) = v := fun i v hv => cellG_last (ctCells_len p) zC h x hv
  by_cases h2 : j = k * 3 + 2
  · subst h2; rw [if_pos rfl, e 2 _ rfl]
  rw [if_neg h2]
  by_cases h1 : j = k * 3 + 1
  · subst h1; rw [if_pos rfl, e 1 _ rfl]
  rw [if_neg h1]
  by_cases h0 : j = k * 3
  · subst h0; rw [if_pos rfl]; exact (e 0 _ rfl).symm
  rw [if_neg h0]
  exact (cellG_more (ctCells_len p) zC h x (by omega)).symm
theorem ctCell_zero {p : Nat} {l : List It} {k : Nat} (h : l.length = k) : ctCell p l (k * 3) = .int .i64 0 ∧ ctCell p l (k * 3 + 1) = .slice none 0 0 ∧ ctCell p l (k * 3 + 2) = .pointer none := by
  refine ⟨?_, ?_, ?_⟩
  · rw [ctCell, cellG_none (ctCells_len p) zC (by omega)]; unfold zC; rw [show k * 3 % 3 = 0 by omega]; rfl
  · rw [ctCell, cellG_none (ctCells_len p) zC (by omega)]; unfold zC; rw [show (k * 3 + 1) % 3 = 1 by omega]; rfl
  · rw [ctCell, cellG_none (ctCells_len p) zC (by omega)]; unfold zC; rw [show (k * 3 + 2) % 3 = 2 by omega]; rfl
/-- What contestOf hands back. -/
def ContOut (B lo : Nat) (nds : List ND) (its : List It) (n : Nat) (e : Ending) (w' : World) : Prop :=
  (∃ (t : Tr) (p g : Nat), IsE nds ∧ AreP (its.map It.dat) ∧ Post nds t ∧ e = .returned (.slice (some ⟨g, 0, none⟩) n n) ∧ CtIn w' B lo p t (some ⟨g, 0, none⟩) n its) ∨ (¬ (IsE nds ∧ AreP (its.map It.dat)) ∧ e = .returned (.slice none 0 0))
set_option maxRecDepth 20000 in
set_option maxHeartbeats 1600000 in
theorem iContest (w : World) (B : Nat) (A : Option Addr) (n c : Nat) (its : List It) (A2 : Option Addr) (n2 c2 : Nat) (ns : List Nd) (h : InB w B A n its A2 n2 c2 ns) :
    Calls Try.prog 22 #[.slice A n c, .slice A2 n2 c2] w fun e w' => ContOut B w.heap.size (datN ns) its n e w' ∧ Below w.heap.size w w' := by
  have HT := Lib.hid (iTreeOfW w B A2 n2 c2 ns h.e h.hB h.hnc h.hc h.se)
  obtain ⟨qa, hqa⟩ := bool_of (AreP (its.map It.dat))
  have HA : Hid (∀ w1, Below w.heap.size w w1 → Calls Try.prog 37 #[.slice A n c] w1 fun e w' => e = .returned (.bool qa) ∧ Below w1.heap.size w1 w') := Lib.hid fun w1 h1 => iAre w1 B A n c its (h.below h1).i (h.below h1).hB qa hqa
  have HX := Lib.hid h.i
  have hB := h.hB
  have hn := h.hn
  have HQ := Lib.hid hqa
  generalize datN ns = nds at *
  clear h hqa
  go_enter Try.func22, Try.ntmps22
  go_wp2_with fail
  refine HT.out.mono ?_
  rintro e w1 ⟨hout, hb1⟩
  have HB1 := Lib.hid hb1
  clear hb1 HT
  rcases hout with ⟨he, t, p, ht, rfl, hpa⟩ | ⟨he, rfl⟩
  · have HE := Lib.hid he
    have HPo := Lib.hid ht
    have HPa := Lib.hid hpa
    clear he ht hpa
    go_wp2_with fail
    refine (HA.out _ HB1.out).mono ?_
    rintro e w2 ⟨rfl, hb2⟩
    have HB2 := Lib.hid (below_on HB1.out hb2)
    have HPa2 := Lib.hid (HPa.out.below (Nat.le_trans hB HB1.out.size) hb2)
    clear hb2 HPa
    cases qa
    · go_wp2
      go_ret
      exact ⟨.inr ⟨(fun hh => by have := HQ.out.2 hh.2; cases this), rfl⟩, HB2.out⟩
    · have HAr : Hid (AreP (its.map It.dat)) := Lib.hid (HQ.out.1 (by first | rfl | trivial))
      have hmk := make_ct n hn
      go_wp2
      clear hmk
      obtain ⟨g, hg⟩ : ∃ g, g = w2.heap.size := ⟨_, rfl⟩
      have HR0 : Hid ((w2.alloc (.cells (madeCells #[.int .i64 0, .slice none 0 0, .pointer none] (n * 3)) 62)).rowIs g 62 (n * 3) (ctCell p (its.take 0))) := Lib.hid (hg ▸ made_ct w2 n p)
      have HW0 : Hid (Below w2.heap.size w2 (w2.alloc (.cells (madeCells #[.int .i64 0, .slice none 0 0, .pointer none] (n * 3)) 62))) := Lib.hid ((Below.refl _ _).alloc (Nat.le_refl _) _)
      rw [← hg]
      generalize (w2.alloc (.cells (madeCells #[.int .i64 0, .slice none 0 0, .pointer none] (n * 3)) 62)) = w3 at *
      have HG := Lib.hid hg
      clear hg
      go_loopw [23] (fun i wr => ∃ k : Nat, k ≤ n ∧ i = .int .i64 k ∧ wr.rowIs g 62 (n * 3) (ctCell p (its.take k)) ∧ Below w2.heap.size w2 wr) (fun i _ => n - (intOf i).toNat)
      case atStart => exact ⟨0, Nat.zero_le _, rfl, HR0.out, HW0.out⟩
      case round =>
        obtain ⟨k, hk, rfl, hrow, hbel⟩ := hrel
        have HR := Lib.hid hrow
        have HB := Lib.hid hbel
        by_cases hlt : k < n
        · obtain ⟨b1, off, x, rfl, hb1, hat, d0, d1, -⟩ := HX.out.at k hlt
          have hbw : b1 < w2.heap.size := Nat.lt_of_lt_of_le hb1 (Nat.le_trans hB HB2.out.size)
          have f0 := (hbel.cell (p := ⟨b1, off + k * 2, none⟩) hbw).trans ((HB2.out.cell (p := ⟨b1, off + k * 2, none⟩) (Nat.lt_of_lt_of_le hb1 hB)).trans d0)
          have f1 := (hbel.cell (p := ⟨b1, off + k * 2 + 1, none⟩) hbw).trans ((HB2.out.cell (p := ⟨b1, off + k * 2 + 1, none⟩) (Nat.lt_of_lt_of_le hb1 hB)).trans d1)
          have HAt := Lib.hid hat
          have hlk : (its.take k).length = k := by rw [List.length_take, HX.out.1]; omega
          have hz := ctCell_zero (p := p) hlk
          have g0 : wr.cell? ⟨g, k * 3, none⟩ = some (.int .i64 0) := by rw [World.rowIs.cell hrow (by omega), hz.1]
          have g1 : wr.cell? ⟨g, k * 3 + 1, none⟩ = some (.slice none 0 0) := by rw [World.rowIs.cell hrow (by omega), hz.2.1]
          have g2 : wr.cell? ⟨g, k * 3 + 2, none⟩ = some (.pointer none) := by rw [World.rowIs.cell hrow (by omega), hz.2.2]
          have z0 := World.rowIs.frozen hrow (k * 3)
          have z1 := World.rowIs.frozen hrow (k * 3 + 1)
          have z2 := World.rowIs.frozen hrow (k * 3 + 2)
          have hgl := World.rowIs.lt hrow
          have HLk := Lib.hid hlk
          have hsz := Lib.hid hbel.size
          clear hrow hbel d0 d1 hat hlk hz
          go_wp2
          go_roundw
          case rel =>
            refine ⟨k + 1, by omega, by go_num, ?_, ?_⟩
            · rw [take_at HAt.out]
              exact (World.rowIs.alloc (World.rowIs.set (World.rowIs.set (World.rowIs.set HR.out (k * 3) (.int .i64 x.id)) (k * 3 + 1) (.slice x.A x.n x.c)) (k * 3 + 2) (.pointer (some ⟨p, 0, none⟩))) _).congr (fun j _ => ctCell_snoc HLk.out x j)
            · exact (((HB.out.setCell (by rw [HG.out]; exact Nat.le_refl _) _).setCell (by rw [HG.out]; exact Nat.le_refl _) _).setCell (by rw [HG.out]; exact Nat.le_refl _) _).alloc (by simp [World.setCell]; exact hsz.out) _
          case measure => simp [intOf]; omega
        · obtain rfl : k = n := by omega
          clear hrow hbel
          go_wp2
          go_ret
          have HBw := HB2.out.trans (HB.out.mono HB2.out.size)
          refine ⟨.inl ⟨t, p, g, HE.out, HAr.out, HPo.out, rfl, ?_⟩, HBw⟩
          have hR := HR.out
          rw [take_all HX.out.1] at hR
          have hown : OwnG 62 (ctCells p) 3 wr g (.slice (some ⟨g, 0, none⟩) k k) its := OwnG.of_row (ctCells_len p) (Nat.le_refl _) HX.out.1 (Nat.le_refl _) (by unfold maxLen; omega) hR fun j hj => cellG_own (ctCells_len p) zC HX.out.1 hj
          exact ⟨OwnG.read (ctCells_len p) hown, fun u hu => ⟨(HX.out.mem hu).below (HBw.mono hB), HAr.out.1 _ (List.mem_map_of_mem hu)⟩, HPa2.out.below (Nat.le_trans hB HB2.out.size) HB.out, Nat.le_trans hB HBw.size⟩
  · have HE := Lib.hid he
    clear he
    go_wp2
    go_ret
    exact ⟨.inr ⟨fun hh => HE.out hh.1, rfl⟩, HB1.out⟩
/-! The functions. -/
theorem three_set {w : World} {g : Nat} {T : TypeId} {u0 u1 u2 v0 v1 v2 : Value} (h : w.heap[g]? = some (.cells #[u0, u1, u2] T (0, 0))) : (((w.setCell ⟨g, 0, none⟩ v0).setCell ⟨g, 1, none⟩ v1).setCell ⟨g, 2, none⟩ v2).heap[g]? = some (.cells #[v0, v1, v2] T (0, 0)) := by
  have h := heap_setCell_same _ g 2 _ _ v2 (heap_setCell_same _ g 1 _ _ v1 (heap_setCell_same w g 0 _ _ v0 h))
  simpa using h
theorem block_alloc {w : World} {g : Nat} {o : Obj} (h : w.heap[g]? = some o) (o2 : Obj) : (w.alloc o2).heap[g]? = some o := (Below.heap_alloc _ _ _ (lt_of_block h)).trans h
set_option maxRecDepth 20000 in
set_option maxHeartbeats 1600000 in
theorem ctFind (w : World) (p : Nat) (A : Option Addr) (n c : Nat) (its : List It) (h : ReadG (ctCells p) 3 w w.heap.size A n its) (hn : n ≤ 1048576) (x0 : Int) :
    Calls Try.prog 23 #[.slice A n c, .int .i64 x0] w fun e w' => ((∃ x, x ∈ its ∧ findD (its.map It.dat) x0 = some x.dat ∧ e = .returned (.tuple #[.agg #[.int .i64 x.id, .slice x.A x.n x.c, .pointer (some ⟨p, 0, none⟩)], .bool true])) ∨ (findD (its.map It.dat) x0 = none ∧ e = .returned (.tuple #[.agg #[.int .i64 0, .slice none 0 0, .pointer none], .bool false]))) ∧ Below w.heap.size w w' := by
  have HX := Lib.hid h
  have HR0 : Hid ((w.alloc (.cells #[.int .i64 0, .slice none 0 0, .pointer none] 62)).heap[w.heap.size]? = some (.cells #[.int .i64 0, .slice none 0 0, .pointer none] 62 (0, 0))) := Lib.hid (heap_alloc_new w _)
  have HB0 : Hid (Below w.heap.size w (w.alloc (.cells #[.int .i64 0, .slice none 0 0, .pointer none] 62))) := Lib.hid ((Below.refl _ w).alloc (Nat.le_refl _) _)
  clear h
  go_enter Try.func23, Try.ntmps23
  go_wp2
  go_loopw [10] (fun i wr => ∃ k : Nat, k ≤ n ∧ i = .int .i64 k ∧ (∀ u ∈ its.take k, u.id ≠ x0) ∧ wr.heap[w.heap.size]? = some (.cells #[.int .i64 0, .slice none 0 0, .pointer none] 62 (0, 0)) ∧ Below w.heap.size w wr) (fun i _ => n - (intOf i).toNat)
  case atStart => exact ⟨0, Nat.zero_le _, rfl, by simp, HR0.out, HB0.out⟩
  case round =>
    obtain ⟨k, hk, rfl, hall, hrow, hbel⟩ := hrel
    have HA := Lib.hid hall
    have HB := Lib.hid hbel
    have HR := Lib.hid hrow
    have hsz := Lib.hid hbel.size
    have g0 : wr.cell? ⟨w.heap.size, 0, none⟩ = some (.int .i64 0) := cell_of_row wr _ 0 _ _ (0, 0) hrow
    have g1 : wr.cell? ⟨w.heap.size, 1, none⟩ = some (.slice none 0 0) := cell_of_row wr _ 1 _ _ (0, 0) hrow
    have g2 : wr.cell? ⟨w.heap.size, 2, none⟩ = some (.pointer none) := cell_of_row wr _ 2 _ _ (0, 0) hrow
    have z0 : wr.frozen? ⟨w.heap.size, 0, none⟩ = false := frozen_of_row wr _ 0 _ _ hrow
    have z1 : wr.frozen? ⟨w.heap.size, 1, none⟩ = false := frozen_of_row wr _ 1 _ _ hrow
    have z2 : wr.frozen? ⟨w.heap.size, 2, none⟩ = false := frozen_of_row wr _ 2 _ _ hrow
    have hgl := lt_of_block hrow
    clear hall hrow
    by_cases hlt : k < n
    · obtain ⟨b, off, x, rfl, hb, hat, d0, d1, d2⟩ := ct_at HX.out k hlt
      have f0 := (hbel.cell (p := ⟨b, off + k * 3, none⟩) hb).trans d0
      have f1 := (hbel.cell (p := ⟨b, off + k * 3 + 1, none⟩) hb).trans d1
      have f2 := (hbel.cell (p := ⟨b, off + k * 3 + 2, none⟩) hb).trans d2
      have HAt := Lib.hid hat
      have hlt' : (k : Int) < (n : Int) := by omega
      clear d0 d1 d2 hat hbel
      by_cases he : x.id = x0
      · have he' : (x.id == x0) = true := by simpa using he
        have HE := Lib.hid he
        have HF : Hid (findD (its.map It.dat) x0 = some x.dat) := Lib.hid (findD_yes (k := k) (by rw [List.getElem?_map, HAt.out]; rfl) he fun u hu => by
          rw [← List.map_take] at hu
          obtain ⟨v, hv, rfl⟩ := List.mem_map.1 hu
          exact HA.out v hv)
        clear he
        go_wp2
        refine bodyPost_ret_by (results_row_tmp rfl _ _ w.heap.size 62 #[.int .i64 x.id, .slice x.A x.n x.c, .pointer (some ⟨p, 0, none⟩)] (0, 0) _ rfl (by first | exact three_set (block_alloc HR.out _) | exact block_alloc (three_set HR.out) _) Try.underlying62 rfl (by kernel_rfl)) rfl ?_
        exact ⟨.inl ⟨x, mem_of_at HAt.out, HF.out, rfl⟩, by first | exact (((HB.out.alloc hsz.out _).setCell (Nat.le_refl _) _).setCell (Nat.le_refl _) _).setCell (Nat.le_refl _) _ | exact (((HB.out.setCell (Nat.le_refl _) _).setCell (Nat.le_refl _) _).setCell (Nat.le_refl _) _).alloc (by simp [World.setCell]; exact hsz.out) _⟩
      · have he' : (x.id == x0) = false := by simpa using he
        have HE := Lib.hid he
        clear he
        go_wp2
        go_roundw
        case rel => exact ⟨k + 1, by omega, by go_num, ne_step HAt.out HA.out HE.out, block_alloc HR.out _, HB.out.alloc hsz.out _⟩
        case measure => simp [intOf]; omega
    · obtain rfl : k = n := by omega
      have HF : Hid (findD (its.map It.dat) x0 = none) := Lib.hid (findD_no fun d hd => by
        obtain ⟨u, hu, rfl⟩ := List.mem_map.1 hd
        have h := HA.out
        rw [take_all HX.out.len] at h
        exact h u hu)
      clear hbel
      go_wp2
      refine bodyPost_ret_by (results_row_tmp rfl _ _ w.heap.size 62 #[.int .i64 0, .slice none 0 0, .pointer none] (0, 0) _ rfl (three_set HR.out) Try.underlying62 rfl (by kernel_rfl)) rfl ?_
      exact ⟨.inr ⟨HF.out, rfl⟩, ((HB.out.setCell (Nat.le_refl _) _).setCell (Nat.le_refl _) _).setCell (Nat.le_refl _) _⟩
set_option maxRecDepth 20000 in
set_option maxHeartbeats 1600000 in
theorem iRankB (w : World) (B : Nat) (A : Option Addr) (n c : Nat) (its : List It) (A2 : Option Addr) (n2 c2 : Nat) (ns : List Nd) (h : InB w B A n its A2 n2 c2 ns) (x0 : Int) (L : Int) (hL : RankP (datN ns) (its.map It.dat) x0 L) :
    Calls Try.prog 10 #[.slice A n c, .slice A2 n2 c2, .int .i64 x0] w fun e w' => e = .returned (.int .i64 L) ∧ Below w.heap.size w w' := by
  have HC := Lib.hid (iContest w B A n c its A2 n2 c2 ns h)
  have HX := Lib.hid h.i
  have hn := h.hn
  have HL := Lib.hid hL
  clear h hL
  go_enter Try.func10, Try.ntmps10
  go_wp2_with fail
  refine HC.out.mono ?_
  rintro e w1 ⟨hout, hb1⟩
  have HB1 := Lib.hid hb1
  clear hb1 HC
  rcases hout with ⟨t, p, g, he, ha, ht, rfl, hct⟩ | ⟨hno, rfl⟩
  · have HLe : Hid (∀ x : It, findD (its.map It.dat) x0 = some x.dat → L = ((its.filter fun u => btD t u.dat x.dat).length : Nat)) := Lib.hid fun x hf => by
      rw [HL.out.yes he ha ht, onFind_some hf]
      unfold domD
      rw [List.filter_map, List.length_map]
      rfl
    have HLn : Hid (findD (its.map It.dat) x0 = none → L = -1) := Lib.hid fun hf => by rw [HL.out.yes he ha ht, onFind_none hf]
    have HCt := Lib.hid hct
    clear he ha ht hct
    go_wp2_with fail
    refine (ctFind w1 p _ n n its HCt.out.r hn x0).mono ?_
    rintro e w2 ⟨hfd, hb2⟩
    have HB2 := Lib.hid (below_on HB1.out hb2)
    have HCt2 := Lib.hid (HCt.out.step hb2)
    clear hb2
    rcases hfd with ⟨x, hx, hf, rfl⟩ | ⟨hf, rfl⟩
    · have HLx := Lib.hid (HLe.out x hf)
      have hxm : x ∈ its := hx
      have HHx := Lib.hid hx
      clear hx hf HCt HLe
      have HCt := HCt2
      have HBa : Hid (Below w.heap.size w (w2.alloc (.cells #[.int .i64 x.id, .slice x.A x.n x.c, .pointer (some ⟨p, 0, none⟩)] 62))) := Lib.hid (HB2.out.alloc HB2.out.size _)
      have HCa : Hid (CtIn (w2.alloc (.cells #[.int .i64 x.id, .slice x.A x.n x.c, .pointer (some ⟨p, 0, none⟩)] 62)) B w.heap.size p t (some ⟨g, 0, none⟩) n its) := Lib.hid (HCt.out.step ((Below.refl _ _).alloc (Nat.le_refl _) _))
      go_wp2_with fail
      refine (ctWhere _ p _ n n its HCa.out.r hn _ (by simp) _ (fun u => btD t u.dat x.dat) (fun W hW u hu => iBeaten W B w.heap.size p t x u (HCa.out.step hW).t (HCa.out.step hW).hB ((HCa.out.step hW).x x HHx.out).1 ((HCa.out.step hW).x u hu).1 (HCa.out.x x HHx.out).2 (HCa.out.x u hu).2)).mono ?_
      rintro e w3 ⟨⟨v3, rfl, ho⟩, hb3⟩
      have HB3 := Lib.hid (below_on HBa.out hb3)
      have hle : (its.filter fun u => btD t u.dat x.dat).length ≤ 1048576 := Nat.le_trans (List.length_filter_le _ _) (by rw [HX.out.1]; exact hn)
      obtain ⟨Aw, cw, rfl, -, -⟩ := ho.shape
      have HOw := Lib.hid ho
      clear ho hb3 hxm
      go_wp2
      go_ret
      exact ⟨by rw [HLx.out]; rfl, HB3.out⟩
    · obtain rfl := HLn.out hf
      clear hf
      go_wp2
      go_ret
      exact ⟨rfl, by first | exact HB2.out | exact HB2.out.alloc HB2.out.size _⟩
  · obtain rfl := HL.out.no hno
    clear hno
    go_wp2_with fail
    refine (ctFind w1 0 none 0 0 [] (ReadG.nil _ _ _) (by decide) x0).mono ?_
    rintro e w2 ⟨hfd, hb2⟩
    have HB2 := Lib.hid (below_on HB1.out hb2)
    clear hb2
    rcases hfd with ⟨x, hx, hf, rfl⟩ | ⟨hf, rfl⟩
    · cases hx
    · clear hf
      go_wp2
      go_ret
      exact ⟨rfl, by first | exact HB2.out | exact HB2.out.alloc HB2.out.size _⟩
set_option maxRecDepth 20000 in
set_option maxHeartbeats 3200000 in
theorem iWidth (w : World) (B : Nat) (A : Option Addr) (n c : Nat) (its : List It) (A2 : Option Addr) (n2 c2 : Nat) (ns : List Nd) (h : InB w B A n its A2 n2 c2 ns) (L : Int) (hL : WidP (datN ns) (its.map It.dat) L) :
    Calls Try.prog 14 #[.slice A n c, .slice A2 n2 c2] w fun e w' => e = .returned (.int .i64 L) ∧ Below w.heap.size w w' := by
  have HC := Lib.hid (iContest w B A n c its A2 n2 c2 ns h)
  have HX := Lib.hid h.i
  have hn := h.hn
  have HL := Lib.hid hL
  clear h hL
  go_enter Try.func14, Try.ntmps14
  go_wp2_with fail
  refine HC.out.mono ?_
  rintro e w1 ⟨hout, hb1⟩
  have HB1 := Lib.hid hb1
  clear hb1 HC
  rcases hout with ⟨t, p, g, he, ha, ht, rfl, hct⟩ | ⟨hno, rfl⟩
  · have HLe : Hid (L = (mostL (fun x y => lvB t x.dat y.dat) its its : Nat)) := Lib.hid (by rw [HL.out.yes he ha ht, mostD_it])
    have HCt := Lib.hid hct
    clear he ha ht hct
    go_wp2
    go_loopw [6, 14] (fun v i wr => ∃ k : Nat, k ≤ n ∧ i = .int .i64 k ∧ v = .int .i64 (mostL (fun x y => lvB t x.dat y.dat) its (its.take k) : Nat) ∧ Below w1.heap.size w1 wr) (fun _ i _ => n - (intOf i).toNat)
    case atStart => exact ⟨0, Nat.zero_le _, rfl, rfl, Below.refl _ _⟩
    case round =>
      obtain ⟨k, hk, rfl, rfl, hbel⟩ := hrel
      have HB := Lib.hid hbel
      have HCr := Lib.hid (HCt.out.step hbel)
      obtain ⟨M, hM⟩ : ∃ M, mostL (fun x y => lvB t x.dat y.dat) its (its.take k) = M := ⟨_, rfl⟩
      have hM1 : M ≤ n := by rw [← hM, ← HX.out.1]; exact mostL_le _ _ _
      rw [hM]
      have HM := Lib.hid hM
      clear hM hbel
      by_cases hlt : k < n
      · obtain ⟨b, off, x, hA, hb, hat, f0, f1, f2⟩ := ct_at HCr.out.r k hlt
        injection hA with hA
        injection hA with e1 e2
        subst e1 e2
        rw [Nat.zero_add] at f0 f1 f2
        have HAt := Lib.hid hat
        have HHx := Lib.hid (mem_of_at hat)
        have hlt' : (k : Int) < (n : Int) := by omega
        have HCa : Hid (CtIn (wr.alloc (.cells #[.int .i64 x.id, .slice x.A x.n x.c, .pointer (some ⟨p, 0, none⟩)] 62)) B w.heap.size p t (some ⟨g, 0, none⟩) n its) := Lib.hid (HCr.out.step ((Below.refl _ _).alloc (Nat.le_refl _) _))
        have HBa : Hid (Below w1.heap.size w1 (wr.alloc (.cells #[.int .i64 x.id, .slice x.A x.n x.c, .pointer (some ⟨p, 0, none⟩)] 62))) := Lib.hid (HB.out.alloc HB.out.size _)
        clear hat
        go_wp2_with fail
        refine (ctWhere _ p _ n n its HCa.out.r hn _ (by simp) _ (fun u => lvB t x.dat u.dat) (fun W hW u hu => iLevel W B w.heap.size p t x u (HCa.out.step hW).t (HCa.out.step hW).hB ((HCa.out.step hW).x x HHx.out).1 ((HCa.out.step hW).x u hu).1 (HCa.out.x x HHx.out).2 (HCa.out.x u hu).2)).mono ?_
        rintro e w3 ⟨⟨v3, rfl, ho⟩, hb3⟩
        have HB3 := Lib.hid (below_on HBa.out hb3)
        obtain ⟨K, hK⟩ : ∃ K, (its.filter fun u => lvB t x.dat u.dat).length = K := ⟨_, rfl⟩
        have hK1 : K ≤ n := by rw [← hK, ← HX.out.1]; exact List.length_filter_le _ _
        obtain ⟨Aw, cw, rfl, -, -⟩ := ho.shape
        rw [hK]
        have HMx : Hid (mostL (fun x y => lvB t x.dat y.dat) its (its.take (k + 1)) = max M K) := Lib.hid (by rw [take_at HAt.out, mostL_snoc, HM.out, hK])
        clear ho hb3 hK f0 f1 f2
        go_wp2
        go_roundw
        case rel => exact ⟨k + 1, by omega, by go_num, by rw [HMx.out]; congr 1; omega, HB3.out⟩
        case measure => simp [intOf]; omega
      · obtain rfl : k = n := by omega
        have hML : L = (M : Nat) := by rw [HLe.out, ← HM.out, take_all HX.out.1]
        subst hML
        go_wp2
        go_ret
        exact ⟨rfl, HB1.out.trans (HB.out.mono HB1.out.size)⟩
  · obtain rfl := HL.out.no hno
    clear hno
    go_wp2
    go_loopw [6, 14] (fun v i wr => v = .int .i64 0 ∧ i = .int .i64 0 ∧ wr = w1) (fun _ _ _ => 0)
    case atStart => exact ⟨rfl, rfl, rfl⟩
    case round =>
      obtain ⟨rfl, rfl, rfl⟩ := hrel
      go_wp2
      go_ret
      exact ⟨rfl, HB1.out⟩
end Go.Proofs.Ytiipkgneighefaa.num
