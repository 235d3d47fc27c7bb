/-
  The program's greatestRegret: contract.
-/
import Derived.Test.YtjjlhiaghjipcaaWeightI
namespace Go.Proofs.Ytjjlhiaghjipcaa.num
set_option maxRecDepth 20000
open Go.RowKit
set_option linter.unusedVariables false
set_option linter.unusedSimpArgs false

/-- A slice in a box. -/
def SlB (w : World) (g : Nat) (v : Value) : Prop := g < w.heap.size ∧ w.cell? ⟨g, 0, none⟩ = some v
theorem SlB.below {w w' : World} {g : Nat} {v : Value} (h : SlB w g v) (hb : Below w.heap.size w w') : SlB w' g v := ⟨Nat.lt_of_lt_of_le h.1 hb.size, (hb.cell (p := ⟨g, 0, none⟩) h.1).trans h.2⟩
theorem SlB.new (w : World) (v : Value) (T : TypeId) : SlB (w.alloc (.cells #[v] T)) w.heap.size v := ⟨by simp, by rw [World.cell?_alloc_at _ _ _ _ rfl]; rfl⟩
theorem keptF_small {ds cs : List Da} (hs : ∀ d ∈ cs, d ∈ ds) (w : List Int) : (keptF ds cs w).Small := by
  have h := keptF_range hs w
  unfold Fr.Small
  omega
set_option maxRecDepth 20000 in
theorem keptC_c (w : World) (B : Nat) (A A' : Option Addr) (n n' c c' : Nat) (its cs : List It) (hi : Items w B A n its) (hi' : Items w B A' n' cs) (hB : B ≤ w.heap.size) (hn : n ≤ 1048576) (hn' : n' ≤ 1048576) (x : IR) (hx : Ints w w.heap.size x.A x.n x.xs) (hx3 : x.n ≤ 1048576) (g1 g2 : Nat) (h1 : SlB w g1 (.slice A n c)) (h2 : SlB w g2 (.slice A' n' c')) :
    Calls Try.prog 85 #[.slice x.A x.n x.c, .pointer (some ⟨g1, 0, none⟩), .pointer (some ⟨g2, 0, none⟩)] w fun e w' => e = .returned (.agg #[.int .i64 (keptF (its.map It.dat) (cs.map It.dat) x.xs).num, .int .i64 (keptF (its.map It.dat) (cs.map It.dat) x.xs).den]) ∧ Below w.heap.size w w' := by
  obtain ⟨w0, hw0⟩ : ∃ w0, w.alloc (.cells #[.int .i64 0, .int .i64 0] 74) = w0 := ⟨_, rfl⟩
  have hb0 : Below w.heap.size w w0 := by subst hw0; exact (Below.refl _ w).alloc (Nat.le_refl _) _
  have HB0 := Lib.hid hb0
  have HF0 : Hid (FrB w0 w.heap.size ⟨0, 0⟩) := Lib.hid (by subst hw0; exact FrB.new w ⟨0, 0⟩)
  have HK := Lib.hid (iKept w0 B A A' n n' c c' its cs (hi.below (hb0.mono hB)) (hi'.below (hb0.mono hB)) (Nat.le_trans hB hb0.size) hn hn' w.heap.size x.A x.n x.c x.xs (hx.below hb0) hb0.size hx3)
  obtain ⟨K, hK⟩ : ∃ K, keptF (its.map It.dat) (cs.map It.dat) x.xs = K := ⟨_, rfl⟩
  rw [hK] at HK ⊢
  obtain ⟨l1, c1⟩ := h1.below hb0
  obtain ⟨l2, c2⟩ := h2.below hb0
  clear hK hi hi' hx hb0 h1 h2
  go_enter Try.func85, Try.ntmps85
  go_upto_region 1 with (fail)
  try rw [hw0]
  clear hw0
  go_wp2_with fail
  refine HK.out.mono ?_
  rintro e w1 ⟨rfl, hb1⟩
  have HB1 := Lib.hid (below_on HB0.out hb1)
  have HF1 := Lib.hid (HF0.out.below hb1)
  clear hb1 HK c1 c2 l1 l2
  obtain ⟨c0, c1, z0, z1⟩ := HF1.out.cells
  go_wp2
  refine bodyPost_ret_by (results_cell_row rfl _ _ w.heap.size 74 _ (0, 0) _ rfl (HF1.out.set K.num K.den) Try.underlying74 rfl (by kernel_rfl)) rfl ?_
  exact ⟨rfl, (HB1.out.setCell (Nat.le_refl _) _).setCell (Nat.le_refl _) _⟩
set_option maxRecDepth 20000 in
set_option maxHeartbeats 1600000 in
theorem iGR (w : World) (B : Nat) (A A' : Option Addr) (n n' c c' : Nat) (its cs : List It) (hi : Items w B A n its) (hi' : Items w B A' n' cs) (hB : B ≤ w.heap.size) (hn : n ≤ 1048576) (hn' : n' ≤ 1048576) (hs : ∀ d ∈ cs.map It.dat, d ∈ its.map It.dat) (R : Rg) (hR : reg (its.map It.dat) (cs.map It.dat) = R) :
    Calls Try.prog 52 #[.slice A n c, .slice A' n' c'] w fun e w' => (∃ v, e = .returned (.tuple #[.agg #[.int .i64 R.num, .int .i64 R.den], v]) ∧ OwnI w' w.heap.size v R.ws) ∧ Below w.heap.size w w' := by
  obtain ⟨wR, hwR⟩ : ∃ wR, ((w.alloc (.cells #[.slice A n c] 24)).alloc (.cells #[.slice A' n' c'] 24)).alloc (.cells #[.int .i64 0, .int .i64 0] 74) = wR := ⟨_, rfl⟩
  have hbR : Below w.heap.size w wR := by subst hwR; exact below3 (Nat.le_refl _) _ _ _
  have HBR := Lib.hid hbR
  have HS1 : Hid (SlB wR w.heap.size (.slice A n c)) := Lib.hid (by subst hwR; exact ((SlB.new w (.slice A n c) _).below ((Below.refl _ _).alloc (Nat.le_refl _) _)).below ((Below.refl _ _).alloc (Nat.le_refl _) _))
  have HS2 : Hid (SlB wR (w.heap.size + 1) (.slice A' n' c')) := Lib.hid (by
    subst hwR
    have h := (SlB.new (w.alloc (.cells #[.slice A n c] 24)) (.slice A' n' c') 24).below ((Below.refl _ _).alloc (Nat.le_refl _) (.cells #[.int .i64 0, .int .i64 0] 74))
    simpa only [World.size_alloc] using h)
  have HF0 : Hid (FrB wR (w.heap.size + 2) ⟨0, 0⟩) := Lib.hid (by
    subst hwR
    have h := FrB.new ((w.alloc (.cells #[.slice A n c] 24)).alloc (.cells #[.slice A' n' c'] 24)) ⟨0, 0⟩
    simpa only [World.size_alloc] using h)
  have HI := Lib.hid (hi.below (hbR.mono hB))
  have HI' := Lib.hid (hi'.below (hbR.mono hB))
  have HHs := Lib.hid hs
  have HR := Lib.hid hR
  clear hi hi' hs hR hbR
  go_enter Try.func52, Try.ntmps52
  go_upto_region 1 with (fail)
  try rw [hwR]
  clear hwR
  go_wp2_with fail
  refine (iWL wR).mono ?_
  rintro e w1 ⟨⟨b, off, c1, rows, rfl, hc1, hcm, hx, hv⟩, hb1⟩
  have HB1 := Lib.hid (below_on HBR.out hb1)
  have HV := Lib.hid hv
  have HX := Lib.hid hx
  have HS11 := Lib.hid (HS1.out.below hb1)
  have HS21 := Lib.hid (HS2.out.below hb1)
  have HF1 := Lib.hid (HF0.out.below hb1)
  have HI1 := Lib.hid (HI.out.below (hb1.mono (Nat.le_trans hB HBR.out.size)))
  have HI1' := Lib.hid (HI'.out.below (hb1.mono (Nat.le_trans hB HBR.out.size)))
  have hBr1 : B ≤ w1.heap.size := Nat.le_trans hB HB1.out.size
  have HrB := Lib.hid HBR.out.size
  have hwt : ∀ x ∈ rows, x.xs.length = 3 := fun x hx' => (wl_ok (by rw [← HX.out]; exact List.mem_map_of_mem hx')).1
  have HL := Lib.hid (iLeastR w1 (some ⟨b, off, none⟩) 63 c1 rows hv.r (by decide) (by decide) hc1 (by omega) (by unfold maxLen at hcm; omega) 85 #[.pointer (some ⟨w.heap.size, 0, none⟩), .pointer (some ⟨w.heap.size + 1, 0, none⟩)]
    (enters_of Try.func85 (by kernel_rfl) rfl) (fun x => keptF (its.map It.dat) (cs.map It.dat) x.xs) (fun x _ => keptF_small HHs.out _)
    (fun W hW x hx' => by
      obtain ⟨k, hk, rfl⟩ := List.getElem_of_mem hx'
      have ho := ownI_below (HV.out.x k _ (List.getElem?_eq_getElem hk)) hW
      exact keptC_c W B A A' n n' c c' its cs (HI1.out.below (hW.mono hBr1)) (HI1'.out.below (hW.mono hBr1)) (Nat.le_trans hBr1 hW.size) hn hn' _ (ownI_at ho) (by have h1 := (ownI_at ho).1; have h2 := hwt _ hx'; omega) w.heap.size (w.heap.size + 1) (HS11.out.below hW) (HS21.out.below hW)))
  clear hx hv hb1 hcm hc1 hwt
  go_wp2_with fail
  refine HL.out.mono ?_
  rintro e w2 ⟨⟨x, hbest, rfl⟩, hb2⟩
  have hxm := bestF_mem _ _ hbest
  have hreg := keep_reg HHs.out (v := x.xs) (by rw [← HX.out]; unfold xsR; rw [← bestF_map]; rw [hbest]; rfl)
  have hkr := keptF_range HHs.out x.xs
  rw [HR.out] at hreg
  obtain ⟨K, hK⟩ : ∃ K, keptF (its.map It.dat) (cs.map It.dat) x.xs = K := ⟨_, rfl⟩
  rw [hK] at hreg hkr
  rw [hK]
  have HOx : Hid (OwnI w2 wR.heap.size x.val x.xs) := Lib.hid (by
    obtain ⟨k, hk, rfl⟩ := List.getElem_of_mem hxm
    exact ownI_below (HV.out.x k _ (List.getElem?_eq_getElem hk)) hb2)
  have HB2 := Lib.hid (below_on HB1.out hb2)
  have HF2 := Lib.hid (HF1.out.below hb2)
  clear hbest hxm hK hb2 HL
  have HBa : Hid (∀ o : Obj, Below w.heap.size w (w2.alloc o)) := Lib.hid fun o => HB2.out.alloc HB2.out.size _
  have HFa : Hid (∀ o : Obj, FrB (w2.alloc o) (w.heap.size + 2) ⟨0, 0⟩) := Lib.hid fun o => HF2.out.below ((Below.refl _ _).alloc (Nat.le_refl _) _)
  have HOa : Hid (∀ o : Obj, OwnI (w2.alloc o) wR.heap.size x.val x.xs) := Lib.hid fun o => ownI_below HOx.out ((Below.refl _ _).alloc (Nat.le_refl _) _)
  obtain ⟨w3, hw3⟩ : ∃ w3, w2.alloc (.cells #[.int .i64 K.num, .int .i64 K.den] 74) = w3 := ⟨_, rfl⟩
  have HB3 : Hid (Below w.heap.size w w3) := Lib.hid (by rw [← hw3]; exact HBa.out _)
  have HF3 : Hid (FrB w3 (w.heap.size + 1 + 1) ⟨0, 0⟩) := Lib.hid (by rw [← hw3]; exact HFa.out _)
  have HO3 : Hid (OwnI w3 wR.heap.size x.val x.xs) := Lib.hid (by rw [← hw3]; exact HOa.out _)
  have HK3 : Hid (FrB w3 w2.heap.size K) := Lib.hid (by rw [← hw3]; exact FrB.new w2 K)
  clear HBa HFa HOa
  go_upto_region 2 with (fail)
  clear hw3
  obtain ⟨k0, k1, -, -⟩ := HK3.out.cells
  obtain ⟨c0, c1', z0, z1⟩ := HF3.out.cells
  have HLt := Lib.hid HF0.out.lt
  have HRg := Lib.hid hreg
  clear hreg
  rcases HRg.out with ⟨h0, hRR⟩ | ⟨h0, hRR⟩
  · subst hRR
    have hd : ((K.den - K.num) == 0) = true := by simpa using h0
    go_wp2
    refine bodyPost_ret_by (results_row_tmp rfl _ _ (w.heap.size + 1 + 1) 74 _ (0, 0) _ rfl (HF3.out.set 0 1) Try.underlying74 rfl (by kernel_rfl)) rfl ?_
    exact ⟨⟨_, rfl, ownI_nil _ _⟩, (HB3.out.setCell (p := ⟨w.heap.size + 1 + 1, 0, none⟩) (by show _ ≤ w.heap.size + 1 + 1; omega) _).setCell (p := ⟨w.heap.size + 1 + 1, 1, none⟩) (by show _ ≤ w.heap.size + 1 + 1; omega) _⟩
  · subst hRR
    have hd : ((K.den - K.num) == 0) = false := by simpa using h0
    go_wp2
    refine bodyPost_ret_by (results_row_tmp rfl _ _ (w.heap.size + 1 + 1) 74 _ (0, 0) _ rfl (HF3.out.set (K.den - K.num) K.den) Try.underlying74 rfl (by kernel_rfl)) rfl ?_
    exact ⟨⟨_, rfl, ownI_lower (ownI_blocks HO3.out fun k hk => by
      have h1 := ownI_lows HO3.out k hk
      have h2 := HLt.out
      have hne : k ≠ w.heap.size + 1 + 1 := by omega
      rw [heap_setCell_other _ _ _ _ hne, heap_setCell_other _ _ _ _ hne]) HrB.out⟩, (HB3.out.setCell (p := ⟨w.heap.size + 1 + 1, 0, none⟩) (by show _ ≤ w.heap.size + 1 + 1; omega) _).setCell (p := ⟨w.heap.size + 1 + 1, 1, none⟩) (by show _ ≤ w.heap.size + 1 + 1; omega) _⟩
end Go.Proofs.Ytjjlhiaghjipcaa.num
