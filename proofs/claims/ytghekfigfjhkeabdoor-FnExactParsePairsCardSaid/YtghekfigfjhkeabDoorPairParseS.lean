/-
  ParsePairs, the model's: contract.
-/
import Derived.Test.YtghekfigfjhkeabDoorPairParseI
import Derived.Test.YtghekfigfjhkeabDoorPairFmt
import Derived.Test.YtghekfigfjhkeabDoorItemCut
import Derived.Maps.AppendAt
namespace Go.Proofs.YtghekfigfjhkeabDoor.num
open Go.RowKit Go.Maps
set_option linter.unusedVariables false
set_option linter.unusedSimpArgs false

theorem step_appP {ops : Array Oper} {o : Oper} {a : Act} {K : Act → World → Prop} {Q : Exit → Act → World → Prop} {E : Prop} (w : World) (hgd : o.guard = none) (s x : Operand)
    (ho : o.op = .call { callee := .builtin .append, args := #[s, x], argTypes := #[22, 22] })
    (B : Nat) (v : Value) (l : List (Int × Int)) (hs : a.eval s = v) (hown : OwnP w B v l) (cs : Array Value) (new : List (Int × Int)) (hcs : cs = (flat new).toArray) (n c : Nat) (hn : n = new.length)
    (hx : a.eval x = .slice (some ⟨w.heap.size, 0, none⟩) n c) (hlen : (l.length + new.length) * 16 ≤ 140737488355328) (hB : B ≤ w.heap.size)
    (h : ∀ v' w', OwnP w' B v' (l ++ new) → (w.alloc (.cells cs 43)).grownBy w' v.ownBlock → (v'.ownBlock = v.ownBlock ∨ v'.ownBlock = some (w.alloc (.cells cs 43)).heap.size) → K (a.put o.dst v') w') :
    if Region.wanted o (yielded ops a.tmps) = true then Oper.wp Tryd.prog o a (w.alloc (.cells cs 43)) K Q else E := by
  have hw : Region.wanted o (yielded ops a.tmps) = true := by simp [Region.wanted, hgd]
  rw [if_pos hw]
  obtain ⟨i0, hi, hz0, hz1, hz2⟩ := info_parts info_pair
  subst hcs hn
  obtain ⟨v', w', hr, h2, h3, h4, h5⟩ := run_append_own_at (P := Tryd.prog) (w.alloc (.cells (flat new).toArray 43)) B 22 o.type 43 i0 (.agg #[.int .i64 0, .int .i64 0]) 2 16 Tryd.underlying22 hi hz0 hz1 hz2 rfl (by decide) v l.length (flat l) (World.ownsRow.alloc hown _) ⟨w.heap.size, 0, none⟩ new.length c (flat new) (flat_len new) (fun j u hj => by
    have e : (⟨w.heap.size, 0, none⟩ : Addr).add j = ⟨w.heap.size, j, none⟩ := by unfold Addr.add; split <;> simp_all
    rw [e, World.cell?_alloc_at _ _ _ _ rfl]
    simpa using hj) (flat_one new) (by unfold maxLen; omega) (by omega) (by simp; omega)
  unfold Oper.wp execOp
  simp only [ho, resolve, invoke, builtin, Sem.run_bind, Sem.run_pure, Result.andThen_ok, List.map_toArray, List.map_cons, List.map_nil, hs, hx, hr]
  refine h v' w' ?_ h3 h5
  have e : (l ++ new).length = l.length + new.length := by simp
  unfold OwnP
  rw [e, flat_app]
  exact h2

/-- Behind k pieces: v holds the pairs that they read as; the pieces themselves lie untouched. -/
structure SpP (w w1 wr : World) (L : List (List UInt8)) (k : Nat) (v : Value) : Prop where
  own : OwnP wr w.heap.size v ((L.take k).map numP)
  apart : ∀ g, v.ownBlock = some g → g = w.heap.size ∨ w1.heap.size ≤ g
  keep : ∀ i, w.heap.size < i → i < w1.heap.size → wr.heap[i]? = w1.heap[i]?
  low : Below w.heap.size w wr
  sz : w1.heap.size ≤ wr.heap.size
  two : ∀ c ∈ L.take k, twoB c = true
theorem SpP.next {w w1 wr w4 w5 : World} {L : List (List UInt8)} {k : Nat} {v v' : Value} {c : List UInt8} {ob : Obj} (h : SpP w w1 wr L k v) (h01 : w.heap.size < w1.heap.size) (hc : L[k]? = some c) (h2 : twoB c = true) (hb : Below wr.heap.size wr w4) (hg : (w4.alloc ob).grownBy w5 v.ownBlock) (hv : v'.ownBlock = v.ownBlock ∨ v'.ownBlock = some (w4.alloc ob).heap.size)
    (ho : OwnP w5 w.heap.size v' ((L.take k).map numP ++ [numP c])) : SpP w w1 w5 L (k + 1) v' := by
  have hs4 := hb.size
  have hs := h.sz
  refine ⟨?_, fun g hgv => ?_, fun i h1 h2 => ?_, ?_, ?_, ?_⟩
  · rw [ptake_at hc, List.map_append]; exact ho
  · rcases hv with e | e
    · exact h.apart g (by rw [← e]; exact hgv)
    · rw [e] at hgv
      have := Option.some.inj hgv
      simp at this
      exact .inr (by omega)
  · have hne : some i ≠ v.ownBlock := fun e => by
      rcases h.apart i e.symm with h' | h' <;> omega
    rw [hg.block i (by simp; omega) hne, Below.heap_alloc _ _ _ (by omega), hb.block i (by omega)]
    exact h.keep i h1 h2
  · refine Below.grown ((h.low.trans (hb.mono (by omega))).alloc (by have := h.low.size; omega) ob) hg (by have := h.low.size; simp; omega) (fun g hgv => ?_)
    rcases h.apart g hgv with e | e <;> omega
  · have := hg.size
    simp at this
    omega
  · intro d hd
    rw [ptake_at hc] at hd
    rcases List.mem_append.1 hd with hd | hd
    · exact h.two d hd
    · rw [List.mem_singleton.1 hd]; exact h2
theorem SpP.far {w w1 wr : World} {L : List (List UInt8)} {k : Nat} {v : Value} (h : SpP w w1 wr L k v) {b : Nat} (hb : wr.heap.size ≤ b) : v.ownBlock ≠ some b := fun e => by
  have := h.own.tops b e
  omega
theorem pieces_two {c : UInt8} {s : List UInt8} {l : List ByteArray} (h : l.map (·.data.toList) = pieces c s) (h2 : l.length = 2) : ∃ p0 p1, l[0]? = some p0 ∧ l[1]? = some p1 ∧ pieces c s = [p0.data.toList, p1.data.toList] := by
  match l, h2 with
  | [a, b], _ => exact ⟨a, b, rfl, rfl, h.symm⟩

set_option maxRecDepth 20000 in
set_option maxHeartbeats 3200000 in
theorem sParsePairs (s : ByteArray) (hs : s.size ≤ 1048576) (w : World) : Calls Tryd.prog 5 #[.string s] w (OutParse s w) := by
  obtain ⟨q0, hq0⟩ := bool_of (s.data.toList = noneT)
  have hc1 : (s.toList == [110, 111, 110, 101]) = q0 := by
    rw [ByteArray.toList_eq, Bool.eq_iff_iff, beq_iff_eq, hq0]
    exact Iff.rfl
  have hc2 : (s.toList == (⟨#[110, 111, 110, 101]⟩ : ByteArray).toList) = q0 := by
    rw [ByteArray.toList_eq, ByteArray.toList_eq, Bool.eq_iff_iff, beq_iff_eq, hq0]
    exact Iff.rfl
  have HQ0 := Lib.hid hq0
  clear hq0
  have HE0 := Lib.hid (OwnP.empty w w.heap.size (Nat.le_refl _))
  have HBe := Lib.hid ((Below.refl w.heap.size w).alloc (Nat.le_refl _) (.cells #[] 43))
  cases q0
  case true =>
    have HE : Hid (s.data.toList = noneT) := Lib.hid (HQ0.out.1 (by first | rfl | trivial))
    go_enter Tryd.func5, Tryd.ntmps5
    go_wp2
    go_ret2
    exact ⟨⟨_, [], true, rfl, HE0.out, by rw [HE.out]; exact parsedP_none⟩, HBe.out⟩
  have HNe : Hid (s.data.toList ≠ noneT) := Lib.hid fun h => by have := HQ0.out.2 h; cases this
  obtain ⟨L, hL⟩ : ∃ L, L = pieces 44 s.data.toList := ⟨_, rfl⟩
  have HL := Lib.hid hL
  clear hL
  go_enter Tryd.func5, Tryd.ntmps5
  go_wp2_with fail
  refine (sCut2 s hs 44 _).mono ?_
  rintro e w1 ⟨⟨A, n, cc, l, rfl, hst, hpc⟩, hb1⟩
  have hlow : (w.alloc (.cells #[] 43)).heap.size = w.heap.size + 1 := by simp
  rw [hlow] at hst hb1
  have hsz1 : w.heap.size < w1.heap.size := by have := hb1.size; rw [hlow] at this; omega
  have HSt := Lib.hid hst
  have HPc : Hid (l.map (·.data.toList) = L) := Lib.hid (by rw [HL.out]; exact hpc)
  have hln : L.length = n := by rw [← HPc.out, List.length_map]; exact hst.1
  have hnb : n ≤ 1048577 := by
    have h1 := pieces_count 44 s.data.toList
    rw [← HL.out, hln, size_list] at h1
    omega
  have HLn := Lib.hid hln
  have HS1 : Hid (SpP w w1 w1 L 0 (.slice (some ⟨w.heap.size, 0, none⟩) 0 0)) := Lib.hid ⟨HE0.out.below (by rw [hlow]; exact hb1), fun g hg => .inl (by cases hg; rfl), fun _ _ _ => rfl, HBe.out.trans (hb1.mono (Nat.le_succ _)), Nat.le_refl _, by simp⟩
  clear hst hpc hb1 hlow hln HE0 HBe hc1 hc2
  go_wp2
  go_loopw [4, 6] (fun v i wr => ∃ k : Nat, k ≤ n ∧ i = .int .i64 k ∧ SpP w w1 wr L k v) (fun _ i _ => n - (intOf i).toNat)
  case atStart => exact ⟨0, Nat.zero_le _, rfl, HS1.out⟩
  case round =>
    clear HS1
    obtain ⟨k, hk, rfl, hsp⟩ := hrel
    have HS := Lib.hid hsp
    clear hsp
    by_cases hlt : k < n
    · obtain ⟨p, hp⟩ : ∃ p, l[k]? = some p := ⟨l[k]'(by rw [HSt.out.1]; exact hlt), List.getElem?_eq_getElem _⟩
      obtain ⟨b1, off1, rfl, hlo1, hb1, hc1⟩ := HSt.out.2 k p hp
      have f0 : wr.cell? ⟨b1, off1 + k, none⟩ = some (.string p) := (World.cell?_of_block (w := w1) (a := ⟨b1, off1 + k, none⟩) (HS.out.keep b1 (by omega) hb1)).trans hc1
      have hLk : L[k]? = some p.data.toList := by rw [← HPc.out, List.getElem?_map, hp]; rfl
      have hpm : p.data.toList ∈ L := List.mem_of_getElem? hLk
      have hpz : p.size ≤ 1048576 := by
        rw [HL.out] at hpm
        have h1 := piece_le hpm
        rw [size_list, size_list] at h1
        omega
      have HLk := Lib.hid hLk
      have HPm := Lib.hid hpm
      have hlt' : (k : Int) < (n : Int) := by omega
      clear hc1 hp hLk hpm
      go_wp2_with fail
      refine (sCut2 p hpz 62 _).mono ?_
      rintro e w2 ⟨⟨A2, n2, c2, l2, rfl, hst2, hpc2⟩, hb2⟩
      have HB2 := Lib.hid (HS.out.low.trans (hb2.mono HS.out.low.size))
      by_cases h2 : n2 = 2
      · obtain ⟨p0, p1, hp0, hp1, hpe⟩ := pieces_two hpc2 (hst2.1.trans h2)
        obtain ⟨b2, off2, rfl, hlo2, hl2, f1⟩ := hst2.2 0 p0 hp0
        obtain ⟨b2', off2', he, _, _, f2⟩ := hst2.2 1 p1 hp1
        obtain ⟨rfl, rfl⟩ : b2 = b2' ∧ off2 = off2' := by injection he with h; injection h with h1 h2; exact ⟨h1, h2⟩
        rw [Nat.add_zero] at f1
        have hpl := pieces_len 62 p.data.toList
        rw [hpe] at hpl
        simp only [List.map_cons, List.map_nil, List.sum_cons, List.sum_nil, List.length_cons, List.length_nil] at hpl
        rw [size_list, size_list, size_list] at hpl
        have hp0s : Hid (p0.size ≤ 1048576) := Lib.hid (by omega)
        have hp1s : Hid (p1.size ≤ 1048576) := Lib.hid (by omega)
        obtain ⟨z0, hz0⟩ : ∃ z, numS p0.data.toList = z := ⟨_, rfl⟩
        obtain ⟨z1, hz1⟩ : ∃ z, numS p1.data.toList = z := ⟨_, rfl⟩
        have HZ0 := Lib.hid hz0
        have HZ1 := Lib.hid hz1
        have HNum : Hid (numP p.data.toList = (z0, z1)) := Lib.hid (by unfold numP; rw [hpe, ← hz0, ← hz1]; rfl)
        have HTwo : Hid (twoB p.data.toList = true) := Lib.hid (by unfold twoB; rw [hpe]; rfl)
        have hb2' := hb2
        have HWr := Lib.hid hb2
        have HO2 := Lib.hid (HS.out.own.below hb2)
        have hB2 : Hid (w.heap.size ≤ w2.heap.size) := Lib.hid (Nat.le_trans HS.out.low.size hb2.size)
        have hne2 := Lib.hid (HS.out.far (b := b2) hlo2)
        have H4 : Hid ((((L.take k).map numP).length + [(z0, z1)].length) * 16 ≤ 140737488355328) := Lib.hid (by
          rw [List.length_map, List.length_take]
          simp only [List.length_cons, List.length_nil]
          omega)
        subst h2
        clear hpe hz0 hz1 hpl hp0 hp1 hst2 hpc2 hb2 hb2' he f0
        go_wp2
        have hs0 : w2.drew.cell? ⟨b2, off2, none⟩ = some (.string p0) ∧ w2.drew.cell? ⟨b2, off2 + 1, none⟩ = some (.string p1) := ⟨f1, f2⟩
        refine wp_region_held (S := fun w' => w'.cell? ⟨b2, off2, none⟩ = some (.string p0) ∧ w'.cell? ⟨b2, off2 + 1, none⟩ = some (.string p1)) (by kernel_rfl) ?_
        change wpAnyH _ _ _ _ _ _ _ _ (World.drew _)
        refine takeY 29 (i := 0) (v := ?v0a) rfl rfl (by kernel_rfl) (by kernel_rfl) (by kernel_rfl) (fun _ _ _ h => h) (by kernel_rfl) ?y0a hs0 ?_
        case y0a =>
          intro w' hw'; (try dsimp only at hw'); obtain ⟨e0, e1⟩ := hw'; go_simp; try with_reducible rfl
        simp only [Act.put, List.setIfInBounds_toArray, List.set_cons_zero, List.set_cons_succ]
        refine takeY 30 (i := 1) (v := ?v1a) rfl rfl (by kernel_rfl) (by kernel_rfl) (by kernel_rfl) (fun _ _ _ h => h) (by kernel_rfl) ?y1a hs0 ?_
        case y1a =>
          intro w' hw'; (try dsimp only at hw'); obtain ⟨e0, e1⟩ := hw'; go_simp; try with_reducible rfl
        simp only [Act.put, List.setIfInBounds_toArray, List.set_cons_zero, List.set_cons_succ]
        refine takeY 31 (i := 2) (v := ?v2a) rfl rfl (by kernel_rfl) (by kernel_rfl) (by kernel_rfl) (fun _ _ _ h => h) (by kernel_rfl) ?y2a hs0 ?_
        case y2a =>
          intro w' hw'; (try dsimp only at hw'); obtain ⟨e0, e1⟩ := hw'; go_simp; try with_reducible rfl
        simp only [Act.put, List.setIfInBounds_toArray, List.set_cons_zero, List.set_cons_succ]
        refine takeY 32 (i := 3) (v := ?v3a) rfl rfl (by kernel_rfl) (by kernel_rfl) (by kernel_rfl) (fun _ _ _ h => h) (by kernel_rfl) ?y3a hs0 ?_
        case y3a =>
          intro w' hw'; (try dsimp only at hw'); obtain ⟨e0, e1⟩ := hw'; go_simp; try with_reducible rfl
        simp only [Act.put, List.setIfInBounds_toArray, List.set_cons_zero, List.set_cons_succ]
        refine takeY 34 (i := 5) (v := ?v5a) rfl rfl (by kernel_rfl) (by kernel_rfl) (by kernel_rfl) (fun _ _ _ h => h) (by kernel_rfl) ?y5a hs0 ?_
        case y5a =>
          intro w' hw'; (try dsimp only at hw'); obtain ⟨e0, e1⟩ := hw'; go_simp; try with_reducible rfl
        simp only [Act.put, List.setIfInBounds_toArray, List.set_cons_zero, List.set_cons_succ]
        refine takeY 35 (i := 6) (v := ?v6a) rfl rfl (by kernel_rfl) (by kernel_rfl) (by kernel_rfl) (fun _ _ _ h => h) (by kernel_rfl) ?y6a hs0 ?_
        case y6a =>
          intro w' hw'; (try dsimp only at hw'); obtain ⟨e0, e1⟩ := hw'; go_simp; try with_reducible rfl
        simp only [Act.put, List.setIfInBounds_toArray, List.set_cons_zero, List.set_cons_succ]
        refine takeY 36 (i := 7) (v := ?v7a) rfl rfl (by kernel_rfl) (by kernel_rfl) (by kernel_rfl) (fun _ _ _ h => h) (by kernel_rfl) ?y7a hs0 ?_
        case y7a =>
          intro w' hw'; (try dsimp only at hw'); obtain ⟨e0, e1⟩ := hw'; go_simp; try with_reducible rfl
        simp only [Act.put, List.setIfInBounds_toArray, List.set_cons_zero, List.set_cons_succ]
        refine wpAnyH_ready (rs := [4]) (by kernel_rfl) (by simp) ?_
        refine AllReadyH.cons rfl (fun K hK => ?_) AllReadyH.nil
        go_simp; go_at_call 16; refine (sNum p0 hp0s.out _).mono ?_; rintro e w3 ⟨rfl, h3⟩; rw [HZ0.out]; replace h3 := (Below.refl w2.heap.size w2).drew.trans (h3.mono (Nat.le_refl _))
        refine hK.out _ _ ⟨(h3.cell (p := ⟨b2, off2, none⟩) hl2).trans f1, (h3.cell (p := ⟨b2, off2 + 1, none⟩) hl2).trans f2⟩ (fun hS1 => ?_)
        clear hK K
        try simp only [Act.put, List.setIfInBounds_toArray, List.set_cons_zero, List.set_cons_succ]
        refine wpAnyH_ready (rs := [8]) (by kernel_rfl) (by simp) ?_
        refine AllReadyH.cons rfl (fun K hK => ?_) AllReadyH.nil
        go_simp; go_at_call 16; refine (sNum p1 hp1s.out _).mono ?_; rintro e w4 ⟨rfl, h4⟩; rw [HZ1.out]; replace h4 := h3.trans (h4.mono h3.size); have HO4 := Lib.hid (HO2.out.below h4); have hB4 : Hid (w.heap.size ≤ w4.heap.size) := Lib.hid (Nat.le_trans hB2.out h4.size)
        refine hK.out _ _ ⟨(h4.cell (p := ⟨b2, off2, none⟩) hl2).trans f1, (h4.cell (p := ⟨b2, off2 + 1, none⟩) hl2).trans f2⟩ (fun hS2 => ?_)
        clear hK K
        try simp only [Act.put, List.setIfInBounds_toArray, List.set_cons_zero, List.set_cons_succ]
        refine takeY 38 (i := 9) (v := ?v9a) rfl rfl (by kernel_rfl) (by kernel_rfl) (by kernel_rfl) (fun _ _ _ h => h) (by kernel_rfl) ?y9a hS2 ?_
        case y9a =>
          intro w' hw'; (try dsimp only at hw'); obtain ⟨e0, e1⟩ := hw'; go_simp; try with_reducible rfl
        simp only [Act.put, List.setIfInBounds_toArray, List.set_cons_zero, List.set_cons_succ]
        refine wpAnyH_ready (rs := [10]) (by kernel_rfl) (by simp) ?_
        refine AllReadyH.cons rfl (fun K hK => ?_) AllReadyH.nil
        go_simp
        refine hK.out _ _ ⟨((h4.alloc h4.size _).cell (p := ⟨b2, off2, none⟩) hl2).trans f1, ((h4.alloc h4.size _).cell (p := ⟨b2, off2 + 1, none⟩) hl2).trans f2⟩ (fun hS3 => ?_)
        clear hK K
        try simp only [Act.put, List.setIfInBounds_toArray, List.set_cons_zero, List.set_cons_succ]
        refine wpAnyH_ready (rs := [11]) (by kernel_rfl) (by simp) ?_
        refine AllReadyH.cons rfl (fun K hK => ?_) AllReadyH.nil
        refine step_appP w4 (by rfl) (.tmp 29) (.tmp 39) (by rfl) w.heap.size _ _ (by rfl) HO4.out _ [(z0, z1)] (by rfl) 1 1 rfl (by rfl) H4.out hB4.out ?_; intro v5 w5 hown5 hg5 hv5; have hk5 : ∀ j, w5.cell? ⟨b2, j, none⟩ = w2.cell? ⟨b2, j, none⟩ := fun j => (World.cell?_of_block (a := ⟨b2, j, none⟩) (hg5.block b2 (by have := h4.size; simp; omega) (fun e => hne2.out e.symm))).trans ((h4.alloc h4.size _).cell (p := ⟨b2, j, none⟩) hl2)
        refine hK.out _ _ ⟨(hk5 _).trans f1, (hk5 _).trans f2⟩ (fun hS4 => ?_)
        clear hK K
        try simp only [Act.put, List.setIfInBounds_toArray, List.set_cons_zero, List.set_cons_succ]
        refine takeY 4 (i := 12) (v := ?v12a) rfl rfl (by kernel_rfl) (by kernel_rfl) (by kernel_rfl) (fun _ _ _ h => h) (by kernel_rfl) ?y12a hS4 ?_
        case y12a =>
          intro w' hw'; (try dsimp only at hw'); obtain ⟨e0, e1⟩ := hw'; go_simp; try with_reducible rfl
        simp only [Act.put, List.setIfInBounds_toArray, List.set_cons_zero, List.set_cons_succ]
        refine wpAnyH_done (by kernel_rfl) ?_ _
        have HS5 := Lib.hid (HS.out.next hsz1 HLk.out HTwo.out (HWr.out.trans (h4.mono HWr.out.size)) hg5 hv5 (by rw [HNum.out]; exact hown5))
        clear hs0 hS1 hS2 hS3 hS4 h3 h4 hg5 hv5 hown5 hk5 f1 f2 HS
        go_wp2
        go_roundw
        case rel => exact ⟨k + 1, by omega, by go_num, HS5.out⟩
        case measure => simp [intOf]; omega
      · have HNo : Hid (ParsedP s.data.toList [] false) := Lib.hid (spec_no1 HNe.out (by rw [← HL.out]; exact HPm.out) (by
          unfold twoB
          rw [← hpc2, List.length_map, hst2.1]
          simpa using h2))
        have hne : ((n2 : Int) == 2) = false := by rw [beq_eq_false_iff_ne]; omega
        clear h2 hst2 hpc2 f0 hb2
        go_wp2
        go_ret2
        exact ⟨⟨_, [], false, rfl, OwnP.empty _ _ HB2.out.size, HNo.out⟩, HB2.out.alloc HB2.out.size _⟩
    · obtain rfl : k = n := by omega
      obtain ⟨ps, hps⟩ : ∃ ps, ps = L.map numP := ⟨_, rfl⟩
      have hown := HS.out.own
      have htwo := HS.out.two
      rw [ptake_all HLn.out, ← hps] at hown
      rw [ptake_all HLn.out] at htwo
      have hk8 : k ≤ 1048576 := by
        have h1 := few (s := s.data.toList) (by
          rw [← HL.out]
          exact fun c hc => two_len (htwo c hc))
        rw [← HL.out, HLn.out, size_list] at h1
        omega
      obtain ⟨A3, n3, c3, rfl, hp3⟩ := hown.pairs
      obtain rfl : n3 = k := by rw [← hp3.1, hps, List.length_map]; exact HLn.out
      have HP3 := Lib.hid hp3
      have HO := Lib.hid hown
      have HTwo := Lib.hid htwo
      have HPs := Lib.hid hps
      obtain ⟨q, hq⟩ := bool_of (OkP ps)
      have HQ := Lib.hid hq
      clear hp3 hown htwo hps hq
      go_wp2_with fail
      refine (sFmtP wr wr.heap.size A3 n3 c3 ps HP3.out (Nat.le_refl _) hk8 q HQ.out).mono ?_
      rintro e w2 ⟨rfl, hb2⟩
      have HB2 := Lib.hid (HS.out.low.trans (hb2.mono HS.out.low.size))
      have HO2 := Lib.hid (HO.out.below hb2)
      clear hb2
      obtain ⟨r, hr⟩ := bool_of (fmtP ps q = s)
      have HR := Lib.hid hr
      have hcmp : ((fmtP ps q).toList == s.toList) = r := by
        rw [ByteArray.toList_eq, ByteArray.toList_eq, Bool.eq_iff_iff, beq_iff_eq, hr]
        exact ⟨fun h => bytes_ext h, fun h => by rw [h]⟩
      clear hr
      cases r
      · have HNo : Hid (ParsedP s.data.toList [] false) := Lib.hid (spec_no2 (q := q) HNe.out (by rw [← HL.out, ← HPs.out]; exact HQ.out) (by rw [← HL.out, ← HPs.out]; intro h; have := HR.out.2 h; cases this))
        go_wp2
        go_ret2
        exact ⟨⟨_, [], false, rfl, OwnP.empty _ _ HB2.out.size, HNo.out⟩, HB2.out.alloc HB2.out.size _⟩
      · have HY : Hid (ParsedP s.data.toList ps true) := Lib.hid (by
          have h1 := HTwo.out
          have h2 := HQ.out
          have h3 := HR.out.1 (by first | rfl | trivial)
          rw [HPs.out] at h2 h3 ⊢
          rw [HL.out] at h1 h2 h3 ⊢
          exact spec_yesP (q := q) HNe.out h1 h2 h3)
        go_wp2
        go_ret2
        exact ⟨⟨_, ps, true, rfl, HO2.out, HY.out⟩, HB2.out⟩
end Go.Proofs.YtghekfigfjhkeabDoor.num
