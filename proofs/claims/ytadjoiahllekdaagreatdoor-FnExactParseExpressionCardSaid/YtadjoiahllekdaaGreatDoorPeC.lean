/- Contracts of functions that the laws of this chapter call, packed. -/
import Derived.Test.YtadjoiahllekdaaGreatDoorPeB
import Derived.Test.YtadjoiahllekdaaGreatDoorPeA
import Derived.Maps.AppendAt
import Derived.Test.YtadjoiahllekdaaGreatDoorItemIds
import Derived.Deep.RegionLaw
import Derived.Deep.Cut
import Derived.Test.YtadjoiahllekdaaGreatDoorPairMarkI
import Derived.Test.YtadjoiahllekdaaGreatDoorWishLaw
import Derived.Test.YtadjoiahllekdaaGreatDoorWishesMem
namespace Go.Proofs.YtadjoiahllekdaaGreatDoor.num
set_option maxRecDepth 20000
open Go.RowKit Go.Maps
set_option linter.unusedVariables false
set_option linter.unusedSimpArgs false

theorem step_appP {ops : Array Oper} {o : Oper} {a : Act} {K : Act → World → Prop} {Q : Exit → Act → World → Prop} {E : Prop} (w : World) (hgd : o.guard = none) (s x : Operand)
    (ho : o.op = .call { callee := .builtin .append, args := #[s, x], argTypes := #[31, 31] })
    (B : Nat) (v : Value) (l : List (Int × Int)) (hs : a.eval s = v) (hown : OwnP w B v l) (cs : Array Value) (new : List (Int × Int)) (hcs : cs = (flat new).toArray) (n c : Nat) (hn : n = new.length)
    (hx : a.eval x = .slice (some ⟨w.heap.size, 0, none⟩) n c) (hlen : (l.length + new.length) * 16 ≤ 140737488355328) (hB : B ≤ w.heap.size)
    (h : ∀ v' w', OwnP w' B v' (l ++ new) → (w.alloc (.cells cs 78)).grownBy w' v.ownBlock → (v'.ownBlock = v.ownBlock ∨ v'.ownBlock = some (w.alloc (.cells cs 78)).heap.size) → K (a.put o.dst v') w') :
    if Region.wanted o (yielded ops a.tmps) = true then Oper.wp Tryz.prog o a (w.alloc (.cells cs 78)) K Q else E := by
  have hw : Region.wanted o (yielded ops a.tmps) = true := by simp [Region.wanted, hgd]
  rw [if_pos hw]
  obtain ⟨i0, hi, hz0, hz1, hz2⟩ := info_parts info_pair
  subst hcs hn
  obtain ⟨v', w', hr, h2, h3, h4, h5⟩ := run_append_own_at (P := Tryz.prog) (w.alloc (.cells (flat new).toArray 78)) B 31 o.type 78 i0 (.agg #[.int .i64 0, .int .i64 0]) 2 16 Tryz.underlying31 hi hz0 hz1 hz2 rfl (by decide) v l.length (flat l) (World.ownsRow.alloc hown _) ⟨w.heap.size, 0, none⟩ new.length c (flat new) (flat_len new) (fun j u hj => by
    have e : (⟨w.heap.size, 0, none⟩ : Addr).add j = ⟨w.heap.size, j, none⟩ := by unfold Addr.add; split <;> simp_all
    rw [e, World.cell?_alloc_at _ _ _ _ rfl]
    simpa using hj) (flat_one new) (by unfold maxLen; omega) (by omega) (by simp; omega)
  unfold Oper.wp execOp
  simp only [ho, resolve, invoke, builtin, Sem.run_bind, Sem.run_pure, Result.andThen_ok, List.map_toArray, List.map_cons, List.map_nil, hs, hx, hr]
  refine h v' w' ?_ h3 h5
  have e : (l ++ new).length = l.length + new.length := by simp
  unfold OwnP
  rw [e, flat_app]
  exact h2

/-- Behind k pieces: v holds the pairs that they read as; the pieces themselves lie untouched. -/
structure SpP (w w1 wr : World) (L : List (List UInt8)) (k : Nat) (v : Value) : Prop where
  own : OwnP wr w.heap.size v ((L.take k).map numP)
  apart : ∀ g, v.ownBlock = some g → g = w.heap.size ∨ w1.heap.size ≤ g
  keep : ∀ i, w.heap.size < i → i < w1.heap.size → wr.heap[i]? = w1.heap[i]?
  low : Below w.heap.size w wr
  sz : w1.heap.size ≤ wr.heap.size
  two : ∀ c ∈ L.take k, twoB c = true
theorem SpP.next {w w1 wr w4 w5 : World} {L : List (List UInt8)} {k : Nat} {v v' : Value} {c : List UInt8} {ob : Obj} (h : SpP w w1 wr L k v) (h01 : w.heap.size < w1.heap.size) (hc : L[k]? = some c) (h2 : twoB c = true) (hb : Below wr.heap.size wr w4) (hg : (w4.alloc ob).grownBy w5 v.ownBlock) (hv : v'.ownBlock = v.ownBlock ∨ v'.ownBlock = some (w4.alloc ob).heap.size)
    (ho : OwnP w5 w.heap.size v' ((L.take k).map numP ++ [numP c])) : SpP w w1 w5 L (k + 1) v' := by
  have hs4 := hb.size
  have hs := h.sz
  refine ⟨?_, fun g hgv => ?_, fun i h1 h2 => ?_, ?_, ?_, ?_⟩
  · rw [ptake_at hc, List.map_append]; exact ho
  · rcases hv with e | e
    · exact h.apart g (by rw [← e]; exact hgv)
    · rw [e] at hgv
      have := Option.some.inj hgv
      simp at this
      exact .inr (by omega)
  · have hne : some i ≠ v.ownBlock := fun e => by
      rcases h.apart i e.symm with h' | h' <;> omega
    rw [hg.block i (by simp; omega) hne, Below.heap_alloc _ _ _ (by omega), hb.block i (by omega)]
    exact h.keep i h1 h2
  · refine Below.grown ((h.low.trans (hb.mono (by omega))).alloc (by have := h.low.size; omega) ob) hg (by have := h.low.size; simp; omega) (fun g hgv => ?_)
    rcases h.apart g hgv with e | e <;> omega
  · have := hg.size
    simp at this
    omega
  · intro d hd
    rw [ptake_at hc] at hd
    rcases List.mem_append.1 hd with hd | hd
    · exact h.two d hd
    · rw [List.mem_singleton.1 hd]; exact h2
theorem SpP.far {w w1 wr : World} {L : List (List UInt8)} {k : Nat} {v : Value} (h : SpP w w1 wr L k v) {b : Nat} (hb : wr.heap.size ≤ b) : v.ownBlock ≠ some b := fun e => by
  have := h.own.tops b e
  omega
theorem pieces_two {c : UInt8} {s : List UInt8} {l : List ByteArray} (h : l.map (·.data.toList) = pieces c s) (h2 : l.length = 2) : ∃ p0 p1, l[0]? = some p0 ∧ l[1]? = some p1 ∧ pieces c s = [p0.data.toList, p1.data.toList] := by
  match l, h2 with
  | [a, b], _ => exact ⟨a, b, rfl, rfl, h.symm⟩

set_option maxRecDepth 20000 in
set_option maxHeartbeats 3200000 in
theorem sParsePairs (s : ByteArray) (hs : s.size ≤ 1048576) (w : World) : Calls Tryz.prog 142 #[.string s] w (OutParse s w) := by
  obtain ⟨q0, hq0⟩ := bool_of (s.data.toList = noneT)
  have hc1 : (s.toList == [110, 111, 110, 101]) = q0 := by
    rw [ByteArray.toList_eq, Bool.eq_iff_iff, beq_iff_eq, hq0]
    exact Iff.rfl
  have hc2 : (s.toList == (⟨#[110, 111, 110, 101]⟩ : ByteArray).toList) = q0 := by
    rw [ByteArray.toList_eq, ByteArray.toList_eq, Bool.eq_iff_iff, beq_iff_eq, hq0]
    exact Iff.rfl
  have HQ0 := Lib.hid hq0
  clear hq0
  have HE0 := Lib.hid (OwnP.empty w w.heap.size (Nat.le_refl _))
  have HBe := Lib.hid ((Below.refl w.heap.size w).alloc (Nat.le_refl _) (.cells #[] 78))
  cases q0
  case true =>
    have HE : Hid (s.data.toList = noneT) := Lib.hid (HQ0.out.1 (by first | rfl | trivial))
    go_enter Tryz.func142, Tryz.ntmps142
    go_wp2
    go_ret2
    exact ⟨⟨_, [], true, rfl, HE0.out, by rw [HE.out]; exact parsedP_none⟩, HBe.out⟩
  have HNe : Hid (s.data.toList ≠ noneT) := Lib.hid fun h => by have := HQ0.out.2 h; cases this
  obtain ⟨L, hL⟩ : ∃ L, L = pieces 44 s.data.toList := ⟨_, rfl⟩
  have HL := Lib.hid hL
  clear hL
  go_enter Tryz.func142, Tryz.ntmps142
  go_wp2_with fail
  refine (sCut2 s hs 44 _).mono ?_
  rintro e w1 ⟨⟨A, n, cc, l, rfl, hst, hpc⟩, hb1⟩
  have hlow : (w.alloc (.cells #[] 78)).heap.size = w.heap.size + 1 := by simp
  rw [hlow] at hst hb1
  have hsz1 : w.heap.size < w1.heap.size := by have := hb1.size; rw [hlow] at this; omega
  have HSt := Lib.hid hst
  have HPc : Hid (l.map (·.data.toList) = L) := Lib.hid (by rw [HL.out]; exact hpc)
  have hln : L.length = n := by rw [← HPc.out, List.length_map]; exact hst.1
  have hnb : n ≤ 1048577 := by
    have h1 := pieces_count 44 s.data.toList
    rw [← HL.out, hln, size_list] at h1
    omega
  have HLn := Lib.hid hln
  have HS1 : Hid (SpP w w1 w1 L 0 (.slice (some ⟨w.heap.size, 0, none⟩) 0 0)) := Lib.hid ⟨HE0.out.below (by rw [hlow]; exact hb1), fun g hg => .inl (by cases hg; rfl), fun _ _ _ => rfl, HBe.out.trans (hb1.mono (Nat.le_succ _)), Nat.le_refl _, by simp⟩
  clear hst hpc hb1 hlow hln HE0 HBe hc1 hc2
  go_wp2
  go_loopw [4, 6] (fun v i wr => ∃ k : Nat, k ≤ n ∧ i = .int .i64 k ∧ SpP w w1 wr L k v) (fun _ i _ => n - (intOf i).toNat)
  case atStart => exact ⟨0, Nat.zero_le _, rfl, HS1.out⟩
  case round =>
    clear HS1
    obtain ⟨k, hk, rfl, hsp⟩ := hrel
    have HS := Lib.hid hsp
    clear hsp
    by_cases hlt : k < n
    · obtain ⟨p, hp⟩ : ∃ p, l[k]? = some p := ⟨l[k]'(by rw [HSt.out.1]; exact hlt), List.getElem?_eq_getElem _⟩
      obtain ⟨b1, off1, rfl, hlo1, hb1, hc1⟩ := HSt.out.2 k p hp
      have f0 : wr.cell? ⟨b1, off1 + k, none⟩ = some (.string p) := (World.cell?_of_block (w := w1) (a := ⟨b1, off1 + k, none⟩) (HS.out.keep b1 (by omega) hb1)).trans hc1
      have hLk : L[k]? = some p.data.toList := by rw [← HPc.out, List.getElem?_map, hp]; rfl
      have hpm : p.data.toList ∈ L := List.mem_of_getElem? hLk
      have hpz : p.size ≤ 1048576 := by
        rw [HL.out] at hpm
        have h1 := piece_le hpm
        rw [size_list, size_list] at h1
        omega
      have HLk := Lib.hid hLk
      have HPm := Lib.hid hpm
      have hlt' : (k : Int) < (n : Int) := by omega
      clear hc1 hp hLk hpm
      go_wp2_with fail
      refine (sCut2 p hpz 62 _).mono ?_
      rintro e w2 ⟨⟨A2, n2, c2, l2, rfl, hst2, hpc2⟩, hb2⟩
      have HB2 := Lib.hid (HS.out.low.trans (hb2.mono HS.out.low.size))
      by_cases h2 : n2 = 2
      · obtain ⟨p0, p1, hp0, hp1, hpe⟩ := pieces_two hpc2 (hst2.1.trans h2)
        obtain ⟨b2, off2, rfl, hlo2, hl2, f1⟩ := hst2.2 0 p0 hp0
        obtain ⟨b2', off2', he, _, _, f2⟩ := hst2.2 1 p1 hp1
        obtain ⟨rfl, rfl⟩ : b2 = b2' ∧ off2 = off2' := by injection he with h; injection h with h1 h2; exact ⟨h1, h2⟩
        rw [Nat.add_zero] at f1
        have hpl := pieces_len 62 p.data.toList
        rw [hpe] at hpl
        simp only [List.map_cons, List.map_nil, List.sum_cons, List.sum_nil, List.length_cons, List.length_nil] at hpl
        rw [size_list, size_list, size_list] at hpl
        have hp0s : Hid (p0.size ≤ 1048576) := Lib.hid (by omega)
        have hp1s : Hid (p1.size ≤ 1048576) := Lib.hid (by omega)
        obtain ⟨z0, hz0⟩ : ∃ z, numS p0.data.toList = z := ⟨_, rfl⟩
        obtain ⟨z1, hz1⟩ : ∃ z, numS p1.data.toList = z := ⟨_, rfl⟩
        have HZ0 := Lib.hid hz0
        have HZ1 := Lib.hid hz1
        have HNum : Hid (numP p.data.toList = (z0, z1)) := Lib.hid (by unfold numP; rw [hpe, ← hz0, ← hz1]; rfl)
        have HTwo : Hid (twoB p.data.toList = true) := Lib.hid (by unfold twoB; rw [hpe]; rfl)
        have hb2' := hb2
        have HWr := Lib.hid hb2
        have HO2 := Lib.hid (HS.out.own.below hb2)
        have hB2 : Hid (w.heap.size ≤ w2.heap.size) := Lib.hid (Nat.le_trans HS.out.low.size hb2.size)
        have hne2 := Lib.hid (HS.out.far (b := b2) hlo2)
        have H4 : Hid ((((L.take k).map numP).length + [(z0, z1)].length) * 16 ≤ 140737488355328) := Lib.hid (by
          rw [List.length_map, List.length_take]
          simp only [List.length_cons, List.length_nil]
          omega)
        subst h2
        clear hpe hz0 hz1 hpl hp0 hp1 hst2 hpc2 hb2 hb2' he f0
        go_wp2
        have hs0 : w2.drew.cell? ⟨b2, off2, none⟩ = some (.string p0) ∧ w2.drew.cell? ⟨b2, off2 + 1, none⟩ = some (.string p1) := ⟨f1, f2⟩
        refine wp_region_held (S := fun w' => w'.cell? ⟨b2, off2, none⟩ = some (.string p0) ∧ w'.cell? ⟨b2, off2 + 1, none⟩ = some (.string p1)) (by kernel_rfl) ?_
        change wpAnyH _ _ _ _ _ _ _ _ (World.drew _)
        refine takeY 29 (i := 0) (v := ?v0a) rfl rfl (by kernel_rfl) (by kernel_rfl) (by kernel_rfl) (fun _ _ _ h => h) (by kernel_rfl) ?y0a hs0 ?_
        case y0a =>
          intro w' hw'; (try dsimp only at hw'); obtain ⟨e0, e1⟩ := hw'; go_simp; try with_reducible rfl
        simp only [Act.put, List.setIfInBounds_toArray, List.set_cons_zero, List.set_cons_succ]
        refine takeY 30 (i := 1) (v := ?v1a) rfl rfl (by kernel_rfl) (by kernel_rfl) (by kernel_rfl) (fun _ _ _ h => h) (by kernel_rfl) ?y1a hs0 ?_
        case y1a =>
          intro w' hw'; (try dsimp only at hw'); obtain ⟨e0, e1⟩ := hw'; go_simp; try with_reducible rfl
        simp only [Act.put, List.setIfInBounds_toArray, List.set_cons_zero, List.set_cons_succ]
        refine takeY 31 (i := 2) (v := ?v2a) rfl rfl (by kernel_rfl) (by kernel_rfl) (by kernel_rfl) (fun _ _ _ h => h) (by kernel_rfl) ?y2a hs0 ?_
        case y2a =>
          intro w' hw'; (try dsimp only at hw'); obtain ⟨e0, e1⟩ := hw'; go_simp; try with_reducible rfl
        simp only [Act.put, List.setIfInBounds_toArray, List.set_cons_zero, List.set_cons_succ]
        refine takeY 32 (i := 3) (v := ?v3a) rfl rfl (by kernel_rfl) (by kernel_rfl) (by kernel_rfl) (fun _ _ _ h => h) (by kernel_rfl) ?y3a hs0 ?_
        case y3a =>
          intro w' hw'; (try dsimp only at hw'); obtain ⟨e0, e1⟩ := hw'; go_simp; try with_reducible rfl
        simp only [Act.put, List.setIfInBounds_toArray, List.set_cons_zero, List.set_cons_succ]
        refine takeY 34 (i := 5) (v := ?v5a) rfl rfl (by kernel_rfl) (by kernel_rfl) (by kernel_rfl) (fun _ _ _ h => h) (by kernel_rfl) ?y5a hs0 ?_
        case y5a =>
          intro w' hw'; (try dsimp only at hw'); obtain ⟨e0, e1⟩ := hw'; go_simp; try with_reducible rfl
        simp only [Act.put, List.setIfInBounds_toArray, List.set_cons_zero, List.set_cons_succ]
        refine takeY 35 (i := 6) (v := ?v6a) rfl rfl (by kernel_rfl) (by kernel_rfl) (by kernel_rfl) (fun _ _ _ h => h) (by kernel_rfl) ?y6a hs0 ?_
        case y6a =>
          intro w' hw'; (try dsimp only at hw'); obtain ⟨e0, e1⟩ := hw'; go_simp; try with_reducible rfl
        simp only [Act.put, List.setIfInBounds_toArray, List.set_cons_zero, List.set_cons_succ]
        refine takeY 36 (i := 7) (v := ?v7a) rfl rfl (by kernel_rfl) (by kernel_rfl) (by kernel_rfl) (fun _ _ _ h => h) (by kernel_rfl) ?y7a hs0 ?_
        case y7a =>
          intro w' hw'; (try dsimp only at hw'); obtain ⟨e0, e1⟩ := hw'; go_simp; try with_reducible rfl
        simp only [Act.put, List.setIfInBounds_toArray, List.set_cons_zero, List.set_cons_succ]
        refine wpAnyH_ready (rs := [4]) (by kernel_rfl) (by simp) ?_
        refine AllReadyH.cons rfl (fun K hK => ?_) AllReadyH.nil
        go_simp; go_at_call 141; refine (sNum p0 hp0s.out _).mono ?_; rintro e w3 ⟨rfl, h3⟩; rw [HZ0.out]; replace h3 := (Below.refl w2.heap.size w2).drew.trans (h3.mono (Nat.le_refl _))
        refine hK.out _ _ ⟨(h3.cell (p := ⟨b2, off2, none⟩) hl2).trans f1, (h3.cell (p := ⟨b2, off2 + 1, none⟩) hl2).trans f2⟩ (fun hS1 => ?_)
        clear hK K
        try simp only [Act.put, List.setIfInBounds_toArray, List.set_cons_zero, List.set_cons_succ]
        refine wpAnyH_ready (rs := [8]) (by kernel_rfl) (by simp) ?_
        refine AllReadyH.cons rfl (fun K hK => ?_) AllReadyH.nil
        go_simp; go_at_call 141; refine (sNum p1 hp1s.out _).mono ?_; rintro e w4 ⟨rfl, h4⟩; rw [HZ1.out]; replace h4 := h3.trans (h4.mono h3.size); have HO4 := Lib.hid (HO2.out.below h4); have hB4 : Hid (w.heap.size ≤ w4.heap.size) := Lib.hid (Nat.le_trans hB2.out h4.size)
        refine hK.out _ _ ⟨(h4.cell (p := ⟨b2, off2, none⟩) hl2).trans f1, (h4.cell (p := ⟨b2, off2 + 1, none⟩) hl2).trans f2⟩ (fun hS2 => ?_)
        clear hK K
        try simp only [Act.put, List.setIfInBounds_toArray, List.set_cons_zero, List.set_cons_succ]
        refine takeY 38 (i := 9) (v := ?v9a) rfl rfl (by kernel_rfl) (by kernel_rfl) (by kernel_rfl) (fun _ _ _ h => h) (by kernel_rfl) ?y9a hS2 ?_
        case y9a =>
          intro w' hw'; (try dsimp only at hw'); obtain ⟨e0, e1⟩ := hw'; go_simp; try with_reducible rfl
        simp only [Act.put, List.setIfInBounds_toArray, List.set_cons_zero, List.set_cons_succ]
        refine wpAnyH_ready (rs := [10]) (by kernel_rfl) (by simp) ?_
        refine AllReadyH.cons rfl (fun K hK => ?_) AllReadyH.nil
        go_simp
        refine hK.out _ _ ⟨((h4.alloc h4.size _).cell (p := ⟨b2, off2, none⟩) hl2).trans f1, ((h4.alloc h4.size _).cell (p := ⟨b2, off2 + 1, none⟩) hl2).trans f2⟩ (fun hS3 => ?_)
        clear hK K
        try simp only [Act.put, List.setIfInBounds_toArray, List.set_cons_zero, List.set_cons_succ]
        refine wpAnyH_ready (rs := [11]) (by kernel_rfl) (by simp) ?_
        refine AllReadyH.cons rfl (fun K hK => ?_) AllReadyH.nil
        refine step_appP w4 (by rfl) (.tmp 29) (.tmp 39) (by rfl) w.heap.size _ _ (by rfl) HO4.out _ [(z0, z1)] (by rfl) 1 1 rfl (by rfl) H4.out hB4.out ?_; intro v5 w5 hown5 hg5 hv5; have hk5 : ∀ j, w5.cell? ⟨b2, j, none⟩ = w2.cell? ⟨b2, j, none⟩ := fun j => (World.cell?_of_block (a := ⟨b2, j, none⟩) (hg5.block b2 (by have := h4.size; simp; omega) (fun e => hne2.out e.symm))).trans ((h4.alloc h4.size _).cell (p := ⟨b2, j, none⟩) hl2)
        refine hK.out _ _ ⟨(hk5 _).trans f1, (hk5 _).trans f2⟩ (fun hS4 => ?_)
        clear hK K
        try simp only [Act.put, List.setIfInBounds_toArray, List.set_cons_zero, List.set_cons_succ]
        refine takeY 4 (i := 12) (v := ?v12a) rfl rfl (by kernel_rfl) (by kernel_rfl) (by kernel_rfl) (fun _ _ _ h => h) (by kernel_rfl) ?y12a hS4 ?_
        case y12a =>
          intro w' hw'; (try dsimp only at hw'); obtain ⟨e0, e1⟩ := hw'; go_simp; try with_reducible rfl
        simp only [Act.put, List.setIfInBounds_toArray, List.set_cons_zero, List.set_cons_succ]
        refine wpAnyH_done (by kernel_rfl) ?_ _
        have HS5 := Lib.hid (HS.out.next hsz1 HLk.out HTwo.out (HWr.out.trans (h4.mono HWr.out.size)) hg5 hv5 (by rw [HNum.out]; exact hown5))
        clear hs0 hS1 hS2 hS3 hS4 h3 h4 hg5 hv5 hown5 hk5 f1 f2 HS
        go_wp2
        go_roundw
        case rel => exact ⟨k + 1, by omega, by go_num, HS5.out⟩
        case measure => simp [intOf]; omega
      · have HNo : Hid (ParsedP s.data.toList [] false) := Lib.hid (spec_no1 HNe.out (by rw [← HL.out]; exact HPm.out) (by
          unfold twoB
          rw [← hpc2, List.length_map, hst2.1]
          simpa using h2))
        have hne : ((n2 : Int) == 2) = false := by rw [beq_eq_false_iff_ne]; omega
        clear h2 hst2 hpc2 f0 hb2
        go_wp2
        go_ret2
        exact ⟨⟨_, [], false, rfl, OwnP.empty _ _ HB2.out.size, HNo.out⟩, HB2.out.alloc HB2.out.size _⟩
    · obtain rfl : k = n := by omega
      obtain ⟨ps, hps⟩ : ∃ ps, ps = L.map numP := ⟨_, rfl⟩
      have hown := HS.out.own
      have htwo := HS.out.two
      rw [ptake_all HLn.out, ← hps] at hown
      rw [ptake_all HLn.out] at htwo
      have hk8 : k ≤ 1048576 := by
        have h1 := few (s := s.data.toList) (by
          rw [← HL.out]
          exact fun c hc => two_len (htwo c hc))
        rw [← HL.out, HLn.out, size_list] at h1
        omega
      obtain ⟨A3, n3, c3, rfl, hp3⟩ := hown.pairs
      obtain rfl : n3 = k := by rw [← hp3.1, hps, List.length_map]; exact HLn.out
      have HP3 := Lib.hid hp3
      have HO := Lib.hid hown
      have HTwo := Lib.hid htwo
      have HPs := Lib.hid hps
      obtain ⟨q, hq⟩ := bool_of (OkP ps)
      have HQ := Lib.hid hq
      clear hp3 hown htwo hps hq
      go_wp2_with fail
      refine (sFmtP wr wr.heap.size A3 n3 c3 ps HP3.out (Nat.le_refl _) hk8 q HQ.out).mono ?_
      rintro e w2 ⟨rfl, hb2⟩
      have HB2 := Lib.hid (HS.out.low.trans (hb2.mono HS.out.low.size))
      have HO2 := Lib.hid (HO.out.below hb2)
      clear hb2
      obtain ⟨r, hr⟩ := bool_of (fmtP ps q = s)
      have HR := Lib.hid hr
      have hcmp : ((fmtP ps q).toList == s.toList) = r := by
        rw [ByteArray.toList_eq, ByteArray.toList_eq, Bool.eq_iff_iff, beq_iff_eq, hr]
        exact ⟨fun h => bytes_ext h, fun h => by rw [h]⟩
      clear hr
      cases r
      · have HNo : Hid (ParsedP s.data.toList [] false) := Lib.hid (spec_no2 (q := q) HNe.out (by rw [← HL.out, ← HPs.out]; exact HQ.out) (by rw [← HL.out, ← HPs.out]; intro h; have := HR.out.2 h; cases this))
        go_wp2
        go_ret2
        exact ⟨⟨_, [], false, rfl, OwnP.empty _ _ HB2.out.size, HNo.out⟩, HB2.out.alloc HB2.out.size _⟩
      · have HY : Hid (ParsedP s.data.toList ps true) := Lib.hid (by
          have h1 := HTwo.out
          have h2 := HQ.out
          have h3 := HR.out.1 (by first | rfl | trivial)
          rw [HPs.out] at h2 h3 ⊢
          rw [HL.out] at h1 h2 h3 ⊢
          exact spec_yesP (q := q) HNe.out h1 h2 h3)
        go_wp2
        go_ret2
        exact ⟨⟨_, ps, true, rfl, HO2.out, HY.out⟩, HB2.out⟩
end Go.Proofs.YtadjoiahllekdaaGreatDoor.num
namespace Go.Proofs.YtadjoiahllekdaaGreatDoor.num
set_option maxRecDepth 20000
open Go.RowKit
set_option linter.unusedVariables false

theorem grown_of {w w' : World} {B : Nat} (row : Option Nat) (h : Below B w w') (hB : w.heap.size ≤ B) : w.grownBy w' row := ⟨h.os, h.tape, h.output, h.size, fun i hi _ => h.block i (by omega)⟩
theorem grown_two {a b c : World} {r : Option Nat} (h : a.grownBy b r) (k : b.grownBy c r) : a.grownBy c r :=
  ⟨k.os.trans h.os, k.tape.trans h.tape, k.output.trans h.output, Nat.le_trans h.size k.size, fun i hi hne => (k.block i (Nat.lt_of_lt_of_le hi h.size) hne).trans (h.block i hi hne)⟩
theorem grown_app {a b c : World} {r : Option Nat} (h : a.grownBy b r) (k : Below a.heap.size b c) : a.grownBy c r :=
  ⟨k.os.trans h.os, k.tape.trans h.tape, k.output.trans h.output, Nat.le_trans h.size k.size, fun i hi hne => (k.block i hi).trans (h.block i hi hne)⟩
theorem grown_put {a b : World} {g : Nat} (h : a.grownBy b (some g)) (j : Nat) (v : Value) : a.grownBy (b.setCell ⟨g, j, none⟩ v) (some g) :=
  ⟨h.os, h.tape, h.output, Nat.le_trans h.size (by simp [World.setCell]), fun i hi hne => (Below.heap_setCell b ⟨g, j, none⟩ v i (fun e => hne (by rw [e]))).trans (h.block i hi hne)⟩
theorem grown_low {a b : World} {g B : Nat} (h : a.grownBy b (some g)) (hB : B ≤ g) (hs : B ≤ a.heap.size) : Below B a b :=
  ⟨h.os, h.tape, h.output, h.size, fun i hi => h.block i (by omega) (fun e => by injection e; omega)⟩

theorem step_appI {ops : Array Oper} {o : Oper} {a : Act} {K : Act → World → Prop} {Q : Exit → Act → World → Prop} {E : Prop} (w : World) (hgd : o.guard = none) (s x : Operand)
    (ho : o.op = .call { callee := .builtin .append, args := #[s, x], argTypes := #[24, 24] })
    (B : Nat) (v : Value) (l : List Int) (hs : a.eval s = v) (hown : OwnI w B v l) (cs : Array Value) (new : List Int) (hcs : cs = (new.map (Value.int .i64)).toArray) (n c : Nat) (hn : n = new.length)
    (hx : a.eval x = .slice (some ⟨w.heap.size, 0, none⟩) n c) (hlen : (l.length + new.length) * 8 ≤ 140737488355328) (hB : B ≤ w.heap.size)
    (h : ∀ v' w', OwnI w' B v' (l ++ new) → Below B w w' → K (a.put o.dst v') w') :
    if Region.wanted o (yielded ops a.tmps) = true then Oper.wp Tryz.prog o a (w.alloc (.cells cs 3)) K Q else E := by
  have hw : Region.wanted o (yielded ops a.tmps) = true := by simp [Region.wanted, hgd]
  rw [if_pos hw]
  obtain ⟨i0, hi, hz0, hz1, hz2⟩ := info_parts info_int
  subst hcs hn
  refine wp_append_own _ s x 24 ho B 3 i0 (.int .i64 0) 1 8 Tryz.underlying24 hi hz0 hz1 hz2 rfl (by decide) v l.length (l.map (Value.int .i64)) hs (World.ownsRow.alloc hown _) ⟨w.heap.size, 0, none⟩ new.length c (new.map (Value.int .i64)) hx (by simp) ?_ ?_ (by unfold maxLen; omega) (by omega) (by simp; omega) ?_
  · intro j u hj
    have e : (⟨w.heap.size, 0, none⟩ : Addr).add j = ⟨w.heap.size, j, none⟩ := by unfold Addr.add; split <;> simp_all
    rw [e, World.cell?_alloc_at _ _ _ _ rfl]
    simpa using hj
  · intro u hu
    obtain ⟨b, _, rfl⟩ := List.mem_map.1 hu
    rfl
  · intro v' w' hown' hg _
    refine h v' w' ?_ (((Below.refl B w).alloc hB _).grown hg (by simp; omega) (fun k hk => ?_))
    · have e : (l ++ new).length = l.length + new.length := by simp
      unfold OwnI
      rw [e, List.map_append]
      exact hown'
    · exact (World.ownsRow.lt hown k hk).1

theorem ints_set {w : World} {B g j : Nat} {A : Option Addr} {n : Nat} {xs : List Int} {v : Value} (h : Ints w B A n xs) (hg : ∀ b off : Nat, A = some ⟨b, off, none⟩ → b ≠ g) : Ints (w.setCell ⟨g, j, none⟩ v) B A n xs :=
  ⟨h.1, fun k hk => by
    obtain ⟨b, off, ha, hB, hc⟩ := h.2 k hk
    exact ⟨b, off, ha, hB, (World.cell?_setCell_other _ _ _ _ (fun e => by injection e with e; exact hg b off ha e.symm)).trans hc⟩⟩
theorem OwnI.below {w w' : World} {B : Nat} {v : Value} {l : List Int} (h : OwnI w B v l) (hb : Below w.heap.size w w') : OwnI w' B v l := by
  obtain ⟨h1, h2⟩ := h
  refine ⟨h1, ?_⟩
  rcases h2 with h2 | ⟨g, cap, cur, hv, hg, hh, r⟩
  · exact Or.inl h2
  · exact Or.inr ⟨g, cap, cur, hv, hg, (hb.block g (lt_of_block hh)).trans hh, r⟩
theorem OwnI.low {w : World} {B : Nat} {v : Value} {l : List Int} (h : OwnI w B v l) : ∃ A n c, v = .slice A n c ∧ Ints w w.heap.size A n l ∧ ∀ b off : Nat, A = some ⟨b, off, none⟩ → B ≤ b := by
  obtain ⟨A, n, c, rfl, hi⟩ := h.ints
  refine ⟨A, n, c, rfl, hi, fun b off hA => ?_⟩
  rcases h.2 with ⟨hv, _⟩ | ⟨g, cap, cur, hv, hgB, _, _⟩
  · injection hv with h1; rw [h1] at hA; cases hA
  · injection hv with h1
    rw [h1] at hA
    injection hA with hA
    injection hA with hA
    omega

/-- The loop that reads the values: x lies in block X. -/
def Filled (w3 : World) (X B : Nat) (id : Int) (l : List ByteArray) (k : Nat) (wr : World) : Prop :=
  ∃ v vals, wr.heap[X]? = some (.cells #[.int .i64 id, v] 26 (0, 0)) ∧ OwnI wr B v vals ∧ vals = (l.take k).map (fun p => numS p.data.toList) ∧ w3.grownBy wr (some X)

def SpecPost (s : ByteArray) (w : World) (e : Ending) (w' : World) : Prop := (∃ (t : It) (ok : Bool), e = .returned (.tuple #[t.val, .bool ok]) ∧ Parsed s.data.toList t.dat ok ∧ Ints w' w'.heap.size t.A t.n t.xs ∧ t.n ≤ 1048576) ∧ Below w.heap.size w w'
end Go.Proofs.YtadjoiahllekdaaGreatDoor.num
namespace Go.Proofs.YtadjoiahllekdaaGreatDoor.num
set_option maxRecDepth 20000
open Go.RowKit
set_option linter.unusedVariables false
set_option linter.unusedSimpArgs false

theorem zero_in (w : World) : WiIn w w.heap.size ⟨0, 0, 0, none, 0, 0, [], none, 0, 0, []⟩ := ⟨by decide, by decide, by decide, ownI_at (c := 0) (ownI_nil w 0), (OwnP.nil w 0).at (c := 0)⟩
theorem numS_in (l : List UInt8) : -999999999 ≤ numS l ∧ numS l ≤ 999999999 := by
  have := pVal_in l
  unfold numS
  split <;> omega
theorem fS_in (l : List UInt8) : -999999999 ≤ fS l ∧ fS l ≤ 999999999 := by
  have := numS_in l.tail
  unfold fS
  split <;> omega
theorem mem_sum {L : List (List UInt8)} {p : List UInt8} (h : p ∈ L) : p.length ≤ (L.map List.length).sum := by
  induction L with
  | nil => simp at h
  | cons a t ih =>
    rw [List.map_cons, List.sum_cons]
    rcases List.mem_cons.1 h with rfl | h
    · omega
    · have := ih h; omega
theorem piece_lt {c : UInt8} {l p : List UInt8} (h : p ∈ pieces c l) (h2 : 2 ≤ (pieces c l).length) : p.length + 1 ≤ l.length := by
  have h1 := pieces_len c l
  have h3 : p.length ≤ ((pieces c l).map List.length).sum := mem_sum h
  omega
/-- The loop that reads the values: the wish lies in block X. -/
def FilledW (w3 : World) (X B : Nat) (f : Int) (l : List ByteArray) (k : Nat) (wr : World) : Prop :=
  ∃ v vals, wr.heap[X]? = some (.cells #[.int .i64 3, .int .i64 f, .int .i64 0, v, .slice none 0 0] 39 (0, 0)) ∧ OwnI wr B v vals ∧ vals = (l.take k).map (fun p => numS p.data.toList) ∧ w3.grownBy wr (some X)
theorem ReadW.wi' {w : World} {B : Nat} {t : Wi} (h : ReadW w B t) (g : (Lit.int .i64 t.kind).wf = true ∧ (Lit.int .i64 t.field).wf = true ∧ (Lit.int .i64 t.value).wf = true) : WiIn w w.heap.size t := ⟨g.1, g.2.1, g.2.2, ownI_at h.l, h.p.at⟩
theorem read_zero (w : World) (B : Nat) : ReadW w B ⟨0, 0, 0, none, 0, 0, [], none, 0, 0, []⟩ := ⟨ownI_nil _ _, OwnP.nil _ _, by simp, by simp, fun k h => (by cases h)⟩
/-- What the model hands back, its memory new. -/
def OutSpecR (s : ByteArray) (w : World) (e : Ending) (w' : World) : Prop := (∃ (t : Wi) (ok : Bool), e = .returned (.tuple #[t.val, .bool ok]) ∧ ParsedW s.data.toList t.dat ok ∧ ((Lit.int .i64 t.kind).wf = true ∧ (Lit.int .i64 t.field).wf = true ∧ (Lit.int .i64 t.value).wf = true) ∧ ReadW w' w.heap.size t) ∧ Below w.heap.size w w'
def OutSpecW (s : ByteArray) (w : World) (e : Ending) (w' : World) : Prop := (∃ (t : Wi) (ok : Bool), e = .returned (.tuple #[t.val, .bool ok]) ∧ ParsedW s.data.toList t.dat ok ∧ WiIn w' w'.heap.size t ∧ t.Short) ∧ Below w.heap.size w w'
theorem str_is (p : ByteArray) (l : List UInt8) (b : Bool) (h : b = true ↔ p.data.toList = l) : (p.toList == l) = b := by
  rw [ByteArray.toList_eq]
  cases b
  · exact beq_eq_false_iff_ne.2 fun e => by have := h.2 e; cases this
  · exact beq_iff_eq.2 (h.1 rfl)

set_option maxRecDepth 100000 in
set_option maxHeartbeats 12800000 in
theorem sParseWishR (s : ByteArray) (hs : s.size ≤ 1048576) (w : World) :
    Calls Tryz.prog 123 #[.string s] w (OutSpecR s w) := by
  go_enter Tryz.func123, Tryz.ntmps123
  go_wp2_with fail
  refine (sCut2 s hs 32 _).mono ?_
  rintro e w1 ⟨⟨A, n, cc, l, rfl, hst, hpc⟩, hb1⟩
  have hx := (Below.refl w.heap.size w).alloc (Nat.le_refl _) (.cells #[.int .i64 0, .int .i64 0, .int .i64 0, .slice none 0 0, .slice none 0 0] 39)
  have HR1 : Hid (w1.heap[w.heap.size]? = some (.cells #[.int .i64 0, .int .i64 0, .int .i64 0, .slice none 0 0, .slice none 0 0] 39 (0, 0))) := Lib.hid ((hb1.block w.heap.size (by simp)).trans (heap_alloc_new w _))
  have HB1 := Lib.hid (hx.trans (hb1.mono hx.size))
  have HPc := Lib.hid hpc
  have HSt := Lib.hid hst
  have hln : l.length = n := hst.1
  have hplen : (pieces 32 s.data.toList).length = n := by rw [← hpc, List.length_map, hln]
  have HPl := Lib.hid hplen
  have HLn := Lib.hid hln
  have hlt : w.heap.size < w1.heap.size := lt_of_block HR1.out
  clear hst hpc hln hplen hb1 hx
  by_cases h2 : n < 2
  · have hd : decide ((n : Int) < 2) = true := by simp; omega
    have HN := Lib.hid (count_no (s := s.data.toList) (.inl (by rw [HPl.out]; exact h2)))
    clear h2
    have x0 : World.cell? w1 ⟨w.heap.size, 0, none⟩ = some (.int .i64 0) := cell_of_row _ _ 0 _ _ (0, 0) HR1.out
    have x1 : World.cell? w1 ⟨w.heap.size, 1, none⟩ = some (.int .i64 0) := cell_of_row _ _ 1 _ _ (0, 0) HR1.out
    have x2 : World.cell? w1 ⟨w.heap.size, 2, none⟩ = some (.int .i64 0) := cell_of_row _ _ 2 _ _ (0, 0) HR1.out
    have x3 : World.cell? w1 ⟨w.heap.size, 3, none⟩ = some (.slice none 0 0) := cell_of_row _ _ 3 _ _ (0, 0) HR1.out
    have x4 : World.cell? w1 ⟨w.heap.size, 4, none⟩ = some (.slice none 0 0) := cell_of_row _ _ 4 _ _ (0, 0) HR1.out
    have z0 : World.frozen? w1 ⟨w.heap.size, 0, none⟩ = false := frozen_of_row _ _ 0 _ _ HR1.out
    have z1 : World.frozen? w1 ⟨w.heap.size, 1, none⟩ = false := frozen_of_row _ _ 1 _ _ HR1.out
    have z2 : World.frozen? w1 ⟨w.heap.size, 2, none⟩ = false := frozen_of_row _ _ 2 _ _ HR1.out
    have z3 : World.frozen? w1 ⟨w.heap.size, 3, none⟩ = false := frozen_of_row _ _ 3 _ _ HR1.out
    have z4 : World.frozen? w1 ⟨w.heap.size, 4, none⟩ = false := frozen_of_row _ _ 4 _ _ HR1.out
    go_wp2
    refine bodyPost_ret_by (results_row_tmp rfl _ _ w.heap.size 39 _ (0, 0) _ rfl (five_set HR1.out) Tryz.underlying39 rfl (by kernel_rfl)) rfl ?_
    exact ⟨⟨⟨0, 0, 0, none, 0, 0, [], none, 0, 0, []⟩, false, rfl, HN.out, ⟨rfl, rfl, rfl⟩, read_zero _ _⟩, below5 HB1.out (Nat.le_refl _) _ _ _ _ _⟩
  have hd : decide ((n : Int) < 2) = false := by simp; omega
  by_cases h3 : 3 < n
  · have hd3 : decide ((3 : Int) < (n : Int)) = true := by simp; omega
    have HN := Lib.hid (count_no (s := s.data.toList) (.inr (by rw [HPl.out]; exact h3)))
    clear h2 h3
    have x0 : World.cell? w1 ⟨w.heap.size, 0, none⟩ = some (.int .i64 0) := cell_of_row _ _ 0 _ _ (0, 0) HR1.out
    have x1 : World.cell? w1 ⟨w.heap.size, 1, none⟩ = some (.int .i64 0) := cell_of_row _ _ 1 _ _ (0, 0) HR1.out
    have x2 : World.cell? w1 ⟨w.heap.size, 2, none⟩ = some (.int .i64 0) := cell_of_row _ _ 2 _ _ (0, 0) HR1.out
    have x3 : World.cell? w1 ⟨w.heap.size, 3, none⟩ = some (.slice none 0 0) := cell_of_row _ _ 3 _ _ (0, 0) HR1.out
    have x4 : World.cell? w1 ⟨w.heap.size, 4, none⟩ = some (.slice none 0 0) := cell_of_row _ _ 4 _ _ (0, 0) HR1.out
    have z0 : World.frozen? w1 ⟨w.heap.size, 0, none⟩ = false := frozen_of_row _ _ 0 _ _ HR1.out
    have z1 : World.frozen? w1 ⟨w.heap.size, 1, none⟩ = false := frozen_of_row _ _ 1 _ _ HR1.out
    have z2 : World.frozen? w1 ⟨w.heap.size, 2, none⟩ = false := frozen_of_row _ _ 2 _ _ HR1.out
    have z3 : World.frozen? w1 ⟨w.heap.size, 3, none⟩ = false := frozen_of_row _ _ 3 _ _ HR1.out
    have z4 : World.frozen? w1 ⟨w.heap.size, 4, none⟩ = false := frozen_of_row _ _ 4 _ _ HR1.out
    go_wp2
    refine bodyPost_ret_by (results_row_tmp rfl _ _ w.heap.size 39 _ (0, 0) _ rfl (five_set HR1.out) Tryz.underlying39 rfl (by kernel_rfl)) rfl ?_
    exact ⟨⟨⟨0, 0, 0, none, 0, 0, [], none, 0, 0, []⟩, false, rfl, HN.out, ⟨rfl, rfl, rfl⟩, read_zero _ _⟩, below5 HB1.out (Nat.le_refl _) _ _ _ _ _⟩
  have hd3 : decide ((3 : Int) < (n : Int)) = false := by simp; omega
  obtain ⟨p0, hp0⟩ : ∃ p, l[0]? = some p := ⟨l[0]'(by have := HLn.out; omega), List.getElem?_eq_getElem _⟩
  obtain ⟨p1, hp1⟩ : ∃ p, l[1]? = some p := ⟨l[1]'(by have := HLn.out; omega), List.getElem?_eq_getElem _⟩
  obtain ⟨b0, off0, rfl, _, hb0, hc0⟩ := HSt.out.2 0 p0 hp0
  obtain ⟨b1, off1, he, _, hb1, hc1⟩ := HSt.out.2 1 p1 hp1
  obtain ⟨rfl, rfl⟩ : b0 = b1 ∧ off0 = off1 := by injection he with h; injection h with h1 h2; exact ⟨h1, h2⟩
  rw [Nat.add_zero] at hc0
  have hsz : ∀ (k : Nat) (p : ByteArray), l[k]? = some p → p.size ≤ 1048576 := fun k p hp => by
    have hm : p.data.toList ∈ pieces 32 s.data.toList := by rw [← HPc.out]; exact List.mem_map.2 ⟨p, mem_of_at hp, rfl⟩
    have := piece_le hm
    rw [list_len, list_len] at this
    omega
  have HSz := Lib.hid hsz
  have HP0 := Lib.hid hp0
  have HP1 := Lib.hid hp1
  have hn0 : (0 : Int) < (n : Int) := by omega
  have hn1 : (1 : Int) < (n : Int) := by omega
  clear hsz hp0 hp1 he h2
  generalize hf : fS p1.data.toList = f
  have HFd := Lib.hid hf
  clear hf
  go_wp2_with fail
  refine (sField p1 (HSz.out 1 p1 HP1.out) w1).mono ?_
  rintro e w2 ⟨rfl, hb2⟩
  rw [HFd.out]
  have HR2 := Lib.hid ((hb2.block w.heap.size (lt_of_block HR1.out)).trans HR1.out)
  have HB2 := Lib.hid (HB1.out.trans (hb2.mono HB1.out.size))
  have HSt2 := Lib.hid (HSt.out.below hb2)
  have hlt2 : w.heap.size < w2.heap.size := lt_of_block HR2.out
  have hb02 : b0 < w2.heap.size := by have := hb2.size; omega
  have hc0' : w2.cell? ⟨b0, off0, none⟩ = some (.string p0) := (hb2.cell (p := ⟨b0, off0, none⟩) hb0).trans hc0
  clear hb2 hc0 hc1 HR1 HB1 HSt hb0 hb1 hlt
  go_upto_if 29 with (fail)
  go_cut [6] from 11 (fun s6 wx => ∃ ar : ByteArray, s6 = .string ar ∧ ar.data.toList = argS s.data.toList ∧ ar.size + 1 ≤ 1048576 ∧ wx = w2.alloc (.cells #[.int .i64 0, .int .i64 f, .int .i64 0, .slice none 0 0, .slice none 0 0] 39))
  case first =>
    by_cases h : n = 3
    · obtain ⟨p2, hp2⟩ : ∃ p, l[2]? = some p := ⟨l[2]'(by have := HLn.out; omega), List.getElem?_eq_getElem _⟩
      obtain ⟨b1, off1, he, _, hb1, hc2⟩ := HSt2.out.2 2 p2 hp2
      obtain ⟨rfl, rfl⟩ : b0 = b1 ∧ off0 = off1 := by injection he with h; injection h with h1 h2; exact ⟨h1, h2⟩
      have hd4 : ((n : Int) == 3) = true := by simp; omega
      have hn2 : (2 : Int) < (n : Int) := by omega
      have HAr : Hid (p2.data.toList = argS s.data.toList ∧ p2.size + 1 ≤ 1048576) := Lib.hid ⟨by
        unfold argS
        rw [if_pos (by rw [HPl.out]; exact h), ← HPc.out]
        simp [List.getD_eq_getElem?_getD, hp2], by
          have hm : p2.data.toList ∈ pieces 32 s.data.toList := by rw [← HPc.out]; exact List.mem_map.2 ⟨p2, mem_of_at hp2, rfl⟩
          have := piece_lt hm (by rw [HPl.out]; omega)
          rw [list_len, list_len] at this
          omega⟩
      clear hp2 he h
      go_wp2_with fail
      go_meet
      exact ⟨p2, rfl, HAr.out.1, HAr.out.2, rfl⟩
    · have hd4 : ((n : Int) == 3) = false := by simp; omega
      have HAr : Hid (([] : List UInt8) = argS s.data.toList) := Lib.hid (by unfold argS; rw [if_neg (by rw [HPl.out]; exact h)])
      clear h
      go_wp2_with fail
      go_meet
      exact ⟨⟨#[]⟩, rfl, HAr.out, by decide, rfl⟩
  case rest =>
  obtain ⟨ar, rfl, har, harz, rfl⟩ := hcut
  have HFi : Hid (-999999999 ≤ f ∧ f ≤ 999999999) := Lib.hid (by rw [← HFd.out]; exact fS_in _)
  have HNe : Hid (s.data.toList ≠ []) := Lib.hid fun e => by
    have h := HPl.out
    rw [e] at h
    have : (pieces 32 ([] : List UInt8)).length = 1 := rfl
    omega
  have HKS : Hid ((pieces 32 s.data.toList).getD 0 [] = p0.data.toList) := Lib.hid (by rw [← HPc.out]; simp [List.getD_eq_getElem?_getD, HP0.out])
  have HFS : Hid (f = fS ((pieces 32 s.data.toList).getD 1 [])) := Lib.hid (by rw [← HFd.out, ← HPc.out]; simp [List.getD_eq_getElem?_getD, HP1.out])
  have HSpec : Hid (∀ k v ls ps, k = kindS p0.data.toList → (v = if k = 2 then numS ar.data.toList else 0) → (ls = if k = 3 then (pieces 44 ar.data.toList).map numS else []) → (if k = 4 then ∃ ok, ParsedP ar.data.toList ps ok else ps = []) → SpecW s.data.toList ⟨k, f, v, ls, ps⟩) := Lib.hid fun k v ls ps h1 h2 h3 h4 => by
    rw [har] at h2 h3 h4
    exact ⟨by rw [HKS.out]; exact h1, HFS.out, h2, h3, h4⟩
  obtain ⟨c1, h1⟩ := bool_of (p0.data.toList = kwT.getD 1 [])
  obtain ⟨c2, h2⟩ := bool_of (p0.data.toList = kwT.getD 2 [])
  obtain ⟨c3, h3'⟩ := bool_of (p0.data.toList = kwT.getD 3 [])
  obtain ⟨c4, h4⟩ := bool_of (p0.data.toList = kwT.getD 4 [])
  have g1 : (p0.toList == [104, 105, 103, 104]) = c1 := str_is p0 _ c1 h1
  have g2 : (p0.toList == [110, 101, 97, 114]) = c2 := str_is p0 _ c2 h2
  have g3 : (p0.toList == [97, 109, 111, 110, 103]) = c3 := str_is p0 _ c3 h3'
  have g4 : (p0.toList == [111, 114, 100, 101, 114]) = c4 := str_is p0 _ c4 h4
  have HK : Hid (kindS p0.data.toList = if c1 = true then 1 else if c2 = true then 2 else if c3 = true then 3 else if c4 = true then 4 else 0) := Lib.hid (by
    unfold kindS
    simp only [h1, h2, h3', h4])
  have HArz := Lib.hid harz
  clear h1 h2 h3' h4 har harz HKS HFS HFd HPc HPl HLn HSt2 HSz HP0 HP1
  cases c1
  case true =>
    have HSp := Lib.hid (HSpec.out 1 0 [] [] (by rw [HK.out]; rfl) (by rw [if_neg (by decide)]) (by rw [if_neg (by decide)]) (by rw [if_neg (by decide)]))
    clear HSpec HK g2 g3 g4
    have HR : Hid ((w2.alloc (.cells #[.int .i64 1, .int .i64 f, .int .i64 0, .slice none 0 0, .slice none 0 0] 39)).heap[w.heap.size]? = some (.cells #[.int .i64 0, .int .i64 0, .int .i64 0, .slice none 0 0, .slice none 0 0] 39 (0, 0))) := Lib.hid ((Below.heap_alloc _ _ _ hlt2).trans HR2.out)
    have HY : Hid ((w2.alloc (.cells #[.int .i64 1, .int .i64 f, .int .i64 0, .slice none 0 0, .slice none 0 0] 39)).heap[w2.heap.size]? = some (.cells #[.int .i64 1, .int .i64 f, .int .i64 0, .slice none 0 0, .slice none 0 0] 39 (0, 0))) := Lib.hid (heap_alloc_new w2 _)
    have HB : Hid (Below w.heap.size w (w2.alloc (.cells #[.int .i64 1, .int .i64 f, .int .i64 0, .slice none 0 0, .slice none 0 0] 39))) := Lib.hid (HB2.out.alloc HB2.out.size _)
    have HRd : Hid (ReadW (w2.alloc (.cells #[.int .i64 1, .int .i64 f, .int .i64 0, .slice none 0 0, .slice none 0 0] 39)) (w.heap.size + 1) (⟨1, f, 0, none, 0, 0, [], none, 0, 0, []⟩ : Wi)) := Lib.hid ⟨ownI_nil _ _, OwnP.nil _ _, by simp, by simp, fun k h => (by cases h)⟩
    have HWf : Hid ((Lit.int .i64 1).wf = true ∧ (Lit.int .i64 f).wf = true ∧ (Lit.int .i64 0).wf = true) := Lib.hid ⟨WalkArith.wf_i64 (by omega), WalkArith.wf_i64 (by have := HFi.out; omega), WalkArith.wf_i64 (by first | omega | (have := HVi.out; omega))⟩
    obtain ⟨q, hq⟩ := bool_of (IsW (⟨1, f, 0, [], []⟩ : WD))
    obtain ⟨b, hb⟩ := bool_of (fmtW (⟨1, f, 0, [], []⟩ : WD) q = s)
    have hne := eq_lists hb
    obtain ⟨F, hF⟩ : ∃ F, fmtW (⟨1, f, 0, [], []⟩ : WD) q = F := ⟨_, rfl⟩
    have HBk := Lib.hid (fmt_back hq HNe.out hb)
    rw [hF] at hne
    have HF : Hid (fmtW (⟨1, f, 0, none, 0, 0, [], none, 0, 0, []⟩ : Wi).dat q = F) := Lib.hid hF
    have HQ : Hid (q = true ↔ IsW (⟨1, f, 0, none, 0, 0, [], none, 0, 0, []⟩ : Wi).dat) := Lib.hid hq
    clear hb hF hq
    have y0 : World.cell? (w2.alloc (.cells #[.int .i64 1, .int .i64 f, .int .i64 0, .slice none 0 0, .slice none 0 0] 39)) ⟨w2.heap.size, 0, none⟩ = some (.int .i64 1) := cell_of_row _ _ 0 _ _ (0, 0) HY.out
    have y1 : World.cell? (w2.alloc (.cells #[.int .i64 1, .int .i64 f, .int .i64 0, .slice none 0 0, .slice none 0 0] 39)) ⟨w2.heap.size, 1, none⟩ = some (.int .i64 f) := cell_of_row _ _ 1 _ _ (0, 0) HY.out
    have y2 : World.cell? (w2.alloc (.cells #[.int .i64 1, .int .i64 f, .int .i64 0, .slice none 0 0, .slice none 0 0] 39)) ⟨w2.heap.size, 2, none⟩ = some (.int .i64 0) := cell_of_row _ _ 2 _ _ (0, 0) HY.out
    have y3 : World.cell? (w2.alloc (.cells #[.int .i64 1, .int .i64 f, .int .i64 0, .slice none 0 0, .slice none 0 0] 39)) ⟨w2.heap.size, 3, none⟩ = some (.slice none 0 0) := cell_of_row _ _ 3 _ _ (0, 0) HY.out
    have y4 : World.cell? (w2.alloc (.cells #[.int .i64 1, .int .i64 f, .int .i64 0, .slice none 0 0, .slice none 0 0] 39)) ⟨w2.heap.size, 4, none⟩ = some (.slice none 0 0) := cell_of_row _ _ 4 _ _ (0, 0) HY.out
    go_wp2_with fail
    refine (sFmtW _ _ (⟨1, f, 0, none, 0, 0, [], none, 0, 0, []⟩ : Wi) (HRd.out.wi' HWf.out) (Nat.le_refl _) HRd.out.short q HQ.out).mono ?_
    rintro e w9 ⟨rfl, hb9⟩
    rw [HF.out]
    have HR9 := Lib.hid ((hb9.block w.heap.size (lt_of_block HR.out)).trans HR.out)
    have HY9 := Lib.hid ((hb9.block w2.heap.size (lt_of_block HY.out)).trans HY.out)
    have HB9 := Lib.hid (HB.out.trans (hb9.mono HB.out.size))
    have HRd9 : Hid (ReadW w9 (w.heap.size + 1) (⟨1, f, 0, none, 0, 0, [], none, 0, 0, []⟩ : Wi)) := Lib.hid (HRd.out.blocks fun b _ hb => hb9.block b hb)
    clear hb9 y0 y1 y2 y3 y4 HR HY HB HRd HF HQ
    have y0 : World.cell? w9 ⟨w2.heap.size, 0, none⟩ = some (.int .i64 1) := cell_of_row _ _ 0 _ _ (0, 0) HY9.out
    have y1 : World.cell? w9 ⟨w2.heap.size, 1, none⟩ = some (.int .i64 f) := cell_of_row _ _ 1 _ _ (0, 0) HY9.out
    have y2 : World.cell? w9 ⟨w2.heap.size, 2, none⟩ = some (.int .i64 0) := cell_of_row _ _ 2 _ _ (0, 0) HY9.out
    have y3 : World.cell? w9 ⟨w2.heap.size, 3, none⟩ = some (.slice none 0 0) := cell_of_row _ _ 3 _ _ (0, 0) HY9.out
    have y4 : World.cell? w9 ⟨w2.heap.size, 4, none⟩ = some (.slice none 0 0) := cell_of_row _ _ 4 _ _ (0, 0) HY9.out
    have x0 : World.cell? w9 ⟨w.heap.size, 0, none⟩ = some (.int .i64 0) := cell_of_row _ _ 0 _ _ (0, 0) HR9.out
    have x1 : World.cell? w9 ⟨w.heap.size, 1, none⟩ = some (.int .i64 0) := cell_of_row _ _ 1 _ _ (0, 0) HR9.out
    have x2 : World.cell? w9 ⟨w.heap.size, 2, none⟩ = some (.int .i64 0) := cell_of_row _ _ 2 _ _ (0, 0) HR9.out
    have x3 : World.cell? w9 ⟨w.heap.size, 3, none⟩ = some (.slice none 0 0) := cell_of_row _ _ 3 _ _ (0, 0) HR9.out
    have x4 : World.cell? w9 ⟨w.heap.size, 4, none⟩ = some (.slice none 0 0) := cell_of_row _ _ 4 _ _ (0, 0) HR9.out
    have z0 : World.frozen? w9 ⟨w.heap.size, 0, none⟩ = false := frozen_of_row _ _ 0 _ _ HR9.out
    have z1 : World.frozen? w9 ⟨w.heap.size, 1, none⟩ = false := frozen_of_row _ _ 1 _ _ HR9.out
    have z2 : World.frozen? w9 ⟨w.heap.size, 2, none⟩ = false := frozen_of_row _ _ 2 _ _ HR9.out
    have z3 : World.frozen? w9 ⟨w.heap.size, 3, none⟩ = false := frozen_of_row _ _ 3 _ _ HR9.out
    have z4 : World.frozen? w9 ⟨w.heap.size, 4, none⟩ = false := frozen_of_row _ _ 4 _ _ HR9.out
    cases b
    · go_wp2
      refine bodyPost_ret_by (results_row_tmp rfl _ _ w.heap.size 39 _ (0, 0) _ rfl (five_set HR9.out) Tryz.underlying39 rfl (by kernel_rfl)) rfl ?_
      exact ⟨⟨⟨0, 0, 0, none, 0, 0, [], none, 0, 0, []⟩, false, rfl, HSp.out.no fun h => (by have := HBk.out.2 h; cases this), ⟨rfl, rfl, rfl⟩, read_zero _ _⟩, below5 HB9.out (Nat.le_refl _) _ _ _ _ _⟩
    · have hbk := HBk.out.1 (by simp)
      have HG := Lib.hid hbk
      clear hbk HBk
      go_wp2
      refine bodyPost_ret_by (results_row_tmp rfl _ _ w.heap.size 39 _ (0, 0) _ rfl (five_set HR9.out) Tryz.underlying39 rfl (by kernel_rfl)) rfl ?_
      exact ⟨⟨(⟨1, f, 0, none, 0, 0, [], none, 0, 0, []⟩ : Wi), true, rfl, .inl ⟨rfl, HG.out.1, HG.out.2⟩, HWf.out, (HRd9.out.blocks fun b hb _ => other5 _ _ _ _ _ _ _ _ (by omega)).low (by omega)⟩, below5 HB9.out (Nat.le_refl _) _ _ _ _ _⟩
  cases c2
  case true =>
    obtain ⟨v, hv⟩ : ∃ v, numS ar.data.toList = v := ⟨_, rfl⟩
    have HSp := Lib.hid (HSpec.out 2 v [] [] (by rw [HK.out]; rfl) (by rw [if_pos rfl, hv]) (by rw [if_neg (by decide)]) (by rw [if_neg (by decide)]))
    have HVi : Hid (-999999999 ≤ v ∧ v ≤ 999999999) := Lib.hid (by rw [← hv]; exact numS_in _)
    have HV := Lib.hid hv
    clear HSpec HK g3 g4 hv
    have HR : Hid ((w2.alloc (.cells #[.int .i64 2, .int .i64 f, .int .i64 0, .slice none 0 0, .slice none 0 0] 39)).heap[w.heap.size]? = some (.cells #[.int .i64 0, .int .i64 0, .int .i64 0, .slice none 0 0, .slice none 0 0] 39 (0, 0))) := Lib.hid ((Below.heap_alloc _ _ _ hlt2).trans HR2.out)
    have HY : Hid ((w2.alloc (.cells #[.int .i64 2, .int .i64 f, .int .i64 0, .slice none 0 0, .slice none 0 0] 39)).heap[w2.heap.size]? = some (.cells #[.int .i64 2, .int .i64 f, .int .i64 0, .slice none 0 0, .slice none 0 0] 39 (0, 0))) := Lib.hid (heap_alloc_new w2 _)
    have HB : Hid (Below w.heap.size w (w2.alloc (.cells #[.int .i64 2, .int .i64 f, .int .i64 0, .slice none 0 0, .slice none 0 0] 39))) := Lib.hid (HB2.out.alloc HB2.out.size _)
    go_wp2_with fail
    refine (sNum ar (by have := HArz.out; omega) _).mono ?_
    rintro e w3 ⟨rfl, hb3⟩
    rw [HV.out]
    have HR3 := Lib.hid ((hb3.block w.heap.size (lt_of_block HR.out)).trans HR.out)
    have HY3 := Lib.hid ((hb3.block w2.heap.size (lt_of_block HY.out)).trans HY.out)
    have HB3 := Lib.hid (HB.out.trans (hb3.mono HB.out.size))
    clear hb3 HR HY HB
    have HR : Hid ((w3.setCell ⟨w2.heap.size, 2, none⟩ (.int .i64 v)).heap[w.heap.size]? = some (.cells #[.int .i64 0, .int .i64 0, .int .i64 0, .slice none 0 0, .slice none 0 0] 39 (0, 0))) := Lib.hid ((heap_setCell_other _ _ _ _ (by simp; omega)).trans HR3.out)
    have HY : Hid ((w3.setCell ⟨w2.heap.size, 2, none⟩ (.int .i64 v)).heap[w2.heap.size]? = some (.cells #[.int .i64 2, .int .i64 f, .int .i64 v, .slice none 0 0, .slice none 0 0] 39 (0, 0))) := Lib.hid (by have h := heap_setCell_same w3 w2.heap.size 2 _ _ (.int .i64 v) HY3.out; simpa using h)
    have HB : Hid (Below w.heap.size w (w3.setCell ⟨w2.heap.size, 2, none⟩ (.int .i64 v))) := Lib.hid (HB3.out.setCell (by show w.heap.size ≤ w2.heap.size; omega) _)
    have v2 : w3.cell? ⟨w2.heap.size, 2, none⟩ = some (.int .i64 0) := cell_of_row _ _ 2 _ _ (0, 0) HY3.out
    have u2 : w3.frozen? ⟨w2.heap.size, 2, none⟩ = false := frozen_of_row _ _ 2 _ _ HY3.out
    have HRd : Hid (ReadW (w3.setCell ⟨w2.heap.size, 2, none⟩ (.int .i64 v)) (w.heap.size + 1) (⟨2, f, v, none, 0, 0, [], none, 0, 0, []⟩ : Wi)) := Lib.hid ⟨ownI_nil _ _, OwnP.nil _ _, by simp, by simp, fun k h => (by cases h)⟩
    have HWf : Hid ((Lit.int .i64 2).wf = true ∧ (Lit.int .i64 f).wf = true ∧ (Lit.int .i64 v).wf = true) := Lib.hid ⟨WalkArith.wf_i64 (by omega), WalkArith.wf_i64 (by have := HFi.out; omega), WalkArith.wf_i64 (by first | omega | (have := HVi.out; omega))⟩
    obtain ⟨q, hq⟩ := bool_of (IsW (⟨2, f, v, [], []⟩ : WD))
    obtain ⟨b, hb⟩ := bool_of (fmtW (⟨2, f, v, [], []⟩ : WD) q = s)
    have hne := eq_lists hb
    obtain ⟨F, hF⟩ : ∃ F, fmtW (⟨2, f, v, [], []⟩ : WD) q = F := ⟨_, rfl⟩
    have HBk := Lib.hid (fmt_back hq HNe.out hb)
    rw [hF] at hne
    have HF : Hid (fmtW (⟨2, f, v, none, 0, 0, [], none, 0, 0, []⟩ : Wi).dat q = F) := Lib.hid hF
    have HQ : Hid (q = true ↔ IsW (⟨2, f, v, none, 0, 0, [], none, 0, 0, []⟩ : Wi).dat) := Lib.hid hq
    clear hb hF hq
    have y0 : World.cell? (w3.setCell ⟨w2.heap.size, 2, none⟩ (.int .i64 v)) ⟨w2.heap.size, 0, none⟩ = some (.int .i64 2) := cell_of_row _ _ 0 _ _ (0, 0) HY.out
    have y1 : World.cell? (w3.setCell ⟨w2.heap.size, 2, none⟩ (.int .i64 v)) ⟨w2.heap.size, 1, none⟩ = some (.int .i64 f) := cell_of_row _ _ 1 _ _ (0, 0) HY.out
    have y2 : World.cell? (w3.setCell ⟨w2.heap.size, 2, none⟩ (.int .i64 v)) ⟨w2.heap.size, 2, none⟩ = some (.int .i64 v) := cell_of_row _ _ 2 _ _ (0, 0) HY.out
    have y3 : World.cell? (w3.setCell ⟨w2.heap.size, 2, none⟩ (.int .i64 v)) ⟨w2.heap.size, 3, none⟩ = some (.slice none 0 0) := cell_of_row _ _ 3 _ _ (0, 0) HY.out
    have y4 : World.cell? (w3.setCell ⟨w2.heap.size, 2, none⟩ (.int .i64 v)) ⟨w2.heap.size, 4, none⟩ = some (.slice none 0 0) := cell_of_row _ _ 4 _ _ (0, 0) HY.out
    go_wp2_with fail
    refine (sFmtW _ _ (⟨2, f, v, none, 0, 0, [], none, 0, 0, []⟩ : Wi) (HRd.out.wi' HWf.out) (Nat.le_refl _) HRd.out.short q HQ.out).mono ?_
    rintro e w9 ⟨rfl, hb9⟩
    rw [HF.out]
    have HR9 := Lib.hid ((hb9.block w.heap.size (lt_of_block HR.out)).trans HR.out)
    have HY9 := Lib.hid ((hb9.block w2.heap.size (lt_of_block HY.out)).trans HY.out)
    have HB9 := Lib.hid (HB.out.trans (hb9.mono HB.out.size))
    have HRd9 : Hid (ReadW w9 (w.heap.size + 1) (⟨2, f, v, none, 0, 0, [], none, 0, 0, []⟩ : Wi)) := Lib.hid (HRd.out.blocks fun b _ hb => hb9.block b hb)
    clear hb9 y0 y1 y2 y3 y4 HR HY HB HRd HF HQ
    have y0 : World.cell? w9 ⟨w2.heap.size, 0, none⟩ = some (.int .i64 2) := cell_of_row _ _ 0 _ _ (0, 0) HY9.out
    have y1 : World.cell? w9 ⟨w2.heap.size, 1, none⟩ = some (.int .i64 f) := cell_of_row _ _ 1 _ _ (0, 0) HY9.out
    have y2 : World.cell? w9 ⟨w2.heap.size, 2, none⟩ = some (.int .i64 v) := cell_of_row _ _ 2 _ _ (0, 0) HY9.out
    have y3 : World.cell? w9 ⟨w2.heap.size, 3, none⟩ = some (.slice none 0 0) := cell_of_row _ _ 3 _ _ (0, 0) HY9.out
    have y4 : World.cell? w9 ⟨w2.heap.size, 4, none⟩ = some (.slice none 0 0) := cell_of_row _ _ 4 _ _ (0, 0) HY9.out
    have x0 : World.cell? w9 ⟨w.heap.size, 0, none⟩ = some (.int .i64 0) := cell_of_row _ _ 0 _ _ (0, 0) HR9.out
    have x1 : World.cell? w9 ⟨w.heap.size, 1, none⟩ = some (.int .i64 0) := cell_of_row _ _ 1 _ _ (0, 0) HR9.out
    have x2 : World.cell? w9 ⟨w.heap.size, 2, none⟩ = some (.int .i64 0) := cell_of_row _ _ 2 _ _ (0, 0) HR9.out
    have x3 : World.cell? w9 ⟨w.heap.size, 3, none⟩ = some (.slice none 0 0) := cell_of_row _ _ 3 _ _ (0, 0) HR9.out
    have x4 : World.cell? w9 ⟨w.heap.size, 4, none⟩ = some (.slice none 0 0) := cell_of_row _ _ 4 _ _ (0, 0) HR9.out
    have z0 : World.frozen? w9 ⟨w.heap.size, 0, none⟩ = false := frozen_of_row _ _ 0 _ _ HR9.out
    have z1 : World.frozen? w9 ⟨w.heap.size, 1, none⟩ = false := frozen_of_row _ _ 1 _ _ HR9.out
    have z2 : World.frozen? w9 ⟨w.heap.size, 2, none⟩ = false := frozen_of_row _ _ 2 _ _ HR9.out
    have z3 : World.frozen? w9 ⟨w.heap.size, 3, none⟩ = false := frozen_of_row _ _ 3 _ _ HR9.out
    have z4 : World.frozen? w9 ⟨w.heap.size, 4, none⟩ = false := frozen_of_row _ _ 4 _ _ HR9.out
    cases b
    · go_wp2
      refine bodyPost_ret_by (results_row_tmp rfl _ _ w.heap.size 39 _ (0, 0) _ rfl (five_set HR9.out) Tryz.underlying39 rfl (by kernel_rfl)) rfl ?_
      exact ⟨⟨⟨0, 0, 0, none, 0, 0, [], none, 0, 0, []⟩, false, rfl, HSp.out.no fun h => (by have := HBk.out.2 h; cases this), ⟨rfl, rfl, rfl⟩, read_zero _ _⟩, below5 HB9.out (Nat.le_refl _) _ _ _ _ _⟩
    · have hbk := HBk.out.1 (by simp)
      have HG := Lib.hid hbk
      clear hbk HBk
      go_wp2
      refine bodyPost_ret_by (results_row_tmp rfl _ _ w.heap.size 39 _ (0, 0) _ rfl (five_set HR9.out) Tryz.underlying39 rfl (by kernel_rfl)) rfl ?_
      exact ⟨⟨(⟨2, f, v, none, 0, 0, [], none, 0, 0, []⟩ : Wi), true, rfl, .inl ⟨rfl, HG.out.1, HG.out.2⟩, HWf.out, (HRd9.out.blocks fun b hb _ => other5 _ _ _ _ _ _ _ _ (by omega)).low (by omega)⟩, below5 HB9.out (Nat.le_refl _) _ _ _ _ _⟩
  cases c3
  case true =>
    clear g4
    have HR : Hid ((w2.alloc (.cells #[.int .i64 3, .int .i64 f, .int .i64 0, .slice none 0 0, .slice none 0 0] 39)).heap[w.heap.size]? = some (.cells #[.int .i64 0, .int .i64 0, .int .i64 0, .slice none 0 0, .slice none 0 0] 39 (0, 0))) := Lib.hid ((Below.heap_alloc _ _ _ hlt2).trans HR2.out)
    have HY : Hid ((w2.alloc (.cells #[.int .i64 3, .int .i64 f, .int .i64 0, .slice none 0 0, .slice none 0 0] 39)).heap[w2.heap.size]? = some (.cells #[.int .i64 3, .int .i64 f, .int .i64 0, .slice none 0 0, .slice none 0 0] 39 (0, 0))) := Lib.hid (heap_alloc_new w2 _)
    have HB : Hid (Below w.heap.size w (w2.alloc (.cells #[.int .i64 3, .int .i64 f, .int .i64 0, .slice none 0 0, .slice none 0 0] 39))) := Lib.hid (HB2.out.alloc HB2.out.size _)
    go_wp2_with fail
    refine (sCut2 ar (by have := HArz.out; omega) 44 _).mono ?_
    rintro e w3 ⟨⟨A2, n2, c2', l2, rfl, hst2, hpc2⟩, hb3⟩
    rw [World.size_alloc] at hst2
    have HX3 := Lib.hid ((hb3.block w2.heap.size (lt_of_block HY.out)).trans HY.out)
    have HR3 := Lib.hid ((hb3.block w.heap.size (lt_of_block HR.out)).trans HR.out)
    have HB3 := Lib.hid (HB.out.trans (hb3.mono HB.out.size))
    have hXw : Hid (w.heap.size < w2.heap.size ∧ w2.heap.size < w3.heap.size) := Lib.hid ⟨hlt2, lt_of_block HX3.out⟩
    have HSt3 : Hid (Strs w3 (w2.heap.size + 1) w3.heap.size A2 n2 l2) := Lib.hid hst2
    have hn2 : n2 ≤ 1048576 := by
      have h1 := pieces_count 44 ar.data.toList
      have h2 := HArz.out
      rw [← hpc2, List.length_map, hst2.1, list_len] at h1
      omega
    have HPc2 := Lib.hid hpc2
    clear hb3 hst2 hpc2 HR HY HB
    go_wp2
    go_loopw [8] (fun i wr => ∃ k : Nat, k ≤ n2 ∧ i = .int .i64 k ∧ FilledW w3 w2.heap.size w3.heap.size f l2 k wr) (fun i _ => n2 - (intOf i).toNat)
    case atStart => exact ⟨0, Nat.zero_le _, rfl, .slice none 0 0, [], HX3.out, World.ownsRow_nil _ _ _ _, rfl, grown_of _ (Below.refl _ _) (Nat.le_refl _)⟩
    case round =>
      obtain ⟨k, hk, rfl, v, vals, hXr, hown, hvals, hgr⟩ := hrel
      obtain ⟨Av, nv, cv, rfl, hints, hlow⟩ := hown.low
      have HX := Lib.hid hXr
      have HO := Lib.hid hown
      have HVs := Lib.hid hvals
      have HG := Lib.hid hgr
      have hsz3 := Lib.hid hgr.size
      have HRr := Lib.hid ((hgr.block w.heap.size (by have := hXw.out; omega) (fun e => by injection e; have := hXw.out; omega)).trans HR3.out)
      have HBr := Lib.hid (HB3.out.trans (grown_low hgr (by have := hXw.out; omega) (by have := hXw.out; omega)))
      clear hints hlow hown
      by_cases hlt : k < n2
      · obtain ⟨p, hp⟩ : ∃ p, l2[k]? = some p := ⟨l2[k]'(by rw [HSt3.out.1]; exact hlt), List.getElem?_eq_getElem _⟩
        obtain ⟨b2, off2, rfl, hlo2, hb2, hc2⟩ := HSt3.out.2 k p hp
        have f1 : wr.cell? ⟨b2, off2 + k, none⟩ = some (.string p) := (World.cell?_of_block (w := w3) (a := ⟨b2, off2 + k, none⟩) (hgr.block b2 hb2 (fun e => by injection e; omega))).trans hc2
        have x1 : wr.cell? ⟨w2.heap.size, 3, none⟩ = some (.slice Av nv cv) := cell_of_row wr _ 3 _ _ (0, 0) HX.out
        have hlt' : (k : Int) < (n2 : Int) := by omega
        have hpz : Hid (p.size ≤ 1048576) := Lib.hid (by
          have hm : p.data.toList ∈ pieces 44 ar.data.toList := by rw [← HPc2.out]; exact List.mem_map.2 ⟨p, mem_of_at hp, rfl⟩
          have h1 := piece_le hm
          have h2 := HArz.out
          rw [list_len, list_len] at h1
          omega)
        have HPk := Lib.hid hp
        generalize hz : numS p.data.toList = z
        have HZ := Lib.hid hz
        have H4 : Hid ((vals.length + [z].length) * 8 ≤ 140737488355328) := Lib.hid (by
          rw [hvals, List.length_map, List.length_take]
          simp only [List.length_cons, List.length_nil]
          omega)
        clear hXr hvals hgr hp hc2 hz hlo2
        go_wp2
        go_region_law (first
          | (refine step_appI wn (by rfl) (.tmp 57) (.tmp 63) (by rfl) w3.heap.size _ vals (by rfl) HOn.out _ [z] (by rfl) 1 1 rfl (by rfl) H4.out hBn.out ?_; intro v' w5 hown5 hb5; obtain ⟨Av', nv', cv', rfl, _, _⟩ := hown5.low; have HO5 := Lib.hid hown5; have HX5 := Lib.hid ((hb5.block w2.heap.size hXw.out.2).trans HXn.out); have z1 : w5.cell? ⟨w2.heap.size, 3, none⟩ = some (.slice Av nv cv) := cell_of_row w5 _ 3 _ _ (0, 0) HX5.out; have z2 : w5.frozen? ⟨w2.heap.size, 3, none⟩ = false := frozen_of_row w5 _ 3 _ _ HX5.out; have HG5 := Lib.hid (grown_app HGn.out hb5); clear hown5 hb5)
          | (go_simp; go_at_call 141; refine (sNum p hpz.out _).mono ?_; rintro e wn ⟨rfl, hbn⟩; rw [HZ.out]; have HOn := Lib.hid (OwnI.below HO.out ((Below.refl wr.heap.size wr).drew.trans (hbn.mono (Nat.le_refl _)))); have hBn : Hid (w3.heap.size ≤ wn.heap.size) := Lib.hid (Nat.le_trans hsz3.out hbn.size); have HXn : Hid (wn.heap[w2.heap.size]? = some (.cells #[.int .i64 3, .int .i64 f, .int .i64 0, .slice Av nv cv, .slice none 0 0] 39 (0, 0))) := Lib.hid ((hbn.block w2.heap.size (lt_of_block HX.out)).trans HX.out); have HGn := Lib.hid (grown_two HG.out (grown_of (some w2.heap.size) ((Below.refl wr.heap.size wr).drew.trans (hbn.mono (Nat.le_refl _))) (Nat.le_refl _))); have x1n : wn.cell? ⟨w2.heap.size, 3, none⟩ = some (.slice Av nv cv) := cell_of_row wn _ 3 _ _ (0, 0) HXn.out; have hXn := lt_of_block HXn.out; clear hbn))
        all_goals
          have HF : Hid (FilledW w3 w2.heap.size w3.heap.size f l2 (k + 1) (w5.setCell ⟨w2.heap.size, 3, none⟩ (.slice Av' nv' cv'))) := Lib.hid (by
            refine ⟨.slice Av' nv' cv', vals ++ [z], ?_, ownsRow_setCell_below HO5.out hXw.out.2 _, ?_, grown_put HG5.out 3 _⟩
            · have h := heap_setCell_same w5 w2.heap.size 3 _ _ (.slice Av' nv' cv') HX5.out
              simpa using h
            · rw [take_at HPk.out, List.map_append, HVs.out, ← HZ.out]; rfl)
          go_wp2
          go_roundw
          case rel => exact ⟨k + 1, by omega, by go_num, HF.out⟩
          case measure => simp [intOf]; omega
      obtain rfl : k = n2 := by omega
      have hva : vals = (pieces 44 ar.data.toList).map numS := by rw [HVs.out, take_all HSt3.out.1, ← HPc2.out, List.map_map]; rfl
      have hvl : vals.length ≤ 1048576 := by rw [HVs.out, take_all HSt3.out.1, List.length_map, HSt3.out.1]; exact hn2
      have HSp := Lib.hid (HSpec.out 3 0 vals [] (by rw [HK.out]; rfl) (by rw [if_neg (by decide)]) (by rw [if_pos rfl]; exact hva) (by rw [if_neg (by decide)]))
      have HR := HRr
      have HY := HX
      have HB := HBr
      have HRd : Hid (ReadW wr (w.heap.size + 1) (⟨3, f, 0, Av, nv, cv, vals, none, 0, 0, []⟩ : Wi)) := Lib.hid ⟨ownI_lowD' HO.out (by have := hXw.out; omega), OwnP.nil _ _, hvl, by simp, fun k h e => (by cases e)⟩
      have HWf : Hid ((Lit.int .i64 3).wf = true ∧ (Lit.int .i64 f).wf = true ∧ (Lit.int .i64 0).wf = true) := Lib.hid ⟨WalkArith.wf_i64 (by omega), WalkArith.wf_i64 (by have := HFi.out; omega), WalkArith.wf_i64 (by omega)⟩
      clear hXr hvals hgr hva hvl HSpec HK HVs HRr HX HBr
      obtain ⟨q, hq⟩ := bool_of (IsW (⟨3, f, 0, vals, []⟩ : WD))
      obtain ⟨b, hb⟩ := bool_of (fmtW (⟨3, f, 0, vals, []⟩ : WD) q = s)
      have hne := eq_lists hb
      obtain ⟨F, hF⟩ : ∃ F, fmtW (⟨3, f, 0, vals, []⟩ : WD) q = F := ⟨_, rfl⟩
      have HBk := Lib.hid (fmt_back hq HNe.out hb)
      rw [hF] at hne
      have HF : Hid (fmtW (⟨3, f, 0, Av, nv, cv, vals, none, 0, 0, []⟩ : Wi).dat q = F) := Lib.hid hF
      have HQ : Hid (q = true ↔ IsW (⟨3, f, 0, Av, nv, cv, vals, none, 0, 0, []⟩ : Wi).dat) := Lib.hid hq
      clear hb hF hq
      have y0 : World.cell? wr ⟨w2.heap.size, 0, none⟩ = some (.int .i64 3) := cell_of_row _ _ 0 _ _ (0, 0) HY.out
      have y1 : World.cell? wr ⟨w2.heap.size, 1, none⟩ = some (.int .i64 f) := cell_of_row _ _ 1 _ _ (0, 0) HY.out
      have y2 : World.cell? wr ⟨w2.heap.size, 2, none⟩ = some (.int .i64 0) := cell_of_row _ _ 2 _ _ (0, 0) HY.out
      have y3 : World.cell? wr ⟨w2.heap.size, 3, none⟩ = some (.slice Av nv cv) := cell_of_row _ _ 3 _ _ (0, 0) HY.out
      have y4 : World.cell? wr ⟨w2.heap.size, 4, none⟩ = some (.slice none 0 0) := cell_of_row _ _ 4 _ _ (0, 0) HY.out
      go_wp2_with fail
      refine (sFmtW _ _ (⟨3, f, 0, Av, nv, cv, vals, none, 0, 0, []⟩ : Wi) (HRd.out.wi' HWf.out) (Nat.le_refl _) HRd.out.short q HQ.out).mono ?_
      rintro e w9 ⟨rfl, hb9⟩
      rw [HF.out]
      have HR9 := Lib.hid ((hb9.block w.heap.size (lt_of_block HR.out)).trans HR.out)
      have HY9 := Lib.hid ((hb9.block w2.heap.size (lt_of_block HY.out)).trans HY.out)
      have HB9 := Lib.hid (HB.out.trans (hb9.mono HB.out.size))
      have HRd9 : Hid (ReadW w9 (w.heap.size + 1) (⟨3, f, 0, Av, nv, cv, vals, none, 0, 0, []⟩ : Wi)) := Lib.hid (HRd.out.blocks fun b _ hb => hb9.block b hb)
      clear hb9 y0 y1 y2 y3 y4 HR HY HB HRd HF HQ
      have y0 : World.cell? w9 ⟨w2.heap.size, 0, none⟩ = some (.int .i64 3) := cell_of_row _ _ 0 _ _ (0, 0) HY9.out
      have y1 : World.cell? w9 ⟨w2.heap.size, 1, none⟩ = some (.int .i64 f) := cell_of_row _ _ 1 _ _ (0, 0) HY9.out
      have y2 : World.cell? w9 ⟨w2.heap.size, 2, none⟩ = some (.int .i64 0) := cell_of_row _ _ 2 _ _ (0, 0) HY9.out
      have y3 : World.cell? w9 ⟨w2.heap.size, 3, none⟩ = some (.slice Av nv cv) := cell_of_row _ _ 3 _ _ (0, 0) HY9.out
      have y4 : World.cell? w9 ⟨w2.heap.size, 4, none⟩ = some (.slice none 0 0) := cell_of_row _ _ 4 _ _ (0, 0) HY9.out
      have x0 : World.cell? w9 ⟨w.heap.size, 0, none⟩ = some (.int .i64 0) := cell_of_row _ _ 0 _ _ (0, 0) HR9.out
      have x1 : World.cell? w9 ⟨w.heap.size, 1, none⟩ = some (.int .i64 0) := cell_of_row _ _ 1 _ _ (0, 0) HR9.out
      have x2 : World.cell? w9 ⟨w.heap.size, 2, none⟩ = some (.int .i64 0) := cell_of_row _ _ 2 _ _ (0, 0) HR9.out
      have x3 : World.cell? w9 ⟨w.heap.size, 3, none⟩ = some (.slice none 0 0) := cell_of_row _ _ 3 _ _ (0, 0) HR9.out
      have x4 : World.cell? w9 ⟨w.heap.size, 4, none⟩ = some (.slice none 0 0) := cell_of_row _ _ 4 _ _ (0, 0) HR9.out
      have z0 : World.frozen? w9 ⟨w.heap.size, 0, none⟩ = false := frozen_of_row _ _ 0 _ _ HR9.out
      have z1 : World.frozen? w9 ⟨w.heap.size, 1, none⟩ = false := frozen_of_row _ _ 1 _ _ HR9.out
      have z2 : World.frozen? w9 ⟨w.heap.size, 2, none⟩ = false := frozen_of_row _ _ 2 _ _ HR9.out
      have z3 : World.frozen? w9 ⟨w.heap.size, 3, none⟩ = false := frozen_of_row _ _ 3 _ _ HR9.out
      have z4 : World.frozen? w9 ⟨w.heap.size, 4, none⟩ = false := frozen_of_row _ _ 4 _ _ HR9.out
      cases b
      · go_wp2
        refine bodyPost_ret_by (results_row_tmp rfl _ _ w.heap.size 39 _ (0, 0) _ rfl (five_set HR9.out) Tryz.underlying39 rfl (by kernel_rfl)) rfl ?_
        exact ⟨⟨⟨0, 0, 0, none, 0, 0, [], none, 0, 0, []⟩, false, rfl, HSp.out.no fun h => (by have := HBk.out.2 h; cases this), ⟨rfl, rfl, rfl⟩, read_zero _ _⟩, below5 HB9.out (Nat.le_refl _) _ _ _ _ _⟩
      · have hbk := HBk.out.1 (by simp)
        have HG := Lib.hid hbk
        clear hbk HBk
        go_wp2
        refine bodyPost_ret_by (results_row_tmp rfl _ _ w.heap.size 39 _ (0, 0) _ rfl (five_set HR9.out) Tryz.underlying39 rfl (by kernel_rfl)) rfl ?_
        exact ⟨⟨(⟨3, f, 0, Av, nv, cv, vals, none, 0, 0, []⟩ : Wi), true, rfl, .inl ⟨rfl, HG.out.1, HG.out.2⟩, HWf.out, (HRd9.out.blocks fun b hb _ => other5 _ _ _ _ _ _ _ _ (by omega)).low (by omega)⟩, below5 HB9.out (Nat.le_refl _) _ _ _ _ _⟩
  cases c4
  case true =>
    have HR : Hid ((w2.alloc (.cells #[.int .i64 4, .int .i64 f, .int .i64 0, .slice none 0 0, .slice none 0 0] 39)).heap[w.heap.size]? = some (.cells #[.int .i64 0, .int .i64 0, .int .i64 0, .slice none 0 0, .slice none 0 0] 39 (0, 0))) := Lib.hid ((Below.heap_alloc _ _ _ hlt2).trans HR2.out)
    have HY : Hid ((w2.alloc (.cells #[.int .i64 4, .int .i64 f, .int .i64 0, .slice none 0 0, .slice none 0 0] 39)).heap[w2.heap.size]? = some (.cells #[.int .i64 4, .int .i64 f, .int .i64 0, .slice none 0 0, .slice none 0 0] 39 (0, 0))) := Lib.hid (heap_alloc_new w2 _)
    have HB : Hid (Below w.heap.size w (w2.alloc (.cells #[.int .i64 4, .int .i64 f, .int .i64 0, .slice none 0 0, .slice none 0 0] 39))) := Lib.hid (HB2.out.alloc HB2.out.size _)
    go_wp2_with fail
    refine (sParsePairs ar (by have := HArz.out; omega) _).mono ?_
    rintro e w3 h
    unfold OutParse at h
    obtain ⟨⟨u, ps, ok, rfl, hown, hpar⟩, hb3⟩ := h
    obtain ⟨A4, n4, c4', rfl, hpp⟩ := hown.pairs
    rw [World.size_alloc] at hown
    have HSp := Lib.hid (HSpec.out 4 0 [] ps (by rw [HK.out]; rfl) (by rw [if_neg (by decide)]) (by rw [if_neg (by decide)]) (by rw [if_pos rfl]; exact ⟨ok, hpar⟩))
    have HPar := Lib.hid hpar.len
    have HO := Lib.hid hown
    have HR3 := Lib.hid ((hb3.block w.heap.size (lt_of_block HR.out)).trans HR.out)
    have HY3 := Lib.hid ((hb3.block w2.heap.size (lt_of_block HY.out)).trans HY.out)
    have HB3 := Lib.hid (HB.out.trans (hb3.mono HB.out.size))
    clear hb3 HR HY HB HSpec HK hown hpar hpp
    have HR : Hid ((w3.setCell ⟨w2.heap.size, 4, none⟩ (.slice A4 n4 c4')).heap[w.heap.size]? = some (.cells #[.int .i64 0, .int .i64 0, .int .i64 0, .slice none 0 0, .slice none 0 0] 39 (0, 0))) := Lib.hid ((heap_setCell_other _ _ _ _ (by simp; omega)).trans HR3.out)
    have HY : Hid ((w3.setCell ⟨w2.heap.size, 4, none⟩ (.slice A4 n4 c4')).heap[w2.heap.size]? = some (.cells #[.int .i64 4, .int .i64 f, .int .i64 0, .slice none 0 0, .slice A4 n4 c4'] 39 (0, 0))) := Lib.hid (by have h := heap_setCell_same w3 w2.heap.size 4 _ _ (.slice A4 n4 c4') HY3.out; simpa using h)
    have HB : Hid (Below w.heap.size w (w3.setCell ⟨w2.heap.size, 4, none⟩ (.slice A4 n4 c4'))) := Lib.hid (HB3.out.setCell (by show w.heap.size ≤ w2.heap.size; omega) _)
    have HRd : Hid (ReadW (w3.setCell ⟨w2.heap.size, 4, none⟩ (.slice A4 n4 c4')) (w.heap.size + 1) (⟨4, f, 0, none, 0, 0, [], A4, n4, c4', ps⟩ : Wi)) := Lib.hid ⟨ownI_nil _ _, ownP_lowD' (HO.out.blocks fun k hk => heap_setCell_other _ _ _ _ (by have := HO.out.lows k hk; simp; omega)) (by omega), by simp, HPar.out, fun k h => (by cases h)⟩
    have HWf : Hid ((Lit.int .i64 4).wf = true ∧ (Lit.int .i64 f).wf = true ∧ (Lit.int .i64 0).wf = true) := Lib.hid ⟨WalkArith.wf_i64 (by omega), WalkArith.wf_i64 (by have := HFi.out; omega), WalkArith.wf_i64 (by omega)⟩
    have v4 : w3.cell? ⟨w2.heap.size, 4, none⟩ = some (.slice none 0 0) := cell_of_row _ _ 4 _ _ (0, 0) HY3.out
    have u4 : w3.frozen? ⟨w2.heap.size, 4, none⟩ = false := frozen_of_row _ _ 4 _ _ HY3.out
    obtain ⟨q, hq⟩ := bool_of (IsW (⟨4, f, 0, [], ps⟩ : WD))
    obtain ⟨b, hb⟩ := bool_of (fmtW (⟨4, f, 0, [], ps⟩ : WD) q = s)
    have hne := eq_lists hb
    obtain ⟨F, hF⟩ : ∃ F, fmtW (⟨4, f, 0, [], ps⟩ : WD) q = F := ⟨_, rfl⟩
    have HBk := Lib.hid (fmt_back hq HNe.out hb)
    rw [hF] at hne
    have HF : Hid (fmtW (⟨4, f, 0, none, 0, 0, [], A4, n4, c4', ps⟩ : Wi).dat q = F) := Lib.hid hF
    have HQ : Hid (q = true ↔ IsW (⟨4, f, 0, none, 0, 0, [], A4, n4, c4', ps⟩ : Wi).dat) := Lib.hid hq
    clear hb hF hq
    have y0 : World.cell? (w3.setCell ⟨w2.heap.size, 4, none⟩ (.slice A4 n4 c4')) ⟨w2.heap.size, 0, none⟩ = some (.int .i64 4) := cell_of_row _ _ 0 _ _ (0, 0) HY.out
    have y1 : World.cell? (w3.setCell ⟨w2.heap.size, 4, none⟩ (.slice A4 n4 c4')) ⟨w2.heap.size, 1, none⟩ = some (.int .i64 f) := cell_of_row _ _ 1 _ _ (0, 0) HY.out
    have y2 : World.cell? (w3.setCell ⟨w2.heap.size, 4, none⟩ (.slice A4 n4 c4')) ⟨w2.heap.size, 2, none⟩ = some (.int .i64 0) := cell_of_row _ _ 2 _ _ (0, 0) HY.out
    have y3 : World.cell? (w3.setCell ⟨w2.heap.size, 4, none⟩ (.slice A4 n4 c4')) ⟨w2.heap.size, 3, none⟩ = some (.slice none 0 0) := cell_of_row _ _ 3 _ _ (0, 0) HY.out
    have y4 : World.cell? (w3.setCell ⟨w2.heap.size, 4, none⟩ (.slice A4 n4 c4')) ⟨w2.heap.size, 4, none⟩ = some (.slice A4 n4 c4') := cell_of_row _ _ 4 _ _ (0, 0) HY.out
    go_wp2_with fail
    refine (sFmtW _ _ (⟨4, f, 0, none, 0, 0, [], A4, n4, c4', ps⟩ : Wi) (HRd.out.wi' HWf.out) (Nat.le_refl _) HRd.out.short q HQ.out).mono ?_
    rintro e w9 ⟨rfl, hb9⟩
    rw [HF.out]
    have HR9 := Lib.hid ((hb9.block w.heap.size (lt_of_block HR.out)).trans HR.out)
    have HY9 := Lib.hid ((hb9.block w2.heap.size (lt_of_block HY.out)).trans HY.out)
    have HB9 := Lib.hid (HB.out.trans (hb9.mono HB.out.size))
    have HRd9 : Hid (ReadW w9 (w.heap.size + 1) (⟨4, f, 0, none, 0, 0, [], A4, n4, c4', ps⟩ : Wi)) := Lib.hid (HRd.out.blocks fun b _ hb => hb9.block b hb)
    clear hb9 y0 y1 y2 y3 y4 HR HY HB HRd HF HQ
    have y0 : World.cell? w9 ⟨w2.heap.size, 0, none⟩ = some (.int .i64 4) := cell_of_row _ _ 0 _ _ (0, 0) HY9.out
    have y1 : World.cell? w9 ⟨w2.heap.size, 1, none⟩ = some (.int .i64 f) := cell_of_row _ _ 1 _ _ (0, 0) HY9.out
    have y2 : World.cell? w9 ⟨w2.heap.size, 2, none⟩ = some (.int .i64 0) := cell_of_row _ _ 2 _ _ (0, 0) HY9.out
    have y3 : World.cell? w9 ⟨w2.heap.size, 3, none⟩ = some (.slice none 0 0) := cell_of_row _ _ 3 _ _ (0, 0) HY9.out
    have y4 : World.cell? w9 ⟨w2.heap.size, 4, none⟩ = some (.slice A4 n4 c4') := cell_of_row _ _ 4 _ _ (0, 0) HY9.out
    have x0 : World.cell? w9 ⟨w.heap.size, 0, none⟩ = some (.int .i64 0) := cell_of_row _ _ 0 _ _ (0, 0) HR9.out
    have x1 : World.cell? w9 ⟨w.heap.size, 1, none⟩ = some (.int .i64 0) := cell_of_row _ _ 1 _ _ (0, 0) HR9.out
    have x2 : World.cell? w9 ⟨w.heap.size, 2, none⟩ = some (.int .i64 0) := cell_of_row _ _ 2 _ _ (0, 0) HR9.out
    have x3 : World.cell? w9 ⟨w.heap.size, 3, none⟩ = some (.slice none 0 0) := cell_of_row _ _ 3 _ _ (0, 0) HR9.out
    have x4 : World.cell? w9 ⟨w.heap.size, 4, none⟩ = some (.slice none 0 0) := cell_of_row _ _ 4 _ _ (0, 0) HR9.out
    have z0 : World.frozen? w9 ⟨w.heap.size, 0, none⟩ = false := frozen_of_row _ _ 0 _ _ HR9.out
    have z1 : World.frozen? w9 ⟨w.heap.size, 1, none⟩ = false := frozen_of_row _ _ 1 _ _ HR9.out
    have z2 : World.frozen? w9 ⟨w.heap.size, 2, none⟩ = false := frozen_of_row _ _ 2 _ _ HR9.out
    have z3 : World.frozen? w9 ⟨w.heap.size, 3, none⟩ = false := frozen_of_row _ _ 3 _ _ HR9.out
    have z4 : World.frozen? w9 ⟨w.heap.size, 4, none⟩ = false := frozen_of_row _ _ 4 _ _ HR9.out
    cases b
    · go_wp2
      refine bodyPost_ret_by (results_row_tmp rfl _ _ w.heap.size 39 _ (0, 0) _ rfl (five_set HR9.out) Tryz.underlying39 rfl (by kernel_rfl)) rfl ?_
      exact ⟨⟨⟨0, 0, 0, none, 0, 0, [], none, 0, 0, []⟩, false, rfl, HSp.out.no fun h => (by have := HBk.out.2 h; cases this), ⟨rfl, rfl, rfl⟩, read_zero _ _⟩, below5 HB9.out (Nat.le_refl _) _ _ _ _ _⟩
    · have hbk := HBk.out.1 (by simp)
      have HG := Lib.hid hbk
      clear hbk HBk
      go_wp2
      refine bodyPost_ret_by (results_row_tmp rfl _ _ w.heap.size 39 _ (0, 0) _ rfl (five_set HR9.out) Tryz.underlying39 rfl (by kernel_rfl)) rfl ?_
      exact ⟨⟨(⟨4, f, 0, none, 0, 0, [], A4, n4, c4', ps⟩ : Wi), true, rfl, .inl ⟨rfl, HG.out.1, HG.out.2⟩, HWf.out, (HRd9.out.blocks fun b hb _ => other5 _ _ _ _ _ _ _ _ (by omega)).low (by omega)⟩, below5 HB9.out (Nat.le_refl _) _ _ _ _ _⟩
  have HSp := Lib.hid (HSpec.out 0 0 [] [] (by rw [HK.out]; rfl) (by rw [if_neg (by decide)]) (by rw [if_neg (by decide)]) (by rw [if_neg (by decide)]))
  clear HSpec HK
  have HR : Hid ((w2.alloc (.cells #[.int .i64 0, .int .i64 f, .int .i64 0, .slice none 0 0, .slice none 0 0] 39)).heap[w.heap.size]? = some (.cells #[.int .i64 0, .int .i64 0, .int .i64 0, .slice none 0 0, .slice none 0 0] 39 (0, 0))) := Lib.hid ((Below.heap_alloc _ _ _ hlt2).trans HR2.out)
  have HY : Hid ((w2.alloc (.cells #[.int .i64 0, .int .i64 f, .int .i64 0, .slice none 0 0, .slice none 0 0] 39)).heap[w2.heap.size]? = some (.cells #[.int .i64 0, .int .i64 f, .int .i64 0, .slice none 0 0, .slice none 0 0] 39 (0, 0))) := Lib.hid (heap_alloc_new w2 _)
  have HB : Hid (Below w.heap.size w (w2.alloc (.cells #[.int .i64 0, .int .i64 f, .int .i64 0, .slice none 0 0, .slice none 0 0] 39))) := Lib.hid (HB2.out.alloc HB2.out.size _)
  have HRd : Hid (ReadW (w2.alloc (.cells #[.int .i64 0, .int .i64 f, .int .i64 0, .slice none 0 0, .slice none 0 0] 39)) (w.heap.size + 1) (⟨0, f, 0, none, 0, 0, [], none, 0, 0, []⟩ : Wi)) := Lib.hid ⟨ownI_nil _ _, OwnP.nil _ _, by simp, by simp, fun k h => (by cases h)⟩
  have HWf : Hid ((Lit.int .i64 0).wf = true ∧ (Lit.int .i64 f).wf = true ∧ (Lit.int .i64 0).wf = true) := Lib.hid ⟨WalkArith.wf_i64 (by omega), WalkArith.wf_i64 (by have := HFi.out; omega), WalkArith.wf_i64 (by first | omega | (have := HVi.out; omega))⟩
  obtain ⟨q, hq⟩ := bool_of (IsW (⟨0, f, 0, [], []⟩ : WD))
  obtain ⟨b, hb⟩ := bool_of (fmtW (⟨0, f, 0, [], []⟩ : WD) q = s)
  have hne := eq_lists hb
  obtain ⟨F, hF⟩ : ∃ F, fmtW (⟨0, f, 0, [], []⟩ : WD) q = F := ⟨_, rfl⟩
  have HBk := Lib.hid (fmt_back hq HNe.out hb)
  rw [hF] at hne
  have HF : Hid (fmtW (⟨0, f, 0, none, 0, 0, [], none, 0, 0, []⟩ : Wi).dat q = F) := Lib.hid hF
  have HQ : Hid (q = true ↔ IsW (⟨0, f, 0, none, 0, 0, [], none, 0, 0, []⟩ : Wi).dat) := Lib.hid hq
  clear hb hF hq
  have y0 : World.cell? (w2.alloc (.cells #[.int .i64 0, .int .i64 f, .int .i64 0, .slice none 0 0, .slice none 0 0] 39)) ⟨w2.heap.size, 0, none⟩ = some (.int .i64 0) := cell_of_row _ _ 0 _ _ (0, 0) HY.out
  have y1 : World.cell? (w2.alloc (.cells #[.int .i64 0, .int .i64 f, .int .i64 0, .slice none 0 0, .slice none 0 0] 39)) ⟨w2.heap.size, 1, none⟩ = some (.int .i64 f) := cell_of_row _ _ 1 _ _ (0, 0) HY.out
  have y2 : World.cell? (w2.alloc (.cells #[.int .i64 0, .int .i64 f, .int .i64 0, .slice none 0 0, .slice none 0 0] 39)) ⟨w2.heap.size, 2, none⟩ = some (.int .i64 0) := cell_of_row _ _ 2 _ _ (0, 0) HY.out
  have y3 : World.cell? (w2.alloc (.cells #[.int .i64 0, .int .i64 f, .int .i64 0, .slice none 0 0, .slice none 0 0] 39)) ⟨w2.heap.size, 3, none⟩ = some (.slice none 0 0) := cell_of_row _ _ 3 _ _ (0, 0) HY.out
  have y4 : World.cell? (w2.alloc (.cells #[.int .i64 0, .int .i64 f, .int .i64 0, .slice none 0 0, .slice none 0 0] 39)) ⟨w2.heap.size, 4, none⟩ = some (.slice none 0 0) := cell_of_row _ _ 4 _ _ (0, 0) HY.out
  go_wp2_with fail
  refine (sFmtW _ _ (⟨0, f, 0, none, 0, 0, [], none, 0, 0, []⟩ : Wi) (HRd.out.wi' HWf.out) (Nat.le_refl _) HRd.out.short q HQ.out).mono ?_
  rintro e w9 ⟨rfl, hb9⟩
  rw [HF.out]
  have HR9 := Lib.hid ((hb9.block w.heap.size (lt_of_block HR.out)).trans HR.out)
  have HY9 := Lib.hid ((hb9.block w2.heap.size (lt_of_block HY.out)).trans HY.out)
  have HB9 := Lib.hid (HB.out.trans (hb9.mono HB.out.size))
  have HRd9 : Hid (ReadW w9 (w.heap.size + 1) (⟨0, f, 0, none, 0, 0, [], none, 0, 0, []⟩ : Wi)) := Lib.hid (HRd.out.blocks fun b _ hb => hb9.block b hb)
  clear hb9 y0 y1 y2 y3 y4 HR HY HB HRd HF HQ
  have y0 : World.cell? w9 ⟨w2.heap.size, 0, none⟩ = some (.int .i64 0) := cell_of_row _ _ 0 _ _ (0, 0) HY9.out
  have y1 : World.cell? w9 ⟨w2.heap.size, 1, none⟩ = some (.int .i64 f) := cell_of_row _ _ 1 _ _ (0, 0) HY9.out
  have y2 : World.cell? w9 ⟨w2.heap.size, 2, none⟩ = some (.int .i64 0) := cell_of_row _ _ 2 _ _ (0, 0) HY9.out
  have y3 : World.cell? w9 ⟨w2.heap.size, 3, none⟩ = some (.slice none 0 0) := cell_of_row _ _ 3 _ _ (0, 0) HY9.out
  have y4 : World.cell? w9 ⟨w2.heap.size, 4, none⟩ = some (.slice none 0 0) := cell_of_row _ _ 4 _ _ (0, 0) HY9.out
  have x0 : World.cell? w9 ⟨w.heap.size, 0, none⟩ = some (.int .i64 0) := cell_of_row _ _ 0 _ _ (0, 0) HR9.out
  have x1 : World.cell? w9 ⟨w.heap.size, 1, none⟩ = some (.int .i64 0) := cell_of_row _ _ 1 _ _ (0, 0) HR9.out
  have x2 : World.cell? w9 ⟨w.heap.size, 2, none⟩ = some (.int .i64 0) := cell_of_row _ _ 2 _ _ (0, 0) HR9.out
  have x3 : World.cell? w9 ⟨w.heap.size, 3, none⟩ = some (.slice none 0 0) := cell_of_row _ _ 3 _ _ (0, 0) HR9.out
  have x4 : World.cell? w9 ⟨w.heap.size, 4, none⟩ = some (.slice none 0 0) := cell_of_row _ _ 4 _ _ (0, 0) HR9.out
  have z0 : World.frozen? w9 ⟨w.heap.size, 0, none⟩ = false := frozen_of_row _ _ 0 _ _ HR9.out
  have z1 : World.frozen? w9 ⟨w.heap.size, 1, none⟩ = false := frozen_of_row _ _ 1 _ _ HR9.out
  have z2 : World.frozen? w9 ⟨w.heap.size, 2, none⟩ = false := frozen_of_row _ _ 2 _ _ HR9.out
  have z3 : World.frozen? w9 ⟨w.heap.size, 3, none⟩ = false := frozen_of_row _ _ 3 _ _ HR9.out
  have z4 : World.frozen? w9 ⟨w.heap.size, 4, none⟩ = false := frozen_of_row _ _ 4 _ _ HR9.out
  cases b
  · go_wp2
    refine bodyPost_ret_by (results_row_tmp rfl _ _ w.heap.size 39 _ (0, 0) _ rfl (five_set HR9.out) Tryz.underlying39 rfl (by kernel_rfl)) rfl ?_
    exact ⟨⟨⟨0, 0, 0, none, 0, 0, [], none, 0, 0, []⟩, false, rfl, HSp.out.no fun h => (by have := HBk.out.2 h; cases this), ⟨rfl, rfl, rfl⟩, read_zero _ _⟩, below5 HB9.out (Nat.le_refl _) _ _ _ _ _⟩
  · have hbk := HBk.out.1 (by simp)
    have HG := Lib.hid hbk
    clear hbk HBk
    go_wp2
    refine bodyPost_ret_by (results_row_tmp rfl _ _ w.heap.size 39 _ (0, 0) _ rfl (five_set HR9.out) Tryz.underlying39 rfl (by kernel_rfl)) rfl ?_
    exact ⟨⟨(⟨0, f, 0, none, 0, 0, [], none, 0, 0, []⟩ : Wi), true, rfl, .inl ⟨rfl, HG.out.1, HG.out.2⟩, HWf.out, (HRd9.out.blocks fun b hb _ => other5 _ _ _ _ _ _ _ _ (by omega)).low (by omega)⟩, below5 HB9.out (Nat.le_refl _) _ _ _ _ _⟩
theorem sParseWish (s : ByteArray) (hs : s.size ≤ 1048576) (w : World) :
    Calls Tryz.prog 123 #[.string s] w (OutSpecW s w) :=
  (sParseWishR s hs w).mono fun e w' ⟨⟨t, ok, he, hp, hw, hr⟩, hb⟩ => ⟨⟨t, ok, he, hp, hr.wi' hw, hr.short⟩, hb⟩
end Go.Proofs.YtadjoiahllekdaaGreatDoor.num
namespace Go.Proofs.YtadjoiahllekdaaGreatDoor.num
set_option maxRecDepth 20000
open Go.RowKit
set_option linter.unusedVariables false
set_option linter.unusedSimpArgs false

def cntW (t : Wi) : Int := ((1 + t.ls.length + 2 * t.ps.length : Nat) : Int)
/-- What marks have been laid: the wish's slices hold them. -/
structure MarkedW (w : World) (B : Nat) (t : Wi) : Prop where
  l : OwnI w B (.slice t.LA t.Ln t.Lc) (marks 1 t.ls.length)
  p : OwnP w B (.slice t.PA t.Pn t.Pc) (pmarks (1 + t.ls.length) t.ps.length)
theorem MarkedW.blocks {w w' : World} {B : Nat} {t : Wi} (h : MarkedW w B t) (hb : ∀ b, B ≤ b → b < w.heap.size → w'.heap[b]? = w.heap[b]?) : MarkedW w' B t :=
  ⟨ownI_blocks h.l fun k hk => hb k (ownI_lows h.l k hk) (ownI_tops h.l k hk), h.p.blocks fun k hk => hb k (h.p.lows k hk) (h.p.tops k hk)⟩
theorem MarkedW.below {w w' : World} {B : Nat} {t : Wi} (h : MarkedW w B t) (hb : Below w.heap.size w w') : MarkedW w' B t := h.blocks fun b _ hlt => hb.block b hlt

end Go.Proofs.YtadjoiahllekdaaGreatDoor.num
namespace Go.Proofs.YtadjoiahllekdaaGreatDoor.num
set_option maxRecDepth 20000
open Go.RowKit
set_option linter.unusedVariables false
set_option linter.unusedSimpArgs false

theorem ascUp_len {l : List Int} (h : AscUp l) : l.length ≤ 10 := by
  have hi : ∀ (i : Nat) x, l[i]? = some x → (i : Int) ≤ x := by
    intro i
    induction i with
    | zero => intro x hx; exact (h.1 x (List.mem_of_getElem? hx)).1
    | succ i ih =>
      intro x hx
      have hlt : i < l.length := by have := (List.getElem?_eq_some_iff.1 hx).1; omega
      have h1 := List.getElem?_eq_getElem hlt
      have h2 := ih _ h1
      have h3 := h.2 i _ _ h1 hx
      omega
  rcases Nat.lt_or_ge 10 l.length with hl | hl
  · have h1 := List.getElem?_eq_getElem (show 10 < l.length from hl)
    have h2 := hi 10 _ h1
    have h3 := (h.1 _ (List.mem_of_getElem? h1)).2
    omega
  · exact hl
theorem ParsedW.small {s : List UInt8} {d : WD} {ok : Bool} (h : ParsedW s d ok) : d.ls.length ≤ 1000 ∧ d.ps.length ≤ 1000 := by
  rcases h with ⟨_, h, _⟩ | ⟨_, rfl, _⟩
  · have h1 := h.l
    have h2 := h.p
    refine ⟨?_, ?_⟩
    · split at h1
      · have := ascUp_len h1.2; omega
      · rw [h1]; simp
    · split at h2
      · have := h2.2; omega
      · rw [h2]; simp
  · exact ⟨by simp, by simp⟩
theorem Box5.keep {w w' : World} {g : Nat} {t : Wi} (h : Box5 w g t) (hb : w'.heap[g]? = w.heap[g]?) : Box5 w' g t := by
  obtain ⟨h0, h1, h2, h3, h4, h5⟩ := h
  have c0 := (World.cell?_of_block (a := ⟨g, 0, none⟩) hb).trans h1
  exact ⟨World.block_lt_of_cell? w' _ c0, c0, (World.cell?_of_block (a := ⟨g, 1, none⟩) hb).trans h2, (World.cell?_of_block (a := ⟨g, 2, none⟩) hb).trans h3, (World.cell?_of_block (a := ⟨g, 3, none⟩) hb).trans h4, (World.cell?_of_block (a := ⟨g, 4, none⟩) hb).trans h5⟩
theorem wf_same {t t' : Wi} (h : t'.dat = t.dat) {w : World} {B : Nat} (g : WiIn w B t) : (Lit.int .i64 t'.kind).wf = true ∧ (Lit.int .i64 t'.field).wf = true ∧ (Lit.int .i64 t'.value).wf = true := by
  have h1 : t'.kind = t.kind := congrArg WD.kind h
  have h2 : t'.field = t.field := congrArg WD.field h
  have h3 : t'.value = t.value := congrArg WD.value h
  rw [h1, h2, h3]
  exact ⟨g.k, g.f, g.v⟩
end Go.Proofs.YtadjoiahllekdaaGreatDoor.num
namespace Go.Proofs.YtadjoiahllekdaaGreatDoor.num
set_option maxRecDepth 20000
open Go.RowKit
set_option linter.unusedVariables false
set_option linter.unusedSimpArgs false

theorem owB_list (i : Nat) : (owB i).data.toList = owT.getD i [] := by simp [owB]
theorem ow_beq (i : Nat) (s : ByteArray) (b : Bool) (h : b = true ↔ s.data.toList = owT.getD i []) : ((owB i).toList == s.toList) = b := by
  rw [ByteArray.toList_eq, ByteArray.toList_eq, owB_list]
  cases b
  · have : ¬ owT.getD i [] = s.data.toList := fun e => by
      have := h.2 e.symm
      cases this
    exact beq_eq_false_iff_ne.2 this
  · exact beq_iff_eq.2 (h.1 rfl).symm
/-- The operators' words below k, which a text is not. -/
def NotOw (s : List UInt8) (k : Nat) : Prop := ∀ i, 1 ≤ i → i < k → s ≠ owT.getD i []
theorem NotOw.step {s : List UInt8} {k : Nat} (h : NotOw s k) (hn : s ≠ owT.getD k []) : NotOw s (k + 1) := fun i h1 h2 => by
  rcases Nat.lt_or_ge i k with g | g
  · exact h i h1 g
  · obtain rfl : i = k := by omega
    exact hn
def zW0 : Wi := ⟨0, 0, 0, none, 0, 0, [], none, 0, 0, []⟩
theorem no_node {s : List UInt8} (h : NotOw s 5) (g : ∀ d', IsW d' → wishT d' ≠ s) : ∀ nd', NodeV nd' → nodeT nd' ≠ s := fun nd' hv => by
  rcases hv with ⟨h0, hw⟩ | ⟨ho, _⟩
  · rw [nodeT, if_pos h0]; exact g _ hw
  · rw [nodeT, if_neg (by omega)]
    intro e
    exact h nd'.op.toNat (by omega) (by omega) e.symm
theorem op_node {s : List UInt8} {k : Nat} (h1 : 1 ≤ k) (h2 : k ≤ 4) (e : s = owT.getD k []) : ParsedN s (Nd.mk (k : Int) zW0).dat true :=
  .inl ⟨rfl, .inr ⟨by show (k : Int) = 1 ∨ (k : Int) = 2 ∨ (k : Int) = 3 ∨ (k : Int) = 4; omega, ⟨rfl, rfl, rfl, rfl, rfl⟩⟩, by
    rw [nodeT, if_neg (by show ¬ (k : Int) = 0; omega)]
    show owT.getD (k : Int).toNat [] = s
    rw [Int.toNat_natCast, e]⟩
theorem wish_node {s : List UInt8} {t : Wi} {ok : Bool} (h : NotOw s 5) (g : ParsedW s t.dat ok) : ParsedN s (Nd.mk 0 t).dat ok := by
  rcases g with ⟨rfl, h1, h2⟩ | ⟨rfl, _, h2⟩
  · exact .inl ⟨rfl, .inl ⟨rfl, h1⟩, by rw [nodeT, if_pos (show (Nd.mk 0 t).dat.op = 0 from rfl)]; exact h2⟩
  · exact .inr (.inr ⟨rfl, no_node h h2⟩)
theorem wf_op {k : Nat} (h : k ≤ 4) : (Lit.int .i64 (k : Int)).wf = true := by
  rcases (show k = 0 ∨ k = 1 ∨ k = 2 ∨ k = 3 ∨ k = 4 by omega) with rfl | rfl | rfl | rfl | rfl <;> rfl
theorem below6 {w w' : World} {B X : Nat} (h : Below B w w') (hX : B ≤ X) (v0 v1 v2 v3 v4 v5 : Value) : Below B w ((((((w'.setCell ⟨X, 0, none⟩ v0).setCell ⟨X, 1, none⟩ v1).setCell ⟨X, 2, none⟩ v2).setCell ⟨X, 3, none⟩ v3).setCell ⟨X, 4, none⟩ v4).setCell ⟨X, 5, none⟩ v5) :=
  (below5 h hX _ _ _ _ _).setCell hX _
theorem other6 (w : World) (X b : Nat) (v0 v1 v2 v3 v4 v5 : Value) (h : b ≠ X) : ((((((w.setCell ⟨X, 0, none⟩ v0).setCell ⟨X, 1, none⟩ v1).setCell ⟨X, 2, none⟩ v2).setCell ⟨X, 3, none⟩ v3).setCell ⟨X, 4, none⟩ v4).setCell ⟨X, 5, none⟩ v5).heap[b]? = w.heap[b]? := by
  rw [heap_setCell_other _ _ _ _ h, other5 _ _ _ _ _ _ _ _ h]
/-- The memory of a node that stands in its result's cells. -/
theorem WiIn.six {w : World} {B X : Nat} {t : Wi} (h : WiIn w B t) (hX : B ≤ X) (v0 v1 v2 v3 v4 v5 : Value) {B' : Nat} (hB : B ≤ B') : WiIn ((((((w.setCell ⟨X, 0, none⟩ v0).setCell ⟨X, 1, none⟩ v1).setCell ⟨X, 2, none⟩ v2).setCell ⟨X, 3, none⟩ v3).setCell ⟨X, 4, none⟩ v4).setCell ⟨X, 5, none⟩ v5) B' t :=
  (h.below (below6 (Below.refl _ _) hX _ _ _ _ _ _)).more hB

theorem ReadW.wiO {w : World} {B : Nat} {t : Wi} (h : ReadW w B t) (g : (Lit.int .i64 t.kind).wf = true ∧ (Lit.int .i64 t.field).wf = true ∧ (Lit.int .i64 t.value).wf = true) : WiO w B t := ⟨g.1, g.2.1, g.2.2, h.l, h.p, h.ap⟩
theorem zero_wiO (w : World) (B : Nat) : WiO w B zW0 := (read_zero w B).wiO ⟨rfl, rfl, rfl⟩
/-- What the model hands back. -/
def OutN (s : ByteArray) (w : World) (e : Ending) (w' : World) : Prop := (∃ (nd : Nd) (ok : Bool), e = .returned nd.val ∧ ParsedN s.data.toList nd.dat ok ∧ (Lit.int .i64 nd.op).wf = true ∧ WiO w' (w.heap.size + 1) nd.t ∧ nd.t.Short) ∧ Below w.heap.size w w'
set_option maxHeartbeats 3200000 in
theorem sParseNode (s : ByteArray) (hs : s.size ≤ 1048576) (w : World) :
    Calls Tryz.prog 85 #[.string s] w (OutN s w) := by
  go_enter Tryz.func85, Tryz.ntmps85
  go_wp2
  go_loopw [3] (fun iv wr => ∃ k : Nat, 1 ≤ k ∧ k ≤ 5 ∧ iv = .int .i64 k ∧ NotOw s.data.toList k ∧ wr.heap[w.heap.size]? = some (.cells #[.int .i64 0, .int .i64 0, .int .i64 0, .int .i64 0, .slice none 0 0, .slice none 0 0] 92 (0, 0)) ∧ Below w.heap.size w wr) (fun iv _ => 5 - (intOf iv).toNat)
  case atStart => exact ⟨1, by omega, by omega, rfl, fun i h1 h2 => by omega, heap_alloc_new w _, (Below.refl _ w).alloc (Nat.le_refl _) _⟩
  case round =>
    obtain ⟨k, hk1, hk, rfl, hny, hrow, hbel⟩ := hrel
    have HN := Lib.hid hny
    have HB := Lib.hid hbel
    have HR := Lib.hid hrow
    have hlt : w.heap.size < wr.heap.size := lt_of_block hrow
    clear hny hbel hrow
    by_cases hk5 : k ≤ 4
    · obtain ⟨b, hb⟩ := bool_of (s.data.toList = owT.getD k [])
      have he := ow_beq k s b hb
      have HBb := Lib.hid hb
      have hd : decide ((k : Int) ≤ 4) = true := by simp; omega
      have hc := sWord wr (k : Int) (by omega)
      rw [Int.toNat_natCast] at hc
      have HC := Lib.hid hc
      clear hb hc
      go_wp2_with fail
      refine HC.out.mono ?_
      rintro e w1 ⟨rfl, rfl⟩
      clear HC
      cases b
      · have HNy := Lib.hid (HN.out.step fun e => by have := HBb.out.2 e; cases this)
        go_wp2
        go_roundw
        case rel => exact ⟨k + 1, by omega, by omega, by go_num, HNy.out, HR.out, HB.out⟩
        case measure => simp [intOf]; omega
      · have HP := Lib.hid (op_node hk1 hk5 (HBb.out.1 rfl))
        have x0 : World.cell? w1 ⟨w.heap.size, 0, none⟩ = some (.int .i64 0) := cell_of_row _ _ 0 _ _ (0, 0) HR.out
        have x1 : World.cell? w1 ⟨w.heap.size, 1, none⟩ = some (.int .i64 0) := cell_of_row _ _ 1 _ _ (0, 0) HR.out
        have x2 : World.cell? w1 ⟨w.heap.size, 2, none⟩ = some (.int .i64 0) := cell_of_row _ _ 2 _ _ (0, 0) HR.out
        have x3 : World.cell? w1 ⟨w.heap.size, 3, none⟩ = some (.int .i64 0) := cell_of_row _ _ 3 _ _ (0, 0) HR.out
        have x4 : World.cell? w1 ⟨w.heap.size, 4, none⟩ = some (.slice none 0 0) := cell_of_row _ _ 4 _ _ (0, 0) HR.out
        have x5 : World.cell? w1 ⟨w.heap.size, 5, none⟩ = some (.slice none 0 0) := cell_of_row _ _ 5 _ _ (0, 0) HR.out
        have z0 : World.frozen? w1 ⟨w.heap.size, 0, none⟩ = false := frozen_of_row _ _ 0 _ _ HR.out
        have z1 : World.frozen? w1 ⟨w.heap.size, 1, none⟩ = false := frozen_of_row _ _ 1 _ _ HR.out
        have z2 : World.frozen? w1 ⟨w.heap.size, 2, none⟩ = false := frozen_of_row _ _ 2 _ _ HR.out
        have z3 : World.frozen? w1 ⟨w.heap.size, 3, none⟩ = false := frozen_of_row _ _ 3 _ _ HR.out
        have z4 : World.frozen? w1 ⟨w.heap.size, 4, none⟩ = false := frozen_of_row _ _ 4 _ _ HR.out
        have z5 : World.frozen? w1 ⟨w.heap.size, 5, none⟩ = false := frozen_of_row _ _ 5 _ _ HR.out
        go_wp2
        refine bodyPost_ret_by (results_cell_row rfl _ _ w.heap.size 92 _ (0, 0) _ rfl (six_set HR.out) Tryz.underlying92 rfl (by kernel_rfl)) rfl ?_
        exact ⟨⟨⟨(k : Int), zW0⟩, true, rfl, HP.out, wf_op hk5, zero_wiO _ _, ⟨by simp [zW0], by simp [zW0]⟩⟩, below6 HB.out (Nat.le_refl _) _ _ _ _ _ _⟩
    · have hd : decide ((k : Int) ≤ 4) = false := by simp; omega
      have HN5 : Hid (NotOw s.data.toList 5) := Lib.hid (by have h := HN.out; rwa [show k = 5 by omega] at h)
      go_wp2_with fail
      refine (sParseWishR s hs wr).mono ?_
      rintro e w1 ⟨⟨t, ok, rfl, hp, hwf, hi⟩, hb1⟩
      have HR1 : Hid (w1.heap[w.heap.size]? = some (.cells #[.int .i64 0, .int .i64 0, .int .i64 0, .int .i64 0, .slice none 0 0, .slice none 0 0] 92 (0, 0))) := Lib.hid ((hb1.block w.heap.size hlt).trans HR.out)
      have HB1 := Lib.hid (below_on HB.out hb1)
      have HP := Lib.hid (wish_node HN5.out hp)
      have HI := Lib.hid (hi.wiO hwf)
      have HS := Lib.hid hi.short
      have hlt1 : w.heap.size < w1.heap.size := lt_of_block HR1.out
      have HW : Hid (ok = false → ∀ nd', NodeV nd' → nodeT nd' ≠ s.data.toList) := Lib.hid fun e => by
        rcases hp with ⟨h1, _⟩ | ⟨_, _, h2⟩
        · rw [e] at h1; cases h1
        · exact no_node HN5.out h2
      clear hp hi hwf hb1
      have x0 : World.cell? w1 ⟨w.heap.size, 0, none⟩ = some (.int .i64 0) := cell_of_row _ _ 0 _ _ (0, 0) HR1.out
      have x1 : World.cell? w1 ⟨w.heap.size, 1, none⟩ = some (.int .i64 0) := cell_of_row _ _ 1 _ _ (0, 0) HR1.out
      have x2 : World.cell? w1 ⟨w.heap.size, 2, none⟩ = some (.int .i64 0) := cell_of_row _ _ 2 _ _ (0, 0) HR1.out
      have x3 : World.cell? w1 ⟨w.heap.size, 3, none⟩ = some (.int .i64 0) := cell_of_row _ _ 3 _ _ (0, 0) HR1.out
      have x4 : World.cell? w1 ⟨w.heap.size, 4, none⟩ = some (.slice none 0 0) := cell_of_row _ _ 4 _ _ (0, 0) HR1.out
      have x5 : World.cell? w1 ⟨w.heap.size, 5, none⟩ = some (.slice none 0 0) := cell_of_row _ _ 5 _ _ (0, 0) HR1.out
      have z0 : World.frozen? w1 ⟨w.heap.size, 0, none⟩ = false := frozen_of_row _ _ 0 _ _ HR1.out
      have z1 : World.frozen? w1 ⟨w.heap.size, 1, none⟩ = false := frozen_of_row _ _ 1 _ _ HR1.out
      have z2 : World.frozen? w1 ⟨w.heap.size, 2, none⟩ = false := frozen_of_row _ _ 2 _ _ HR1.out
      have z3 : World.frozen? w1 ⟨w.heap.size, 3, none⟩ = false := frozen_of_row _ _ 3 _ _ HR1.out
      have z4 : World.frozen? w1 ⟨w.heap.size, 4, none⟩ = false := frozen_of_row _ _ 4 _ _ HR1.out
      have z5 : World.frozen? w1 ⟨w.heap.size, 5, none⟩ = false := frozen_of_row _ _ 5 _ _ HR1.out
      unfold Wi.val
      have HB6 : Hid (∀ (v0 v1 v2 v3 v4 v5 : Value) (o : Obj), Below w.heap.size w (((((((w1.setCell ⟨w.heap.size, 0, none⟩ v0).setCell ⟨w.heap.size, 1, none⟩ v1).setCell ⟨w.heap.size, 2, none⟩ v2).setCell ⟨w.heap.size, 3, none⟩ v3).setCell ⟨w.heap.size, 4, none⟩ v4).setCell ⟨w.heap.size, 5, none⟩ v5).alloc o)) := Lib.hid fun v0 v1 v2 v3 v4 v5 o =>
        (below6 HB1.out (Nat.le_refl _) v0 v1 v2 v3 v4 v5).alloc (below6 HB1.out (Nat.le_refl _) v0 v1 v2 v3 v4 v5).size o
      have HR6 : Hid (∀ (v0 v1 v2 v3 v4 v5 : Value) (o : Obj), (((((((w1.setCell ⟨w.heap.size, 0, none⟩ v0).setCell ⟨w.heap.size, 1, none⟩ v1).setCell ⟨w.heap.size, 2, none⟩ v2).setCell ⟨w.heap.size, 3, none⟩ v3).setCell ⟨w.heap.size, 4, none⟩ v4).setCell ⟨w.heap.size, 5, none⟩ v5).alloc o).heap[w.heap.size]? = some (.cells #[v0, v1, v2, v3, v4, v5] 92 (0, 0))) := Lib.hid fun v0 v1 v2 v3 v4 v5 o =>
        (heap_alloc_old _ o (lt_of_block (six_set HR1.out))).trans (six_set HR1.out)
      cases ok
      · go_wp2
        refine bodyPost_ret_by (results_cell_row rfl _ _ w.heap.size 92 _ (0, 0) _ rfl (HR6.out _ _ _ _ _ _ _) Tryz.underlying92 rfl (by kernel_rfl)) rfl ?_
        exact ⟨⟨⟨-1, zW0⟩, false, rfl, .inr (.inr ⟨rfl, HW.out (by first | rfl | trivial)⟩), rfl, zero_wiO _ _, ⟨by simp [zW0], by simp [zW0]⟩⟩, HB6.out _ _ _ _ _ _ _⟩
      · have HI6 : Hid (∀ (v0 v1 v2 v3 v4 v5 : Value) (o : Obj), WiO (((((((w1.setCell ⟨w.heap.size, 0, none⟩ v0).setCell ⟨w.heap.size, 1, none⟩ v1).setCell ⟨w.heap.size, 2, none⟩ v2).setCell ⟨w.heap.size, 3, none⟩ v3).setCell ⟨w.heap.size, 4, none⟩ v4).setCell ⟨w.heap.size, 5, none⟩ v5).alloc o) (w.heap.size + 1) t) := Lib.hid fun v0 v1 v2 v3 v4 v5 o => WiO.low (WiO.blocks HI.out fun b hb => by
          have g1 := (HI.out.has_in hb).1
          have g2 := (HI.out.has_in hb).2
          have g3 := (below6 (Below.refl w.heap.size w1) (Nat.le_refl _) v0 v1 v2 v3 v4 v5).size
          rw [heap_alloc_old _ o (by omega), other6 _ _ _ _ _ _ _ _ _ (by omega)]) (by omega)
        go_wp2
        refine bodyPost_ret_by (results_cell_row rfl _ _ w.heap.size 92 _ (0, 0) _ rfl (HR6.out _ _ _ _ _ _ _) Tryz.underlying92 rfl (by kernel_rfl)) rfl ?_
        exact ⟨⟨⟨0, t⟩, true, rfl, HP.out, rfl, HI6.out _ _ _ _ _ _ _, HS.out⟩, HB6.out _ _ _ _ _ _ _⟩
theorem ParsedW.wf {s : List UInt8} {t : Wi} {ok : Bool} (h : ParsedW s t.dat ok) : (Lit.int .i64 t.kind).wf = true ∧ (Lit.int .i64 t.field).wf = true ∧ (Lit.int .i64 t.value).wf = true := by
  rcases h with ⟨_, h, _⟩ | ⟨_, h, _⟩
  · have h1 : 0 ≤ t.kind ∧ t.kind ≤ 4 := h.k
    have h2 : 0 ≤ t.field ∧ t.field ≤ 2 := h.f
    have h3 : if t.kind = 2 then InR t.value else t.value = 0 := h.v
    refine ⟨WalkArith.wf_i64 (by omega), WalkArith.wf_i64 (by omega), WalkArith.wf_i64 ?_⟩
    unfold InR at h3
    split at h3 <;> omega
  · have h1 : t.kind = 0 := congrArg WD.kind h
    have h2 : t.field = 0 := congrArg WD.field h
    have h3 : t.value = 0 := congrArg WD.value h
    rw [h1, h2, h3]; exact ⟨rfl, rfl, rfl⟩
/-- What the program hands back. -/
def OutNI (s : ByteArray) (w : World) (e : Ending) (w' : World) : Prop := (∃ (nd : Nd) (ok : Bool), e = .returned (.tuple #[nd.val, .bool ok]) ∧ ParsedN s.data.toList nd.dat ok ∧ (Lit.int .i64 nd.op).wf = true ∧ WiO w' (w.heap.size + 1) nd.t ∧ nd.t.Short) ∧ Below w.heap.size w w'
set_option maxHeartbeats 3200000 in
theorem iParseNode (s : ByteArray) (hs : s.size ≤ 1048576) (w : World) (hpow : Pow w) (hmx : Mx w) (hkw : Kw w) (how : Ow w) :
    Calls Tryz.prog 70 #[.string s] w (OutNI s w) := by
  have HPo := Lib.hid hpow
  have HMx := Lib.hid hmx
  have HKw := Lib.hid hkw
  obtain ⟨kb, ko, kc, k0, kg, kh, k1⟩ := how
  have HK := Lib.hid k1
  clear k1 hpow hmx hkw
  go_enter Tryz.func70, Tryz.ntmps70
  go_wp2
  go_loopw [4] (fun iv wr => ∃ k : Nat, 1 ≤ k ∧ k ≤ 5 ∧ iv = .int .i64 k ∧ NotOw s.data.toList k ∧ wr.heap[w.heap.size]? = some (.cells #[.int .i64 0, .int .i64 0, .int .i64 0, .int .i64 0, .slice none 0 0, .slice none 0 0] 92 (0, 0)) ∧ Below w.heap.size w wr) (fun iv _ => 5 - (intOf iv).toNat)
  case atStart => exact ⟨1, by omega, by omega, rfl, fun i h1 h2 => by omega, heap_alloc_new w _, (Below.refl _ w).alloc (Nat.le_refl _) _⟩
  case round =>
    obtain ⟨k, hk1, hk, rfl, hny, hrow, hbel⟩ := hrel
    have HN := Lib.hid hny
    have HB := Lib.hid hbel
    have HR := Lib.hid hrow
    have hlt : w.heap.size < wr.heap.size := lt_of_block hrow
    have k0' : wr.cell? ⟨1, 0, none⟩ = some (.slice (some ⟨kb, ko, none⟩) 5 kc) := (HB.out.cell (p := ⟨1, 0, none⟩) kg).trans k0
    clear hny hbel hrow
    by_cases hk5 : k ≤ 4
    · obtain ⟨b, hb⟩ := bool_of (s.data.toList = owT.getD k [])
      have hcell : wr.cell? ⟨kb, ko + k, none⟩ = some (.string (owB k)) := (HB.out.cell (p := ⟨kb, ko + k, none⟩) kh).trans (HK.out k (by omega))
      have he := ow_beq k s b hb
      have HBb := Lib.hid hb
      have hd : decide ((k : Int) ≤ 4) = true := by simp; omega
      clear hb
      cases b
      · have HNy := Lib.hid (HN.out.step fun e => by have := HBb.out.2 e; cases this)
        go_wp2
        go_roundw
        case rel => exact ⟨k + 1, by omega, by omega, by go_num, HNy.out, HR.out, HB.out⟩
        case measure => simp [intOf]; omega
      · have HP := Lib.hid (op_node hk1 hk5 (HBb.out.1 rfl))
        have x0 : World.cell? wr ⟨w.heap.size, 0, none⟩ = some (.int .i64 0) := cell_of_row _ _ 0 _ _ (0, 0) HR.out
        have x1 : World.cell? wr ⟨w.heap.size, 1, none⟩ = some (.int .i64 0) := cell_of_row _ _ 1 _ _ (0, 0) HR.out
        have x2 : World.cell? wr ⟨w.heap.size, 2, none⟩ = some (.int .i64 0) := cell_of_row _ _ 2 _ _ (0, 0) HR.out
        have x3 : World.cell? wr ⟨w.heap.size, 3, none⟩ = some (.int .i64 0) := cell_of_row _ _ 3 _ _ (0, 0) HR.out
        have x4 : World.cell? wr ⟨w.heap.size, 4, none⟩ = some (.slice none 0 0) := cell_of_row _ _ 4 _ _ (0, 0) HR.out
        have x5 : World.cell? wr ⟨w.heap.size, 5, none⟩ = some (.slice none 0 0) := cell_of_row _ _ 5 _ _ (0, 0) HR.out
        have z0 : World.frozen? wr ⟨w.heap.size, 0, none⟩ = false := frozen_of_row _ _ 0 _ _ HR.out
        have z1 : World.frozen? wr ⟨w.heap.size, 1, none⟩ = false := frozen_of_row _ _ 1 _ _ HR.out
        have z2 : World.frozen? wr ⟨w.heap.size, 2, none⟩ = false := frozen_of_row _ _ 2 _ _ HR.out
        have z3 : World.frozen? wr ⟨w.heap.size, 3, none⟩ = false := frozen_of_row _ _ 3 _ _ HR.out
        have z4 : World.frozen? wr ⟨w.heap.size, 4, none⟩ = false := frozen_of_row _ _ 4 _ _ HR.out
        have z5 : World.frozen? wr ⟨w.heap.size, 5, none⟩ = false := frozen_of_row _ _ 5 _ _ HR.out
        go_wp2
        refine bodyPost_ret_by (results_row_tmp rfl _ _ w.heap.size 92 _ (0, 0) _ rfl (six_set HR.out) Tryz.underlying92 rfl (by kernel_rfl)) rfl ?_
        exact ⟨⟨⟨(k : Int), zW0⟩, true, rfl, HP.out, wf_op hk5, zero_wiO _ _, ⟨by simp [zW0], by simp [zW0]⟩⟩, below6 HB.out (Nat.le_refl _) _ _ _ _ _ _⟩
    · have hd : decide ((k : Int) ≤ 4) = false := by simp; omega
      have HN5 : Hid (NotOw s.data.toList 5) := Lib.hid (by have h := HN.out; rwa [show k = 5 by omega] at h)
      go_wp2_with fail
      refine (iParseWish s hs wr (HPo.out.below HB.out) (HMx.out.below HB.out) (HKw.out.below HB.out)).mono ?_
      rintro e w1 ⟨⟨t, ok, rfl, hp, hi⟩, hb1⟩
      have HR1 : Hid (w1.heap[w.heap.size]? = some (.cells #[.int .i64 0, .int .i64 0, .int .i64 0, .int .i64 0, .slice none 0 0, .slice none 0 0] 92 (0, 0))) := Lib.hid ((hb1.block w.heap.size hlt).trans HR.out)
      have HB1 := Lib.hid (below_on HB.out hb1)
      have HP := Lib.hid (wish_node HN5.out hp)
      have HI := Lib.hid (hi.wiO hp.wf)
      have HS := Lib.hid hi.short
      have hlt1 : w.heap.size < w1.heap.size := lt_of_block HR1.out
      clear hp hi hb1 k0'
      have x0 : World.cell? w1 ⟨w.heap.size, 0, none⟩ = some (.int .i64 0) := cell_of_row _ _ 0 _ _ (0, 0) HR1.out
      have x1 : World.cell? w1 ⟨w.heap.size, 1, none⟩ = some (.int .i64 0) := cell_of_row _ _ 1 _ _ (0, 0) HR1.out
      have x2 : World.cell? w1 ⟨w.heap.size, 2, none⟩ = some (.int .i64 0) := cell_of_row _ _ 2 _ _ (0, 0) HR1.out
      have x3 : World.cell? w1 ⟨w.heap.size, 3, none⟩ = some (.int .i64 0) := cell_of_row _ _ 3 _ _ (0, 0) HR1.out
      have x4 : World.cell? w1 ⟨w.heap.size, 4, none⟩ = some (.slice none 0 0) := cell_of_row _ _ 4 _ _ (0, 0) HR1.out
      have x5 : World.cell? w1 ⟨w.heap.size, 5, none⟩ = some (.slice none 0 0) := cell_of_row _ _ 5 _ _ (0, 0) HR1.out
      have z0 : World.frozen? w1 ⟨w.heap.size, 0, none⟩ = false := frozen_of_row _ _ 0 _ _ HR1.out
      have z1 : World.frozen? w1 ⟨w.heap.size, 1, none⟩ = false := frozen_of_row _ _ 1 _ _ HR1.out
      have z2 : World.frozen? w1 ⟨w.heap.size, 2, none⟩ = false := frozen_of_row _ _ 2 _ _ HR1.out
      have z3 : World.frozen? w1 ⟨w.heap.size, 3, none⟩ = false := frozen_of_row _ _ 3 _ _ HR1.out
      have z4 : World.frozen? w1 ⟨w.heap.size, 4, none⟩ = false := frozen_of_row _ _ 4 _ _ HR1.out
      have z5 : World.frozen? w1 ⟨w.heap.size, 5, none⟩ = false := frozen_of_row _ _ 5 _ _ HR1.out
      unfold Wi.val
      have HB6 : Hid (∀ (v0 v1 v2 v3 v4 v5 : Value) (o : Obj), Below w.heap.size w (((((((w1.setCell ⟨w.heap.size, 0, none⟩ v0).setCell ⟨w.heap.size, 1, none⟩ v1).setCell ⟨w.heap.size, 2, none⟩ v2).setCell ⟨w.heap.size, 3, none⟩ v3).setCell ⟨w.heap.size, 4, none⟩ v4).setCell ⟨w.heap.size, 5, none⟩ v5).alloc o)) := Lib.hid fun v0 v1 v2 v3 v4 v5 o =>
        (below6 HB1.out (Nat.le_refl _) v0 v1 v2 v3 v4 v5).alloc (below6 HB1.out (Nat.le_refl _) v0 v1 v2 v3 v4 v5).size o
      have HR6 : Hid (∀ (v0 v1 v2 v3 v4 v5 : Value) (o : Obj), (((((((w1.setCell ⟨w.heap.size, 0, none⟩ v0).setCell ⟨w.heap.size, 1, none⟩ v1).setCell ⟨w.heap.size, 2, none⟩ v2).setCell ⟨w.heap.size, 3, none⟩ v3).setCell ⟨w.heap.size, 4, none⟩ v4).setCell ⟨w.heap.size, 5, none⟩ v5).alloc o).heap[w.heap.size]? = some (.cells #[v0, v1, v2, v3, v4, v5] 92 (0, 0))) := Lib.hid fun v0 v1 v2 v3 v4 v5 o =>
        (heap_alloc_old _ o (lt_of_block (six_set HR1.out))).trans (six_set HR1.out)
      have HI6 : Hid (∀ (v0 v1 v2 v3 v4 v5 : Value) (o : Obj), WiO (((((((w1.setCell ⟨w.heap.size, 0, none⟩ v0).setCell ⟨w.heap.size, 1, none⟩ v1).setCell ⟨w.heap.size, 2, none⟩ v2).setCell ⟨w.heap.size, 3, none⟩ v3).setCell ⟨w.heap.size, 4, none⟩ v4).setCell ⟨w.heap.size, 5, none⟩ v5).alloc o) (w.heap.size + 1) t) := Lib.hid fun v0 v1 v2 v3 v4 v5 o => WiO.low (WiO.blocks HI.out fun b hb => by
          have g1 := (HI.out.has_in hb).1
          have g2 := (HI.out.has_in hb).2
          have g3 := (below6 (Below.refl w.heap.size w1) (Nat.le_refl _) v0 v1 v2 v3 v4 v5).size
          rw [heap_alloc_old _ o (by omega), other6 _ _ _ _ _ _ _ _ _ (by omega)]) (by omega)
      go_wp2
      refine bodyPost_ret_by (results_row_tmp rfl _ _ w.heap.size 92 _ (0, 0) _ rfl (HR6.out _ _ _ _ _ _ _) Tryz.underlying92 rfl (by kernel_rfl)) rfl ?_
      exact ⟨⟨⟨0, t⟩, ok, rfl, HP.out, rfl, HI6.out _ _ _ _ _ _ _, HS.out⟩, HB6.out _ _ _ _ _ _ _⟩
end Go.Proofs.YtadjoiahllekdaaGreatDoor.num
namespace Go.Proofs.YtadjoiahllekdaaGreatDoor.num
set_option maxRecDepth 20000
open Go.RowKit
set_option linter.unusedVariables false
set_option linter.unusedSimpArgs false

theorem join_len2 : ∀ {L : List (List UInt8)}, L ≠ [] → (∀ p ∈ L, p.length ≤ (Lib.join L [59, 32]).length) ∧ 2 * L.length ≤ (Lib.join L [59, 32]).length + 2
  | [], h => absurd rfl h
  | [a], _ => by rw [Lib.join_one]; exact ⟨fun p hp => by rw [List.mem_singleton.1 hp]; exact Nat.le_refl _, by simp⟩
  | a :: b :: r, _ => by
    obtain ⟨h1, h2⟩ := join_len2 (L := b :: r) (by simp)
    rw [joinL_cons a (by simp)]
    simp only [List.length_append, List.length_cons, List.length_nil] at h2 ⊢
    refine ⟨fun p hp => ?_, by omega⟩
    rcases List.mem_cons.1 hp with rfl | hp
    · omega
    · have := h1 p hp; omega
theorem wordsE_len (s : List UInt8) : (∀ p ∈ wordsE s, p.length ≤ s.length) ∧ 2 * (wordsE s).length ≤ s.length + 2 := by
  have h := join_len2 (wordsE_ne s)
  rwa [wordsE_back] at h
theorem split_e (s : ByteArray) (hs : s.size ≤ 1048576) (w : World) (hm : Mx w) :
    Calls Tryz.prog 100 #[.string s, .string ⟨#[59, 32]⟩] w fun e w' => ∃ ps : List ByteArray, ps.map (·.data.toList) = wordsE s.data.toList ∧ e = .returned (.slice (some ⟨w.heap.size, 0, none⟩) ps.length ps.length) ∧ w.alloc (.cells (ps.map Value.string).toArray 9) = w' := by
  obtain ⟨m, hm⟩ := hm
  refine (Tryz.strings_Split s ⟨#[59, 32]⟩ m w (by omega) hm (by decide)).mono fun e w' ⟨he, hw⟩ => ?_
  refine ⟨Lib.splitB ⟨#[59, 32]⟩ 0 (Lib.countB s ⟨#[59, 32]⟩) s, splitB_words s, ?_, hw.symm⟩
  rw [he, Lib.splitB_all ⟨#[59, 32]⟩ (by decide) 0 _ s rfl]
/-- What splitList hands back. -/
def ValsN (w : World) (B : Nat) (L : List (List UInt8)) (v : Value) (ok : Bool) : Prop :=
  (ok = false ∧ v = .slice none 0 0 ∧ ∃ (k : Nat) (p : List UInt8) (nd : ND), L[k]? = some p ∧ ParsedN p nd false) ∨
  (ok = true ∧ ∃ (b : Nat) (ns : List Nd), v = .slice (some ⟨b, 0, none⟩) L.length L.length ∧ ns.length = L.length ∧ (∀ (j : Nat) (p : List UInt8) (x : Nd), L[j]? = some p → ns[j]? = some x → ParsedN p x.dat true) ∧ ShortN ns ∧ OwnN w B (.slice (some ⟨b, 0, none⟩) L.length L.length) ns)

set_option maxHeartbeats 3200000 in
theorem splitNodes (s : ByteArray) (hs : s.size ≤ 1048576) (w : World) (hpow : Pow w) (hmx : Mx w) (hkw : Kw w) (how : Ow w) (L : List (List UInt8)) (hL : wordsE s.data.toList = L) :
    Calls Tryz.prog 69 #[.string s, .string ⟨#[59, 32]⟩, .func (.func 70) #[] #[]] w fun e w' => (∃ v ok, e = .returned (.tuple #[v, .bool ok]) ∧ ValsN w' w.heap.size L v ok) ∧ Below w.heap.size w w' := by
  have HP := Lib.hid hpow
  have HM := Lib.hid hmx
  have HKw := Lib.hid hkw
  have HOw := Lib.hid how
  have HL0 := Lib.hid hL
  clear hpow hmx hkw how hL
  go_enter Tryz.func69, Tryz.ntmps69
  go_wp2_with fail
  refine (split_e s hs w HM.out).mono ?_
  rintro e w0 ⟨ps, hps, rfl, rfl⟩
  have hL := HL0.out
  rw [hL] at hps
  have hsl : s.data.toList.length = s.size := by rw [Array.length_toList]; rfl
  have hlen : L.length ≤ 1048576 := by
    rw [← hL]
    have h1 := (wordsE_len s.data.toList).2
    omega
  have hle : ∀ p ∈ L, p.length ≤ 1048576 := by
    intro p hp
    rw [← hL] at hp
    have h1 := (wordsE_len s.data.toList).1 p hp
    omega
  have hpl : L.length = ps.length := by rw [← hps, List.length_map]
  obtain ⟨n, hn⟩ : ∃ n, ps.length = n := ⟨_, rfl⟩
  rw [hn] at hpl
  have HLn := Lib.hid hpl
  have hnb : n ≤ 1048576 := by omega
  rw [hn]
  have HPS := Lib.hid hps
  have HN := Lib.hid hn
  have HLe := Lib.hid hle
  obtain ⟨ws, hws⟩ : ∃ ws, ws = w.alloc (.cells (ps.map Value.string).toArray 9) := ⟨_, rfl⟩
  have hsz : w.heap.size < ws.heap.size := by rw [hws]; simp
  have HW0 := Lib.hid (show Below w.heap.size w ws by rw [hws]; exact (Below.refl _ w).alloc (Nat.le_refl _) _)
  have HC : Hid (∀ k p, ps[k]? = some p → ws.cell? ⟨w.heap.size, k, none⟩ = some (.string p)) := Lib.hid fun k p hp => by
    rw [hws, World.cell?_alloc_at _ _ _ _ rfl]
    simp [hp]
  have hmk := make_nodes n hnb
  rw [← hws]
  clear hL hlen hle hpl hps hn hws hsl
  go_wp2
  clear hmk
  go_loopw [22] (fun i wr => ∃ (k : Nat) (ns' : List Nd), k ≤ n ∧ i = .int .i64 k ∧ ns'.length = k ∧ (∀ (j : Nat) (p : List UInt8) (x : Nd), L[j]? = some p → ns'[j]? = some x → ParsedN p x.dat true) ∧ ShortN ns' ∧ wr.rowIs ws.heap.size 92 (n * 6) (nodeCell ns') ∧ (∀ (k : Nat) (x : Nd), ns'[k]? = some x → (Lit.int .i64 x.op).wf = true ∧ WiO wr (ws.heap.size + 1) x.t) ∧
    (∀ (i j : Nat) (x y : Nd) (b : Nat), i < j → ns'[i]? = some x → ns'[j]? = some y → x.t.has b → ¬ y.t.has b) ∧ Below ws.heap.size ws wr) (fun i _ => n - (intOf i).toNat)
  case atStart => exact ⟨0, [], Nat.zero_le _, rfl, rfl, by simp, by simp [ShortN], made_nodes ws n, by simp, by simp, (Below.refl _ _).alloc (Nat.le_refl _) _⟩
  case round =>
    obtain ⟨k, ns', hk, rfl, hlen, hrd, hsh, hrow, hx, hdd, hbel⟩ := hrel
    have HD := Lib.hid hrd
    have HL := Lib.hid hlen
    have HS := Lib.hid hsh
    have HR := Lib.hid hrow
    have HXs := Lib.hid hx
    have HDd := Lib.hid hdd
    have HB := Lib.hid hbel
    have HBw := Lib.hid (HW0.out.trans (hbel.mono HW0.out.size))
    clear hrd hlen hsh hx hdd
    by_cases hlt : k < n
    · obtain ⟨p, hp1, hp2⟩ := str_at HPS.out (k := k) (by rw [HN.out]; exact hlt)
      have f1 : wr.cell? ⟨w.heap.size, k, none⟩ = some (.string p) := (hbel.cell (p := ⟨w.heap.size, k, none⟩) hsz).trans (HC.out k p hp1)
      have HP2 := Lib.hid hp2
      have hpsz : Hid (p.size ≤ 1048576) := Lib.hid (by
        have h1 := HLe.out _ (mem_of_at hp2)
        have h2 : p.data.toList.length = p.size := by rw [Array.length_toList]; rfl
        omega)
      have hlt' : (k : Int) < (n : Int) := by omega
      have hbs := hrow.lt
      clear hp1 hp2 hrow hbel
      go_wp2_with fail
      refine (iParseNode p hpsz.out wr (HP.out.below HBw.out) (HM.out.below HBw.out) (HKw.out.below HBw.out) (HOw.out.below HBw.out)).mono ?_
      rintro e w1 ⟨⟨x', ok, rfl, hpn, hop', ho', hs'⟩, hb⟩
      unfold Nd.val
      obtain ⟨ob, hob⟩ : ∃ ob : Obj, ob = .cells #[.int .i64 x'.op, .int .i64 x'.t.kind, .int .i64 x'.t.field, .int .i64 x'.t.value, .slice x'.t.LA x'.t.Ln x'.t.Lc, .slice x'.t.PA x'.t.Pn x'.t.Pc] 92 := ⟨_, rfl⟩
      have hb2 : Below wr.heap.size wr (w1.alloc ob) := hb.alloc hb.size ob
      have hrow1 := World.rowIs.of_block HR.out (hb2.block _ hbs)
      have q : ∀ i, i < 6 → (w1.alloc ob).cell? ⟨ws.heap.size, k * 6 + i, none⟩ = some (zN i) := fun i hi => by
        rw [World.rowIs.cell hrow1 (by omega)]
        congr 1
        show cellG nodeCells zN ns' _ = _
        rw [cellG_none nodeCells_len zN (by rw [HL.out]; omega)]
        unfold zN
        rw [show (k * 6 + i) % 6 = i % 6 by omega]
      have q0 : (w1.alloc ob).cell? ⟨ws.heap.size, k * 6, none⟩ = some (.int .i64 0) := q 0 (by decide)
      have q1 : (w1.alloc ob).cell? ⟨ws.heap.size, k * 6 + 1, none⟩ = some (.int .i64 0) := q 1 (by decide)
      have q2 : (w1.alloc ob).cell? ⟨ws.heap.size, k * 6 + 2, none⟩ = some (.int .i64 0) := q 2 (by decide)
      have q3 : (w1.alloc ob).cell? ⟨ws.heap.size, k * 6 + 3, none⟩ = some (.int .i64 0) := q 3 (by decide)
      have q4 : (w1.alloc ob).cell? ⟨ws.heap.size, k * 6 + 4, none⟩ = some (.slice none 0 0) := q 4 (by decide)
      have q5 : (w1.alloc ob).cell? ⟨ws.heap.size, k * 6 + 5, none⟩ = some (.slice none 0 0) := q 5 (by decide)
      have p0 := World.rowIs.frozen hrow1 (k * 6)
      have p1 := World.rowIs.frozen hrow1 (k * 6 + 1)
      have p2 := World.rowIs.frozen hrow1 (k * 6 + 2)
      have p3 := World.rowIs.frozen hrow1 (k * 6 + 3)
      have p4 := World.rowIs.frozen hrow1 (k * 6 + 4)
      have p5 := World.rowIs.frozen hrow1 (k * 6 + 5)
      have HR1 := Lib.hid hrow1
      have HB1 := Lib.hid hb2
      have HO1 := Lib.hid (WiO.blocks ho' (fun b hb' => heap_alloc_old w1 ob (ho'.has_in hb').2))
      have HPn := Lib.hid hpn
      have HS1 := Lib.hid hs'
      have HOp := Lib.hid hop'
      have HBs := Lib.hid hbs
      clear hrow1 hb hb2 ho' hpn hs' hop' q hbs f1
      rw [hob] at q0 q1 q2 q3 q4 q5 p0 p1 p2 p3 p4 p5
      cases ok
      · clear q0 q1 q2 q3 q4 q5 p0 p1 p2 p3 p4 p5
        go_wp2
        go_ret2
        exact ⟨⟨_, _, rfl, .inl ⟨rfl, rfl, k, _, _, HP2.out, HPn.out⟩⟩, HW0.out.trans ((by rw [hob] at HB1; exact below_on HB.out HB1.out : Below ws.heap.size ws _).mono HW0.out.size)⟩
      · go_wp2
        go_roundw
        case rel =>
          rw [← hob]
          have hk2 : ∀ b, b ≠ ws.heap.size → ∀ v0 v1 v2 v3 v4 v5, (((((((w1.alloc ob).setCell ⟨ws.heap.size, k * 6, none⟩ v0).setCell ⟨ws.heap.size, k * 6 + 1, none⟩ v1).setCell ⟨ws.heap.size, k * 6 + 2, none⟩ v2).setCell ⟨ws.heap.size, k * 6 + 3, none⟩ v3).setCell ⟨ws.heap.size, k * 6 + 4, none⟩ v4).setCell ⟨ws.heap.size, k * 6 + 5, none⟩ v5).heap[b]? = (w1.alloc ob).heap[b]? := fun b hb v0 v1 v2 v3 v4 v5 => by
            repeat rw [heap_setCell_other _ _ _ _ (by simp; omega)]
          refine ⟨k + 1, ns' ++ [x'], by omega, by go_num, by rw [List.length_append, HL.out]; rfl, ?_, ?_, ?_, ?_, ?_, ?_⟩
          · intro j u y hu hy
            rcases get_snoc HL.out hy with ⟨_, h⟩ | ⟨rfl, rfl⟩
            · exact HD.out j u y hu h
            · have hu' := HP2.out
              rw [hu] at hu'
              rw [Option.some.inj hu']; exact HPn.out
          · intro y hy
            rcases List.mem_append.1 hy with h | h
            · exact HS.out y h
            · rw [List.mem_singleton.1 h]; exact HS1.out
          · exact (World.rowIs.set (World.rowIs.set (World.rowIs.set (World.rowIs.set (World.rowIs.set (World.rowIs.set HR1.out (k * 6) _) (k * 6 + 1) _) (k * 6 + 2) _) (k * 6 + 3) _) (k * 6 + 4) _) (k * 6 + 5) _).congr (fun j _ => nodeCell_snoc HL.out x' j)
          · intro i y hy
            rcases get_snoc HL.out hy with ⟨_, h⟩ | ⟨_, rfl⟩
            · obtain ⟨e1, e2⟩ := HXs.out i y h
              refine ⟨e1, WiO.blocks (e2.below HB1.out) fun b hb => hk2 b ?_ _ _ _ _ _ _⟩
              have := (e2.has_in hb).1
              omega
            · refine ⟨HOp.out, (WiO.blocks HO1.out fun b hb => hk2 b ?_ _ _ _ _ _ _).low (by have := HBs.out; omega)⟩
              have := (HO1.out.has_in hb).1
              have := HBs.out
              omega
          · intro i j y z b hij hy hz hb
            rcases get_snoc HL.out hz with ⟨hj, h⟩ | ⟨_, rfl⟩
            · rcases get_snoc HL.out hy with ⟨_, h'⟩ | ⟨e, _⟩
              · exact HDd.out i j y z b hij h' h hb
              · omega
            · rcases get_snoc HL.out hy with ⟨_, h'⟩ | ⟨e, _⟩
              · intro hb'
                have g1 := ((HXs.out i y h').2.has_in hb).2
                have g2 := (HO1.out.has_in hb').1
                omega
              · omega
          · exact ((((((below_on HB.out HB1.out).setCell (Nat.le_refl _) _).setCell (Nat.le_refl _) _).setCell (Nat.le_refl _) _).setCell (Nat.le_refl _) _).setCell (Nat.le_refl _) _).setCell (Nat.le_refl _) _
        case measure => simp [intOf]; omega
    · obtain rfl : k = n := by omega
      clear hbel hrow
      go_wp2
      go_ret2
      refine ⟨⟨_, _, rfl, .inr ⟨rfl, ws.heap.size, ns', by rw [HLn.out]; rfl, by rw [HLn.out]; exact HL.out, HD.out, HS.out, ?_⟩⟩, HBw.out⟩
      rw [HLn.out]
      exact OwnN.of_row (by omega) HL.out hnb HR.out HXs.out HDd.out
/-- What ParseExpression hands back: nodes of the call's own. -/
def OutParseE (s : ByteArray) (w : World) (e : Ending) (w' : World) : Prop := (∃ (v : Value) (ns : List Nd) (ok : Bool), e = .returned (.tuple #[v, .bool ok]) ∧ OwnN w' w.heap.size v ns ∧ ShortN ns ∧ ParsedE s.data.toList (datN ns) ok) ∧ Below w.heap.size w w'
theorem read_all {L : List (List UInt8)} {ns : List Nd} (hl : ns.length = L.length) (h : ∀ (j : Nat) (p : List UInt8) (x : Nd), L[j]? = some p → ns[j]? = some x → ParsedN p x.dat true) : ReadE L (datN ns) (List.replicate L.length true) :=
  ⟨by unfold datN; rw [List.length_map, hl], by simp, fun k p nd ok h1 h2 h3 => by
    unfold datN at h2
    rw [List.getElem?_map] at h2
    obtain ⟨x, hx, rfl⟩ := Option.map_eq_some_iff.1 h2
    have h4 := List.mem_of_getElem? h3
    rw [(List.mem_replicate.1 h4).2]
    exact h k p x h1 hx⟩
set_option maxHeartbeats 1600000 in
theorem iParseE (s : ByteArray) (hs : s.size ≤ 1048576) (w : World) (hpow : Pow w) (hmx : Mx w) (hkw : Kw w) (how : Ow w) :
    Calls Tryz.prog 21 #[.string s] w (OutParseE s w) := by
  obtain ⟨L, hL⟩ : ∃ L, wordsE s.data.toList = L := ⟨_, rfl⟩
  go_enter Tryz.func21, Tryz.ntmps21
  go_wp2_with fail
  refine (splitNodes s hs w hpow hmx hkw how L hL).mono ?_
  rintro e w1 ⟨⟨v, ok, rfl, hv⟩, hb1⟩
  have HB1 := Lib.hid hb1
  clear hpow hmx hkw how
  rcases hv with ⟨rfl, rfl, k, p, nd, hk, hp⟩ | ⟨rfl, b, ns, rfl, hlen, hrd, hsh, hown⟩
  · have HNo : Hid (ParsedE s.data.toList [] false) := Lib.hid (impl_stop (by rw [hL]; exact hk) hp)
    clear hk hp hb1 hL
    go_wp2
    go_ret2
    exact ⟨⟨_, [], false, rfl, OwnN.nil _ _, by simp [ShortN], HNo.out⟩, HB1.out⟩
  · have hsl : s.data.toList.length = s.size := by rw [Array.length_toList]; rfl
    have hln : L.length ≤ 1048576 := by
      rw [← hL]
      have h1 := (wordsE_len s.data.toList).2
      omega
    obtain ⟨q, hq⟩ := bool_of (IsE (datN ns))
    have HC := Lib.hid (iIsEW w1 w1.heap.size (some ⟨b, 0, none⟩) L.length L.length ns hown.nodes (Nat.le_refl _) (Nat.le_refl _) (by omega) hsh q hq)
    have hre := read_all hlen hrd
    rw [← hL] at hre
    have hno : q = false → ParsedE s.data.toList [] false := fun e => impl_no hre fun h => by have := hq.2 h.2; rw [e] at this; cases this
    have hyes : q = true → ParsedE s.data.toList (datN ns) true := fun e => impl_yes hre (fun ok hok => (List.mem_replicate.1 hok).2) (hq.1 e)
    have HNo := Lib.hid hno
    have HYes := Lib.hid hyes
    have HO := Lib.hid hown
    have HS := Lib.hid hsh
    obtain ⟨n, hn⟩ : ∃ n, L.length = n := ⟨_, rfl⟩
    rw [hn] at HC HO ⊢
    clear hb1 hlen hrd hsh hown hq hre hno hyes hsl hln hL hn
    go_wp2_with fail
    refine HC.out.mono ?_
    rintro e w2 ⟨rfl, hb2⟩
    have HB2 := Lib.hid hb2
    have HB := Lib.hid (below_on HB1.out hb2)
    clear hb2 HC
    cases q
    · go_wp2
      go_ret2
      exact ⟨⟨_, [], false, rfl, OwnN.nil _ _, by simp [ShortN], HNo.out (by first | rfl | trivial)⟩, HB.out⟩
    · go_wp2
      go_ret2
      exact ⟨⟨_, ns, true, rfl, HO.out.below HB2.out, HS.out, HYes.out (by first | rfl | trivial)⟩, HB.out⟩
end Go.Proofs.YtadjoiahllekdaaGreatDoor.num
namespace Go.Proofs.YtadjoiahllekdaaGreatDoor.num
set_option maxRecDepth 20000
open Go.RowKit
set_option linter.unusedVariables false
set_option linter.unusedSimpArgs false

/-- What the model's ParseExpression hands back. -/
def OutSpecE (s : ByteArray) (w : World) (e : Ending) (w' : World) : Prop := (∃ (A : Option Addr) (n c : Nat) (ns : List Nd) (ok : Bool), e = .returned (.tuple #[.slice A n c, .bool ok]) ∧ Nodes w' w'.heap.size A n ns ∧ ShortN ns ∧ ParsedE s.data.toList (datN ns) ok) ∧ Below w.heap.size w w'
theorem less_zero {P : List (List UInt8)} {p : List UInt8} (h : P[0]? = some p) : (lessT P)[0]? = some p := by
  cases P with
  | nil => cases h
  | cons a r => exact h
theorem less_succ {P : List (List UInt8)} {k : Nat} {p : List UInt8} (hk : 0 < k) (h : P[k]? = some p) : (lessT P)[k]? = some p.tail := by
  cases P with
  | nil => simp at h
  | cons a r =>
    obtain ⟨j, rfl⟩ : ∃ j, k = j + 1 := ⟨k - 1, by omega⟩
    simp only [lessT, List.getElem?_cons_succ, List.getElem?_map] at h ⊢
    rw [h]; rfl
theorem less_len (P : List (List UInt8)) : (lessT P).length = P.length := by cases P <;> simp [lessT]
theorem read_some {L : List (List UInt8)} {ns : List Nd} (hl : ns.length = L.length) (h : ∀ (j : Nat) (p : List UInt8) (x : Nd), L[j]? = some p → ns[j]? = some x → ∃ ok, ParsedN p x.dat ok) : ∃ oks, ReadE L (datN ns) oks := by
  have hex : ∀ j, ∃ ok, ∀ (p : List UInt8) (x : Nd), L[j]? = some p → ns[j]? = some x → ParsedN p x.dat ok := fun j => by
    by_cases hj : j < L.length
    · obtain ⟨ok, hok⟩ := h j _ _ (List.getElem?_eq_getElem hj) (List.getElem?_eq_getElem (by omega))
      exact ⟨ok, fun p x hp hx => by
        rw [List.getElem?_eq_getElem hj] at hp
        rw [List.getElem?_eq_getElem (show j < ns.length by omega)] at hx
        rw [← Option.some.inj hp, ← Option.some.inj hx]; exact hok⟩
    · exact ⟨true, fun p x hp _ => by rw [List.getElem?_eq_none (by omega)] at hp; cases hp⟩
  obtain ⟨f, hf⟩ := Classical.axiomOfChoice hex
  refine ⟨(List.range L.length).map f, by unfold datN; rw [List.length_map, hl], by simp, fun k p nd ok h1 h2 h3 => ?_⟩
  unfold datN at h2
  rw [List.getElem?_map] at h2 h3
  obtain ⟨x, hx, rfl⟩ := Option.map_eq_some_iff.1 h2
  obtain ⟨j, hj, rfl⟩ := Option.map_eq_some_iff.1 h3
  have hj' : k = j := by
    rw [List.getElem?_eq_some_iff] at hj
    obtain ⟨_, e⟩ := hj
    simpa using e
  subst hj'
  exact hf k p x h1 hx
theorem empty_own (w : World) : OwnN (w.alloc (.cells #[] 92)) w.heap.size (.slice (some ⟨w.heap.size, 0, none⟩) 0 0) [] :=
  OwnN.of_row (Nat.le_refl _) rfl (by decide) (by have h := made_nodes w 0; rwa [show madeCells zeroN (0 * 6) = #[] by simp [madeCells]] at h) (by simp) (by simp)
set_option maxHeartbeats 6400000 in
theorem sParseE (s : ByteArray) (hs : s.size ≤ 1048576) (w : World) :
    Calls Tryz.prog 39 #[.string s] w (OutSpecE s w) := by
  have HE0 := Lib.hid (empty_own w)
  have HX0 : Hid (Below w.heap.size w (w.alloc (.cells #[] 92))) := Lib.hid ((Below.refl _ w).alloc (Nat.le_refl _) _)
  go_enter Tryz.func39, Tryz.ntmps39
  go_wp2_with fail
  refine (sCut2 s hs 59 _).mono ?_
  rintro e w1 ⟨⟨A, n, cc, l, rfl, hst, hpc⟩, hb1⟩
  have HE1 := Lib.hid (HE0.out.below hb1)
  have HX1 := Lib.hid (below_on HX0.out hb1)
  have hsz0 : w.heap.size + 1 ≤ w1.heap.size := by have := hb1.size; simpa using this
  have HSt : Hid (∀ j p, l[j]? = some p → ∃ b off : Nat, A = some ⟨b, off, none⟩ ∧ w.heap.size < b ∧ b < w1.heap.size ∧ w1.cell? ⟨b, off + j, none⟩ = some (.string p)) := Lib.hid fun j p hp => by
    obtain ⟨b, off, h1, h2, h3, h4⟩ := hst.2 j p hp
    exact ⟨b, off, h1, by simp at h2; omega, h3, h4⟩
  have hln : l.length = n := hst.1
  obtain ⟨P, hP⟩ : ∃ P, P = pieces 59 s.data.toList := ⟨_, rfl⟩
  rw [← hP] at hpc
  have hPn : P.length = n := by rw [← hpc, List.length_map, hln]
  have hsl : s.data.toList.length = s.size := by rw [Array.length_toList]; rfl
  have hnb : n ≤ 1048577 := by
    have := pieces_count 59 s.data.toList
    rw [← hP, hPn] at this
    omega
  have HPz : Hid (∀ p : ByteArray, p ∈ l → p.size ≤ 1048576) := Lib.hid fun p hp => by
    have h1 : p.data.toList ∈ pieces 59 s.data.toList := by rw [← hP, ← hpc]; exact List.mem_map.2 ⟨p, hp, rfl⟩
    have h2 := piece_le h1
    have h3 : p.data.toList.length = p.size := by rw [Array.length_toList]; rfl
    omega
  have HPc := Lib.hid hpc
  have HLn := Lib.hid hln
  have HPn := Lib.hid hPn
  have HP := Lib.hid hP
  clear hst hpc hln hP hPn hb1 HE0 hsl
  go_wp2
  go_loopw [4, 6] (fun vo iv wr => ∃ (k : Nat) (ns : List Nd), k ≤ n ∧ iv = .int .i64 k ∧ ns.length = k ∧ OwnN wr w.heap.size vo ns ∧ ShortN ns ∧ (∀ (j : Nat) (p : List UInt8) (x : Nd), (lessT P)[j]? = some p → ns[j]? = some x → ∃ ok, ParsedN p x.dat ok) ∧ (∀ b, vo.ownBlock = some b → b = w.heap.size ∨ w1.heap.size ≤ b) ∧
    (∀ j p, l[j]? = some p → ∃ b off : Nat, A = some ⟨b, off, none⟩ ∧ w.heap.size < b ∧ b < w1.heap.size ∧ wr.cell? ⟨b, off + j, none⟩ = some (.string p)) ∧ Below w.heap.size w wr ∧ w1.heap.size ≤ wr.heap.size) (fun vo iv _ => n - (intOf iv).toNat)
  case atStart => exact ⟨0, [], Nat.zero_le _, rfl, rfl, HE1.out, by simp [ShortN], by simp, fun b hb => .inl (by have := Option.some.inj hb; exact this.symm), HSt.out, HX1.out, Nat.le_refl _⟩
  case round =>
    obtain ⟨k, ns, hk, rfl, hlen, hown, hsh, hrd, hob, hcl, hbel, hsz⟩ := hrel
    obtain ⟨AO, cO, rfl, -, hcO⟩ := hown.r.shape
    rw [hlen] at hown hob ⊢
    have HL := Lib.hid hlen
    have HO := Lib.hid hown
    have HS := Lib.hid hsh
    have HR := Lib.hid hrd
    have HOb := Lib.hid hob
    have HCl := Lib.hid hcl
    have HB := Lib.hid hbel
    clear hlen hown hsh hrd hob hcl hbel hcO
    by_cases hlt : k < n
    · obtain ⟨p, hp1⟩ : ∃ p, l[k]? = some p := ⟨l[k]'(by have := HLn.out; omega), List.getElem?_eq_getElem _⟩
      obtain ⟨b, off, rfl, hb0, hb2, hcell⟩ := HCl.out k p hp1
      have hPk : P[k]? = some p.data.toList := by rw [← HPc.out, List.getElem?_map, hp1]; rfl
      have HPk := Lib.hid hPk
      have hps := HPz.out p (List.mem_of_getElem? hp1)
      have HPs := Lib.hid hps
      have HT := Lib.hid (tail_of p hps)
      have hlt' : (k : Int) < (n : Int) := by omega
      clear hp1 hPk
      by_cases hk0 : k = 0
      · subst hk0
        have HQ : Hid ((lessT P)[0]? = some p.data.toList) := Lib.hid (less_zero HPk.out)
        rw [Nat.add_zero] at hcell
        clear hlt'
        have hlt' : (0 : Int) < (n : Int) := by omega
        have hlt'' : 0 < n := hlt
        go_wp2_with fail
        refine (sParseNode p HPs.out wr).mono ?_
        rintro e w2 ⟨⟨x, ok, rfl, hpn, hwf, hx, hxs⟩, hb3⟩
        have HB2 := Lib.hid (below_on HB.out hb3)
        have HO2 := Lib.hid (HO.out.below hb3)
        have HTo : Hid (WiO w2 w.heap.size x.t) := Lib.hid (hx.low (by omega))
        have HAp : Hid (∀ b, x.t.has b → ¬ hasN (.slice AO 0 cO) ns b) := Lib.hid fun b h1 h2 => by
          have q1 := (hx.has_in h1).1
          have q2 := (HO.out.has_in h2).2
          omega
        have HCl2 : Hid (∀ j u, l[j]? = some u → ∃ b' off' : Nat, (some ⟨b, off, none⟩ : Option Addr) = some ⟨b', off', none⟩ ∧ w.heap.size < b' ∧ b' < w1.heap.size ∧ w2.cell? ⟨b', off' + j, none⟩ = some (.string u)) := Lib.hid fun j u hu => by
          obtain ⟨b', off', h1, h2, h3, h4⟩ := HCl.out j u hu
          exact ⟨b', off', h1, h2, h3, (hb3.cell (p := ⟨b', off' + j, none⟩) (by show b' < wr.heap.size; omega)).trans h4⟩
        have HPn := Lib.hid hpn
        have HWf := Lib.hid hwf
        have HXs := Lib.hid hxs
        have hsz2 : w1.heap.size ≤ w2.heap.size := Nat.le_trans hsz hb3.size
        have HLn2 : Hid ((ns.length + 1) * 80 ≤ 140737488355328) := Lib.hid (by rw [HL.out]; omega)
        clear hb3 hpn hwf hx hxs hcell
        unfold Nd.val
        go_wp2_with (at_builtin; refine wp_appG nodeCells_len nodeCells_one (T := 92) (tS := 44) Tryz.underlying44 info_node rfl (by decide) w2 (by rfl) (.tmp 30) (.tmp 33) (by rfl) w.heap.size (.slice AO 0 cO) ns (by rfl) HO2.out.r _ x (by rfl) 1 _ rfl (by rfl) HLn2.out (by decide) HB2.out.size ?_)
        intro v' w3 hr hg hat
        have HO3 := Lib.hid (HO2.out.snoc hg hat hr HWf.out HTo.out HAp.out)
        have HB3 := Lib.hid (HB2.out.grown hg HB2.out.size (fun k hk => HO2.out.r.lows k hk))
        have HOb3 : Hid (∀ b, v'.ownBlock = some b → b = w.heap.size ∨ w1.heap.size ≤ b) := Lib.hid fun b hb => by
          rcases hat with q | q
          · exact HOb.out b (q ▸ hb)
          · rw [q] at hb
            have h1 := Option.some.inj hb
            exact .inr (by omega)
        have HCl3 : Hid (∀ j u, l[j]? = some u → ∃ b' off' : Nat, (some ⟨b, off, none⟩ : Option Addr) = some ⟨b', off', none⟩ ∧ w.heap.size < b' ∧ b' < w1.heap.size ∧ w3.cell? ⟨b', off' + j, none⟩ = some (.string u)) := Lib.hid fun j u hu => by
          obtain ⟨b', off', h1, h2, h3, h4⟩ := HCl2.out j u hu
          refine ⟨b', off', h1, h2, h3, hg.cell h4 fun e => ?_⟩
          rcases HOb.out b' e.symm with h | h <;> omega
        have hsz3 : w1.heap.size ≤ w3.heap.size := Nat.le_trans hsz2 hg.size
        clear hr hg hat
        go_wp2
        go_roundw
        case rel =>
          refine ⟨0 + 1, ns ++ [x], by omega, by go_num, by rw [List.length_append, HL.out]; rfl, HO3.out, ?_, ?_, HOb3.out, HCl3.out, HB3.out, hsz3⟩
          · intro y hy
            rcases List.mem_append.1 hy with h | h
            · exact HS.out y h
            · rw [List.mem_singleton.1 h]; exact HXs.out
          · intro j u y hu hy
            rcases get_snoc HL.out hy with ⟨_, h⟩ | ⟨rfl, rfl⟩
            · exact HR.out j u y hu h
            · have hq := HQ.out
              rw [hu] at hq
              rw [Option.some.inj hq]
              exact ⟨ok, HPn.out⟩
        case measure => simp [intOf]; omega
      · have hd0 : decide ((0 : Int) < (k : Int)) = true := by simp; omega
        by_cases hp0 : p.size = 0
        · have hd1 : decide ((0 : Int) < (p.size : Int)) = false := by rw [decide_eq_false_iff_not]; omega
          have HQ : Hid ((lessT P)[k]? = some p.data.toList) := Lib.hid (by
            have h := less_succ (by omega) HPk.out
            have e : p.data.toList = [] := by
              have h3 : p.data.toList.length = p.size := by rw [Array.length_toList]; rfl
              exact List.eq_nil_of_length_eq_zero (by omega)
            rw [e] at h ⊢; exact h)
          go_wp2_with fail
          refine (sParseNode p HPs.out wr).mono ?_
          rintro e w2 ⟨⟨x, ok, rfl, hpn, hwf, hx, hxs⟩, hb3⟩
          have HB2 := Lib.hid (below_on HB.out hb3)
          have HO2 := Lib.hid (HO.out.below hb3)
          have HTo : Hid (WiO w2 w.heap.size x.t) := Lib.hid (hx.low (by omega))
          have HAp : Hid (∀ b, x.t.has b → ¬ hasN (.slice AO k cO) ns b) := Lib.hid fun b h1 h2 => by
            have q1 := (hx.has_in h1).1
            have q2 := (HO.out.has_in h2).2
            omega
          have HCl2 : Hid (∀ j u, l[j]? = some u → ∃ b' off' : Nat, (some ⟨b, off, none⟩ : Option Addr) = some ⟨b', off', none⟩ ∧ w.heap.size < b' ∧ b' < w1.heap.size ∧ w2.cell? ⟨b', off' + j, none⟩ = some (.string u)) := Lib.hid fun j u hu => by
            obtain ⟨b', off', h1, h2, h3, h4⟩ := HCl.out j u hu
            exact ⟨b', off', h1, h2, h3, (hb3.cell (p := ⟨b', off' + j, none⟩) (by show b' < wr.heap.size; omega)).trans h4⟩
          have HPn := Lib.hid hpn
          have HWf := Lib.hid hwf
          have HXs := Lib.hid hxs
          have hsz2 : w1.heap.size ≤ w2.heap.size := Nat.le_trans hsz hb3.size
          have HLn2 : Hid ((ns.length + 1) * 80 ≤ 140737488355328) := Lib.hid (by rw [HL.out]; omega)
          clear hb3 hpn hwf hx hxs hcell
          unfold Nd.val
          go_wp2_with (at_builtin; refine wp_appG nodeCells_len nodeCells_one (T := 92) (tS := 44) Tryz.underlying44 info_node rfl (by decide) w2 (by rfl) (.tmp 30) (.tmp 33) (by rfl) w.heap.size (.slice AO k cO) ns (by rfl) HO2.out.r _ x (by rfl) 1 _ rfl (by rfl) HLn2.out (by decide) HB2.out.size ?_)
          intro v' w3 hr hg hat
          have HO3 := Lib.hid (HO2.out.snoc hg hat hr HWf.out HTo.out HAp.out)
          have HB3 := Lib.hid (HB2.out.grown hg HB2.out.size (fun k hk => HO2.out.r.lows k hk))
          have HOb3 : Hid (∀ b, v'.ownBlock = some b → b = w.heap.size ∨ w1.heap.size ≤ b) := Lib.hid fun b hb => by
            rcases hat with q | q
            · exact HOb.out b (q ▸ hb)
            · rw [q] at hb
              have h1 := Option.some.inj hb
              exact .inr (by omega)
          have HCl3 : Hid (∀ j u, l[j]? = some u → ∃ b' off' : Nat, (some ⟨b, off, none⟩ : Option Addr) = some ⟨b', off', none⟩ ∧ w.heap.size < b' ∧ b' < w1.heap.size ∧ w3.cell? ⟨b', off' + j, none⟩ = some (.string u)) := Lib.hid fun j u hu => by
            obtain ⟨b', off', h1, h2, h3, h4⟩ := HCl2.out j u hu
            refine ⟨b', off', h1, h2, h3, hg.cell h4 fun e => ?_⟩
            rcases HOb.out b' e.symm with h | h <;> omega
          have hsz3 : w1.heap.size ≤ w3.heap.size := Nat.le_trans hsz2 hg.size
          clear hr hg hat
          go_wp2
          go_roundw
          case rel =>
            refine ⟨k + 1, ns ++ [x], by omega, by go_num, by rw [List.length_append, HL.out]; rfl, HO3.out, ?_, ?_, HOb3.out, HCl3.out, HB3.out, hsz3⟩
            · intro y hy
              rcases List.mem_append.1 hy with h | h
              · exact HS.out y h
              · rw [List.mem_singleton.1 h]; exact HXs.out
            · intro j u y hu hy
              rcases get_snoc HL.out hy with ⟨_, h⟩ | ⟨rfl, rfl⟩
              · exact HR.out j u y hu h
              · have hq := HQ.out
                rw [hu] at hq
                rw [Option.some.inj hq]
                exact ⟨ok, HPn.out⟩
          case measure => simp [intOf]; omega
        · have hd1 : decide ((0 : Int) < (p.size : Int)) = true := by rw [decide_eq_true_iff]; omega
          have h1le : 1 ≤ p.size := by omega
          have HQ : Hid ((lessT P)[k]? = some (p.extract 1 p.size).data.toList) := Lib.hid (by rw [HT.out.2]; exact less_succ (by omega) HPk.out)
          go_wp2_with fail
          refine (sParseNode (p.extract 1 p.size) HT.out.1 wr).mono ?_
          rintro e w2 ⟨⟨x, ok, rfl, hpn, hwf, hx, hxs⟩, hb3⟩
          have HB2 := Lib.hid (below_on HB.out hb3)
          have HO2 := Lib.hid (HO.out.below hb3)
          have HTo : Hid (WiO w2 w.heap.size x.t) := Lib.hid (hx.low (by omega))
          have HAp : Hid (∀ b, x.t.has b → ¬ hasN (.slice AO k cO) ns b) := Lib.hid fun b h1 h2 => by
            have q1 := (hx.has_in h1).1
            have q2 := (HO.out.has_in h2).2
            omega
          have HCl2 : Hid (∀ j u, l[j]? = some u → ∃ b' off' : Nat, (some ⟨b, off, none⟩ : Option Addr) = some ⟨b', off', none⟩ ∧ w.heap.size < b' ∧ b' < w1.heap.size ∧ w2.cell? ⟨b', off' + j, none⟩ = some (.string u)) := Lib.hid fun j u hu => by
            obtain ⟨b', off', h1, h2, h3, h4⟩ := HCl.out j u hu
            exact ⟨b', off', h1, h2, h3, (hb3.cell (p := ⟨b', off' + j, none⟩) (by show b' < wr.heap.size; omega)).trans h4⟩
          have HPn := Lib.hid hpn
          have HWf := Lib.hid hwf
          have HXs := Lib.hid hxs
          have hsz2 : w1.heap.size ≤ w2.heap.size := Nat.le_trans hsz hb3.size
          have HLn2 : Hid ((ns.length + 1) * 80 ≤ 140737488355328) := Lib.hid (by rw [HL.out]; omega)
          clear hb3 hpn hwf hx hxs hcell
          unfold Nd.val
          go_wp2_with (at_builtin; refine wp_appG nodeCells_len nodeCells_one (T := 92) (tS := 44) Tryz.underlying44 info_node rfl (by decide) w2 (by rfl) (.tmp 30) (.tmp 33) (by rfl) w.heap.size (.slice AO k cO) ns (by rfl) HO2.out.r _ x (by rfl) 1 _ rfl (by rfl) HLn2.out (by decide) HB2.out.size ?_)
          intro v' w3 hr hg hat
          have HO3 := Lib.hid (HO2.out.snoc hg hat hr HWf.out HTo.out HAp.out)
          have HB3 := Lib.hid (HB2.out.grown hg HB2.out.size (fun k hk => HO2.out.r.lows k hk))
          have HOb3 : Hid (∀ b, v'.ownBlock = some b → b = w.heap.size ∨ w1.heap.size ≤ b) := Lib.hid fun b hb => by
            rcases hat with q | q
            · exact HOb.out b (q ▸ hb)
            · rw [q] at hb
              have h1 := Option.some.inj hb
              exact .inr (by omega)
          have HCl3 : Hid (∀ j u, l[j]? = some u → ∃ b' off' : Nat, (some ⟨b, off, none⟩ : Option Addr) = some ⟨b', off', none⟩ ∧ w.heap.size < b' ∧ b' < w1.heap.size ∧ w3.cell? ⟨b', off' + j, none⟩ = some (.string u)) := Lib.hid fun j u hu => by
            obtain ⟨b', off', h1, h2, h3, h4⟩ := HCl2.out j u hu
            refine ⟨b', off', h1, h2, h3, hg.cell h4 fun e => ?_⟩
            rcases HOb.out b' e.symm with h | h <;> omega
          have hsz3 : w1.heap.size ≤ w3.heap.size := Nat.le_trans hsz2 hg.size
          clear hr hg hat
          go_wp2
          go_roundw
          case rel =>
            refine ⟨k + 1, ns ++ [x], by omega, by go_num, by rw [List.length_append, HL.out]; rfl, HO3.out, ?_, ?_, HOb3.out, HCl3.out, HB3.out, hsz3⟩
            · intro y hy
              rcases List.mem_append.1 hy with h | h
              · exact HS.out y h
              · rw [List.mem_singleton.1 h]; exact HXs.out
            · intro j u y hu hy
              rcases get_snoc HL.out hy with ⟨_, h⟩ | ⟨rfl, rfl⟩
              · exact HR.out j u y hu h
              · have hq := HQ.out
                rw [hu] at hq
                rw [Option.some.inj hq]
                exact ⟨ok, HPn.out⟩
          case measure => simp [intOf]; omega
    · obtain rfl : k = n := by omega
      have hlP : (lessT P).length = k := by rw [less_len, HPn.out]
      obtain ⟨oks, hr⟩ := read_some (L := lessT P) (ns := ns) (by rw [HL.out, hlP]) HR.out
      have HRd : Hid (ReadE (lessT (pieces 59 s.data.toList)) (datN ns) oks) := Lib.hid (by rw [← HP.out]; exact hr)
      obtain ⟨qe, hqe⟩ := bool_of (IsE (datN ns))
      have HQe := Lib.hid hqe
      obtain ⟨fb, hfb⟩ : ∃ fb, fmtE (datN ns) qe = fb := ⟨_, rfl⟩
      have HF : Hid (Calls Tryz.prog 24 #[.slice AO k cO] wr fun e w' => e = .returned (.string fb) ∧ Below wr.heap.size wr w') := Lib.hid (by
        rw [← hfb]
        exact sFmtEW wr wr.heap.size AO k cO ns HO.out.nodes (Nat.le_refl _) hnb HS.out qe hqe)
      have HFb := Lib.hid hfb
      have HE0 : ∀ b : Bool, (b = true ↔ s.data.toList = []) → s.toList.isEmpty = b := fun b hb => by
        rw [ByteArray.toList_eq, Bool.eq_iff_iff, hb, List.isEmpty_iff]
      clear hr hqe hlP hfb
      by_cases he : s.data.toList = []
      · have hes := HE0 true (by simp [he])
        have HNo := Lib.hid (spec_no HRd.out HQe.out (.inl he))
        clear he HE0
        go_wp2
        go_ret2
        exact ⟨⟨_, _, _, [], false, rfl, Nodes.nil _ _ _, by simp [ShortN], HNo.out⟩, HB.out.alloc HB.out.size _⟩
      · have hes := HE0 false (by simp [he])
        obtain ⟨q, hq⟩ := bool_of (fb.data.toList = s.data.toList)
        have hcmp : (fb.toList == s.toList) = q := by rw [ByteArray.toList_eq, ByteArray.toList_eq, Bool.eq_iff_iff, beq_iff_eq, hq]
        have HQ := Lib.hid hq
        have HNe := Lib.hid he
        clear he HE0 hq
        go_wp2_with fail
        refine HF.out.mono ?_
        rintro e w5 ⟨rfl, hb5⟩
        have HO5 := Lib.hid (HO.out.below hb5)
        have HB5 := Lib.hid (below_on HB.out hb5)
        clear hb5
        cases q
        · have HNo := Lib.hid (spec_no HRd.out HQe.out (.inr (by rw [HFb.out]; intro h; have := HQ.out.2 h; cases this)))
          go_wp2
          go_ret2
          exact ⟨⟨_, _, _, [], false, rfl, Nodes.nil _ _ _, by simp [ShortN], HNo.out⟩, HB5.out.alloc HB5.out.size _⟩
        · have HY := Lib.hid (spec_yes HNe.out HQe.out (by rw [HFb.out]; exact HQ.out.1 rfl))
          go_wp2
          go_ret2
          exact ⟨⟨_, _, _, ns, true, rfl, HO5.out.nodes, HS.out, HY.out⟩, HB5.out⟩
end Go.Proofs.YtadjoiahllekdaaGreatDoor.num
