/- Contracts of functions that the laws of this chapter call, packed. -/
import Derived.Test.YtaijajajpnekbaaGreatRewA
import Derived.Test.YtaijajajpnekbaaGreatExpTree
import Derived.Test.YtaijajajpnekbaaGreatRegion
import Derived.Test.YtaijajajpnekbaaGreatExpA
namespace Go.Proofs.YtaijajajpnekbaaGreat.num
set_option maxRecDepth 20000
open Go.RowKit Go.Maps
set_option linter.unusedVariables false
set_option linter.unusedSimpArgs false

/-- A list of nodes that a call hands back: it may share memory with what came in. -/
def NodesOut (L : List ND) (w : World) (e : Ending) (w' : World) : Prop :=
  ∃ (A : Option Addr) (n c : Nat) (ns : List Nd), e = .returned (.slice A n c) ∧ Nodes w' w'.heap.size A n ns ∧ datN ns = L ∧ ShortN ns ∧ n ≤ c ∧ c ≤ maxLen ∧ Below w.heap.size w w'
theorem Nodes.app {w : World} {B : Nat} {A1 A2 A3 A : Option Addr} {n1 n2 n3 n : Nat} {l1 l2 l3 : List Nd} (h1 : Nodes w B A1 n1 l1) (h2 : Nodes w B A2 n2 l2) (h3 : Nodes w B A3 n3 l3) (hr : ReadG nodeCells 6 w B A n (l1 ++ l2 ++ l3)) : Nodes w B A n (l1 ++ l2 ++ l3) :=
  ⟨hr, fun x hx => by
    rcases List.mem_append.1 hx with hx | hx
    · rcases List.mem_append.1 hx with hx | hx
      · exact h1.x x hx
      · exact h2.x x hx
    · exact h3.x x hx⟩
/-- slices.Concat of three slices of nodes. -/
theorem concatAt (W : World) (g : Nat) (hg : W.heap.size = g) (A1 A2 A3 : Option Addr) (n1 n2 n3 c1 c2 c3 : Nat) (l1 l2 l3 : List Nd) (h1 : Nodes W W.heap.size A1 n1 l1) (h2 : Nodes W W.heap.size A2 n2 l2) (h3 : Nodes W W.heap.size A3 n3 l3) (hn : n1 + n2 + n3 ≤ 1048576) :
    Calls Tryz.prog 44 #[.slice (some ⟨g, 0, none⟩) 3 3] (W.alloc (.cells #[.slice A1 n1 c1, .slice A2 n2 c2, .slice A3 n3 c3] 24)) fun e w' => ∃ (A : Option Addr) (n c : Nat), e = .returned (.slice A n c) ∧ Nodes w' w'.heap.size A n (l1 ++ l2 ++ l3) ∧ n ≤ c ∧ c ≤ maxLen ∧ Below W.heap.size W w' := by
  subst hg
  have hb : Below W.heap.size W (W.alloc (.cells #[.slice A1 n1 c1, .slice A2 n2 c2, .slice A3 n3 c3] 24)) := (Below.refl _ _).alloc (Nat.le_refl _) _
  refine (concatN _ W.heap.size W.heap.size 3 A1 A2 A3 n1 n2 n3 c1 c2 c3 l1 l2 l3 (h1.below hb).r (h2.below hb).r (h3.below hb).r (by simp) (by simp) hn (World.cell?_alloc_at _ _ _ _ rfl) (World.cell?_alloc_at _ _ _ _ rfl) (World.cell?_alloc_at _ _ _ _ rfl)).mono ?_
  rintro e w' ⟨v, rfl, ho, hb'⟩
  obtain ⟨A, c, rfl, hle, hcm⟩ := ho.shape
  have hbb : Below W.heap.size W w' := below_on hb hb'
  exact ⟨A, _, c, rfl, Nodes.app ((h1.below hbb).more hbb.size) ((h2.below hbb).more hbb.size) ((h3.below hbb).more hbb.size) (ho.read nodeCells_len), hle, hcm, hbb⟩
/-- A slice of one node. -/
theorem oneNode (W : World) (op : Int) (t : Wi) (hop : (Lit.int .i64 op).wf = true) (hw : WiIn W W.heap.size t) :
    Nodes (W.alloc (.cells #[.int .i64 op, .int .i64 t.kind, .int .i64 t.field, .int .i64 t.value, .slice t.LA t.Ln t.Lc, .slice t.PA t.Pn t.Pc] 57)) (W.alloc (.cells #[.int .i64 op, .int .i64 t.kind, .int .i64 t.field, .int .i64 t.value, .slice t.LA t.Ln t.Lc, .slice t.PA t.Pn t.Pc] 57)).heap.size (some ⟨W.heap.size, 0, none⟩) 1 [⟨op, t⟩] := by
  have hb : Below W.heap.size W (W.alloc (.cells #[.int .i64 op, .int .i64 t.kind, .int .i64 t.field, .int .i64 t.value, .slice t.LA t.Ln t.Lc, .slice t.PA t.Pn t.Pc] 57)) := (Below.refl _ _).alloc (Nat.le_refl _) _
  refine ⟨⟨rfl, fun k x hk => ?_⟩, fun x hx => ?_⟩
  · rcases k with _ | k
    · simp at hk
      subst hk
      refine ⟨W.heap.size, 0, rfl, by simp, fun j v hv => ?_⟩
      rw [World.cell?_alloc_at _ _ _ _ rfl]
      simp only [Nat.zero_mul, Nat.zero_add]
      simpa [nodeCells] using hv
    · simp at hk
  · rw [List.mem_singleton.1 hx]
    exact ⟨hop, WiIn.more (hw.below hb) hb.size⟩
/-- What a part's row reads as, cell by cell. -/
structure PCells (w : World) (p : Nat) (op : Int) (t : Wi) (v7 v8 : Value) : Prop where
  c0 : w.cell? ⟨p, 0, none⟩ = some (.int .i64 op)
  c1 : w.cell? ⟨p, 1, none⟩ = some (.int .i64 t.kind)
  c2 : w.cell? ⟨p, 2, none⟩ = some (.int .i64 t.field)
  c3 : w.cell? ⟨p, 3, none⟩ = some (.int .i64 t.value)
  c4 : w.cell? ⟨p, 4, none⟩ = some (.slice t.LA t.Ln t.Lc)
  c5 : w.cell? ⟨p, 5, none⟩ = some (.slice t.PA t.Pn t.Pc)
  c7 : w.cell? ⟨p, 7, none⟩ = some v7
  c8 : w.cell? ⟨p, 8, none⟩ = some v8
theorem PCells.of_row {w : World} {p : Nat} {op : Int} {t : Wi} {v6 v7 v8 : Value} (h : w.heap[p]? = some (partRow op t v6 v7 v8)) : PCells w p op t v7 v8 :=
  ⟨cell_of_row w _ 0 _ _ (0, 0) h, cell_of_row w _ 1 _ _ (0, 0) h, cell_of_row w _ 2 _ _ (0, 0) h, cell_of_row w _ 3 _ _ (0, 0) h, cell_of_row w _ 4 _ _ (0, 0) h, cell_of_row w _ 5 _ _ (0, 0) h, cell_of_row w _ 7 _ _ (0, 0) h, cell_of_row w _ 8 _ _ (0, 0) h⟩
theorem nodes_none (w : World) : Calls Tryz.prog 40 #[.pointer none] w (NodesOut [] w) := by
  go_enter Tryz.func40, Tryz.ntmps40
  go_wp2
  go_ret
  exact ⟨none, 0, 0, [], rfl, .nil _ _ _, rfl, by simp [ShortN], Nat.le_refl _, Nat.zero_le _, Below.refl _ _⟩
set_option maxRecDepth 20000 in
set_option maxHeartbeats 6400000 in
theorem nodesAt (w : World) (B p : Nat) (op : Int) (t : Wi) (v6 v7 v8 : Value) (LA LB : List ND) (hrow : w.heap[p]? = some (partRow op t v6 v7 v8)) (hop : (Lit.int .i64 op).wf = true) (hwi : WiIn w B t) (hB : B ≤ w.heap.size) (hsh : t.Short) (hl : LA.length + LB.length ≤ 1000)
    (ha : ∀ W, Below w.heap.size w W → Calls Tryz.prog 40 #[v7] W (NodesOut LA W)) (hb : ∀ W, Below w.heap.size w W → Calls Tryz.prog 40 #[v8] W (NodesOut LB W)) :
    Calls Tryz.prog 40 #[.pointer (some ⟨p, 0, none⟩)] w (NodesOut (LA ++ LB ++ [⟨op, t.dat⟩]) w) := by
  have hpl : p < w.heap.size := by
    rcases Nat.lt_or_ge p w.heap.size with g | g
    · exact g
    · rw [Array.getElem?_eq_none g] at hrow; cases hrow
  have HPC : Hid (∀ W, Below w.heap.size w W → PCells W p op t v7 v8) := Lib.hid fun W hW => .of_row ((hW.block p hpl).trans hrow)
  have HA := Lib.hid ha
  have HB := Lib.hid hb
  have HOp := Lib.hid hop
  have HWi : Hid (∀ W, Below w.heap.size w W → WiIn W W.heap.size t) := Lib.hid fun W hW => (hwi.below (hW.mono hB)).more (Nat.le_trans hB hW.size)
  have HSh := Lib.hid hsh
  have HLn := Lib.hid hl
  have HB0 : Hid (Below w.heap.size w (World.drew w)) := Lib.hid (Below.refl _ _).drew
  clear hrow hop hwi hsh ha hb hl
  go_enter Tryz.func40, Tryz.ntmps40
  go_wp2
  have hS0 : (fun w' => PCells w' p op t v7 v8) (World.drew w) := HPC.out _ HB0.out
  refine wp_region_held (S := fun w' => PCells w' p op t v7 v8) (by kernel_rfl) ?_
  change wpAnyH _ _ _ _ _ _ _ _ (World.drew _)
  refine takeY 5 (i := 0) (v := ?vq1) rfl rfl (by kernel_rfl) (by kernel_rfl) (by kernel_rfl) (fun _ _ _ h => h) (by kernel_rfl) ?yq1 hS0 ?_
  case yq1 =>
    intro w' hw'; (try dsimp only at hw'); obtain ⟨c0, c1, c2, c3, c4, c5, c7, c8⟩ := hw'; go_simp; try with_reducible rfl
  simp only [Act.put, List.setIfInBounds_toArray, List.set_cons_zero, List.set_cons_succ]
  refine takeY 6 (i := 1) (v := ?vq2) rfl rfl (by kernel_rfl) (by kernel_rfl) (by kernel_rfl) (fun _ _ _ h => h) (by kernel_rfl) ?yq2 hS0 ?_
  case yq2 =>
    intro w' hw'; (try dsimp only at hw'); obtain ⟨c0, c1, c2, c3, c4, c5, c7, c8⟩ := hw'; go_simp; try with_reducible rfl
  simp only [Act.put, List.setIfInBounds_toArray, List.set_cons_zero, List.set_cons_succ]
  refine takeY 7 (i := 2) (v := ?vq3) rfl rfl (by kernel_rfl) (by kernel_rfl) (by kernel_rfl) (fun _ _ _ h => h) (by kernel_rfl) ?yq3 hS0 ?_
  case yq3 =>
    intro w' hw'; (try dsimp only at hw'); obtain ⟨c0, c1, c2, c3, c4, c5, c7, c8⟩ := hw'; go_simp; try with_reducible rfl
  simp only [Act.put, List.setIfInBounds_toArray, List.set_cons_zero, List.set_cons_succ]
  refine takeY 8 (i := 3) (v := ?vq4) rfl rfl (by kernel_rfl) (by kernel_rfl) (by kernel_rfl) (fun _ _ _ h => h) (by kernel_rfl) ?yq4 hS0 ?_
  case yq4 =>
    intro w' hw'; (try dsimp only at hw'); obtain ⟨c0, c1, c2, c3, c4, c5, c7, c8⟩ := hw'; go_simp; try with_reducible rfl
  simp only [Act.put, List.setIfInBounds_toArray, List.set_cons_zero, List.set_cons_succ]
  refine takeY 10 (i := 5) (v := ?vq5) rfl rfl (by kernel_rfl) (by kernel_rfl) (by kernel_rfl) (fun _ _ _ h => h) (by kernel_rfl) ?yq5 hS0 ?_
  case yq5 =>
    intro w' hw'; (try dsimp only at hw'); obtain ⟨c0, c1, c2, c3, c4, c5, c7, c8⟩ := hw'; go_simp; try with_reducible rfl
  simp only [Act.put, List.setIfInBounds_toArray, List.set_cons_zero, List.set_cons_succ]
  refine takeY 11 (i := 6) (v := ?vq6) rfl rfl (by kernel_rfl) (by kernel_rfl) (by kernel_rfl) (fun _ _ _ h => h) (by kernel_rfl) ?yq6 hS0 ?_
  case yq6 =>
    intro w' hw'; (try dsimp only at hw'); obtain ⟨c0, c1, c2, c3, c4, c5, c7, c8⟩ := hw'; go_simp; try with_reducible rfl
  simp only [Act.put, List.setIfInBounds_toArray, List.set_cons_zero, List.set_cons_succ]
  refine takeY 12 (i := 7) (v := ?vq7) rfl rfl (by kernel_rfl) (by kernel_rfl) (by kernel_rfl) (fun _ _ _ h => h) (by kernel_rfl) ?yq7 hS0 ?_
  case yq7 =>
    intro w' hw'; (try dsimp only at hw'); obtain ⟨c0, c1, c2, c3, c4, c5, c7, c8⟩ := hw'; go_simp; try with_reducible rfl
  simp only [Act.put, List.setIfInBounds_toArray, List.set_cons_zero, List.set_cons_succ]
  refine takeY 13 (i := 8) (v := ?vq8) rfl rfl (by kernel_rfl) (by kernel_rfl) (by kernel_rfl) (fun _ _ _ h => h) (by kernel_rfl) ?yq8 hS0 ?_
  case yq8 =>
    intro w' hw'; (try dsimp only at hw'); obtain ⟨c0, c1, c2, c3, c4, c5, c7, c8⟩ := hw'; go_simp; try with_reducible rfl
  simp only [Act.put, List.setIfInBounds_toArray, List.set_cons_zero, List.set_cons_succ]
  refine takeY 15 (i := 10) (v := ?vq9) rfl rfl (by kernel_rfl) (by kernel_rfl) (by kernel_rfl) (fun _ _ _ h => h) (by kernel_rfl) ?yq9 hS0 ?_
  case yq9 =>
    intro w' hw'; (try dsimp only at hw'); obtain ⟨c0, c1, c2, c3, c4, c5, c7, c8⟩ := hw'; go_simp; try with_reducible rfl
  simp only [Act.put, List.setIfInBounds_toArray, List.set_cons_zero, List.set_cons_succ]
  refine takeY 16 (i := 11) (v := ?vq10) rfl rfl (by kernel_rfl) (by kernel_rfl) (by kernel_rfl) (fun _ _ _ h => h) (by kernel_rfl) ?yq10 hS0 ?_
  case yq10 =>
    intro w' hw'; (try dsimp only at hw'); obtain ⟨c0, c1, c2, c3, c4, c5, c7, c8⟩ := hw'; go_simp; try with_reducible rfl
  simp only [Act.put, List.setIfInBounds_toArray, List.set_cons_zero, List.set_cons_succ]
  refine takeY 17 (i := 12) (v := ?vq11) rfl rfl (by kernel_rfl) (by kernel_rfl) (by kernel_rfl) (fun _ _ _ h => h) (by kernel_rfl) ?yq11 hS0 ?_
  case yq11 =>
    intro w' hw'; (try dsimp only at hw'); obtain ⟨c0, c1, c2, c3, c4, c5, c7, c8⟩ := hw'; go_simp; try with_reducible rfl
  simp only [Act.put, List.setIfInBounds_toArray, List.set_cons_zero, List.set_cons_succ]
  refine takeY 18 (i := 13) (v := ?vq12) rfl rfl (by kernel_rfl) (by kernel_rfl) (by kernel_rfl) (fun _ _ _ h => h) (by kernel_rfl) ?yq12 hS0 ?_
  case yq12 =>
    intro w' hw'; (try dsimp only at hw'); obtain ⟨c0, c1, c2, c3, c4, c5, c7, c8⟩ := hw'; go_simp; try with_reducible rfl
  simp only [Act.put, List.setIfInBounds_toArray, List.set_cons_zero, List.set_cons_succ]
  refine wpAnyH_ready (rs := [4, 14]) (by kernel_rfl) (by simp) ?_
  refine AllReadyH.cons rfl (fun K hK => ?_) (AllReadyH.cons rfl (fun K hK => ?_) AllReadyH.nil)
  · go_simp
    go_at_call 40
    refine (HA.out _ HB0.out).mono ?_
    rintro e w1 ⟨A1, n1, c1, l1, rfl, hN, hd, hs, -, -, hbk⟩
    have N1_1 := Lib.hid hN
    have D1 := Lib.hid hd
    have S1 := Lib.hid hs
    have B_1 := Lib.hid (below_on HB0.out hbk)
    clear hN hd hs hbk
    refine hK.out _ _ (HPC.out _ B_1.out) (fun hS1 => ?_)
    clear hK K
    try simp only [Act.put, List.setIfInBounds_toArray, List.set_cons_zero, List.set_cons_succ]
    refine wpAnyH_ready (rs := [9, 14]) (by kernel_rfl) (by simp) ?_
    refine AllReadyH.cons rfl (fun K hK => ?_) (AllReadyH.cons rfl (fun K hK => ?_) AllReadyH.nil)
    · go_simp
      go_at_call 40
      refine (HB.out _ B_1.out).mono ?_
      rintro e w2 ⟨A2, n2, c2, l2, rfl, hN, hd, hs, -, -, hbk⟩
      have N2_2 := Lib.hid hN
      have D2 := Lib.hid hd
      have S2 := Lib.hid hs
      have B_2 := Lib.hid (below_on B_1.out hbk)
      have N1_2 := Lib.hid (N1_1.out.step hbk)
      clear hN hd hs hbk
      refine hK.out _ _ (HPC.out _ B_2.out) (fun hS2 => ?_)
      clear hK K
      try simp only [Act.put, List.setIfInBounds_toArray, List.set_cons_zero, List.set_cons_succ]
      refine wpAnyH_ready (rs := [14]) (by kernel_rfl) (by simp) ?_
      refine AllReadyH.cons rfl (fun K hK => ?_) AllReadyH.nil
      go_simp
      have hbk : Below w2.heap.size w2 (w2.alloc (.cells #[.int .i64 op, .int .i64 t.kind, .int .i64 t.field, .int .i64 t.value, .slice t.LA t.Ln t.Lc, .slice t.PA t.Pn t.Pc] 57)) := (Below.refl _ _).alloc (Nat.le_refl _) _
      have N3_3 := Lib.hid (oneNode w2 op t HOp.out (HWi.out _ B_2.out))
      have B_3 := Lib.hid (below_on B_2.out hbk)
      have N1_3 := Lib.hid (N1_2.out.step hbk)
      have N2_3 := Lib.hid (N2_2.out.step hbk)
      clear hbk
      refine hK.out _ _ (HPC.out _ B_3.out) (fun hS3 => ?_)
      clear hK K
      try simp only [Act.put, List.setIfInBounds_toArray, List.set_cons_zero, List.set_cons_succ]
      refine wpAnyH_ready (rs := [15]) (by kernel_rfl) (by simp) ?_
      refine AllReadyH.cons rfl (fun K hK => ?_) AllReadyH.nil
      go_simp
      have B_4 : Hid (Below w.heap.size w ((w2.alloc (.cells #[.int .i64 op, .int .i64 t.kind, .int .i64 t.field, .int .i64 t.value, .slice t.LA t.Ln t.Lc, .slice t.PA t.Pn t.Pc] 57)).alloc (.cells #[.slice A1 n1 c1, .slice A2 n2 c2, .slice (some ⟨w2.heap.size, 0, none⟩) 1 1] 24))) := Lib.hid (B_3.out.alloc B_3.out.size _)
      refine hK.out _ _ (HPC.out _ B_4.out) (fun hS4 => ?_)
      clear hK K
      try simp only [Act.put, List.setIfInBounds_toArray, List.set_cons_zero, List.set_cons_succ]
      refine wpAnyH_ready (rs := [16]) (by kernel_rfl) (by simp) ?_
      refine AllReadyH.cons rfl (fun K hK => ?_) AllReadyH.nil
      go_simp
      go_at_call 44
      refine (concatAt (w2.alloc (.cells #[.int .i64 op, .int .i64 t.kind, .int .i64 t.field, .int .i64 t.value, .slice t.LA t.Ln t.Lc, .slice t.PA t.Pn t.Pc] 57)) _ (by simp) A1 A2 _ n1 n2 1 c1 c2 1 l1 l2 [⟨op, t⟩] N1_3.out N2_3.out N3_3.out (by have h1 := congrArg List.length D1.out; have h2 := congrArg List.length D2.out; rw [datN_length, N1_3.out.len] at h1; rw [datN_length, N2_3.out.len] at h2; have h3 := HLn.out; omega)).mono ?_
      rintro e w5 ⟨A, n, c, rfl, hN, hle, hcm, hbk⟩
      have HN := Lib.hid hN
      have HLe := Lib.hid (And.intro hle hcm)
      have B_5 := Lib.hid (below_on B_3.out hbk)
      clear hN hle hcm hbk
      refine hK.out _ _ (HPC.out _ B_5.out) (fun hS5 => ?_)
      clear hK K
      try simp only [Act.put, List.setIfInBounds_toArray, List.set_cons_zero, List.set_cons_succ]
      refine takeY 2 (i := 17) (v := ?vq13) rfl rfl (by kernel_rfl) (by kernel_rfl) (by kernel_rfl) (fun _ _ _ h => h) (by kernel_rfl) ?yq13 hS5 ?_
      case yq13 =>
        intro w' hw'; (try dsimp only at hw'); obtain ⟨c0, c1, c2, c3, c4, c5, c7, c8⟩ := hw'; go_simp; try with_reducible rfl
      simp only [Act.put, List.setIfInBounds_toArray, List.set_cons_zero, List.set_cons_succ]
      refine wpAnyH_done (by kernel_rfl) ?_ _
      clear hS0 hS1 hS2 hS3 hS4 hS5
      go_wp2
      go_ret
      exact ⟨A, n, c, _, rfl, HN.out, by rw [datN_app, datN_app, D1.out, D2.out]; rfl, short_app (short_app S1.out S2.out) (fun y hy => by rw [List.mem_singleton.1 hy]; exact HSh.out), HLe.out.1, HLe.out.2, B_5.out⟩
    · go_simp
      have hbk : Below w1.heap.size w1 (w1.alloc (.cells #[.int .i64 op, .int .i64 t.kind, .int .i64 t.field, .int .i64 t.value, .slice t.LA t.Ln t.Lc, .slice t.PA t.Pn t.Pc] 57)) := (Below.refl _ _).alloc (Nat.le_refl _) _
      have N3_2 := Lib.hid (oneNode w1 op t HOp.out (HWi.out _ B_1.out))
      have B_2 := Lib.hid (below_on B_1.out hbk)
      have N1_2 := Lib.hid (N1_1.out.step hbk)
      clear hbk
      refine hK.out _ _ (HPC.out _ B_2.out) (fun hS2 => ?_)
      clear hK K
      try simp only [Act.put, List.setIfInBounds_toArray, List.set_cons_zero, List.set_cons_succ]
      refine wpAnyH_ready (rs := [9]) (by kernel_rfl) (by simp) ?_
      refine AllReadyH.cons rfl (fun K hK => ?_) AllReadyH.nil
      go_simp
      go_at_call 40
      refine (HB.out _ B_2.out).mono ?_
      rintro e w3 ⟨A2, n2, c2, l2, rfl, hN, hd, hs, -, -, hbk⟩
      have N2_3 := Lib.hid hN
      have D2 := Lib.hid hd
      have S2 := Lib.hid hs
      have B_3 := Lib.hid (below_on B_2.out hbk)
      have N1_3 := Lib.hid (N1_2.out.step hbk)
      have N3_3 := Lib.hid (N3_2.out.step hbk)
      clear hN hd hs hbk
      refine hK.out _ _ (HPC.out _ B_3.out) (fun hS3 => ?_)
      clear hK K
      try simp only [Act.put, List.setIfInBounds_toArray, List.set_cons_zero, List.set_cons_succ]
      refine wpAnyH_ready (rs := [15]) (by kernel_rfl) (by simp) ?_
      refine AllReadyH.cons rfl (fun K hK => ?_) AllReadyH.nil
      go_simp
      have B_4 : Hid (Below w.heap.size w (w3.alloc (.cells #[.slice A1 n1 c1, .slice A2 n2 c2, .slice (some ⟨w1.heap.size, 0, none⟩) 1 1] 24))) := Lib.hid (B_3.out.alloc B_3.out.size _)
      refine hK.out _ _ (HPC.out _ B_4.out) (fun hS4 => ?_)
      clear hK K
      try simp only [Act.put, List.setIfInBounds_toArray, List.set_cons_zero, List.set_cons_succ]
      refine wpAnyH_ready (rs := [16]) (by kernel_rfl) (by simp) ?_
      refine AllReadyH.cons rfl (fun K hK => ?_) AllReadyH.nil
      go_simp
      go_at_call 44
      refine (concatAt w3 _ (by simp) A1 A2 _ n1 n2 1 c1 c2 1 l1 l2 [⟨op, t⟩] N1_3.out N2_3.out N3_3.out (by have h1 := congrArg List.length D1.out; have h2 := congrArg List.length D2.out; rw [datN_length, N1_3.out.len] at h1; rw [datN_length, N2_3.out.len] at h2; have h3 := HLn.out; omega)).mono ?_
      rintro e w5 ⟨A, n, c, rfl, hN, hle, hcm, hbk⟩
      have HN := Lib.hid hN
      have HLe := Lib.hid (And.intro hle hcm)
      have B_5 := Lib.hid (below_on B_3.out hbk)
      clear hN hle hcm hbk
      refine hK.out _ _ (HPC.out _ B_5.out) (fun hS5 => ?_)
      clear hK K
      try simp only [Act.put, List.setIfInBounds_toArray, List.set_cons_zero, List.set_cons_succ]
      refine takeY 2 (i := 17) (v := ?vq14) rfl rfl (by kernel_rfl) (by kernel_rfl) (by kernel_rfl) (fun _ _ _ h => h) (by kernel_rfl) ?yq14 hS5 ?_
      case yq14 =>
        intro w' hw'; (try dsimp only at hw'); obtain ⟨c0, c1, c2, c3, c4, c5, c7, c8⟩ := hw'; go_simp; try with_reducible rfl
      simp only [Act.put, List.setIfInBounds_toArray, List.set_cons_zero, List.set_cons_succ]
      refine wpAnyH_done (by kernel_rfl) ?_ _
      clear hS0 hS1 hS2 hS3 hS4 hS5
      go_wp2
      go_ret
      exact ⟨A, n, c, _, rfl, HN.out, by rw [datN_app, datN_app, D1.out, D2.out]; rfl, short_app (short_app S1.out S2.out) (fun y hy => by rw [List.mem_singleton.1 hy]; exact HSh.out), HLe.out.1, HLe.out.2, B_5.out⟩
  · go_simp
    have hbk : Below (World.drew w).heap.size (World.drew w) ((World.drew w).alloc (.cells #[.int .i64 op, .int .i64 t.kind, .int .i64 t.field, .int .i64 t.value, .slice t.LA t.Ln t.Lc, .slice t.PA t.Pn t.Pc] 57)) := (Below.refl _ _).alloc (Nat.le_refl _) _
    have N3_1 := Lib.hid (oneNode (World.drew w) op t HOp.out (HWi.out _ HB0.out))
    have B_1 := Lib.hid (below_on HB0.out hbk)
    clear hbk
    refine hK.out _ _ (HPC.out _ B_1.out) (fun hS1 => ?_)
    clear hK K
    try simp only [Act.put, List.setIfInBounds_toArray, List.set_cons_zero, List.set_cons_succ]
    refine wpAnyH_ready (rs := [4]) (by kernel_rfl) (by simp) ?_
    refine AllReadyH.cons rfl (fun K hK => ?_) AllReadyH.nil
    go_simp
    go_at_call 40
    refine (HA.out _ B_1.out).mono ?_
    rintro e w2 ⟨A1, n1, c1, l1, rfl, hN, hd, hs, -, -, hbk⟩
    have N1_2 := Lib.hid hN
    have D1 := Lib.hid hd
    have S1 := Lib.hid hs
    have B_2 := Lib.hid (below_on B_1.out hbk)
    have N3_2 := Lib.hid (N3_1.out.step hbk)
    clear hN hd hs hbk
    refine hK.out _ _ (HPC.out _ B_2.out) (fun hS2 => ?_)
    clear hK K
    try simp only [Act.put, List.setIfInBounds_toArray, List.set_cons_zero, List.set_cons_succ]
    refine wpAnyH_ready (rs := [9]) (by kernel_rfl) (by simp) ?_
    refine AllReadyH.cons rfl (fun K hK => ?_) AllReadyH.nil
    go_simp
    go_at_call 40
    refine (HB.out _ B_2.out).mono ?_
    rintro e w3 ⟨A2, n2, c2, l2, rfl, hN, hd, hs, -, -, hbk⟩
    have N2_3 := Lib.hid hN
    have D2 := Lib.hid hd
    have S2 := Lib.hid hs
    have B_3 := Lib.hid (below_on B_2.out hbk)
    have N3_3 := Lib.hid (N3_2.out.step hbk)
    have N1_3 := Lib.hid (N1_2.out.step hbk)
    clear hN hd hs hbk
    refine hK.out _ _ (HPC.out _ B_3.out) (fun hS3 => ?_)
    clear hK K
    try simp only [Act.put, List.setIfInBounds_toArray, List.set_cons_zero, List.set_cons_succ]
    refine wpAnyH_ready (rs := [15]) (by kernel_rfl) (by simp) ?_
    refine AllReadyH.cons rfl (fun K hK => ?_) AllReadyH.nil
    go_simp
    have B_4 : Hid (Below w.heap.size w (w3.alloc (.cells #[.slice A1 n1 c1, .slice A2 n2 c2, .slice (some ⟨(World.drew w).heap.size, 0, none⟩) 1 1] 24))) := Lib.hid (B_3.out.alloc B_3.out.size _)
    refine hK.out _ _ (HPC.out _ B_4.out) (fun hS4 => ?_)
    clear hK K
    try simp only [Act.put, List.setIfInBounds_toArray, List.set_cons_zero, List.set_cons_succ]
    refine wpAnyH_ready (rs := [16]) (by kernel_rfl) (by simp) ?_
    refine AllReadyH.cons rfl (fun K hK => ?_) AllReadyH.nil
    go_simp
    go_at_call 44
    refine (concatAt w3 _ (by simp) A1 A2 _ n1 n2 1 c1 c2 1 l1 l2 [⟨op, t⟩] N1_3.out N2_3.out N3_3.out (by have h1 := congrArg List.length D1.out; have h2 := congrArg List.length D2.out; rw [datN_length, N1_3.out.len] at h1; rw [datN_length, N2_3.out.len] at h2; have h3 := HLn.out; omega)).mono ?_
    rintro e w5 ⟨A, n, c, rfl, hN, hle, hcm, hbk⟩
    have HN := Lib.hid hN
    have HLe := Lib.hid (And.intro hle hcm)
    have B_5 := Lib.hid (below_on B_3.out hbk)
    clear hN hle hcm hbk
    refine hK.out _ _ (HPC.out _ B_5.out) (fun hS5 => ?_)
    clear hK K
    try simp only [Act.put, List.setIfInBounds_toArray, List.set_cons_zero, List.set_cons_succ]
    refine takeY 2 (i := 17) (v := ?vq15) rfl rfl (by kernel_rfl) (by kernel_rfl) (by kernel_rfl) (fun _ _ _ h => h) (by kernel_rfl) ?yq15 hS5 ?_
    case yq15 =>
      intro w' hw'; (try dsimp only at hw'); obtain ⟨c0, c1, c2, c3, c4, c5, c7, c8⟩ := hw'; go_simp; try with_reducible rfl
    simp only [Act.put, List.setIfInBounds_toArray, List.set_cons_zero, List.set_cons_succ]
    refine wpAnyH_done (by kernel_rfl) ?_ _
    clear hS0 hS1 hS2 hS3 hS4 hS5
    go_wp2
    go_ret
    exact ⟨A, n, c, _, rfl, HN.out, by rw [datN_app, datN_app, D1.out, D2.out]; rfl, short_app (short_app S1.out S2.out) (fun y hy => by rw [List.mem_singleton.1 hy]; exact HSh.out), HLe.out.1, HLe.out.2, B_5.out⟩
/-- The nodes of a tree. -/
theorem iNodes (B lo : Nat) : ∀ (t : Tr) (p : Nat) (w : World), PartAt w B lo t p → B ≤ w.heap.size → (flatT t).length ≤ 1000 → Calls Tryz.prog 40 #[.pointer (some ⟨p, 0, none⟩)] w (NodesOut (flatT t) w)
  | .base d, p, w, ⟨_, _, t, v, hrow, hd, hs, hw, _, _⟩, hB, hl => by
    have h := nodesAt w B p 0 t v _ _ [] [] hrow (by decide) hw hB hs (by decide) (fun W _ => nodes_none W) (fun W _ => nodes_none W)
    rw [hd] at h
    exact h
  | .dual a, p, w, ⟨_, _, t, q, hrow, hno, hs, hw, ha⟩, hB, hl => by
    have hla : (flatT a).length ≤ 999 := by rw [flatT, List.length_append, List.length_singleton] at hl; omega
    have h := nodesAt w B p 3 t _ _ _ (flatT a) [] hrow (by decide) hw hB hs (by rw [List.length_nil]; omega) (fun W hW => iNodes B lo a q W (ha.below hB hW) (Nat.le_trans hB hW.size) (by omega)) (fun W _ => nodes_none W)
    rw [noW_eq hno, List.append_nil] at h
    exact h
  | .bin op a b, p, w, ⟨_, _, hop, t, q, r, hrow, hno, hs, hw, ha, hb⟩, hB, hl => by
    have hla : (flatT a).length + (flatT b).length ≤ 999 := by rw [flatT, List.length_append, List.length_append, List.length_singleton] at hl; omega
    have h := nodesAt w B p op t _ _ _ (flatT a) (flatT b) hrow (by rcases hop with rfl | rfl | rfl <;> decide) hw hB hs (by omega) (fun W hW => iNodes B lo a q W (ha.below hB hW) (Nat.le_trans hB hW.size) (by omega)) (fun W hW => iNodes B lo b r W (hb.below hB hW) (Nat.le_trans hB hW.size) (by omega))
    rw [noW_eq hno] at h
    exact h
end Go.Proofs.YtaijajajpnekbaaGreat.num
namespace Go.Proofs.YtaijajajpnekbaaGreat.num
set_option maxRecDepth 20000
open Go.RowKit Go.Maps
set_option linter.unusedVariables false
set_option linter.unusedSimpArgs false

/-- What partAt hands back of the slice (A, cap c) that holds nds. -/
def PartV (w : World) (B lo : Nat) (nds : List ND) (pos : Int) (A : Option Addr) (c : Nat) (v sl : Value) : Prop :=
  (∃ (k i : Nat) (s : Tr) (p : Nat), pos = (k : Nat) ∧ At nds k i s ∧ v = .pointer (some ⟨p, 0, none⟩) ∧ sl = .slice A i c ∧ PartAt w B lo s p) ∨ (¬ (IsE nds ∧ 0 ≤ pos ∧ pos < nds.length) ∧ v = .pointer none ∧ sl = .slice none 0 0)
set_option maxRecDepth 20000 in
set_option maxHeartbeats 1600000 in
theorem iPartAt (w : World) (B : Nat) (A : Option Addr) (n c : Nat) (ns : List Nd) (pos : Int) (hi : Nodes w B A n ns) (hB : B ≤ w.heap.size) (hnc : n ≤ c) (hc : c ≤ 9223372036854775807) (hN : ShortN ns) :
    Calls Tryz.prog 39 #[.slice A n c, .int .i64 pos] w fun e w' => (∃ v sl, e = .returned (.tuple #[v, sl]) ∧ PartV w' B w.heap.size (datN ns) pos A c v sl) ∧ Below w.heap.size w w' := by
  have hlen : (datN ns).length = n := by rw [datN_length, hi.len]
  by_cases h0 : pos < 0
  · have HP : Hid (∀ w', PartV w' B w.heap.size (datN ns) pos A c (.pointer none) (.slice none 0 0)) := Lib.hid fun w' => .inr ⟨fun h => by omega, rfl, rfl⟩
    clear hi hN hlen
    go_enter Tryz.func39, Tryz.ntmps39
    go_wp2
    go_ret2
    exact ⟨⟨_, _, rfl, HP.out _⟩, Below.refl _ _⟩
  by_cases hn : (n : Int) ≤ pos
  · have HP : Hid (∀ w', PartV w' B w.heap.size (datN ns) pos A c (.pointer none) (.slice none 0 0)) := Lib.hid fun w' => .inr ⟨fun h => by omega, rfl, rfl⟩
    clear hi hN hlen
    go_enter Tryz.func39, Tryz.ntmps39
    go_wp2
    go_ret2
    exact ⟨⟨_, _, rfl, HP.out _⟩, Below.refl _ _⟩
  obtain ⟨k, rfl⟩ : ∃ k : Nat, pos = (k : Int) := ⟨pos.toNat, by omega⟩
  have hkn : k < n := by omega
  obtain ⟨q, hq⟩ := bool_of (IsE (datN ns))
  have HC : Hid (∀ w1, Below w.heap.size w w1 → Calls Tryz.prog 10 #[.slice A n c] w1 fun e w' => e = .returned (.bool q) ∧ Below w1.heap.size w1 w') := Lib.hid fun w1 h => iIsEW w1 B A n c ns (hi.below (h.mono hB)) (Nat.le_trans hB h.size) hnc hc hN q hq
  have HL : Hid (∀ w1, Below w.heap.size w w1 → Calls Tryz.prog 55 #[.slice A (k + 1) c] w1 fun e w' => LastOut B w1.heap.size (datN (ns.take (k + 1))) A c e w' ∧ Below w1.heap.size w1 w') := Lib.hid fun w1 h => iLast B A c hc (k + 1) w1 (ns.take (k + 1)) ((hi.take (by omega)).below (h.mono hB)) (Nat.le_trans hB h.size) (by omega) fun x hx => hN x (List.mem_of_mem_take hx)
  have HQ := Lib.hid hq
  have HLen := Lib.hid hlen
  obtain ⟨b, off, x0, hA, _⟩ := hi.at k hkn
  subst hA
  have hk1 : ¬ ((k : Int) < 0) := by omega
  have hk2 : ¬ ((n : Int) ≤ (k : Int)) := by omega
  have hw : IntKind.i64.wrap ((k : Int) + 1) = (k : Int) + 1 := IntWalk.i64_in _ ⟨by omega, by omega⟩
  have hs1 : (k : Int) + 1 ≤ (c : Int) := by omega
  have hs0 : (0 : Int) ≤ (k : Int) + 1 := by omega
  clear hi hN hq hlen h0 hn
  go_enter Tryz.func39, Tryz.ntmps39
  go_wp2_with fail
  refine (HC.out _ (Below.refl _ _)).mono ?_
  rintro e w1 ⟨rfl, hb1⟩
  have HB1 := Lib.hid hb1
  clear hb1
  cases q
  · have HP : Hid (∀ w', PartV w' B w.heap.size (datN ns) (k : Int) (some ⟨b, off, none⟩) c (.pointer none) (.slice none 0 0)) := Lib.hid fun w' => .inr ⟨fun h => (by have := HQ.out.2 h.1; cases this), rfl, rfl⟩
    go_wp2
    go_ret2
    exact ⟨⟨_, _, rfl, HP.out _⟩, HB1.out⟩
  go_wp2_with fail
  refine (HL.out _ HB1.out).mono ?_
  rintro e w2 ⟨hout, hb2⟩
  have HB2 := Lib.hid (below_on HB1.out hb2)
  rcases hout with ⟨t, i, p, hl, rfl, hpa⟩ | ⟨hl, rfl⟩
  · have HP : Hid (PartV w2 B w.heap.size (datN ns) (k : Int) (some ⟨b, off, none⟩) c (.pointer (some ⟨p, 0, none⟩)) (.slice (some ⟨b, off, none⟩) i c)) := Lib.hid (.inl ⟨k, i, t, p, rfl, ⟨HQ.out.1 (by first | rfl | trivial), by rw [HLen.out]; exact hkn, by have h : Post ((datN (ns.take (k + 1))).drop i) t := hl; rwa [datN_take] at h⟩, rfl, rfl, hpa.low HB1.out.size⟩)
    clear hl hpa hb2
    go_wp2
    go_ret2
    exact ⟨⟨_, _, rfl, HP.out⟩, HB2.out⟩
  · exfalso
    obtain ⟨i, s, ha⟩ := At.ex (HQ.out.1 (by first | rfl | trivial)) (show k < (datN ns).length by rw [HLen.out]; exact hkn)
    refine hl i s ?_
    rw [datN_take]
    exact ha.p

/-- A node with other operands: a new part. -/
theorem iWith (w : World) (p : Nat) (op : Int) (t : Wi) (v6 v7 v8 : Value) (u7 u8 : Option Addr) (hrow : w.heap[p]? = some (partRow op t v6 v7 v8)) :
    Calls Tryz.prog 64 #[.pointer (some ⟨p, 0, none⟩), .pointer u7, .pointer u8] w fun e w' => ∃ g, e = .returned (.pointer (some ⟨g, 0, none⟩)) ∧ w.heap.size ≤ g ∧ g < w'.heap.size ∧ w'.heap[g]? = some (partRow op t .nilIface (.pointer u7) (.pointer u8)) ∧ Below w.heap.size w w' := by
  have c0 := (PCells.of_row hrow).c0
  have c1 := (PCells.of_row hrow).c1
  have c2 := (PCells.of_row hrow).c2
  have c3 := (PCells.of_row hrow).c3
  have c4 := (PCells.of_row hrow).c4
  have c5 := (PCells.of_row hrow).c5
  have HR : Hid ((w.alloc (partRow op t .nilIface (.pointer u7) (.pointer u8))).heap[w.heap.size]? = some (partRow op t .nilIface (.pointer u7) (.pointer u8))) := Lib.hid (heap_alloc_new w _)
  have HBb : Hid (Below w.heap.size w (w.alloc (partRow op t .nilIface (.pointer u7) (.pointer u8)))) := Lib.hid ((Below.refl _ w).alloc (Nat.le_refl _) _)
  clear hrow
  go_enter Tryz.func64, Tryz.ntmps64
  go_wp2
  go_ret
  exact ⟨w.heap.size, rfl, Nat.le_refl _, by simp, HR.out, HBb.out⟩

/-- What rewrite hands back. -/
def RewV (w : World) (B lo : Nat) (rule : Int) (s : Tr) (v : Value) : Prop :=
  (∃ s' p, RuleT rule s s' ∧ v = .pointer (some ⟨p, 0, none⟩) ∧ PartAt w B lo s' p) ∨ ((∀ s', ¬ RuleT rule s s') ∧ v = .pointer none)
set_option maxRecDepth 20000 in
set_option maxHeartbeats 3200000 in
theorem rew_base (w : World) (B lo p : Nat) (rule : Int) (d : WD) (hpa : PartAt w B lo (.base d) p) (hB : B ≤ w.heap.size) (hlo : lo ≤ w.heap.size) :
    Calls Tryz.prog 43 #[.pointer (some ⟨p, 0, none⟩), .int .i64 rule] w fun e w' => (∃ v, e = .returned v ∧ RewV w' B lo rule (.base d) v) ∧ Below w.heap.size w w' := by
  obtain ⟨_, hpl, t, v, hrow, -, -, -, -, -⟩ := hpa
  have c0 := part0 hrow
  have c8 := part8 hrow
  clear hrow
  have HB0 : Hid (Below w.heap.size w (World.drew w)) := Lib.hid (Below.refl _ _).drew
  by_cases r1 : rule = 1
  · subst r1
    have HNo : Hid (∀ s', ¬ RuleT 1 (.base d) s') := Lib.hid (fun s' h => by cases h)
    go_enter Tryz.func43, Tryz.ntmps43
    go_wp2
    have hS0 : (fun w' => w'.cell? ⟨p, 8, none⟩ = some (.pointer none)) (World.drew w) := (HB0.out.cell (p := ⟨p, 8, none⟩) hpl).trans c8
    refine wp_region_held (S := fun w' => w'.cell? ⟨p, 8, none⟩ = some (.pointer none)) (by kernel_rfl) ?_
    change wpAnyH _ _ _ _ _ _ _ _ (World.drew _)
    refine takeY 75 (i := 0) (v := ?v0a) rfl rfl (by kernel_rfl) (by kernel_rfl) (by kernel_rfl) (fun _ _ _ h => h) (by kernel_rfl) ?y0a hS0 ?_
    case y0a =>
      intro w' hw'; (try dsimp only at hw'); obtain e8 := hw'; go_simp; try with_reducible rfl
    simp only [Act.put, List.setIfInBounds_toArray, List.set_cons_zero, List.set_cons_succ]
    refine takeY 76 (i := 1) (v := ?v1a) rfl rfl (by kernel_rfl) (by kernel_rfl) (by kernel_rfl) (fun _ _ _ h => h) (by kernel_rfl) ?y1a hS0 ?_
    case y1a =>
      intro w' hw'; (try dsimp only at hw'); obtain e8 := hw'; go_simp; try with_reducible rfl
    simp only [Act.put, List.setIfInBounds_toArray, List.set_cons_zero, List.set_cons_succ]
    refine takeY 77 (i := 2) (v := ?v2a) rfl rfl (by kernel_rfl) (by kernel_rfl) (by kernel_rfl) (fun _ _ _ h => h) (by kernel_rfl) ?y2a hS0 ?_
    case y2a =>
      intro w' hw'; (try dsimp only at hw'); obtain e8 := hw'; go_simp; try with_reducible rfl
    simp only [Act.put, List.setIfInBounds_toArray, List.set_cons_zero, List.set_cons_succ]
    refine takeU 78 (i := 3) rfl rfl (by kernel_rfl) (by kernel_rfl) (by kernel_rfl) (fun _ _ _ h => h) (by kernel_rfl) hS0 ?_
    simp only [Act.put, List.setIfInBounds_toArray, List.set_cons_zero, List.set_cons_succ]
    refine takeU 79 (i := 4) rfl rfl (by kernel_rfl) (by kernel_rfl) (by kernel_rfl) (fun _ _ _ h => h) (by kernel_rfl) hS0 ?_
    simp only [Act.put, List.setIfInBounds_toArray, List.set_cons_zero, List.set_cons_succ]
    refine takeU 80 (i := 5) rfl rfl (by kernel_rfl) (by kernel_rfl) (by kernel_rfl) (fun _ _ _ h => h) (by kernel_rfl) hS0 ?_
    simp only [Act.put, List.setIfInBounds_toArray, List.set_cons_zero, List.set_cons_succ]
    refine takeU 81 (i := 6) rfl rfl (by kernel_rfl) (by kernel_rfl) (by kernel_rfl) (fun _ _ _ h => h) (by kernel_rfl) hS0 ?_
    simp only [Act.put, List.setIfInBounds_toArray, List.set_cons_zero, List.set_cons_succ]
    refine takeU 82 (i := 7) rfl rfl (by kernel_rfl) (by kernel_rfl) (by kernel_rfl) (fun _ _ _ h => h) (by kernel_rfl) hS0 ?_
    simp only [Act.put, List.setIfInBounds_toArray, List.set_cons_zero, List.set_cons_succ]
    refine takeY 83 (i := 8) (v := ?v8a) rfl rfl (by kernel_rfl) (by kernel_rfl) (by kernel_rfl) (fun _ _ _ h => h) (by kernel_rfl) ?y8a hS0 ?_
    case y8a =>
      intro w' hw'; (try dsimp only at hw'); obtain e8 := hw'; go_simp; try with_reducible rfl
    simp only [Act.put, List.setIfInBounds_toArray, List.set_cons_zero, List.set_cons_succ]
    refine takeY 84 (i := 9) (v := ?v9a) rfl rfl (by kernel_rfl) (by kernel_rfl) (by kernel_rfl) (fun _ _ _ h => h) (by kernel_rfl) ?y9a hS0 ?_
    case y9a =>
      intro w' hw'; (try dsimp only at hw'); obtain e8 := hw'; go_simp; try with_reducible rfl
    simp only [Act.put, List.setIfInBounds_toArray, List.set_cons_zero, List.set_cons_succ]
    refine takeU 85 (i := 10) rfl rfl (by kernel_rfl) (by kernel_rfl) (by kernel_rfl) (fun _ _ _ h => h) (by kernel_rfl) hS0 ?_
    simp only [Act.put, List.setIfInBounds_toArray, List.set_cons_zero, List.set_cons_succ]
    refine takeU 86 (i := 11) rfl rfl (by kernel_rfl) (by kernel_rfl) (by kernel_rfl) (fun _ _ _ h => h) (by kernel_rfl) hS0 ?_
    simp only [Act.put, List.setIfInBounds_toArray, List.set_cons_zero, List.set_cons_succ]
    refine takeU 87 (i := 12) rfl rfl (by kernel_rfl) (by kernel_rfl) (by kernel_rfl) (fun _ _ _ h => h) (by kernel_rfl) hS0 ?_
    simp only [Act.put, List.setIfInBounds_toArray, List.set_cons_zero, List.set_cons_succ]
    refine takeU 88 (i := 13) rfl rfl (by kernel_rfl) (by kernel_rfl) (by kernel_rfl) (fun _ _ _ h => h) (by kernel_rfl) hS0 ?_
    simp only [Act.put, List.setIfInBounds_toArray, List.set_cons_zero, List.set_cons_succ]
    refine takeU 89 (i := 14) rfl rfl (by kernel_rfl) (by kernel_rfl) (by kernel_rfl) (fun _ _ _ h => h) (by kernel_rfl) hS0 ?_
    simp only [Act.put, List.setIfInBounds_toArray, List.set_cons_zero, List.set_cons_succ]
    refine takeU 90 (i := 15) rfl rfl (by kernel_rfl) (by kernel_rfl) (by kernel_rfl) (fun _ _ _ h => h) (by kernel_rfl) hS0 ?_
    simp only [Act.put, List.setIfInBounds_toArray, List.set_cons_zero, List.set_cons_succ]
    refine takeU 91 (i := 16) rfl rfl (by kernel_rfl) (by kernel_rfl) (by kernel_rfl) (fun _ _ _ h => h) (by kernel_rfl) hS0 ?_
    simp only [Act.put, List.setIfInBounds_toArray, List.set_cons_zero, List.set_cons_succ]
    refine takeU 92 (i := 17) rfl rfl (by kernel_rfl) (by kernel_rfl) (by kernel_rfl) (fun _ _ _ h => h) (by kernel_rfl) hS0 ?_
    simp only [Act.put, List.setIfInBounds_toArray, List.set_cons_zero, List.set_cons_succ]
    refine takeU 93 (i := 18) rfl rfl (by kernel_rfl) (by kernel_rfl) (by kernel_rfl) (fun _ _ _ h => h) (by kernel_rfl) hS0 ?_
    simp only [Act.put, List.setIfInBounds_toArray, List.set_cons_zero, List.set_cons_succ]
    refine takeU 94 (i := 19) rfl rfl (by kernel_rfl) (by kernel_rfl) (by kernel_rfl) (fun _ _ _ h => h) (by kernel_rfl) hS0 ?_
    simp only [Act.put, List.setIfInBounds_toArray, List.set_cons_zero, List.set_cons_succ]
    refine takeU 95 (i := 20) rfl rfl (by kernel_rfl) (by kernel_rfl) (by kernel_rfl) (fun _ _ _ h => h) (by kernel_rfl) hS0 ?_
    simp only [Act.put, List.setIfInBounds_toArray, List.set_cons_zero, List.set_cons_succ]
    refine takeY 96 (i := 21) (v := ?v21a) rfl rfl (by kernel_rfl) (by kernel_rfl) (by kernel_rfl) (fun _ _ _ h => h) (by kernel_rfl) ?y21a hS0 ?_
    case y21a =>
      intro w' hw'; (try dsimp only at hw'); obtain e8 := hw'; go_simp; try with_reducible rfl
    simp only [Act.put, List.setIfInBounds_toArray, List.set_cons_zero, List.set_cons_succ]
    refine takeY 74 (i := 22) (v := ?v22a) rfl rfl (by kernel_rfl) (by kernel_rfl) (by kernel_rfl) (fun _ _ _ h => h) (by kernel_rfl) ?y22a hS0 ?_
    case y22a =>
      intro w' hw'; (try dsimp only at hw'); obtain e8 := hw'; go_simp; try with_reducible rfl
    simp only [Act.put, List.setIfInBounds_toArray, List.set_cons_zero, List.set_cons_succ]
    refine wpAnyH_done (by kernel_rfl) ?_ _
    clear hS0
    generalize hw1 : World.drew w = w1 at *
    clear hw1
    replace c0 := (HB0.out.cell (p := ⟨p, 0, none⟩) hpl).trans c0
    replace c8 := (HB0.out.cell (p := ⟨p, 8, none⟩) hpl).trans c8
    go_wp2
    go_ret
    exact ⟨⟨_, rfl, .inr ⟨HNo.out, rfl⟩⟩, HB0.out⟩
  have f1 : (rule == 1) = false := by simpa using r1
  by_cases r2 : rule = 2
  · subst r2
    clear r1 f1
    have HNo : Hid (∀ s', ¬ RuleT 2 (.base d) s') := Lib.hid (fun s' h => by cases h)
    go_enter Tryz.func43, Tryz.ntmps43
    go_wp2
    have hS0 : (fun w' => w'.cell? ⟨p, 8, none⟩ = some (.pointer none)) (World.drew w) := (HB0.out.cell (p := ⟨p, 8, none⟩) hpl).trans c8
    refine wp_region_held (S := fun w' => w'.cell? ⟨p, 8, none⟩ = some (.pointer none)) (by kernel_rfl) ?_
    change wpAnyH _ _ _ _ _ _ _ _ (World.drew _)
    refine takeY 75 (i := 0) (v := ?v0b) rfl rfl (by kernel_rfl) (by kernel_rfl) (by kernel_rfl) (fun _ _ _ h => h) (by kernel_rfl) ?y0b hS0 ?_
    case y0b =>
      intro w' hw'; (try dsimp only at hw'); obtain e8 := hw'; go_simp; try with_reducible rfl
    simp only [Act.put, List.setIfInBounds_toArray, List.set_cons_zero, List.set_cons_succ]
    refine takeY 76 (i := 1) (v := ?v1b) rfl rfl (by kernel_rfl) (by kernel_rfl) (by kernel_rfl) (fun _ _ _ h => h) (by kernel_rfl) ?y1b hS0 ?_
    case y1b =>
      intro w' hw'; (try dsimp only at hw'); obtain e8 := hw'; go_simp; try with_reducible rfl
    simp only [Act.put, List.setIfInBounds_toArray, List.set_cons_zero, List.set_cons_succ]
    refine takeY 77 (i := 2) (v := ?v2b) rfl rfl (by kernel_rfl) (by kernel_rfl) (by kernel_rfl) (fun _ _ _ h => h) (by kernel_rfl) ?y2b hS0 ?_
    case y2b =>
      intro w' hw'; (try dsimp only at hw'); obtain e8 := hw'; go_simp; try with_reducible rfl
    simp only [Act.put, List.setIfInBounds_toArray, List.set_cons_zero, List.set_cons_succ]
    refine takeU 78 (i := 3) rfl rfl (by kernel_rfl) (by kernel_rfl) (by kernel_rfl) (fun _ _ _ h => h) (by kernel_rfl) hS0 ?_
    simp only [Act.put, List.setIfInBounds_toArray, List.set_cons_zero, List.set_cons_succ]
    refine takeU 79 (i := 4) rfl rfl (by kernel_rfl) (by kernel_rfl) (by kernel_rfl) (fun _ _ _ h => h) (by kernel_rfl) hS0 ?_
    simp only [Act.put, List.setIfInBounds_toArray, List.set_cons_zero, List.set_cons_succ]
    refine takeU 80 (i := 5) rfl rfl (by kernel_rfl) (by kernel_rfl) (by kernel_rfl) (fun _ _ _ h => h) (by kernel_rfl) hS0 ?_
    simp only [Act.put, List.setIfInBounds_toArray, List.set_cons_zero, List.set_cons_succ]
    refine takeU 81 (i := 6) rfl rfl (by kernel_rfl) (by kernel_rfl) (by kernel_rfl) (fun _ _ _ h => h) (by kernel_rfl) hS0 ?_
    simp only [Act.put, List.setIfInBounds_toArray, List.set_cons_zero, List.set_cons_succ]
    refine takeU 82 (i := 7) rfl rfl (by kernel_rfl) (by kernel_rfl) (by kernel_rfl) (fun _ _ _ h => h) (by kernel_rfl) hS0 ?_
    simp only [Act.put, List.setIfInBounds_toArray, List.set_cons_zero, List.set_cons_succ]
    refine takeY 83 (i := 8) (v := ?v8b) rfl rfl (by kernel_rfl) (by kernel_rfl) (by kernel_rfl) (fun _ _ _ h => h) (by kernel_rfl) ?y8b hS0 ?_
    case y8b =>
      intro w' hw'; (try dsimp only at hw'); obtain e8 := hw'; go_simp; try with_reducible rfl
    simp only [Act.put, List.setIfInBounds_toArray, List.set_cons_zero, List.set_cons_succ]
    refine takeY 84 (i := 9) (v := ?v9b) rfl rfl (by kernel_rfl) (by kernel_rfl) (by kernel_rfl) (fun _ _ _ h => h) (by kernel_rfl) ?y9b hS0 ?_
    case y9b =>
      intro w' hw'; (try dsimp only at hw'); obtain e8 := hw'; go_simp; try with_reducible rfl
    simp only [Act.put, List.setIfInBounds_toArray, List.set_cons_zero, List.set_cons_succ]
    refine takeU 85 (i := 10) rfl rfl (by kernel_rfl) (by kernel_rfl) (by kernel_rfl) (fun _ _ _ h => h) (by kernel_rfl) hS0 ?_
    simp only [Act.put, List.setIfInBounds_toArray, List.set_cons_zero, List.set_cons_succ]
    refine takeU 86 (i := 11) rfl rfl (by kernel_rfl) (by kernel_rfl) (by kernel_rfl) (fun _ _ _ h => h) (by kernel_rfl) hS0 ?_
    simp only [Act.put, List.setIfInBounds_toArray, List.set_cons_zero, List.set_cons_succ]
    refine takeU 87 (i := 12) rfl rfl (by kernel_rfl) (by kernel_rfl) (by kernel_rfl) (fun _ _ _ h => h) (by kernel_rfl) hS0 ?_
    simp only [Act.put, List.setIfInBounds_toArray, List.set_cons_zero, List.set_cons_succ]
    refine takeU 88 (i := 13) rfl rfl (by kernel_rfl) (by kernel_rfl) (by kernel_rfl) (fun _ _ _ h => h) (by kernel_rfl) hS0 ?_
    simp only [Act.put, List.setIfInBounds_toArray, List.set_cons_zero, List.set_cons_succ]
    refine takeU 89 (i := 14) rfl rfl (by kernel_rfl) (by kernel_rfl) (by kernel_rfl) (fun _ _ _ h => h) (by kernel_rfl) hS0 ?_
    simp only [Act.put, List.setIfInBounds_toArray, List.set_cons_zero, List.set_cons_succ]
    refine takeU 90 (i := 15) rfl rfl (by kernel_rfl) (by kernel_rfl) (by kernel_rfl) (fun _ _ _ h => h) (by kernel_rfl) hS0 ?_
    simp only [Act.put, List.setIfInBounds_toArray, List.set_cons_zero, List.set_cons_succ]
    refine takeU 91 (i := 16) rfl rfl (by kernel_rfl) (by kernel_rfl) (by kernel_rfl) (fun _ _ _ h => h) (by kernel_rfl) hS0 ?_
    simp only [Act.put, List.setIfInBounds_toArray, List.set_cons_zero, List.set_cons_succ]
    refine takeU 92 (i := 17) rfl rfl (by kernel_rfl) (by kernel_rfl) (by kernel_rfl) (fun _ _ _ h => h) (by kernel_rfl) hS0 ?_
    simp only [Act.put, List.setIfInBounds_toArray, List.set_cons_zero, List.set_cons_succ]
    refine takeU 93 (i := 18) rfl rfl (by kernel_rfl) (by kernel_rfl) (by kernel_rfl) (fun _ _ _ h => h) (by kernel_rfl) hS0 ?_
    simp only [Act.put, List.setIfInBounds_toArray, List.set_cons_zero, List.set_cons_succ]
    refine takeU 94 (i := 19) rfl rfl (by kernel_rfl) (by kernel_rfl) (by kernel_rfl) (fun _ _ _ h => h) (by kernel_rfl) hS0 ?_
    simp only [Act.put, List.setIfInBounds_toArray, List.set_cons_zero, List.set_cons_succ]
    refine takeU 95 (i := 20) rfl rfl (by kernel_rfl) (by kernel_rfl) (by kernel_rfl) (fun _ _ _ h => h) (by kernel_rfl) hS0 ?_
    simp only [Act.put, List.setIfInBounds_toArray, List.set_cons_zero, List.set_cons_succ]
    refine takeY 96 (i := 21) (v := ?v21b) rfl rfl (by kernel_rfl) (by kernel_rfl) (by kernel_rfl) (fun _ _ _ h => h) (by kernel_rfl) ?y21b hS0 ?_
    case y21b =>
      intro w' hw'; (try dsimp only at hw'); obtain e8 := hw'; go_simp; try with_reducible rfl
    simp only [Act.put, List.setIfInBounds_toArray, List.set_cons_zero, List.set_cons_succ]
    refine takeY 74 (i := 22) (v := ?v22b) rfl rfl (by kernel_rfl) (by kernel_rfl) (by kernel_rfl) (fun _ _ _ h => h) (by kernel_rfl) ?y22b hS0 ?_
    case y22b =>
      intro w' hw'; (try dsimp only at hw'); obtain e8 := hw'; go_simp; try with_reducible rfl
    simp only [Act.put, List.setIfInBounds_toArray, List.set_cons_zero, List.set_cons_succ]
    refine wpAnyH_done (by kernel_rfl) ?_ _
    clear hS0
    generalize hw1 : World.drew w = w1 at *
    clear hw1
    replace c0 := (HB0.out.cell (p := ⟨p, 0, none⟩) hpl).trans c0
    replace c8 := (HB0.out.cell (p := ⟨p, 8, none⟩) hpl).trans c8
    go_wp2
    go_ret
    exact ⟨⟨_, rfl, .inr ⟨HNo.out, rfl⟩⟩, HB0.out⟩
  have f2 : (rule == 2) = false := by simpa using r2
  by_cases r3 : rule = 3
  · subst r3
    clear r1 f1 r2 f2
    have HNo : Hid (∀ s', ¬ RuleT 3 (.base d) s') := Lib.hid (fun s' h => by cases h)
    go_enter Tryz.func43, Tryz.ntmps43
    go_wp2
    have hS0 : (fun w' => w'.cell? ⟨p, 8, none⟩ = some (.pointer none)) (World.drew w) := (HB0.out.cell (p := ⟨p, 8, none⟩) hpl).trans c8
    refine wp_region_held (S := fun w' => w'.cell? ⟨p, 8, none⟩ = some (.pointer none)) (by kernel_rfl) ?_
    change wpAnyH _ _ _ _ _ _ _ _ (World.drew _)
    refine takeY 75 (i := 0) (v := ?v0c) rfl rfl (by kernel_rfl) (by kernel_rfl) (by kernel_rfl) (fun _ _ _ h => h) (by kernel_rfl) ?y0c hS0 ?_
    case y0c =>
      intro w' hw'; (try dsimp only at hw'); obtain e8 := hw'; go_simp; try with_reducible rfl
    simp only [Act.put, List.setIfInBounds_toArray, List.set_cons_zero, List.set_cons_succ]
    refine takeY 76 (i := 1) (v := ?v1c) rfl rfl (by kernel_rfl) (by kernel_rfl) (by kernel_rfl) (fun _ _ _ h => h) (by kernel_rfl) ?y1c hS0 ?_
    case y1c =>
      intro w' hw'; (try dsimp only at hw'); obtain e8 := hw'; go_simp; try with_reducible rfl
    simp only [Act.put, List.setIfInBounds_toArray, List.set_cons_zero, List.set_cons_succ]
    refine takeY 77 (i := 2) (v := ?v2c) rfl rfl (by kernel_rfl) (by kernel_rfl) (by kernel_rfl) (fun _ _ _ h => h) (by kernel_rfl) ?y2c hS0 ?_
    case y2c =>
      intro w' hw'; (try dsimp only at hw'); obtain e8 := hw'; go_simp; try with_reducible rfl
    simp only [Act.put, List.setIfInBounds_toArray, List.set_cons_zero, List.set_cons_succ]
    refine takeY 78 (i := 3) (v := ?v3c) rfl rfl (by kernel_rfl) (by kernel_rfl) (by kernel_rfl) (fun _ _ _ h => h) (by kernel_rfl) ?y3c hS0 ?_
    case y3c =>
      intro w' hw'; (try dsimp only at hw'); obtain e8 := hw'; go_simp; try with_reducible rfl
    simp only [Act.put, List.setIfInBounds_toArray, List.set_cons_zero, List.set_cons_succ]
    refine takeY 79 (i := 4) (v := ?v4c) rfl rfl (by kernel_rfl) (by kernel_rfl) (by kernel_rfl) (fun _ _ _ h => h) (by kernel_rfl) ?y4c hS0 ?_
    case y4c =>
      intro w' hw'; (try dsimp only at hw'); obtain e8 := hw'; go_simp; try with_reducible rfl
    simp only [Act.put, List.setIfInBounds_toArray, List.set_cons_zero, List.set_cons_succ]
    refine takeY 80 (i := 5) (v := ?v5c) rfl rfl (by kernel_rfl) (by kernel_rfl) (by kernel_rfl) (fun _ _ _ h => h) (by kernel_rfl) ?y5c hS0 ?_
    case y5c =>
      intro w' hw'; (try dsimp only at hw'); obtain e8 := hw'; go_simp; try with_reducible rfl
    simp only [Act.put, List.setIfInBounds_toArray, List.set_cons_zero, List.set_cons_succ]
    refine takeY 81 (i := 6) (v := ?v6c) rfl rfl (by kernel_rfl) (by kernel_rfl) (by kernel_rfl) (fun _ _ _ h => h) (by kernel_rfl) ?y6c hS0 ?_
    case y6c =>
      intro w' hw'; (try dsimp only at hw'); obtain e8 := hw'; go_simp; try with_reducible rfl
    simp only [Act.put, List.setIfInBounds_toArray, List.set_cons_zero, List.set_cons_succ]
    refine takeY 82 (i := 7) (v := ?v7c) rfl rfl (by kernel_rfl) (by kernel_rfl) (by kernel_rfl) (fun _ _ _ h => h) (by kernel_rfl) ?y7c hS0 ?_
    case y7c =>
      intro w' hw'; (try dsimp only at hw'); obtain e8 := hw'; go_simp; try with_reducible rfl
    simp only [Act.put, List.setIfInBounds_toArray, List.set_cons_zero, List.set_cons_succ]
    refine takeY 83 (i := 8) (v := ?v8c) rfl rfl (by kernel_rfl) (by kernel_rfl) (by kernel_rfl) (fun _ _ _ h => h) (by kernel_rfl) ?y8c hS0 ?_
    case y8c =>
      intro w' hw'; (try dsimp only at hw'); obtain e8 := hw'; go_simp; try with_reducible rfl
    simp only [Act.put, List.setIfInBounds_toArray, List.set_cons_zero, List.set_cons_succ]
    refine takeY 84 (i := 9) (v := ?v9c) rfl rfl (by kernel_rfl) (by kernel_rfl) (by kernel_rfl) (fun _ _ _ h => h) (by kernel_rfl) ?y9c hS0 ?_
    case y9c =>
      intro w' hw'; (try dsimp only at hw'); obtain e8 := hw'; go_simp; try with_reducible rfl
    simp only [Act.put, List.setIfInBounds_toArray, List.set_cons_zero, List.set_cons_succ]
    refine takeU 85 (i := 10) rfl rfl (by kernel_rfl) (by kernel_rfl) (by kernel_rfl) (fun _ _ _ h => h) (by kernel_rfl) hS0 ?_
    simp only [Act.put, List.setIfInBounds_toArray, List.set_cons_zero, List.set_cons_succ]
    refine takeU 86 (i := 11) rfl rfl (by kernel_rfl) (by kernel_rfl) (by kernel_rfl) (fun _ _ _ h => h) (by kernel_rfl) hS0 ?_
    simp only [Act.put, List.setIfInBounds_toArray, List.set_cons_zero, List.set_cons_succ]
    refine takeU 87 (i := 12) rfl rfl (by kernel_rfl) (by kernel_rfl) (by kernel_rfl) (fun _ _ _ h => h) (by kernel_rfl) hS0 ?_
    simp only [Act.put, List.setIfInBounds_toArray, List.set_cons_zero, List.set_cons_succ]
    refine takeU 88 (i := 13) rfl rfl (by kernel_rfl) (by kernel_rfl) (by kernel_rfl) (fun _ _ _ h => h) (by kernel_rfl) hS0 ?_
    simp only [Act.put, List.setIfInBounds_toArray, List.set_cons_zero, List.set_cons_succ]
    refine takeU 89 (i := 14) rfl rfl (by kernel_rfl) (by kernel_rfl) (by kernel_rfl) (fun _ _ _ h => h) (by kernel_rfl) hS0 ?_
    simp only [Act.put, List.setIfInBounds_toArray, List.set_cons_zero, List.set_cons_succ]
    refine takeU 90 (i := 15) rfl rfl (by kernel_rfl) (by kernel_rfl) (by kernel_rfl) (fun _ _ _ h => h) (by kernel_rfl) hS0 ?_
    simp only [Act.put, List.setIfInBounds_toArray, List.set_cons_zero, List.set_cons_succ]
    refine takeU 91 (i := 16) rfl rfl (by kernel_rfl) (by kernel_rfl) (by kernel_rfl) (fun _ _ _ h => h) (by kernel_rfl) hS0 ?_
    simp only [Act.put, List.setIfInBounds_toArray, List.set_cons_zero, List.set_cons_succ]
    refine takeU 92 (i := 17) rfl rfl (by kernel_rfl) (by kernel_rfl) (by kernel_rfl) (fun _ _ _ h => h) (by kernel_rfl) hS0 ?_
    simp only [Act.put, List.setIfInBounds_toArray, List.set_cons_zero, List.set_cons_succ]
    refine takeU 93 (i := 18) rfl rfl (by kernel_rfl) (by kernel_rfl) (by kernel_rfl) (fun _ _ _ h => h) (by kernel_rfl) hS0 ?_
    simp only [Act.put, List.setIfInBounds_toArray, List.set_cons_zero, List.set_cons_succ]
    refine takeU 94 (i := 19) rfl rfl (by kernel_rfl) (by kernel_rfl) (by kernel_rfl) (fun _ _ _ h => h) (by kernel_rfl) hS0 ?_
    simp only [Act.put, List.setIfInBounds_toArray, List.set_cons_zero, List.set_cons_succ]
    refine takeU 95 (i := 20) rfl rfl (by kernel_rfl) (by kernel_rfl) (by kernel_rfl) (fun _ _ _ h => h) (by kernel_rfl) hS0 ?_
    simp only [Act.put, List.setIfInBounds_toArray, List.set_cons_zero, List.set_cons_succ]
    refine takeY 96 (i := 21) (v := ?v21c) rfl rfl (by kernel_rfl) (by kernel_rfl) (by kernel_rfl) (fun _ _ _ h => h) (by kernel_rfl) ?y21c hS0 ?_
    case y21c =>
      intro w' hw'; (try dsimp only at hw'); obtain e8 := hw'; go_simp; try with_reducible rfl
    simp only [Act.put, List.setIfInBounds_toArray, List.set_cons_zero, List.set_cons_succ]
    refine takeY 74 (i := 22) (v := ?v22c) rfl rfl (by kernel_rfl) (by kernel_rfl) (by kernel_rfl) (fun _ _ _ h => h) (by kernel_rfl) ?y22c hS0 ?_
    case y22c =>
      intro w' hw'; (try dsimp only at hw'); obtain e8 := hw'; go_simp; try with_reducible rfl
    simp only [Act.put, List.setIfInBounds_toArray, List.set_cons_zero, List.set_cons_succ]
    refine wpAnyH_done (by kernel_rfl) ?_ _
    clear hS0
    generalize hw1 : World.drew w = w1 at *
    clear hw1
    replace c0 := (HB0.out.cell (p := ⟨p, 0, none⟩) hpl).trans c0
    replace c8 := (HB0.out.cell (p := ⟨p, 8, none⟩) hpl).trans c8
    go_wp2
    go_ret
    exact ⟨⟨_, rfl, .inr ⟨HNo.out, rfl⟩⟩, HB0.out⟩
  have f3 : (rule == 3) = false := by simpa using r3
  by_cases r4 : rule = 4
  · subst r4
    clear r1 f1 r2 f2 r3 f3
    have HNo : Hid (∀ s', ¬ RuleT 4 (.base d) s') := Lib.hid (fun s' h => by cases h)
    go_enter Tryz.func43, Tryz.ntmps43
    go_wp2
    have hS0 : (fun w' => w'.cell? ⟨p, 8, none⟩ = some (.pointer none)) (World.drew w) := (HB0.out.cell (p := ⟨p, 8, none⟩) hpl).trans c8
    refine wp_region_held (S := fun w' => w'.cell? ⟨p, 8, none⟩ = some (.pointer none)) (by kernel_rfl) ?_
    change wpAnyH _ _ _ _ _ _ _ _ (World.drew _)
    refine takeY 75 (i := 0) (v := ?v0d) rfl rfl (by kernel_rfl) (by kernel_rfl) (by kernel_rfl) (fun _ _ _ h => h) (by kernel_rfl) ?y0d hS0 ?_
    case y0d =>
      intro w' hw'; (try dsimp only at hw'); obtain e8 := hw'; go_simp; try with_reducible rfl
    simp only [Act.put, List.setIfInBounds_toArray, List.set_cons_zero, List.set_cons_succ]
    refine takeY 76 (i := 1) (v := ?v1d) rfl rfl (by kernel_rfl) (by kernel_rfl) (by kernel_rfl) (fun _ _ _ h => h) (by kernel_rfl) ?y1d hS0 ?_
    case y1d =>
      intro w' hw'; (try dsimp only at hw'); obtain e8 := hw'; go_simp; try with_reducible rfl
    simp only [Act.put, List.setIfInBounds_toArray, List.set_cons_zero, List.set_cons_succ]
    refine takeY 77 (i := 2) (v := ?v2d) rfl rfl (by kernel_rfl) (by kernel_rfl) (by kernel_rfl) (fun _ _ _ h => h) (by kernel_rfl) ?y2d hS0 ?_
    case y2d =>
      intro w' hw'; (try dsimp only at hw'); obtain e8 := hw'; go_simp; try with_reducible rfl
    simp only [Act.put, List.setIfInBounds_toArray, List.set_cons_zero, List.set_cons_succ]
    refine takeU 78 (i := 3) rfl rfl (by kernel_rfl) (by kernel_rfl) (by kernel_rfl) (fun _ _ _ h => h) (by kernel_rfl) hS0 ?_
    simp only [Act.put, List.setIfInBounds_toArray, List.set_cons_zero, List.set_cons_succ]
    refine takeU 79 (i := 4) rfl rfl (by kernel_rfl) (by kernel_rfl) (by kernel_rfl) (fun _ _ _ h => h) (by kernel_rfl) hS0 ?_
    simp only [Act.put, List.setIfInBounds_toArray, List.set_cons_zero, List.set_cons_succ]
    refine takeU 80 (i := 5) rfl rfl (by kernel_rfl) (by kernel_rfl) (by kernel_rfl) (fun _ _ _ h => h) (by kernel_rfl) hS0 ?_
    simp only [Act.put, List.setIfInBounds_toArray, List.set_cons_zero, List.set_cons_succ]
    refine takeU 81 (i := 6) rfl rfl (by kernel_rfl) (by kernel_rfl) (by kernel_rfl) (fun _ _ _ h => h) (by kernel_rfl) hS0 ?_
    simp only [Act.put, List.setIfInBounds_toArray, List.set_cons_zero, List.set_cons_succ]
    refine takeU 82 (i := 7) rfl rfl (by kernel_rfl) (by kernel_rfl) (by kernel_rfl) (fun _ _ _ h => h) (by kernel_rfl) hS0 ?_
    simp only [Act.put, List.setIfInBounds_toArray, List.set_cons_zero, List.set_cons_succ]
    refine takeY 83 (i := 8) (v := ?v8d) rfl rfl (by kernel_rfl) (by kernel_rfl) (by kernel_rfl) (fun _ _ _ h => h) (by kernel_rfl) ?y8d hS0 ?_
    case y8d =>
      intro w' hw'; (try dsimp only at hw'); obtain e8 := hw'; go_simp; try with_reducible rfl
    simp only [Act.put, List.setIfInBounds_toArray, List.set_cons_zero, List.set_cons_succ]
    refine takeY 84 (i := 9) (v := ?v9d) rfl rfl (by kernel_rfl) (by kernel_rfl) (by kernel_rfl) (fun _ _ _ h => h) (by kernel_rfl) ?y9d hS0 ?_
    case y9d =>
      intro w' hw'; (try dsimp only at hw'); obtain e8 := hw'; go_simp; try with_reducible rfl
    simp only [Act.put, List.setIfInBounds_toArray, List.set_cons_zero, List.set_cons_succ]
    refine takeU 85 (i := 10) rfl rfl (by kernel_rfl) (by kernel_rfl) (by kernel_rfl) (fun _ _ _ h => h) (by kernel_rfl) hS0 ?_
    simp only [Act.put, List.setIfInBounds_toArray, List.set_cons_zero, List.set_cons_succ]
    refine takeU 86 (i := 11) rfl rfl (by kernel_rfl) (by kernel_rfl) (by kernel_rfl) (fun _ _ _ h => h) (by kernel_rfl) hS0 ?_
    simp only [Act.put, List.setIfInBounds_toArray, List.set_cons_zero, List.set_cons_succ]
    refine takeU 87 (i := 12) rfl rfl (by kernel_rfl) (by kernel_rfl) (by kernel_rfl) (fun _ _ _ h => h) (by kernel_rfl) hS0 ?_
    simp only [Act.put, List.setIfInBounds_toArray, List.set_cons_zero, List.set_cons_succ]
    refine takeU 88 (i := 13) rfl rfl (by kernel_rfl) (by kernel_rfl) (by kernel_rfl) (fun _ _ _ h => h) (by kernel_rfl) hS0 ?_
    simp only [Act.put, List.setIfInBounds_toArray, List.set_cons_zero, List.set_cons_succ]
    refine takeU 89 (i := 14) rfl rfl (by kernel_rfl) (by kernel_rfl) (by kernel_rfl) (fun _ _ _ h => h) (by kernel_rfl) hS0 ?_
    simp only [Act.put, List.setIfInBounds_toArray, List.set_cons_zero, List.set_cons_succ]
    refine takeU 90 (i := 15) rfl rfl (by kernel_rfl) (by kernel_rfl) (by kernel_rfl) (fun _ _ _ h => h) (by kernel_rfl) hS0 ?_
    simp only [Act.put, List.setIfInBounds_toArray, List.set_cons_zero, List.set_cons_succ]
    refine takeU 91 (i := 16) rfl rfl (by kernel_rfl) (by kernel_rfl) (by kernel_rfl) (fun _ _ _ h => h) (by kernel_rfl) hS0 ?_
    simp only [Act.put, List.setIfInBounds_toArray, List.set_cons_zero, List.set_cons_succ]
    refine takeU 92 (i := 17) rfl rfl (by kernel_rfl) (by kernel_rfl) (by kernel_rfl) (fun _ _ _ h => h) (by kernel_rfl) hS0 ?_
    simp only [Act.put, List.setIfInBounds_toArray, List.set_cons_zero, List.set_cons_succ]
    refine takeU 93 (i := 18) rfl rfl (by kernel_rfl) (by kernel_rfl) (by kernel_rfl) (fun _ _ _ h => h) (by kernel_rfl) hS0 ?_
    simp only [Act.put, List.setIfInBounds_toArray, List.set_cons_zero, List.set_cons_succ]
    refine takeU 94 (i := 19) rfl rfl (by kernel_rfl) (by kernel_rfl) (by kernel_rfl) (fun _ _ _ h => h) (by kernel_rfl) hS0 ?_
    simp only [Act.put, List.setIfInBounds_toArray, List.set_cons_zero, List.set_cons_succ]
    refine takeU 95 (i := 20) rfl rfl (by kernel_rfl) (by kernel_rfl) (by kernel_rfl) (fun _ _ _ h => h) (by kernel_rfl) hS0 ?_
    simp only [Act.put, List.setIfInBounds_toArray, List.set_cons_zero, List.set_cons_succ]
    refine takeY 96 (i := 21) (v := ?v21d) rfl rfl (by kernel_rfl) (by kernel_rfl) (by kernel_rfl) (fun _ _ _ h => h) (by kernel_rfl) ?y21d hS0 ?_
    case y21d =>
      intro w' hw'; (try dsimp only at hw'); obtain e8 := hw'; go_simp; try with_reducible rfl
    simp only [Act.put, List.setIfInBounds_toArray, List.set_cons_zero, List.set_cons_succ]
    refine takeY 74 (i := 22) (v := ?v22d) rfl rfl (by kernel_rfl) (by kernel_rfl) (by kernel_rfl) (fun _ _ _ h => h) (by kernel_rfl) ?y22d hS0 ?_
    case y22d =>
      intro w' hw'; (try dsimp only at hw'); obtain e8 := hw'; go_simp; try with_reducible rfl
    simp only [Act.put, List.setIfInBounds_toArray, List.set_cons_zero, List.set_cons_succ]
    refine wpAnyH_done (by kernel_rfl) ?_ _
    clear hS0
    generalize hw1 : World.drew w = w1 at *
    clear hw1
    replace c0 := (HB0.out.cell (p := ⟨p, 0, none⟩) hpl).trans c0
    replace c8 := (HB0.out.cell (p := ⟨p, 8, none⟩) hpl).trans c8
    go_wp2
    go_ret
    exact ⟨⟨_, rfl, .inr ⟨HNo.out, rfl⟩⟩, HB0.out⟩
  have f4 : (rule == 4) = false := by simpa using r4
  have HNo : Hid (∀ s', ¬ RuleT rule (.base d) s') := Lib.hid (fun s' h => by cases h)
  clear r1 r2 r3 r4
  go_enter Tryz.func43, Tryz.ntmps43
  go_wp2
  have hS0 : (fun w' => w'.cell? ⟨p, 8, none⟩ = some (.pointer none)) (World.drew w) := (HB0.out.cell (p := ⟨p, 8, none⟩) hpl).trans c8
  refine wp_region_held (S := fun w' => w'.cell? ⟨p, 8, none⟩ = some (.pointer none)) (by kernel_rfl) ?_
  change wpAnyH _ _ _ _ _ _ _ _ (World.drew _)
  refine takeY 75 (i := 0) (v := ?v0e) rfl rfl (by kernel_rfl) (by kernel_rfl) (by kernel_rfl) (fun _ _ _ h => h) (by kernel_rfl) ?y0e hS0 ?_
  case y0e =>
    intro w' hw'; (try dsimp only at hw'); obtain e8 := hw'; go_simp; try with_reducible rfl
  simp only [Act.put, List.setIfInBounds_toArray, List.set_cons_zero, List.set_cons_succ]
  refine takeY 76 (i := 1) (v := ?v1e) rfl rfl (by kernel_rfl) (by kernel_rfl) (by kernel_rfl) (fun _ _ _ h => h) (by kernel_rfl) ?y1e hS0 ?_
  case y1e =>
    intro w' hw'; (try dsimp only at hw'); obtain e8 := hw'; go_simp; try with_reducible rfl
  simp only [Act.put, List.setIfInBounds_toArray, List.set_cons_zero, List.set_cons_succ]
  refine takeY 77 (i := 2) (v := ?v2e) rfl rfl (by kernel_rfl) (by kernel_rfl) (by kernel_rfl) (fun _ _ _ h => h) (by kernel_rfl) ?y2e hS0 ?_
  case y2e =>
    intro w' hw'; (try dsimp only at hw'); obtain e8 := hw'; go_simp; try with_reducible rfl
  simp only [Act.put, List.setIfInBounds_toArray, List.set_cons_zero, List.set_cons_succ]
  refine takeU 78 (i := 3) rfl rfl (by kernel_rfl) (by kernel_rfl) (by kernel_rfl) (fun _ _ _ h => h) (by kernel_rfl) hS0 ?_
  simp only [Act.put, List.setIfInBounds_toArray, List.set_cons_zero, List.set_cons_succ]
  refine takeU 79 (i := 4) rfl rfl (by kernel_rfl) (by kernel_rfl) (by kernel_rfl) (fun _ _ _ h => h) (by kernel_rfl) hS0 ?_
  simp only [Act.put, List.setIfInBounds_toArray, List.set_cons_zero, List.set_cons_succ]
  refine takeU 80 (i := 5) rfl rfl (by kernel_rfl) (by kernel_rfl) (by kernel_rfl) (fun _ _ _ h => h) (by kernel_rfl) hS0 ?_
  simp only [Act.put, List.setIfInBounds_toArray, List.set_cons_zero, List.set_cons_succ]
  refine takeU 81 (i := 6) rfl rfl (by kernel_rfl) (by kernel_rfl) (by kernel_rfl) (fun _ _ _ h => h) (by kernel_rfl) hS0 ?_
  simp only [Act.put, List.setIfInBounds_toArray, List.set_cons_zero, List.set_cons_succ]
  refine takeU 82 (i := 7) rfl rfl (by kernel_rfl) (by kernel_rfl) (by kernel_rfl) (fun _ _ _ h => h) (by kernel_rfl) hS0 ?_
  simp only [Act.put, List.setIfInBounds_toArray, List.set_cons_zero, List.set_cons_succ]
  refine takeY 83 (i := 8) (v := ?v8e) rfl rfl (by kernel_rfl) (by kernel_rfl) (by kernel_rfl) (fun _ _ _ h => h) (by kernel_rfl) ?y8e hS0 ?_
  case y8e =>
    intro w' hw'; (try dsimp only at hw'); obtain e8 := hw'; go_simp; try with_reducible rfl
  simp only [Act.put, List.setIfInBounds_toArray, List.set_cons_zero, List.set_cons_succ]
  refine takeY 84 (i := 9) (v := ?v9e) rfl rfl (by kernel_rfl) (by kernel_rfl) (by kernel_rfl) (fun _ _ _ h => h) (by kernel_rfl) ?y9e hS0 ?_
  case y9e =>
    intro w' hw'; (try dsimp only at hw'); obtain e8 := hw'; go_simp; try with_reducible rfl
  simp only [Act.put, List.setIfInBounds_toArray, List.set_cons_zero, List.set_cons_succ]
  refine takeU 85 (i := 10) rfl rfl (by kernel_rfl) (by kernel_rfl) (by kernel_rfl) (fun _ _ _ h => h) (by kernel_rfl) hS0 ?_
  simp only [Act.put, List.setIfInBounds_toArray, List.set_cons_zero, List.set_cons_succ]
  refine takeU 86 (i := 11) rfl rfl (by kernel_rfl) (by kernel_rfl) (by kernel_rfl) (fun _ _ _ h => h) (by kernel_rfl) hS0 ?_
  simp only [Act.put, List.setIfInBounds_toArray, List.set_cons_zero, List.set_cons_succ]
  refine takeU 87 (i := 12) rfl rfl (by kernel_rfl) (by kernel_rfl) (by kernel_rfl) (fun _ _ _ h => h) (by kernel_rfl) hS0 ?_
  simp only [Act.put, List.setIfInBounds_toArray, List.set_cons_zero, List.set_cons_succ]
  refine takeU 88 (i := 13) rfl rfl (by kernel_rfl) (by kernel_rfl) (by kernel_rfl) (fun _ _ _ h => h) (by kernel_rfl) hS0 ?_
  simp only [Act.put, List.setIfInBounds_toArray, List.set_cons_zero, List.set_cons_succ]
  refine takeU 89 (i := 14) rfl rfl (by kernel_rfl) (by kernel_rfl) (by kernel_rfl) (fun _ _ _ h => h) (by kernel_rfl) hS0 ?_
  simp only [Act.put, List.setIfInBounds_toArray, List.set_cons_zero, List.set_cons_succ]
  refine takeU 90 (i := 15) rfl rfl (by kernel_rfl) (by kernel_rfl) (by kernel_rfl) (fun _ _ _ h => h) (by kernel_rfl) hS0 ?_
  simp only [Act.put, List.setIfInBounds_toArray, List.set_cons_zero, List.set_cons_succ]
  refine takeU 91 (i := 16) rfl rfl (by kernel_rfl) (by kernel_rfl) (by kernel_rfl) (fun _ _ _ h => h) (by kernel_rfl) hS0 ?_
  simp only [Act.put, List.setIfInBounds_toArray, List.set_cons_zero, List.set_cons_succ]
  refine takeU 92 (i := 17) rfl rfl (by kernel_rfl) (by kernel_rfl) (by kernel_rfl) (fun _ _ _ h => h) (by kernel_rfl) hS0 ?_
  simp only [Act.put, List.setIfInBounds_toArray, List.set_cons_zero, List.set_cons_succ]
  refine takeU 93 (i := 18) rfl rfl (by kernel_rfl) (by kernel_rfl) (by kernel_rfl) (fun _ _ _ h => h) (by kernel_rfl) hS0 ?_
  simp only [Act.put, List.setIfInBounds_toArray, List.set_cons_zero, List.set_cons_succ]
  refine takeU 94 (i := 19) rfl rfl (by kernel_rfl) (by kernel_rfl) (by kernel_rfl) (fun _ _ _ h => h) (by kernel_rfl) hS0 ?_
  simp only [Act.put, List.setIfInBounds_toArray, List.set_cons_zero, List.set_cons_succ]
  refine takeU 95 (i := 20) rfl rfl (by kernel_rfl) (by kernel_rfl) (by kernel_rfl) (fun _ _ _ h => h) (by kernel_rfl) hS0 ?_
  simp only [Act.put, List.setIfInBounds_toArray, List.set_cons_zero, List.set_cons_succ]
  refine takeY 96 (i := 21) (v := ?v21e) rfl rfl (by kernel_rfl) (by kernel_rfl) (by kernel_rfl) (fun _ _ _ h => h) (by kernel_rfl) ?y21e hS0 ?_
  case y21e =>
    intro w' hw'; (try dsimp only at hw'); obtain e8 := hw'; go_simp; try with_reducible rfl
  simp only [Act.put, List.setIfInBounds_toArray, List.set_cons_zero, List.set_cons_succ]
  refine takeY 74 (i := 22) (v := ?v22e) rfl rfl (by kernel_rfl) (by kernel_rfl) (by kernel_rfl) (fun _ _ _ h => h) (by kernel_rfl) ?y22e hS0 ?_
  case y22e =>
    intro w' hw'; (try dsimp only at hw'); obtain e8 := hw'; go_simp; try with_reducible rfl
  simp only [Act.put, List.setIfInBounds_toArray, List.set_cons_zero, List.set_cons_succ]
  refine wpAnyH_done (by kernel_rfl) ?_ _
  clear hS0
  generalize hw1 : World.drew w = w1 at *
  clear hw1
  replace c0 := (HB0.out.cell (p := ⟨p, 0, none⟩) hpl).trans c0
  replace c8 := (HB0.out.cell (p := ⟨p, 8, none⟩) hpl).trans c8
  go_wp2
  go_ret
  exact ⟨⟨_, rfl, .inr ⟨HNo.out, rfl⟩⟩, HB0.out⟩
set_option maxRecDepth 20000 in
set_option maxHeartbeats 3200000 in
theorem rew_dual_base (w : World) (B lo p : Nat) (rule : Int) (d : WD) (hpa : PartAt w B lo (.dual (.base d)) p) (hB : B ≤ w.heap.size) (hlo : lo ≤ w.heap.size) :
    Calls Tryz.prog 43 #[.pointer (some ⟨p, 0, none⟩), .int .i64 rule] w fun e w' => (∃ v, e = .returned v ∧ RewV w' B lo rule (.dual (.base d)) v) ∧ Below w.heap.size w w' := by
  obtain ⟨_, hpl, t, q, hrow, hno, hsh, hwi, hqa⟩ := hpa
  have HRow := Lib.hid hrow
  have HNW := Lib.hid (And.intro hno (And.intro hsh hwi))
  have c0 := part0 hrow
  have c7 := part7 hrow
  have c8 := part8 hrow
  clear hrow hno hsh hwi
  obtain ⟨_, hql, t', v, hrow', -, -, -, -, -⟩ := hqa
  have d0 := part0 hrow'
  have d8 := part8 hrow'
  clear hrow'
  have HB0 : Hid (Below w.heap.size w (World.drew w)) := Lib.hid (Below.refl _ _).drew
  by_cases r1 : rule = 1
  · subst r1
    have HNo : Hid (∀ s', ¬ RuleT 1 (.dual (.base d)) s') := Lib.hid (fun s' h => by cases h)
    go_enter Tryz.func43, Tryz.ntmps43
    go_wp2
    have hS0 : (fun w' => w'.cell? ⟨p, 8, none⟩ = some (.pointer none)) (World.drew w) := (HB0.out.cell (p := ⟨p, 8, none⟩) hpl).trans c8
    refine wp_region_held (S := fun w' => w'.cell? ⟨p, 8, none⟩ = some (.pointer none)) (by kernel_rfl) ?_
    change wpAnyH _ _ _ _ _ _ _ _ (World.drew _)
    refine takeY 75 (i := 0) (v := ?v0a) rfl rfl (by kernel_rfl) (by kernel_rfl) (by kernel_rfl) (fun _ _ _ h => h) (by kernel_rfl) ?y0a hS0 ?_
    case y0a =>
      intro w' hw'; (try dsimp only at hw'); obtain e8 := hw'; go_simp; try with_reducible rfl
    simp only [Act.put, List.setIfInBounds_toArray, List.set_cons_zero, List.set_cons_succ]
    refine takeY 76 (i := 1) (v := ?v1a) rfl rfl (by kernel_rfl) (by kernel_rfl) (by kernel_rfl) (fun _ _ _ h => h) (by kernel_rfl) ?y1a hS0 ?_
    case y1a =>
      intro w' hw'; (try dsimp only at hw'); obtain e8 := hw'; go_simp; try with_reducible rfl
    simp only [Act.put, List.setIfInBounds_toArray, List.set_cons_zero, List.set_cons_succ]
    refine takeY 77 (i := 2) (v := ?v2a) rfl rfl (by kernel_rfl) (by kernel_rfl) (by kernel_rfl) (fun _ _ _ h => h) (by kernel_rfl) ?y2a hS0 ?_
    case y2a =>
      intro w' hw'; (try dsimp only at hw'); obtain e8 := hw'; go_simp; try with_reducible rfl
    simp only [Act.put, List.setIfInBounds_toArray, List.set_cons_zero, List.set_cons_succ]
    refine takeU 78 (i := 3) rfl rfl (by kernel_rfl) (by kernel_rfl) (by kernel_rfl) (fun _ _ _ h => h) (by kernel_rfl) hS0 ?_
    simp only [Act.put, List.setIfInBounds_toArray, List.set_cons_zero, List.set_cons_succ]
    refine takeU 79 (i := 4) rfl rfl (by kernel_rfl) (by kernel_rfl) (by kernel_rfl) (fun _ _ _ h => h) (by kernel_rfl) hS0 ?_
    simp only [Act.put, List.setIfInBounds_toArray, List.set_cons_zero, List.set_cons_succ]
    refine takeU 80 (i := 5) rfl rfl (by kernel_rfl) (by kernel_rfl) (by kernel_rfl) (fun _ _ _ h => h) (by kernel_rfl) hS0 ?_
    simp only [Act.put, List.setIfInBounds_toArray, List.set_cons_zero, List.set_cons_succ]
    refine takeU 81 (i := 6) rfl rfl (by kernel_rfl) (by kernel_rfl) (by kernel_rfl) (fun _ _ _ h => h) (by kernel_rfl) hS0 ?_
    simp only [Act.put, List.setIfInBounds_toArray, List.set_cons_zero, List.set_cons_succ]
    refine takeU 82 (i := 7) rfl rfl (by kernel_rfl) (by kernel_rfl) (by kernel_rfl) (fun _ _ _ h => h) (by kernel_rfl) hS0 ?_
    simp only [Act.put, List.setIfInBounds_toArray, List.set_cons_zero, List.set_cons_succ]
    refine takeY 83 (i := 8) (v := ?v8a) rfl rfl (by kernel_rfl) (by kernel_rfl) (by kernel_rfl) (fun _ _ _ h => h) (by kernel_rfl) ?y8a hS0 ?_
    case y8a =>
      intro w' hw'; (try dsimp only at hw'); obtain e8 := hw'; go_simp; try with_reducible rfl
    simp only [Act.put, List.setIfInBounds_toArray, List.set_cons_zero, List.set_cons_succ]
    refine takeY 84 (i := 9) (v := ?v9a) rfl rfl (by kernel_rfl) (by kernel_rfl) (by kernel_rfl) (fun _ _ _ h => h) (by kernel_rfl) ?y9a hS0 ?_
    case y9a =>
      intro w' hw'; (try dsimp only at hw'); obtain e8 := hw'; go_simp; try with_reducible rfl
    simp only [Act.put, List.setIfInBounds_toArray, List.set_cons_zero, List.set_cons_succ]
    refine takeU 85 (i := 10) rfl rfl (by kernel_rfl) (by kernel_rfl) (by kernel_rfl) (fun _ _ _ h => h) (by kernel_rfl) hS0 ?_
    simp only [Act.put, List.setIfInBounds_toArray, List.set_cons_zero, List.set_cons_succ]
    refine takeU 86 (i := 11) rfl rfl (by kernel_rfl) (by kernel_rfl) (by kernel_rfl) (fun _ _ _ h => h) (by kernel_rfl) hS0 ?_
    simp only [Act.put, List.setIfInBounds_toArray, List.set_cons_zero, List.set_cons_succ]
    refine takeU 87 (i := 12) rfl rfl (by kernel_rfl) (by kernel_rfl) (by kernel_rfl) (fun _ _ _ h => h) (by kernel_rfl) hS0 ?_
    simp only [Act.put, List.setIfInBounds_toArray, List.set_cons_zero, List.set_cons_succ]
    refine takeU 88 (i := 13) rfl rfl (by kernel_rfl) (by kernel_rfl) (by kernel_rfl) (fun _ _ _ h => h) (by kernel_rfl) hS0 ?_
    simp only [Act.put, List.setIfInBounds_toArray, List.set_cons_zero, List.set_cons_succ]
    refine takeU 89 (i := 14) rfl rfl (by kernel_rfl) (by kernel_rfl) (by kernel_rfl) (fun _ _ _ h => h) (by kernel_rfl) hS0 ?_
    simp only [Act.put, List.setIfInBounds_toArray, List.set_cons_zero, List.set_cons_succ]
    refine takeU 90 (i := 15) rfl rfl (by kernel_rfl) (by kernel_rfl) (by kernel_rfl) (fun _ _ _ h => h) (by kernel_rfl) hS0 ?_
    simp only [Act.put, List.setIfInBounds_toArray, List.set_cons_zero, List.set_cons_succ]
    refine takeU 91 (i := 16) rfl rfl (by kernel_rfl) (by kernel_rfl) (by kernel_rfl) (fun _ _ _ h => h) (by kernel_rfl) hS0 ?_
    simp only [Act.put, List.setIfInBounds_toArray, List.set_cons_zero, List.set_cons_succ]
    refine takeU 92 (i := 17) rfl rfl (by kernel_rfl) (by kernel_rfl) (by kernel_rfl) (fun _ _ _ h => h) (by kernel_rfl) hS0 ?_
    simp only [Act.put, List.setIfInBounds_toArray, List.set_cons_zero, List.set_cons_succ]
    refine takeU 93 (i := 18) rfl rfl (by kernel_rfl) (by kernel_rfl) (by kernel_rfl) (fun _ _ _ h => h) (by kernel_rfl) hS0 ?_
    simp only [Act.put, List.setIfInBounds_toArray, List.set_cons_zero, List.set_cons_succ]
    refine takeU 94 (i := 19) rfl rfl (by kernel_rfl) (by kernel_rfl) (by kernel_rfl) (fun _ _ _ h => h) (by kernel_rfl) hS0 ?_
    simp only [Act.put, List.setIfInBounds_toArray, List.set_cons_zero, List.set_cons_succ]
    refine takeU 95 (i := 20) rfl rfl (by kernel_rfl) (by kernel_rfl) (by kernel_rfl) (fun _ _ _ h => h) (by kernel_rfl) hS0 ?_
    simp only [Act.put, List.setIfInBounds_toArray, List.set_cons_zero, List.set_cons_succ]
    refine takeY 96 (i := 21) (v := ?v21a) rfl rfl (by kernel_rfl) (by kernel_rfl) (by kernel_rfl) (fun _ _ _ h => h) (by kernel_rfl) ?y21a hS0 ?_
    case y21a =>
      intro w' hw'; (try dsimp only at hw'); obtain e8 := hw'; go_simp; try with_reducible rfl
    simp only [Act.put, List.setIfInBounds_toArray, List.set_cons_zero, List.set_cons_succ]
    refine takeY 74 (i := 22) (v := ?v22a) rfl rfl (by kernel_rfl) (by kernel_rfl) (by kernel_rfl) (fun _ _ _ h => h) (by kernel_rfl) ?y22a hS0 ?_
    case y22a =>
      intro w' hw'; (try dsimp only at hw'); obtain e8 := hw'; go_simp; try with_reducible rfl
    simp only [Act.put, List.setIfInBounds_toArray, List.set_cons_zero, List.set_cons_succ]
    refine wpAnyH_done (by kernel_rfl) ?_ _
    clear hS0
    generalize hw1 : World.drew w = w1 at *
    clear hw1
    replace c0 := (HB0.out.cell (p := ⟨p, 0, none⟩) hpl).trans c0
    replace c7 := (HB0.out.cell (p := ⟨p, 7, none⟩) hpl).trans c7
    replace c8 := (HB0.out.cell (p := ⟨p, 8, none⟩) hpl).trans c8
    replace d0 := (HB0.out.cell (p := ⟨q, 0, none⟩) hql).trans d0
    replace d8 := (HB0.out.cell (p := ⟨q, 8, none⟩) hql).trans d8
    go_wp2
    go_ret
    exact ⟨⟨_, rfl, .inr ⟨HNo.out, rfl⟩⟩, HB0.out⟩
  have f1 : (rule == 1) = false := by simpa using r1
  by_cases r2 : rule = 2
  · subst r2
    clear r1 f1
    have HNo : Hid (∀ s', ¬ RuleT 2 (.dual (.base d)) s') := Lib.hid (fun s' h => by cases h)
    go_enter Tryz.func43, Tryz.ntmps43
    go_wp2
    have hS0 : (fun w' => w'.cell? ⟨p, 8, none⟩ = some (.pointer none)) (World.drew w) := (HB0.out.cell (p := ⟨p, 8, none⟩) hpl).trans c8
    refine wp_region_held (S := fun w' => w'.cell? ⟨p, 8, none⟩ = some (.pointer none)) (by kernel_rfl) ?_
    change wpAnyH _ _ _ _ _ _ _ _ (World.drew _)
    refine takeY 75 (i := 0) (v := ?v0b) rfl rfl (by kernel_rfl) (by kernel_rfl) (by kernel_rfl) (fun _ _ _ h => h) (by kernel_rfl) ?y0b hS0 ?_
    case y0b =>
      intro w' hw'; (try dsimp only at hw'); obtain e8 := hw'; go_simp; try with_reducible rfl
    simp only [Act.put, List.setIfInBounds_toArray, List.set_cons_zero, List.set_cons_succ]
    refine takeY 76 (i := 1) (v := ?v1b) rfl rfl (by kernel_rfl) (by kernel_rfl) (by kernel_rfl) (fun _ _ _ h => h) (by kernel_rfl) ?y1b hS0 ?_
    case y1b =>
      intro w' hw'; (try dsimp only at hw'); obtain e8 := hw'; go_simp; try with_reducible rfl
    simp only [Act.put, List.setIfInBounds_toArray, List.set_cons_zero, List.set_cons_succ]
    refine takeY 77 (i := 2) (v := ?v2b) rfl rfl (by kernel_rfl) (by kernel_rfl) (by kernel_rfl) (fun _ _ _ h => h) (by kernel_rfl) ?y2b hS0 ?_
    case y2b =>
      intro w' hw'; (try dsimp only at hw'); obtain e8 := hw'; go_simp; try with_reducible rfl
    simp only [Act.put, List.setIfInBounds_toArray, List.set_cons_zero, List.set_cons_succ]
    refine takeU 78 (i := 3) rfl rfl (by kernel_rfl) (by kernel_rfl) (by kernel_rfl) (fun _ _ _ h => h) (by kernel_rfl) hS0 ?_
    simp only [Act.put, List.setIfInBounds_toArray, List.set_cons_zero, List.set_cons_succ]
    refine takeU 79 (i := 4) rfl rfl (by kernel_rfl) (by kernel_rfl) (by kernel_rfl) (fun _ _ _ h => h) (by kernel_rfl) hS0 ?_
    simp only [Act.put, List.setIfInBounds_toArray, List.set_cons_zero, List.set_cons_succ]
    refine takeU 80 (i := 5) rfl rfl (by kernel_rfl) (by kernel_rfl) (by kernel_rfl) (fun _ _ _ h => h) (by kernel_rfl) hS0 ?_
    simp only [Act.put, List.setIfInBounds_toArray, List.set_cons_zero, List.set_cons_succ]
    refine takeU 81 (i := 6) rfl rfl (by kernel_rfl) (by kernel_rfl) (by kernel_rfl) (fun _ _ _ h => h) (by kernel_rfl) hS0 ?_
    simp only [Act.put, List.setIfInBounds_toArray, List.set_cons_zero, List.set_cons_succ]
    refine takeU 82 (i := 7) rfl rfl (by kernel_rfl) (by kernel_rfl) (by kernel_rfl) (fun _ _ _ h => h) (by kernel_rfl) hS0 ?_
    simp only [Act.put, List.setIfInBounds_toArray, List.set_cons_zero, List.set_cons_succ]
    refine takeY 83 (i := 8) (v := ?v8b) rfl rfl (by kernel_rfl) (by kernel_rfl) (by kernel_rfl) (fun _ _ _ h => h) (by kernel_rfl) ?y8b hS0 ?_
    case y8b =>
      intro w' hw'; (try dsimp only at hw'); obtain e8 := hw'; go_simp; try with_reducible rfl
    simp only [Act.put, List.setIfInBounds_toArray, List.set_cons_zero, List.set_cons_succ]
    refine takeY 84 (i := 9) (v := ?v9b) rfl rfl (by kernel_rfl) (by kernel_rfl) (by kernel_rfl) (fun _ _ _ h => h) (by kernel_rfl) ?y9b hS0 ?_
    case y9b =>
      intro w' hw'; (try dsimp only at hw'); obtain e8 := hw'; go_simp; try with_reducible rfl
    simp only [Act.put, List.setIfInBounds_toArray, List.set_cons_zero, List.set_cons_succ]
    refine takeU 85 (i := 10) rfl rfl (by kernel_rfl) (by kernel_rfl) (by kernel_rfl) (fun _ _ _ h => h) (by kernel_rfl) hS0 ?_
    simp only [Act.put, List.setIfInBounds_toArray, List.set_cons_zero, List.set_cons_succ]
    refine takeU 86 (i := 11) rfl rfl (by kernel_rfl) (by kernel_rfl) (by kernel_rfl) (fun _ _ _ h => h) (by kernel_rfl) hS0 ?_
    simp only [Act.put, List.setIfInBounds_toArray, List.set_cons_zero, List.set_cons_succ]
    refine takeU 87 (i := 12) rfl rfl (by kernel_rfl) (by kernel_rfl) (by kernel_rfl) (fun _ _ _ h => h) (by kernel_rfl) hS0 ?_
    simp only [Act.put, List.setIfInBounds_toArray, List.set_cons_zero, List.set_cons_succ]
    refine takeU 88 (i := 13) rfl rfl (by kernel_rfl) (by kernel_rfl) (by kernel_rfl) (fun _ _ _ h => h) (by kernel_rfl) hS0 ?_
    simp only [Act.put, List.setIfInBounds_toArray, List.set_cons_zero, List.set_cons_succ]
    refine takeU 89 (i := 14) rfl rfl (by kernel_rfl) (by kernel_rfl) (by kernel_rfl) (fun _ _ _ h => h) (by kernel_rfl) hS0 ?_
    simp only [Act.put, List.setIfInBounds_toArray, List.set_cons_zero, List.set_cons_succ]
    refine takeU 90 (i := 15) rfl rfl (by kernel_rfl) (by kernel_rfl) (by kernel_rfl) (fun _ _ _ h => h) (by kernel_rfl) hS0 ?_
    simp only [Act.put, List.setIfInBounds_toArray, List.set_cons_zero, List.set_cons_succ]
    refine takeU 91 (i := 16) rfl rfl (by kernel_rfl) (by kernel_rfl) (by kernel_rfl) (fun _ _ _ h => h) (by kernel_rfl) hS0 ?_
    simp only [Act.put, List.setIfInBounds_toArray, List.set_cons_zero, List.set_cons_succ]
    refine takeU 92 (i := 17) rfl rfl (by kernel_rfl) (by kernel_rfl) (by kernel_rfl) (fun _ _ _ h => h) (by kernel_rfl) hS0 ?_
    simp only [Act.put, List.setIfInBounds_toArray, List.set_cons_zero, List.set_cons_succ]
    refine takeU 93 (i := 18) rfl rfl (by kernel_rfl) (by kernel_rfl) (by kernel_rfl) (fun _ _ _ h => h) (by kernel_rfl) hS0 ?_
    simp only [Act.put, List.setIfInBounds_toArray, List.set_cons_zero, List.set_cons_succ]
    refine takeU 94 (i := 19) rfl rfl (by kernel_rfl) (by kernel_rfl) (by kernel_rfl) (fun _ _ _ h => h) (by kernel_rfl) hS0 ?_
    simp only [Act.put, List.setIfInBounds_toArray, List.set_cons_zero, List.set_cons_succ]
    refine takeU 95 (i := 20) rfl rfl (by kernel_rfl) (by kernel_rfl) (by kernel_rfl) (fun _ _ _ h => h) (by kernel_rfl) hS0 ?_
    simp only [Act.put, List.setIfInBounds_toArray, List.set_cons_zero, List.set_cons_succ]
    refine takeY 96 (i := 21) (v := ?v21b) rfl rfl (by kernel_rfl) (by kernel_rfl) (by kernel_rfl) (fun _ _ _ h => h) (by kernel_rfl) ?y21b hS0 ?_
    case y21b =>
      intro w' hw'; (try dsimp only at hw'); obtain e8 := hw'; go_simp; try with_reducible rfl
    simp only [Act.put, List.setIfInBounds_toArray, List.set_cons_zero, List.set_cons_succ]
    refine takeY 74 (i := 22) (v := ?v22b) rfl rfl (by kernel_rfl) (by kernel_rfl) (by kernel_rfl) (fun _ _ _ h => h) (by kernel_rfl) ?y22b hS0 ?_
    case y22b =>
      intro w' hw'; (try dsimp only at hw'); obtain e8 := hw'; go_simp; try with_reducible rfl
    simp only [Act.put, List.setIfInBounds_toArray, List.set_cons_zero, List.set_cons_succ]
    refine wpAnyH_done (by kernel_rfl) ?_ _
    clear hS0
    generalize hw1 : World.drew w = w1 at *
    clear hw1
    replace c0 := (HB0.out.cell (p := ⟨p, 0, none⟩) hpl).trans c0
    replace c7 := (HB0.out.cell (p := ⟨p, 7, none⟩) hpl).trans c7
    replace c8 := (HB0.out.cell (p := ⟨p, 8, none⟩) hpl).trans c8
    replace d0 := (HB0.out.cell (p := ⟨q, 0, none⟩) hql).trans d0
    replace d8 := (HB0.out.cell (p := ⟨q, 8, none⟩) hql).trans d8
    go_wp2
    go_ret
    exact ⟨⟨_, rfl, .inr ⟨HNo.out, rfl⟩⟩, HB0.out⟩
  have f2 : (rule == 2) = false := by simpa using r2
  by_cases r3 : rule = 3
  · subst r3
    clear r1 f1 r2 f2
    have HNo : Hid (∀ s', ¬ RuleT 3 (.dual (.base d)) s') := Lib.hid (fun s' h => by cases h)
    go_enter Tryz.func43, Tryz.ntmps43
    go_wp2
    have hS0 : (fun w' => w'.cell? ⟨p, 8, none⟩ = some (.pointer none)) (World.drew w) := (HB0.out.cell (p := ⟨p, 8, none⟩) hpl).trans c8
    refine wp_region_held (S := fun w' => w'.cell? ⟨p, 8, none⟩ = some (.pointer none)) (by kernel_rfl) ?_
    change wpAnyH _ _ _ _ _ _ _ _ (World.drew _)
    refine takeY 75 (i := 0) (v := ?v0c) rfl rfl (by kernel_rfl) (by kernel_rfl) (by kernel_rfl) (fun _ _ _ h => h) (by kernel_rfl) ?y0c hS0 ?_
    case y0c =>
      intro w' hw'; (try dsimp only at hw'); obtain e8 := hw'; go_simp; try with_reducible rfl
    simp only [Act.put, List.setIfInBounds_toArray, List.set_cons_zero, List.set_cons_succ]
    refine takeY 76 (i := 1) (v := ?v1c) rfl rfl (by kernel_rfl) (by kernel_rfl) (by kernel_rfl) (fun _ _ _ h => h) (by kernel_rfl) ?y1c hS0 ?_
    case y1c =>
      intro w' hw'; (try dsimp only at hw'); obtain e8 := hw'; go_simp; try with_reducible rfl
    simp only [Act.put, List.setIfInBounds_toArray, List.set_cons_zero, List.set_cons_succ]
    refine takeY 77 (i := 2) (v := ?v2c) rfl rfl (by kernel_rfl) (by kernel_rfl) (by kernel_rfl) (fun _ _ _ h => h) (by kernel_rfl) ?y2c hS0 ?_
    case y2c =>
      intro w' hw'; (try dsimp only at hw'); obtain e8 := hw'; go_simp; try with_reducible rfl
    simp only [Act.put, List.setIfInBounds_toArray, List.set_cons_zero, List.set_cons_succ]
    refine takeY 78 (i := 3) (v := ?v3c) rfl rfl (by kernel_rfl) (by kernel_rfl) (by kernel_rfl) (fun _ _ _ h => h) (by kernel_rfl) ?y3c hS0 ?_
    case y3c =>
      intro w' hw'; (try dsimp only at hw'); obtain e8 := hw'; go_simp; try with_reducible rfl
    simp only [Act.put, List.setIfInBounds_toArray, List.set_cons_zero, List.set_cons_succ]
    refine takeY 79 (i := 4) (v := ?v4c) rfl rfl (by kernel_rfl) (by kernel_rfl) (by kernel_rfl) (fun _ _ _ h => h) (by kernel_rfl) ?y4c hS0 ?_
    case y4c =>
      intro w' hw'; (try dsimp only at hw'); obtain e8 := hw'; go_simp; try with_reducible rfl
    simp only [Act.put, List.setIfInBounds_toArray, List.set_cons_zero, List.set_cons_succ]
    refine takeY 80 (i := 5) (v := ?v5c) rfl rfl (by kernel_rfl) (by kernel_rfl) (by kernel_rfl) (fun _ _ _ h => h) (by kernel_rfl) ?y5c hS0 ?_
    case y5c =>
      intro w' hw'; (try dsimp only at hw'); obtain e8 := hw'; go_simp; try with_reducible rfl
    simp only [Act.put, List.setIfInBounds_toArray, List.set_cons_zero, List.set_cons_succ]
    refine takeY 81 (i := 6) (v := ?v6c) rfl rfl (by kernel_rfl) (by kernel_rfl) (by kernel_rfl) (fun _ _ _ h => h) (by kernel_rfl) ?y6c hS0 ?_
    case y6c =>
      intro w' hw'; (try dsimp only at hw'); obtain e8 := hw'; go_simp; try with_reducible rfl
    simp only [Act.put, List.setIfInBounds_toArray, List.set_cons_zero, List.set_cons_succ]
    refine takeY 82 (i := 7) (v := ?v7c) rfl rfl (by kernel_rfl) (by kernel_rfl) (by kernel_rfl) (fun _ _ _ h => h) (by kernel_rfl) ?y7c hS0 ?_
    case y7c =>
      intro w' hw'; (try dsimp only at hw'); obtain e8 := hw'; go_simp; try with_reducible rfl
    simp only [Act.put, List.setIfInBounds_toArray, List.set_cons_zero, List.set_cons_succ]
    refine takeY 83 (i := 8) (v := ?v8c) rfl rfl (by kernel_rfl) (by kernel_rfl) (by kernel_rfl) (fun _ _ _ h => h) (by kernel_rfl) ?y8c hS0 ?_
    case y8c =>
      intro w' hw'; (try dsimp only at hw'); obtain e8 := hw'; go_simp; try with_reducible rfl
    simp only [Act.put, List.setIfInBounds_toArray, List.set_cons_zero, List.set_cons_succ]
    refine takeY 84 (i := 9) (v := ?v9c) rfl rfl (by kernel_rfl) (by kernel_rfl) (by kernel_rfl) (fun _ _ _ h => h) (by kernel_rfl) ?y9c hS0 ?_
    case y9c =>
      intro w' hw'; (try dsimp only at hw'); obtain e8 := hw'; go_simp; try with_reducible rfl
    simp only [Act.put, List.setIfInBounds_toArray, List.set_cons_zero, List.set_cons_succ]
    refine takeU 85 (i := 10) rfl rfl (by kernel_rfl) (by kernel_rfl) (by kernel_rfl) (fun _ _ _ h => h) (by kernel_rfl) hS0 ?_
    simp only [Act.put, List.setIfInBounds_toArray, List.set_cons_zero, List.set_cons_succ]
    refine takeU 86 (i := 11) rfl rfl (by kernel_rfl) (by kernel_rfl) (by kernel_rfl) (fun _ _ _ h => h) (by kernel_rfl) hS0 ?_
    simp only [Act.put, List.setIfInBounds_toArray, List.set_cons_zero, List.set_cons_succ]
    refine takeU 87 (i := 12) rfl rfl (by kernel_rfl) (by kernel_rfl) (by kernel_rfl) (fun _ _ _ h => h) (by kernel_rfl) hS0 ?_
    simp only [Act.put, List.setIfInBounds_toArray, List.set_cons_zero, List.set_cons_succ]
    refine takeU 88 (i := 13) rfl rfl (by kernel_rfl) (by kernel_rfl) (by kernel_rfl) (fun _ _ _ h => h) (by kernel_rfl) hS0 ?_
    simp only [Act.put, List.setIfInBounds_toArray, List.set_cons_zero, List.set_cons_succ]
    refine takeU 89 (i := 14) rfl rfl (by kernel_rfl) (by kernel_rfl) (by kernel_rfl) (fun _ _ _ h => h) (by kernel_rfl) hS0 ?_
    simp only [Act.put, List.setIfInBounds_toArray, List.set_cons_zero, List.set_cons_succ]
    refine takeU 90 (i := 15) rfl rfl (by kernel_rfl) (by kernel_rfl) (by kernel_rfl) (fun _ _ _ h => h) (by kernel_rfl) hS0 ?_
    simp only [Act.put, List.setIfInBounds_toArray, List.set_cons_zero, List.set_cons_succ]
    refine takeU 91 (i := 16) rfl rfl (by kernel_rfl) (by kernel_rfl) (by kernel_rfl) (fun _ _ _ h => h) (by kernel_rfl) hS0 ?_
    simp only [Act.put, List.setIfInBounds_toArray, List.set_cons_zero, List.set_cons_succ]
    refine takeU 92 (i := 17) rfl rfl (by kernel_rfl) (by kernel_rfl) (by kernel_rfl) (fun _ _ _ h => h) (by kernel_rfl) hS0 ?_
    simp only [Act.put, List.setIfInBounds_toArray, List.set_cons_zero, List.set_cons_succ]
    refine takeU 93 (i := 18) rfl rfl (by kernel_rfl) (by kernel_rfl) (by kernel_rfl) (fun _ _ _ h => h) (by kernel_rfl) hS0 ?_
    simp only [Act.put, List.setIfInBounds_toArray, List.set_cons_zero, List.set_cons_succ]
    refine takeU 94 (i := 19) rfl rfl (by kernel_rfl) (by kernel_rfl) (by kernel_rfl) (fun _ _ _ h => h) (by kernel_rfl) hS0 ?_
    simp only [Act.put, List.setIfInBounds_toArray, List.set_cons_zero, List.set_cons_succ]
    refine takeU 95 (i := 20) rfl rfl (by kernel_rfl) (by kernel_rfl) (by kernel_rfl) (fun _ _ _ h => h) (by kernel_rfl) hS0 ?_
    simp only [Act.put, List.setIfInBounds_toArray, List.set_cons_zero, List.set_cons_succ]
    refine takeY 96 (i := 21) (v := ?v21c) rfl rfl (by kernel_rfl) (by kernel_rfl) (by kernel_rfl) (fun _ _ _ h => h) (by kernel_rfl) ?y21c hS0 ?_
    case y21c =>
      intro w' hw'; (try dsimp only at hw'); obtain e8 := hw'; go_simp; try with_reducible rfl
    simp only [Act.put, List.setIfInBounds_toArray, List.set_cons_zero, List.set_cons_succ]
    refine takeY 74 (i := 22) (v := ?v22c) rfl rfl (by kernel_rfl) (by kernel_rfl) (by kernel_rfl) (fun _ _ _ h => h) (by kernel_rfl) ?y22c hS0 ?_
    case y22c =>
      intro w' hw'; (try dsimp only at hw'); obtain e8 := hw'; go_simp; try with_reducible rfl
    simp only [Act.put, List.setIfInBounds_toArray, List.set_cons_zero, List.set_cons_succ]
    refine wpAnyH_done (by kernel_rfl) ?_ _
    clear hS0
    generalize hw1 : World.drew w = w1 at *
    clear hw1
    replace c0 := (HB0.out.cell (p := ⟨p, 0, none⟩) hpl).trans c0
    replace c7 := (HB0.out.cell (p := ⟨p, 7, none⟩) hpl).trans c7
    replace c8 := (HB0.out.cell (p := ⟨p, 8, none⟩) hpl).trans c8
    replace d0 := (HB0.out.cell (p := ⟨q, 0, none⟩) hql).trans d0
    replace d8 := (HB0.out.cell (p := ⟨q, 8, none⟩) hql).trans d8
    go_wp2
    go_ret
    exact ⟨⟨_, rfl, .inr ⟨HNo.out, rfl⟩⟩, HB0.out⟩
  have f3 : (rule == 3) = false := by simpa using r3
  by_cases r4 : rule = 4
  · subst r4
    clear r1 f1 r2 f2 r3 f3
    have HNo : Hid (∀ s', ¬ RuleT 4 (.dual (.base d)) s') := Lib.hid (fun s' h => by cases h)
    go_enter Tryz.func43, Tryz.ntmps43
    go_wp2
    have hS0 : (fun w' => w'.cell? ⟨p, 8, none⟩ = some (.pointer none)) (World.drew w) := (HB0.out.cell (p := ⟨p, 8, none⟩) hpl).trans c8
    refine wp_region_held (S := fun w' => w'.cell? ⟨p, 8, none⟩ = some (.pointer none)) (by kernel_rfl) ?_
    change wpAnyH _ _ _ _ _ _ _ _ (World.drew _)
    refine takeY 75 (i := 0) (v := ?v0d) rfl rfl (by kernel_rfl) (by kernel_rfl) (by kernel_rfl) (fun _ _ _ h => h) (by kernel_rfl) ?y0d hS0 ?_
    case y0d =>
      intro w' hw'; (try dsimp only at hw'); obtain e8 := hw'; go_simp; try with_reducible rfl
    simp only [Act.put, List.setIfInBounds_toArray, List.set_cons_zero, List.set_cons_succ]
    refine takeY 76 (i := 1) (v := ?v1d) rfl rfl (by kernel_rfl) (by kernel_rfl) (by kernel_rfl) (fun _ _ _ h => h) (by kernel_rfl) ?y1d hS0 ?_
    case y1d =>
      intro w' hw'; (try dsimp only at hw'); obtain e8 := hw'; go_simp; try with_reducible rfl
    simp only [Act.put, List.setIfInBounds_toArray, List.set_cons_zero, List.set_cons_succ]
    refine takeY 77 (i := 2) (v := ?v2d) rfl rfl (by kernel_rfl) (by kernel_rfl) (by kernel_rfl) (fun _ _ _ h => h) (by kernel_rfl) ?y2d hS0 ?_
    case y2d =>
      intro w' hw'; (try dsimp only at hw'); obtain e8 := hw'; go_simp; try with_reducible rfl
    simp only [Act.put, List.setIfInBounds_toArray, List.set_cons_zero, List.set_cons_succ]
    refine takeU 78 (i := 3) rfl rfl (by kernel_rfl) (by kernel_rfl) (by kernel_rfl) (fun _ _ _ h => h) (by kernel_rfl) hS0 ?_
    simp only [Act.put, List.setIfInBounds_toArray, List.set_cons_zero, List.set_cons_succ]
    refine takeU 79 (i := 4) rfl rfl (by kernel_rfl) (by kernel_rfl) (by kernel_rfl) (fun _ _ _ h => h) (by kernel_rfl) hS0 ?_
    simp only [Act.put, List.setIfInBounds_toArray, List.set_cons_zero, List.set_cons_succ]
    refine takeU 80 (i := 5) rfl rfl (by kernel_rfl) (by kernel_rfl) (by kernel_rfl) (fun _ _ _ h => h) (by kernel_rfl) hS0 ?_
    simp only [Act.put, List.setIfInBounds_toArray, List.set_cons_zero, List.set_cons_succ]
    refine takeU 81 (i := 6) rfl rfl (by kernel_rfl) (by kernel_rfl) (by kernel_rfl) (fun _ _ _ h => h) (by kernel_rfl) hS0 ?_
    simp only [Act.put, List.setIfInBounds_toArray, List.set_cons_zero, List.set_cons_succ]
    refine takeU 82 (i := 7) rfl rfl (by kernel_rfl) (by kernel_rfl) (by kernel_rfl) (fun _ _ _ h => h) (by kernel_rfl) hS0 ?_
    simp only [Act.put, List.setIfInBounds_toArray, List.set_cons_zero, List.set_cons_succ]
    refine takeY 83 (i := 8) (v := ?v8d) rfl rfl (by kernel_rfl) (by kernel_rfl) (by kernel_rfl) (fun _ _ _ h => h) (by kernel_rfl) ?y8d hS0 ?_
    case y8d =>
      intro w' hw'; (try dsimp only at hw'); obtain e8 := hw'; go_simp; try with_reducible rfl
    simp only [Act.put, List.setIfInBounds_toArray, List.set_cons_zero, List.set_cons_succ]
    refine takeY 84 (i := 9) (v := ?v9d) rfl rfl (by kernel_rfl) (by kernel_rfl) (by kernel_rfl) (fun _ _ _ h => h) (by kernel_rfl) ?y9d hS0 ?_
    case y9d =>
      intro w' hw'; (try dsimp only at hw'); obtain e8 := hw'; go_simp; try with_reducible rfl
    simp only [Act.put, List.setIfInBounds_toArray, List.set_cons_zero, List.set_cons_succ]
    refine takeU 85 (i := 10) rfl rfl (by kernel_rfl) (by kernel_rfl) (by kernel_rfl) (fun _ _ _ h => h) (by kernel_rfl) hS0 ?_
    simp only [Act.put, List.setIfInBounds_toArray, List.set_cons_zero, List.set_cons_succ]
    refine takeU 86 (i := 11) rfl rfl (by kernel_rfl) (by kernel_rfl) (by kernel_rfl) (fun _ _ _ h => h) (by kernel_rfl) hS0 ?_
    simp only [Act.put, List.setIfInBounds_toArray, List.set_cons_zero, List.set_cons_succ]
    refine takeU 87 (i := 12) rfl rfl (by kernel_rfl) (by kernel_rfl) (by kernel_rfl) (fun _ _ _ h => h) (by kernel_rfl) hS0 ?_
    simp only [Act.put, List.setIfInBounds_toArray, List.set_cons_zero, List.set_cons_succ]
    refine takeU 88 (i := 13) rfl rfl (by kernel_rfl) (by kernel_rfl) (by kernel_rfl) (fun _ _ _ h => h) (by kernel_rfl) hS0 ?_
    simp only [Act.put, List.setIfInBounds_toArray, List.set_cons_zero, List.set_cons_succ]
    refine takeU 89 (i := 14) rfl rfl (by kernel_rfl) (by kernel_rfl) (by kernel_rfl) (fun _ _ _ h => h) (by kernel_rfl) hS0 ?_
    simp only [Act.put, List.setIfInBounds_toArray, List.set_cons_zero, List.set_cons_succ]
    refine takeU 90 (i := 15) rfl rfl (by kernel_rfl) (by kernel_rfl) (by kernel_rfl) (fun _ _ _ h => h) (by kernel_rfl) hS0 ?_
    simp only [Act.put, List.setIfInBounds_toArray, List.set_cons_zero, List.set_cons_succ]
    refine takeU 91 (i := 16) rfl rfl (by kernel_rfl) (by kernel_rfl) (by kernel_rfl) (fun _ _ _ h => h) (by kernel_rfl) hS0 ?_
    simp only [Act.put, List.setIfInBounds_toArray, List.set_cons_zero, List.set_cons_succ]
    refine takeU 92 (i := 17) rfl rfl (by kernel_rfl) (by kernel_rfl) (by kernel_rfl) (fun _ _ _ h => h) (by kernel_rfl) hS0 ?_
    simp only [Act.put, List.setIfInBounds_toArray, List.set_cons_zero, List.set_cons_succ]
    refine takeU 93 (i := 18) rfl rfl (by kernel_rfl) (by kernel_rfl) (by kernel_rfl) (fun _ _ _ h => h) (by kernel_rfl) hS0 ?_
    simp only [Act.put, List.setIfInBounds_toArray, List.set_cons_zero, List.set_cons_succ]
    refine takeU 94 (i := 19) rfl rfl (by kernel_rfl) (by kernel_rfl) (by kernel_rfl) (fun _ _ _ h => h) (by kernel_rfl) hS0 ?_
    simp only [Act.put, List.setIfInBounds_toArray, List.set_cons_zero, List.set_cons_succ]
    refine takeU 95 (i := 20) rfl rfl (by kernel_rfl) (by kernel_rfl) (by kernel_rfl) (fun _ _ _ h => h) (by kernel_rfl) hS0 ?_
    simp only [Act.put, List.setIfInBounds_toArray, List.set_cons_zero, List.set_cons_succ]
    refine takeY 96 (i := 21) (v := ?v21d) rfl rfl (by kernel_rfl) (by kernel_rfl) (by kernel_rfl) (fun _ _ _ h => h) (by kernel_rfl) ?y21d hS0 ?_
    case y21d =>
      intro w' hw'; (try dsimp only at hw'); obtain e8 := hw'; go_simp; try with_reducible rfl
    simp only [Act.put, List.setIfInBounds_toArray, List.set_cons_zero, List.set_cons_succ]
    refine takeY 74 (i := 22) (v := ?v22d) rfl rfl (by kernel_rfl) (by kernel_rfl) (by kernel_rfl) (fun _ _ _ h => h) (by kernel_rfl) ?y22d hS0 ?_
    case y22d =>
      intro w' hw'; (try dsimp only at hw'); obtain e8 := hw'; go_simp; try with_reducible rfl
    simp only [Act.put, List.setIfInBounds_toArray, List.set_cons_zero, List.set_cons_succ]
    refine wpAnyH_done (by kernel_rfl) ?_ _
    clear hS0
    generalize hw1 : World.drew w = w1 at *
    clear hw1
    replace c0 := (HB0.out.cell (p := ⟨p, 0, none⟩) hpl).trans c0
    replace c7 := (HB0.out.cell (p := ⟨p, 7, none⟩) hpl).trans c7
    replace c8 := (HB0.out.cell (p := ⟨p, 8, none⟩) hpl).trans c8
    replace d0 := (HB0.out.cell (p := ⟨q, 0, none⟩) hql).trans d0
    replace d8 := (HB0.out.cell (p := ⟨q, 8, none⟩) hql).trans d8
    go_wp2
    go_ret
    exact ⟨⟨_, rfl, .inr ⟨HNo.out, rfl⟩⟩, HB0.out⟩
  have f4 : (rule == 4) = false := by simpa using r4
  have HNo : Hid (∀ s', ¬ RuleT rule (.dual (.base d)) s') := Lib.hid (fun s' h => by cases h <;> contradiction)
  clear r1 r2 r3 r4
  go_enter Tryz.func43, Tryz.ntmps43
  go_wp2
  have hS0 : (fun w' => w'.cell? ⟨p, 8, none⟩ = some (.pointer none)) (World.drew w) := (HB0.out.cell (p := ⟨p, 8, none⟩) hpl).trans c8
  refine wp_region_held (S := fun w' => w'.cell? ⟨p, 8, none⟩ = some (.pointer none)) (by kernel_rfl) ?_
  change wpAnyH _ _ _ _ _ _ _ _ (World.drew _)
  refine takeY 75 (i := 0) (v := ?v0e) rfl rfl (by kernel_rfl) (by kernel_rfl) (by kernel_rfl) (fun _ _ _ h => h) (by kernel_rfl) ?y0e hS0 ?_
  case y0e =>
    intro w' hw'; (try dsimp only at hw'); obtain e8 := hw'; go_simp; try with_reducible rfl
  simp only [Act.put, List.setIfInBounds_toArray, List.set_cons_zero, List.set_cons_succ]
  refine takeY 76 (i := 1) (v := ?v1e) rfl rfl (by kernel_rfl) (by kernel_rfl) (by kernel_rfl) (fun _ _ _ h => h) (by kernel_rfl) ?y1e hS0 ?_
  case y1e =>
    intro w' hw'; (try dsimp only at hw'); obtain e8 := hw'; go_simp; try with_reducible rfl
  simp only [Act.put, List.setIfInBounds_toArray, List.set_cons_zero, List.set_cons_succ]
  refine takeY 77 (i := 2) (v := ?v2e) rfl rfl (by kernel_rfl) (by kernel_rfl) (by kernel_rfl) (fun _ _ _ h => h) (by kernel_rfl) ?y2e hS0 ?_
  case y2e =>
    intro w' hw'; (try dsimp only at hw'); obtain e8 := hw'; go_simp; try with_reducible rfl
  simp only [Act.put, List.setIfInBounds_toArray, List.set_cons_zero, List.set_cons_succ]
  refine takeU 78 (i := 3) rfl rfl (by kernel_rfl) (by kernel_rfl) (by kernel_rfl) (fun _ _ _ h => h) (by kernel_rfl) hS0 ?_
  simp only [Act.put, List.setIfInBounds_toArray, List.set_cons_zero, List.set_cons_succ]
  refine takeU 79 (i := 4) rfl rfl (by kernel_rfl) (by kernel_rfl) (by kernel_rfl) (fun _ _ _ h => h) (by kernel_rfl) hS0 ?_
  simp only [Act.put, List.setIfInBounds_toArray, List.set_cons_zero, List.set_cons_succ]
  refine takeU 80 (i := 5) rfl rfl (by kernel_rfl) (by kernel_rfl) (by kernel_rfl) (fun _ _ _ h => h) (by kernel_rfl) hS0 ?_
  simp only [Act.put, List.setIfInBounds_toArray, List.set_cons_zero, List.set_cons_succ]
  refine takeU 81 (i := 6) rfl rfl (by kernel_rfl) (by kernel_rfl) (by kernel_rfl) (fun _ _ _ h => h) (by kernel_rfl) hS0 ?_
  simp only [Act.put, List.setIfInBounds_toArray, List.set_cons_zero, List.set_cons_succ]
  refine takeU 82 (i := 7) rfl rfl (by kernel_rfl) (by kernel_rfl) (by kernel_rfl) (fun _ _ _ h => h) (by kernel_rfl) hS0 ?_
  simp only [Act.put, List.setIfInBounds_toArray, List.set_cons_zero, List.set_cons_succ]
  refine takeY 83 (i := 8) (v := ?v8e) rfl rfl (by kernel_rfl) (by kernel_rfl) (by kernel_rfl) (fun _ _ _ h => h) (by kernel_rfl) ?y8e hS0 ?_
  case y8e =>
    intro w' hw'; (try dsimp only at hw'); obtain e8 := hw'; go_simp; try with_reducible rfl
  simp only [Act.put, List.setIfInBounds_toArray, List.set_cons_zero, List.set_cons_succ]
  refine takeY 84 (i := 9) (v := ?v9e) rfl rfl (by kernel_rfl) (by kernel_rfl) (by kernel_rfl) (fun _ _ _ h => h) (by kernel_rfl) ?y9e hS0 ?_
  case y9e =>
    intro w' hw'; (try dsimp only at hw'); obtain e8 := hw'; go_simp; try with_reducible rfl
  simp only [Act.put, List.setIfInBounds_toArray, List.set_cons_zero, List.set_cons_succ]
  refine takeU 85 (i := 10) rfl rfl (by kernel_rfl) (by kernel_rfl) (by kernel_rfl) (fun _ _ _ h => h) (by kernel_rfl) hS0 ?_
  simp only [Act.put, List.setIfInBounds_toArray, List.set_cons_zero, List.set_cons_succ]
  refine takeU 86 (i := 11) rfl rfl (by kernel_rfl) (by kernel_rfl) (by kernel_rfl) (fun _ _ _ h => h) (by kernel_rfl) hS0 ?_
  simp only [Act.put, List.setIfInBounds_toArray, List.set_cons_zero, List.set_cons_succ]
  refine takeU 87 (i := 12) rfl rfl (by kernel_rfl) (by kernel_rfl) (by kernel_rfl) (fun _ _ _ h => h) (by kernel_rfl) hS0 ?_
  simp only [Act.put, List.setIfInBounds_toArray, List.set_cons_zero, List.set_cons_succ]
  refine takeU 88 (i := 13) rfl rfl (by kernel_rfl) (by kernel_rfl) (by kernel_rfl) (fun _ _ _ h => h) (by kernel_rfl) hS0 ?_
  simp only [Act.put, List.setIfInBounds_toArray, List.set_cons_zero, List.set_cons_succ]
  refine takeU 89 (i := 14) rfl rfl (by kernel_rfl) (by kernel_rfl) (by kernel_rfl) (fun _ _ _ h => h) (by kernel_rfl) hS0 ?_
  simp only [Act.put, List.setIfInBounds_toArray, List.set_cons_zero, List.set_cons_succ]
  refine takeU 90 (i := 15) rfl rfl (by kernel_rfl) (by kernel_rfl) (by kernel_rfl) (fun _ _ _ h => h) (by kernel_rfl) hS0 ?_
  simp only [Act.put, List.setIfInBounds_toArray, List.set_cons_zero, List.set_cons_succ]
  refine takeU 91 (i := 16) rfl rfl (by kernel_rfl) (by kernel_rfl) (by kernel_rfl) (fun _ _ _ h => h) (by kernel_rfl) hS0 ?_
  simp only [Act.put, List.setIfInBounds_toArray, List.set_cons_zero, List.set_cons_succ]
  refine takeU 92 (i := 17) rfl rfl (by kernel_rfl) (by kernel_rfl) (by kernel_rfl) (fun _ _ _ h => h) (by kernel_rfl) hS0 ?_
  simp only [Act.put, List.setIfInBounds_toArray, List.set_cons_zero, List.set_cons_succ]
  refine takeU 93 (i := 18) rfl rfl (by kernel_rfl) (by kernel_rfl) (by kernel_rfl) (fun _ _ _ h => h) (by kernel_rfl) hS0 ?_
  simp only [Act.put, List.setIfInBounds_toArray, List.set_cons_zero, List.set_cons_succ]
  refine takeU 94 (i := 19) rfl rfl (by kernel_rfl) (by kernel_rfl) (by kernel_rfl) (fun _ _ _ h => h) (by kernel_rfl) hS0 ?_
  simp only [Act.put, List.setIfInBounds_toArray, List.set_cons_zero, List.set_cons_succ]
  refine takeU 95 (i := 20) rfl rfl (by kernel_rfl) (by kernel_rfl) (by kernel_rfl) (fun _ _ _ h => h) (by kernel_rfl) hS0 ?_
  simp only [Act.put, List.setIfInBounds_toArray, List.set_cons_zero, List.set_cons_succ]
  refine takeY 96 (i := 21) (v := ?v21e) rfl rfl (by kernel_rfl) (by kernel_rfl) (by kernel_rfl) (fun _ _ _ h => h) (by kernel_rfl) ?y21e hS0 ?_
  case y21e =>
    intro w' hw'; (try dsimp only at hw'); obtain e8 := hw'; go_simp; try with_reducible rfl
  simp only [Act.put, List.setIfInBounds_toArray, List.set_cons_zero, List.set_cons_succ]
  refine takeY 74 (i := 22) (v := ?v22e) rfl rfl (by kernel_rfl) (by kernel_rfl) (by kernel_rfl) (fun _ _ _ h => h) (by kernel_rfl) ?y22e hS0 ?_
  case y22e =>
    intro w' hw'; (try dsimp only at hw'); obtain e8 := hw'; go_simp; try with_reducible rfl
  simp only [Act.put, List.setIfInBounds_toArray, List.set_cons_zero, List.set_cons_succ]
  refine wpAnyH_done (by kernel_rfl) ?_ _
  clear hS0
  generalize hw1 : World.drew w = w1 at *
  clear hw1
  replace c0 := (HB0.out.cell (p := ⟨p, 0, none⟩) hpl).trans c0
  replace c7 := (HB0.out.cell (p := ⟨p, 7, none⟩) hpl).trans c7
  replace c8 := (HB0.out.cell (p := ⟨p, 8, none⟩) hpl).trans c8
  replace d0 := (HB0.out.cell (p := ⟨q, 0, none⟩) hql).trans d0
  replace d8 := (HB0.out.cell (p := ⟨q, 8, none⟩) hql).trans d8
  go_wp2
  go_ret
  exact ⟨⟨_, rfl, .inr ⟨HNo.out, rfl⟩⟩, HB0.out⟩
set_option maxRecDepth 20000 in
set_option maxHeartbeats 3200000 in
theorem rew_dual_dual (w : World) (B lo p : Nat) (rule : Int) (a : Tr) (hpa : PartAt w B lo (.dual (.dual a)) p) (hB : B ≤ w.heap.size) (hlo : lo ≤ w.heap.size) :
    Calls Tryz.prog 43 #[.pointer (some ⟨p, 0, none⟩), .int .i64 rule] w fun e w' => (∃ v, e = .returned v ∧ RewV w' B lo rule (.dual (.dual a)) v) ∧ Below w.heap.size w w' := by
  obtain ⟨_, hpl, t, q, hrow, hno, hsh, hwi, hqa⟩ := hpa
  have HRow := Lib.hid hrow
  have HNW := Lib.hid (And.intro hno (And.intro hsh hwi))
  have c0 := part0 hrow
  have c7 := part7 hrow
  have c8 := part8 hrow
  clear hrow hno hsh hwi
  obtain ⟨_, hql, t', q', hrow', -, -, -, hqq⟩ := hqa
  have d7 := part7 hrow'
  have d0 := part0 hrow'
  have d8 := part8 hrow'
  clear hrow'
  have HB0 : Hid (Below w.heap.size w (World.drew w)) := Lib.hid (Below.refl _ _).drew
  by_cases r1 : rule = 1
  · subst r1
    have HF := Lib.hid hqq
    clear hqq
    go_enter Tryz.func43, Tryz.ntmps43
    go_wp2
    go_ret
    exact ⟨⟨_, rfl, .inl ⟨_, _, .dd _, rfl, HF.out⟩⟩, Below.refl _ _⟩
  have f1 : (rule == 1) = false := by simpa using r1
  by_cases r2 : rule = 2
  · subst r2
    clear r1 f1
    clear hqq
    have HNo : Hid (∀ s', ¬ RuleT 2 (.dual (.dual a)) s') := Lib.hid (fun s' h => by cases h)
    go_enter Tryz.func43, Tryz.ntmps43
    go_wp2
    have hS0 : (fun w' => w'.cell? ⟨p, 8, none⟩ = some (.pointer none)) (World.drew w) := (HB0.out.cell (p := ⟨p, 8, none⟩) hpl).trans c8
    refine wp_region_held (S := fun w' => w'.cell? ⟨p, 8, none⟩ = some (.pointer none)) (by kernel_rfl) ?_
    change wpAnyH _ _ _ _ _ _ _ _ (World.drew _)
    refine takeY 75 (i := 0) (v := ?v0a) rfl rfl (by kernel_rfl) (by kernel_rfl) (by kernel_rfl) (fun _ _ _ h => h) (by kernel_rfl) ?y0a hS0 ?_
    case y0a =>
      intro w' hw'; (try dsimp only at hw'); obtain e8 := hw'; go_simp; try with_reducible rfl
    simp only [Act.put, List.setIfInBounds_toArray, List.set_cons_zero, List.set_cons_succ]
    refine takeY 76 (i := 1) (v := ?v1a) rfl rfl (by kernel_rfl) (by kernel_rfl) (by kernel_rfl) (fun _ _ _ h => h) (by kernel_rfl) ?y1a hS0 ?_
    case y1a =>
      intro w' hw'; (try dsimp only at hw'); obtain e8 := hw'; go_simp; try with_reducible rfl
    simp only [Act.put, List.setIfInBounds_toArray, List.set_cons_zero, List.set_cons_succ]
    refine takeY 77 (i := 2) (v := ?v2a) rfl rfl (by kernel_rfl) (by kernel_rfl) (by kernel_rfl) (fun _ _ _ h => h) (by kernel_rfl) ?y2a hS0 ?_
    case y2a =>
      intro w' hw'; (try dsimp only at hw'); obtain e8 := hw'; go_simp; try with_reducible rfl
    simp only [Act.put, List.setIfInBounds_toArray, List.set_cons_zero, List.set_cons_succ]
    refine takeU 78 (i := 3) rfl rfl (by kernel_rfl) (by kernel_rfl) (by kernel_rfl) (fun _ _ _ h => h) (by kernel_rfl) hS0 ?_
    simp only [Act.put, List.setIfInBounds_toArray, List.set_cons_zero, List.set_cons_succ]
    refine takeU 79 (i := 4) rfl rfl (by kernel_rfl) (by kernel_rfl) (by kernel_rfl) (fun _ _ _ h => h) (by kernel_rfl) hS0 ?_
    simp only [Act.put, List.setIfInBounds_toArray, List.set_cons_zero, List.set_cons_succ]
    refine takeU 80 (i := 5) rfl rfl (by kernel_rfl) (by kernel_rfl) (by kernel_rfl) (fun _ _ _ h => h) (by kernel_rfl) hS0 ?_
    simp only [Act.put, List.setIfInBounds_toArray, List.set_cons_zero, List.set_cons_succ]
    refine takeU 81 (i := 6) rfl rfl (by kernel_rfl) (by kernel_rfl) (by kernel_rfl) (fun _ _ _ h => h) (by kernel_rfl) hS0 ?_
    simp only [Act.put, List.setIfInBounds_toArray, List.set_cons_zero, List.set_cons_succ]
    refine takeU 82 (i := 7) rfl rfl (by kernel_rfl) (by kernel_rfl) (by kernel_rfl) (fun _ _ _ h => h) (by kernel_rfl) hS0 ?_
    simp only [Act.put, List.setIfInBounds_toArray, List.set_cons_zero, List.set_cons_succ]
    refine takeY 83 (i := 8) (v := ?v8a) rfl rfl (by kernel_rfl) (by kernel_rfl) (by kernel_rfl) (fun _ _ _ h => h) (by kernel_rfl) ?y8a hS0 ?_
    case y8a =>
      intro w' hw'; (try dsimp only at hw'); obtain e8 := hw'; go_simp; try with_reducible rfl
    simp only [Act.put, List.setIfInBounds_toArray, List.set_cons_zero, List.set_cons_succ]
    refine takeY 84 (i := 9) (v := ?v9a) rfl rfl (by kernel_rfl) (by kernel_rfl) (by kernel_rfl) (fun _ _ _ h => h) (by kernel_rfl) ?y9a hS0 ?_
    case y9a =>
      intro w' hw'; (try dsimp only at hw'); obtain e8 := hw'; go_simp; try with_reducible rfl
    simp only [Act.put, List.setIfInBounds_toArray, List.set_cons_zero, List.set_cons_succ]
    refine takeU 85 (i := 10) rfl rfl (by kernel_rfl) (by kernel_rfl) (by kernel_rfl) (fun _ _ _ h => h) (by kernel_rfl) hS0 ?_
    simp only [Act.put, List.setIfInBounds_toArray, List.set_cons_zero, List.set_cons_succ]
    refine takeU 86 (i := 11) rfl rfl (by kernel_rfl) (by kernel_rfl) (by kernel_rfl) (fun _ _ _ h => h) (by kernel_rfl) hS0 ?_
    simp only [Act.put, List.setIfInBounds_toArray, List.set_cons_zero, List.set_cons_succ]
    refine takeU 87 (i := 12) rfl rfl (by kernel_rfl) (by kernel_rfl) (by kernel_rfl) (fun _ _ _ h => h) (by kernel_rfl) hS0 ?_
    simp only [Act.put, List.setIfInBounds_toArray, List.set_cons_zero, List.set_cons_succ]
    refine takeU 88 (i := 13) rfl rfl (by kernel_rfl) (by kernel_rfl) (by kernel_rfl) (fun _ _ _ h => h) (by kernel_rfl) hS0 ?_
    simp only [Act.put, List.setIfInBounds_toArray, List.set_cons_zero, List.set_cons_succ]
    refine takeU 89 (i := 14) rfl rfl (by kernel_rfl) (by kernel_rfl) (by kernel_rfl) (fun _ _ _ h => h) (by kernel_rfl) hS0 ?_
    simp only [Act.put, List.setIfInBounds_toArray, List.set_cons_zero, List.set_cons_succ]
    refine takeU 90 (i := 15) rfl rfl (by kernel_rfl) (by kernel_rfl) (by kernel_rfl) (fun _ _ _ h => h) (by kernel_rfl) hS0 ?_
    simp only [Act.put, List.setIfInBounds_toArray, List.set_cons_zero, List.set_cons_succ]
    refine takeU 91 (i := 16) rfl rfl (by kernel_rfl) (by kernel_rfl) (by kernel_rfl) (fun _ _ _ h => h) (by kernel_rfl) hS0 ?_
    simp only [Act.put, List.setIfInBounds_toArray, List.set_cons_zero, List.set_cons_succ]
    refine takeU 92 (i := 17) rfl rfl (by kernel_rfl) (by kernel_rfl) (by kernel_rfl) (fun _ _ _ h => h) (by kernel_rfl) hS0 ?_
    simp only [Act.put, List.setIfInBounds_toArray, List.set_cons_zero, List.set_cons_succ]
    refine takeU 93 (i := 18) rfl rfl (by kernel_rfl) (by kernel_rfl) (by kernel_rfl) (fun _ _ _ h => h) (by kernel_rfl) hS0 ?_
    simp only [Act.put, List.setIfInBounds_toArray, List.set_cons_zero, List.set_cons_succ]
    refine takeU 94 (i := 19) rfl rfl (by kernel_rfl) (by kernel_rfl) (by kernel_rfl) (fun _ _ _ h => h) (by kernel_rfl) hS0 ?_
    simp only [Act.put, List.setIfInBounds_toArray, List.set_cons_zero, List.set_cons_succ]
    refine takeU 95 (i := 20) rfl rfl (by kernel_rfl) (by kernel_rfl) (by kernel_rfl) (fun _ _ _ h => h) (by kernel_rfl) hS0 ?_
    simp only [Act.put, List.setIfInBounds_toArray, List.set_cons_zero, List.set_cons_succ]
    refine takeY 96 (i := 21) (v := ?v21a) rfl rfl (by kernel_rfl) (by kernel_rfl) (by kernel_rfl) (fun _ _ _ h => h) (by kernel_rfl) ?y21a hS0 ?_
    case y21a =>
      intro w' hw'; (try dsimp only at hw'); obtain e8 := hw'; go_simp; try with_reducible rfl
    simp only [Act.put, List.setIfInBounds_toArray, List.set_cons_zero, List.set_cons_succ]
    refine takeY 74 (i := 22) (v := ?v22a) rfl rfl (by kernel_rfl) (by kernel_rfl) (by kernel_rfl) (fun _ _ _ h => h) (by kernel_rfl) ?y22a hS0 ?_
    case y22a =>
      intro w' hw'; (try dsimp only at hw'); obtain e8 := hw'; go_simp; try with_reducible rfl
    simp only [Act.put, List.setIfInBounds_toArray, List.set_cons_zero, List.set_cons_succ]
    refine wpAnyH_done (by kernel_rfl) ?_ _
    clear hS0
    generalize hw1 : World.drew w = w1 at *
    clear hw1
    replace c0 := (HB0.out.cell (p := ⟨p, 0, none⟩) hpl).trans c0
    replace c7 := (HB0.out.cell (p := ⟨p, 7, none⟩) hpl).trans c7
    replace c8 := (HB0.out.cell (p := ⟨p, 8, none⟩) hpl).trans c8
    replace d0 := (HB0.out.cell (p := ⟨q, 0, none⟩) hql).trans d0
    replace d8 := (HB0.out.cell (p := ⟨q, 8, none⟩) hql).trans d8
    go_wp2
    go_ret
    exact ⟨⟨_, rfl, .inr ⟨HNo.out, rfl⟩⟩, HB0.out⟩
  have f2 : (rule == 2) = false := by simpa using r2
  by_cases r3 : rule = 3
  · subst r3
    clear r1 f1 r2 f2
    clear hqq
    have HNo : Hid (∀ s', ¬ RuleT 3 (.dual (.dual a)) s') := Lib.hid (fun s' h => by cases h)
    go_enter Tryz.func43, Tryz.ntmps43
    go_wp2
    have hS0 : (fun w' => w'.cell? ⟨p, 8, none⟩ = some (.pointer none)) (World.drew w) := (HB0.out.cell (p := ⟨p, 8, none⟩) hpl).trans c8
    refine wp_region_held (S := fun w' => w'.cell? ⟨p, 8, none⟩ = some (.pointer none)) (by kernel_rfl) ?_
    change wpAnyH _ _ _ _ _ _ _ _ (World.drew _)
    refine takeY 75 (i := 0) (v := ?v0b) rfl rfl (by kernel_rfl) (by kernel_rfl) (by kernel_rfl) (fun _ _ _ h => h) (by kernel_rfl) ?y0b hS0 ?_
    case y0b =>
      intro w' hw'; (try dsimp only at hw'); obtain e8 := hw'; go_simp; try with_reducible rfl
    simp only [Act.put, List.setIfInBounds_toArray, List.set_cons_zero, List.set_cons_succ]
    refine takeY 76 (i := 1) (v := ?v1b) rfl rfl (by kernel_rfl) (by kernel_rfl) (by kernel_rfl) (fun _ _ _ h => h) (by kernel_rfl) ?y1b hS0 ?_
    case y1b =>
      intro w' hw'; (try dsimp only at hw'); obtain e8 := hw'; go_simp; try with_reducible rfl
    simp only [Act.put, List.setIfInBounds_toArray, List.set_cons_zero, List.set_cons_succ]
    refine takeY 77 (i := 2) (v := ?v2b) rfl rfl (by kernel_rfl) (by kernel_rfl) (by kernel_rfl) (fun _ _ _ h => h) (by kernel_rfl) ?y2b hS0 ?_
    case y2b =>
      intro w' hw'; (try dsimp only at hw'); obtain e8 := hw'; go_simp; try with_reducible rfl
    simp only [Act.put, List.setIfInBounds_toArray, List.set_cons_zero, List.set_cons_succ]
    refine takeY 78 (i := 3) (v := ?v3b) rfl rfl (by kernel_rfl) (by kernel_rfl) (by kernel_rfl) (fun _ _ _ h => h) (by kernel_rfl) ?y3b hS0 ?_
    case y3b =>
      intro w' hw'; (try dsimp only at hw'); obtain e8 := hw'; go_simp; try with_reducible rfl
    simp only [Act.put, List.setIfInBounds_toArray, List.set_cons_zero, List.set_cons_succ]
    refine takeY 79 (i := 4) (v := ?v4b) rfl rfl (by kernel_rfl) (by kernel_rfl) (by kernel_rfl) (fun _ _ _ h => h) (by kernel_rfl) ?y4b hS0 ?_
    case y4b =>
      intro w' hw'; (try dsimp only at hw'); obtain e8 := hw'; go_simp; try with_reducible rfl
    simp only [Act.put, List.setIfInBounds_toArray, List.set_cons_zero, List.set_cons_succ]
    refine takeY 80 (i := 5) (v := ?v5b) rfl rfl (by kernel_rfl) (by kernel_rfl) (by kernel_rfl) (fun _ _ _ h => h) (by kernel_rfl) ?y5b hS0 ?_
    case y5b =>
      intro w' hw'; (try dsimp only at hw'); obtain e8 := hw'; go_simp; try with_reducible rfl
    simp only [Act.put, List.setIfInBounds_toArray, List.set_cons_zero, List.set_cons_succ]
    refine takeY 81 (i := 6) (v := ?v6b) rfl rfl (by kernel_rfl) (by kernel_rfl) (by kernel_rfl) (fun _ _ _ h => h) (by kernel_rfl) ?y6b hS0 ?_
    case y6b =>
      intro w' hw'; (try dsimp only at hw'); obtain e8 := hw'; go_simp; try with_reducible rfl
    simp only [Act.put, List.setIfInBounds_toArray, List.set_cons_zero, List.set_cons_succ]
    refine takeY 82 (i := 7) (v := ?v7b) rfl rfl (by kernel_rfl) (by kernel_rfl) (by kernel_rfl) (fun _ _ _ h => h) (by kernel_rfl) ?y7b hS0 ?_
    case y7b =>
      intro w' hw'; (try dsimp only at hw'); obtain e8 := hw'; go_simp; try with_reducible rfl
    simp only [Act.put, List.setIfInBounds_toArray, List.set_cons_zero, List.set_cons_succ]
    refine takeY 83 (i := 8) (v := ?v8b) rfl rfl (by kernel_rfl) (by kernel_rfl) (by kernel_rfl) (fun _ _ _ h => h) (by kernel_rfl) ?y8b hS0 ?_
    case y8b =>
      intro w' hw'; (try dsimp only at hw'); obtain e8 := hw'; go_simp; try with_reducible rfl
    simp only [Act.put, List.setIfInBounds_toArray, List.set_cons_zero, List.set_cons_succ]
    refine takeY 84 (i := 9) (v := ?v9b) rfl rfl (by kernel_rfl) (by kernel_rfl) (by kernel_rfl) (fun _ _ _ h => h) (by kernel_rfl) ?y9b hS0 ?_
    case y9b =>
      intro w' hw'; (try dsimp only at hw'); obtain e8 := hw'; go_simp; try with_reducible rfl
    simp only [Act.put, List.setIfInBounds_toArray, List.set_cons_zero, List.set_cons_succ]
    refine takeU 85 (i := 10) rfl rfl (by kernel_rfl) (by kernel_rfl) (by kernel_rfl) (fun _ _ _ h => h) (by kernel_rfl) hS0 ?_
    simp only [Act.put, List.setIfInBounds_toArray, List.set_cons_zero, List.set_cons_succ]
    refine takeU 86 (i := 11) rfl rfl (by kernel_rfl) (by kernel_rfl) (by kernel_rfl) (fun _ _ _ h => h) (by kernel_rfl) hS0 ?_
    simp only [Act.put, List.setIfInBounds_toArray, List.set_cons_zero, List.set_cons_succ]
    refine takeU 87 (i := 12) rfl rfl (by kernel_rfl) (by kernel_rfl) (by kernel_rfl) (fun _ _ _ h => h) (by kernel_rfl) hS0 ?_
    simp only [Act.put, List.setIfInBounds_toArray, List.set_cons_zero, List.set_cons_succ]
    refine takeU 88 (i := 13) rfl rfl (by kernel_rfl) (by kernel_rfl) (by kernel_rfl) (fun _ _ _ h => h) (by kernel_rfl) hS0 ?_
    simp only [Act.put, List.setIfInBounds_toArray, List.set_cons_zero, List.set_cons_succ]
    refine takeU 89 (i := 14) rfl rfl (by kernel_rfl) (by kernel_rfl) (by kernel_rfl) (fun _ _ _ h => h) (by kernel_rfl) hS0 ?_
    simp only [Act.put, List.setIfInBounds_toArray, List.set_cons_zero, List.set_cons_succ]
    refine takeU 90 (i := 15) rfl rfl (by kernel_rfl) (by kernel_rfl) (by kernel_rfl) (fun _ _ _ h => h) (by kernel_rfl) hS0 ?_
    simp only [Act.put, List.setIfInBounds_toArray, List.set_cons_zero, List.set_cons_succ]
    refine takeU 91 (i := 16) rfl rfl (by kernel_rfl) (by kernel_rfl) (by kernel_rfl) (fun _ _ _ h => h) (by kernel_rfl) hS0 ?_
    simp only [Act.put, List.setIfInBounds_toArray, List.set_cons_zero, List.set_cons_succ]
    refine takeU 92 (i := 17) rfl rfl (by kernel_rfl) (by kernel_rfl) (by kernel_rfl) (fun _ _ _ h => h) (by kernel_rfl) hS0 ?_
    simp only [Act.put, List.setIfInBounds_toArray, List.set_cons_zero, List.set_cons_succ]
    refine takeU 93 (i := 18) rfl rfl (by kernel_rfl) (by kernel_rfl) (by kernel_rfl) (fun _ _ _ h => h) (by kernel_rfl) hS0 ?_
    simp only [Act.put, List.setIfInBounds_toArray, List.set_cons_zero, List.set_cons_succ]
    refine takeU 94 (i := 19) rfl rfl (by kernel_rfl) (by kernel_rfl) (by kernel_rfl) (fun _ _ _ h => h) (by kernel_rfl) hS0 ?_
    simp only [Act.put, List.setIfInBounds_toArray, List.set_cons_zero, List.set_cons_succ]
    refine takeU 95 (i := 20) rfl rfl (by kernel_rfl) (by kernel_rfl) (by kernel_rfl) (fun _ _ _ h => h) (by kernel_rfl) hS0 ?_
    simp only [Act.put, List.setIfInBounds_toArray, List.set_cons_zero, List.set_cons_succ]
    refine takeY 96 (i := 21) (v := ?v21b) rfl rfl (by kernel_rfl) (by kernel_rfl) (by kernel_rfl) (fun _ _ _ h => h) (by kernel_rfl) ?y21b hS0 ?_
    case y21b =>
      intro w' hw'; (try dsimp only at hw'); obtain e8 := hw'; go_simp; try with_reducible rfl
    simp only [Act.put, List.setIfInBounds_toArray, List.set_cons_zero, List.set_cons_succ]
    refine takeY 74 (i := 22) (v := ?v22b) rfl rfl (by kernel_rfl) (by kernel_rfl) (by kernel_rfl) (fun _ _ _ h => h) (by kernel_rfl) ?y22b hS0 ?_
    case y22b =>
      intro w' hw'; (try dsimp only at hw'); obtain e8 := hw'; go_simp; try with_reducible rfl
    simp only [Act.put, List.setIfInBounds_toArray, List.set_cons_zero, List.set_cons_succ]
    refine wpAnyH_done (by kernel_rfl) ?_ _
    clear hS0
    generalize hw1 : World.drew w = w1 at *
    clear hw1
    replace c0 := (HB0.out.cell (p := ⟨p, 0, none⟩) hpl).trans c0
    replace c7 := (HB0.out.cell (p := ⟨p, 7, none⟩) hpl).trans c7
    replace c8 := (HB0.out.cell (p := ⟨p, 8, none⟩) hpl).trans c8
    replace d0 := (HB0.out.cell (p := ⟨q, 0, none⟩) hql).trans d0
    replace d8 := (HB0.out.cell (p := ⟨q, 8, none⟩) hql).trans d8
    go_wp2
    go_ret
    exact ⟨⟨_, rfl, .inr ⟨HNo.out, rfl⟩⟩, HB0.out⟩
  have f3 : (rule == 3) = false := by simpa using r3
  by_cases r4 : rule = 4
  · subst r4
    clear r1 f1 r2 f2 r3 f3
    clear hqq
    have HNo : Hid (∀ s', ¬ RuleT 4 (.dual (.dual a)) s') := Lib.hid (fun s' h => by cases h)
    go_enter Tryz.func43, Tryz.ntmps43
    go_wp2
    have hS0 : (fun w' => w'.cell? ⟨p, 8, none⟩ = some (.pointer none)) (World.drew w) := (HB0.out.cell (p := ⟨p, 8, none⟩) hpl).trans c8
    refine wp_region_held (S := fun w' => w'.cell? ⟨p, 8, none⟩ = some (.pointer none)) (by kernel_rfl) ?_
    change wpAnyH _ _ _ _ _ _ _ _ (World.drew _)
    refine takeY 75 (i := 0) (v := ?v0c) rfl rfl (by kernel_rfl) (by kernel_rfl) (by kernel_rfl) (fun _ _ _ h => h) (by kernel_rfl) ?y0c hS0 ?_
    case y0c =>
      intro w' hw'; (try dsimp only at hw'); obtain e8 := hw'; go_simp; try with_reducible rfl
    simp only [Act.put, List.setIfInBounds_toArray, List.set_cons_zero, List.set_cons_succ]
    refine takeY 76 (i := 1) (v := ?v1c) rfl rfl (by kernel_rfl) (by kernel_rfl) (by kernel_rfl) (fun _ _ _ h => h) (by kernel_rfl) ?y1c hS0 ?_
    case y1c =>
      intro w' hw'; (try dsimp only at hw'); obtain e8 := hw'; go_simp; try with_reducible rfl
    simp only [Act.put, List.setIfInBounds_toArray, List.set_cons_zero, List.set_cons_succ]
    refine takeY 77 (i := 2) (v := ?v2c) rfl rfl (by kernel_rfl) (by kernel_rfl) (by kernel_rfl) (fun _ _ _ h => h) (by kernel_rfl) ?y2c hS0 ?_
    case y2c =>
      intro w' hw'; (try dsimp only at hw'); obtain e8 := hw'; go_simp; try with_reducible rfl
    simp only [Act.put, List.setIfInBounds_toArray, List.set_cons_zero, List.set_cons_succ]
    refine takeU 78 (i := 3) rfl rfl (by kernel_rfl) (by kernel_rfl) (by kernel_rfl) (fun _ _ _ h => h) (by kernel_rfl) hS0 ?_
    simp only [Act.put, List.setIfInBounds_toArray, List.set_cons_zero, List.set_cons_succ]
    refine takeU 79 (i := 4) rfl rfl (by kernel_rfl) (by kernel_rfl) (by kernel_rfl) (fun _ _ _ h => h) (by kernel_rfl) hS0 ?_
    simp only [Act.put, List.setIfInBounds_toArray, List.set_cons_zero, List.set_cons_succ]
    refine takeU 80 (i := 5) rfl rfl (by kernel_rfl) (by kernel_rfl) (by kernel_rfl) (fun _ _ _ h => h) (by kernel_rfl) hS0 ?_
    simp only [Act.put, List.setIfInBounds_toArray, List.set_cons_zero, List.set_cons_succ]
    refine takeU 81 (i := 6) rfl rfl (by kernel_rfl) (by kernel_rfl) (by kernel_rfl) (fun _ _ _ h => h) (by kernel_rfl) hS0 ?_
    simp only [Act.put, List.setIfInBounds_toArray, List.set_cons_zero, List.set_cons_succ]
    refine takeU 82 (i := 7) rfl rfl (by kernel_rfl) (by kernel_rfl) (by kernel_rfl) (fun _ _ _ h => h) (by kernel_rfl) hS0 ?_
    simp only [Act.put, List.setIfInBounds_toArray, List.set_cons_zero, List.set_cons_succ]
    refine takeY 83 (i := 8) (v := ?v8c) rfl rfl (by kernel_rfl) (by kernel_rfl) (by kernel_rfl) (fun _ _ _ h => h) (by kernel_rfl) ?y8c hS0 ?_
    case y8c =>
      intro w' hw'; (try dsimp only at hw'); obtain e8 := hw'; go_simp; try with_reducible rfl
    simp only [Act.put, List.setIfInBounds_toArray, List.set_cons_zero, List.set_cons_succ]
    refine takeY 84 (i := 9) (v := ?v9c) rfl rfl (by kernel_rfl) (by kernel_rfl) (by kernel_rfl) (fun _ _ _ h => h) (by kernel_rfl) ?y9c hS0 ?_
    case y9c =>
      intro w' hw'; (try dsimp only at hw'); obtain e8 := hw'; go_simp; try with_reducible rfl
    simp only [Act.put, List.setIfInBounds_toArray, List.set_cons_zero, List.set_cons_succ]
    refine takeU 85 (i := 10) rfl rfl (by kernel_rfl) (by kernel_rfl) (by kernel_rfl) (fun _ _ _ h => h) (by kernel_rfl) hS0 ?_
    simp only [Act.put, List.setIfInBounds_toArray, List.set_cons_zero, List.set_cons_succ]
    refine takeU 86 (i := 11) rfl rfl (by kernel_rfl) (by kernel_rfl) (by kernel_rfl) (fun _ _ _ h => h) (by kernel_rfl) hS0 ?_
    simp only [Act.put, List.setIfInBounds_toArray, List.set_cons_zero, List.set_cons_succ]
    refine takeU 87 (i := 12) rfl rfl (by kernel_rfl) (by kernel_rfl) (by kernel_rfl) (fun _ _ _ h => h) (by kernel_rfl) hS0 ?_
    simp only [Act.put, List.setIfInBounds_toArray, List.set_cons_zero, List.set_cons_succ]
    refine takeU 88 (i := 13) rfl rfl (by kernel_rfl) (by kernel_rfl) (by kernel_rfl) (fun _ _ _ h => h) (by kernel_rfl) hS0 ?_
    simp only [Act.put, List.setIfInBounds_toArray, List.set_cons_zero, List.set_cons_succ]
    refine takeU 89 (i := 14) rfl rfl (by kernel_rfl) (by kernel_rfl) (by kernel_rfl) (fun _ _ _ h => h) (by kernel_rfl) hS0 ?_
    simp only [Act.put, List.setIfInBounds_toArray, List.set_cons_zero, List.set_cons_succ]
    refine takeU 90 (i := 15) rfl rfl (by kernel_rfl) (by kernel_rfl) (by kernel_rfl) (fun _ _ _ h => h) (by kernel_rfl) hS0 ?_
    simp only [Act.put, List.setIfInBounds_toArray, List.set_cons_zero, List.set_cons_succ]
    refine takeU 91 (i := 16) rfl rfl (by kernel_rfl) (by kernel_rfl) (by kernel_rfl) (fun _ _ _ h => h) (by kernel_rfl) hS0 ?_
    simp only [Act.put, List.setIfInBounds_toArray, List.set_cons_zero, List.set_cons_succ]
    refine takeU 92 (i := 17) rfl rfl (by kernel_rfl) (by kernel_rfl) (by kernel_rfl) (fun _ _ _ h => h) (by kernel_rfl) hS0 ?_
    simp only [Act.put, List.setIfInBounds_toArray, List.set_cons_zero, List.set_cons_succ]
    refine takeU 93 (i := 18) rfl rfl (by kernel_rfl) (by kernel_rfl) (by kernel_rfl) (fun _ _ _ h => h) (by kernel_rfl) hS0 ?_
    simp only [Act.put, List.setIfInBounds_toArray, List.set_cons_zero, List.set_cons_succ]
    refine takeU 94 (i := 19) rfl rfl (by kernel_rfl) (by kernel_rfl) (by kernel_rfl) (fun _ _ _ h => h) (by kernel_rfl) hS0 ?_
    simp only [Act.put, List.setIfInBounds_toArray, List.set_cons_zero, List.set_cons_succ]
    refine takeU 95 (i := 20) rfl rfl (by kernel_rfl) (by kernel_rfl) (by kernel_rfl) (fun _ _ _ h => h) (by kernel_rfl) hS0 ?_
    simp only [Act.put, List.setIfInBounds_toArray, List.set_cons_zero, List.set_cons_succ]
    refine takeY 96 (i := 21) (v := ?v21c) rfl rfl (by kernel_rfl) (by kernel_rfl) (by kernel_rfl) (fun _ _ _ h => h) (by kernel_rfl) ?y21c hS0 ?_
    case y21c =>
      intro w' hw'; (try dsimp only at hw'); obtain e8 := hw'; go_simp; try with_reducible rfl
    simp only [Act.put, List.setIfInBounds_toArray, List.set_cons_zero, List.set_cons_succ]
    refine takeY 74 (i := 22) (v := ?v22c) rfl rfl (by kernel_rfl) (by kernel_rfl) (by kernel_rfl) (fun _ _ _ h => h) (by kernel_rfl) ?y22c hS0 ?_
    case y22c =>
      intro w' hw'; (try dsimp only at hw'); obtain e8 := hw'; go_simp; try with_reducible rfl
    simp only [Act.put, List.setIfInBounds_toArray, List.set_cons_zero, List.set_cons_succ]
    refine wpAnyH_done (by kernel_rfl) ?_ _
    clear hS0
    generalize hw1 : World.drew w = w1 at *
    clear hw1
    replace c0 := (HB0.out.cell (p := ⟨p, 0, none⟩) hpl).trans c0
    replace c7 := (HB0.out.cell (p := ⟨p, 7, none⟩) hpl).trans c7
    replace c8 := (HB0.out.cell (p := ⟨p, 8, none⟩) hpl).trans c8
    replace d0 := (HB0.out.cell (p := ⟨q, 0, none⟩) hql).trans d0
    replace d8 := (HB0.out.cell (p := ⟨q, 8, none⟩) hql).trans d8
    go_wp2
    go_ret
    exact ⟨⟨_, rfl, .inr ⟨HNo.out, rfl⟩⟩, HB0.out⟩
  have f4 : (rule == 4) = false := by simpa using r4
  clear hqq
  have HNo : Hid (∀ s', ¬ RuleT rule (.dual (.dual a)) s') := Lib.hid (fun s' h => by cases h <;> contradiction)
  clear r1 r2 r3 r4
  go_enter Tryz.func43, Tryz.ntmps43
  go_wp2
  have hS0 : (fun w' => w'.cell? ⟨p, 8, none⟩ = some (.pointer none)) (World.drew w) := (HB0.out.cell (p := ⟨p, 8, none⟩) hpl).trans c8
  refine wp_region_held (S := fun w' => w'.cell? ⟨p, 8, none⟩ = some (.pointer none)) (by kernel_rfl) ?_
  change wpAnyH _ _ _ _ _ _ _ _ (World.drew _)
  refine takeY 75 (i := 0) (v := ?v0d) rfl rfl (by kernel_rfl) (by kernel_rfl) (by kernel_rfl) (fun _ _ _ h => h) (by kernel_rfl) ?y0d hS0 ?_
  case y0d =>
    intro w' hw'; (try dsimp only at hw'); obtain e8 := hw'; go_simp; try with_reducible rfl
  simp only [Act.put, List.setIfInBounds_toArray, List.set_cons_zero, List.set_cons_succ]
  refine takeY 76 (i := 1) (v := ?v1d) rfl rfl (by kernel_rfl) (by kernel_rfl) (by kernel_rfl) (fun _ _ _ h => h) (by kernel_rfl) ?y1d hS0 ?_
  case y1d =>
    intro w' hw'; (try dsimp only at hw'); obtain e8 := hw'; go_simp; try with_reducible rfl
  simp only [Act.put, List.setIfInBounds_toArray, List.set_cons_zero, List.set_cons_succ]
  refine takeY 77 (i := 2) (v := ?v2d) rfl rfl (by kernel_rfl) (by kernel_rfl) (by kernel_rfl) (fun _ _ _ h => h) (by kernel_rfl) ?y2d hS0 ?_
  case y2d =>
    intro w' hw'; (try dsimp only at hw'); obtain e8 := hw'; go_simp; try with_reducible rfl
  simp only [Act.put, List.setIfInBounds_toArray, List.set_cons_zero, List.set_cons_succ]
  refine takeU 78 (i := 3) rfl rfl (by kernel_rfl) (by kernel_rfl) (by kernel_rfl) (fun _ _ _ h => h) (by kernel_rfl) hS0 ?_
  simp only [Act.put, List.setIfInBounds_toArray, List.set_cons_zero, List.set_cons_succ]
  refine takeU 79 (i := 4) rfl rfl (by kernel_rfl) (by kernel_rfl) (by kernel_rfl) (fun _ _ _ h => h) (by kernel_rfl) hS0 ?_
  simp only [Act.put, List.setIfInBounds_toArray, List.set_cons_zero, List.set_cons_succ]
  refine takeU 80 (i := 5) rfl rfl (by kernel_rfl) (by kernel_rfl) (by kernel_rfl) (fun _ _ _ h => h) (by kernel_rfl) hS0 ?_
  simp only [Act.put, List.setIfInBounds_toArray, List.set_cons_zero, List.set_cons_succ]
  refine takeU 81 (i := 6) rfl rfl (by kernel_rfl) (by kernel_rfl) (by kernel_rfl) (fun _ _ _ h => h) (by kernel_rfl) hS0 ?_
  simp only [Act.put, List.setIfInBounds_toArray, List.set_cons_zero, List.set_cons_succ]
  refine takeU 82 (i := 7) rfl rfl (by kernel_rfl) (by kernel_rfl) (by kernel_rfl) (fun _ _ _ h => h) (by kernel_rfl) hS0 ?_
  simp only [Act.put, List.setIfInBounds_toArray, List.set_cons_zero, List.set_cons_succ]
  refine takeY 83 (i := 8) (v := ?v8d) rfl rfl (by kernel_rfl) (by kernel_rfl) (by kernel_rfl) (fun _ _ _ h => h) (by kernel_rfl) ?y8d hS0 ?_
  case y8d =>
    intro w' hw'; (try dsimp only at hw'); obtain e8 := hw'; go_simp; try with_reducible rfl
  simp only [Act.put, List.setIfInBounds_toArray, List.set_cons_zero, List.set_cons_succ]
  refine takeY 84 (i := 9) (v := ?v9d) rfl rfl (by kernel_rfl) (by kernel_rfl) (by kernel_rfl) (fun _ _ _ h => h) (by kernel_rfl) ?y9d hS0 ?_
  case y9d =>
    intro w' hw'; (try dsimp only at hw'); obtain e8 := hw'; go_simp; try with_reducible rfl
  simp only [Act.put, List.setIfInBounds_toArray, List.set_cons_zero, List.set_cons_succ]
  refine takeU 85 (i := 10) rfl rfl (by kernel_rfl) (by kernel_rfl) (by kernel_rfl) (fun _ _ _ h => h) (by kernel_rfl) hS0 ?_
  simp only [Act.put, List.setIfInBounds_toArray, List.set_cons_zero, List.set_cons_succ]
  refine takeU 86 (i := 11) rfl rfl (by kernel_rfl) (by kernel_rfl) (by kernel_rfl) (fun _ _ _ h => h) (by kernel_rfl) hS0 ?_
  simp only [Act.put, List.setIfInBounds_toArray, List.set_cons_zero, List.set_cons_succ]
  refine takeU 87 (i := 12) rfl rfl (by kernel_rfl) (by kernel_rfl) (by kernel_rfl) (fun _ _ _ h => h) (by kernel_rfl) hS0 ?_
  simp only [Act.put, List.setIfInBounds_toArray, List.set_cons_zero, List.set_cons_succ]
  refine takeU 88 (i := 13) rfl rfl (by kernel_rfl) (by kernel_rfl) (by kernel_rfl) (fun _ _ _ h => h) (by kernel_rfl) hS0 ?_
  simp only [Act.put, List.setIfInBounds_toArray, List.set_cons_zero, List.set_cons_succ]
  refine takeU 89 (i := 14) rfl rfl (by kernel_rfl) (by kernel_rfl) (by kernel_rfl) (fun _ _ _ h => h) (by kernel_rfl) hS0 ?_
  simp only [Act.put, List.setIfInBounds_toArray, List.set_cons_zero, List.set_cons_succ]
  refine takeU 90 (i := 15) rfl rfl (by kernel_rfl) (by kernel_rfl) (by kernel_rfl) (fun _ _ _ h => h) (by kernel_rfl) hS0 ?_
  simp only [Act.put, List.setIfInBounds_toArray, List.set_cons_zero, List.set_cons_succ]
  refine takeU 91 (i := 16) rfl rfl (by kernel_rfl) (by kernel_rfl) (by kernel_rfl) (fun _ _ _ h => h) (by kernel_rfl) hS0 ?_
  simp only [Act.put, List.setIfInBounds_toArray, List.set_cons_zero, List.set_cons_succ]
  refine takeU 92 (i := 17) rfl rfl (by kernel_rfl) (by kernel_rfl) (by kernel_rfl) (fun _ _ _ h => h) (by kernel_rfl) hS0 ?_
  simp only [Act.put, List.setIfInBounds_toArray, List.set_cons_zero, List.set_cons_succ]
  refine takeU 93 (i := 18) rfl rfl (by kernel_rfl) (by kernel_rfl) (by kernel_rfl) (fun _ _ _ h => h) (by kernel_rfl) hS0 ?_
  simp only [Act.put, List.setIfInBounds_toArray, List.set_cons_zero, List.set_cons_succ]
  refine takeU 94 (i := 19) rfl rfl (by kernel_rfl) (by kernel_rfl) (by kernel_rfl) (fun _ _ _ h => h) (by kernel_rfl) hS0 ?_
  simp only [Act.put, List.setIfInBounds_toArray, List.set_cons_zero, List.set_cons_succ]
  refine takeU 95 (i := 20) rfl rfl (by kernel_rfl) (by kernel_rfl) (by kernel_rfl) (fun _ _ _ h => h) (by kernel_rfl) hS0 ?_
  simp only [Act.put, List.setIfInBounds_toArray, List.set_cons_zero, List.set_cons_succ]
  refine takeY 96 (i := 21) (v := ?v21d) rfl rfl (by kernel_rfl) (by kernel_rfl) (by kernel_rfl) (fun _ _ _ h => h) (by kernel_rfl) ?y21d hS0 ?_
  case y21d =>
    intro w' hw'; (try dsimp only at hw'); obtain e8 := hw'; go_simp; try with_reducible rfl
  simp only [Act.put, List.setIfInBounds_toArray, List.set_cons_zero, List.set_cons_succ]
  refine takeY 74 (i := 22) (v := ?v22d) rfl rfl (by kernel_rfl) (by kernel_rfl) (by kernel_rfl) (fun _ _ _ h => h) (by kernel_rfl) ?y22d hS0 ?_
  case y22d =>
    intro w' hw'; (try dsimp only at hw'); obtain e8 := hw'; go_simp; try with_reducible rfl
  simp only [Act.put, List.setIfInBounds_toArray, List.set_cons_zero, List.set_cons_succ]
  refine wpAnyH_done (by kernel_rfl) ?_ _
  clear hS0
  generalize hw1 : World.drew w = w1 at *
  clear hw1
  replace c0 := (HB0.out.cell (p := ⟨p, 0, none⟩) hpl).trans c0
  replace c7 := (HB0.out.cell (p := ⟨p, 7, none⟩) hpl).trans c7
  replace c8 := (HB0.out.cell (p := ⟨p, 8, none⟩) hpl).trans c8
  replace d0 := (HB0.out.cell (p := ⟨q, 0, none⟩) hql).trans d0
  replace d8 := (HB0.out.cell (p := ⟨q, 8, none⟩) hql).trans d8
  go_wp2
  go_ret
  exact ⟨⟨_, rfl, .inr ⟨HNo.out, rfl⟩⟩, HB0.out⟩
set_option maxRecDepth 20000 in
set_option maxHeartbeats 3200000 in
theorem rew_dual_bin (w : World) (B lo p : Nat) (rule : Int) (op : Int) (a b : Tr) (hpa : PartAt w B lo (.dual (.bin op a b)) p) (hB : B ≤ w.heap.size) (hlo : lo ≤ w.heap.size) :
    Calls Tryz.prog 43 #[.pointer (some ⟨p, 0, none⟩), .int .i64 rule] w fun e w' => (∃ v, e = .returned v ∧ RewV w' B lo rule (.dual (.bin op a b)) v) ∧ Below w.heap.size w w' := by
  obtain ⟨_, hpl, t, q, hrow, hno, hsh, hwi, hqa⟩ := hpa
  have HRow := Lib.hid hrow
  have HNW := Lib.hid (And.intro hno (And.intro hsh hwi))
  have c0 := part0 hrow
  have c7 := part7 hrow
  have c8 := part8 hrow
  clear hrow hno hsh hwi
  obtain ⟨_, hql, hbin, t', q1, q2, hrowq, hno', hsh', hwi', hqa1, hqa2⟩ := hqa
  have HNQ := Lib.hid (And.intro hno' (And.intro hsh' hwi'))
  have HBin := Lib.hid hbin
  have e3 : (op == 3) = false := by have := (bin_ne hbin).2; simpa using this
  have d0 := part0 hrowq
  have d7 := part7 hrowq
  have d8 := part8 hrowq
  clear hbin hno' hsh' hwi'
  have HB0 : Hid (Below w.heap.size w (World.drew w)) := Lib.hid (Below.refl _ _).drew
  by_cases r1 : rule = 1
  · subst r1
    clear hqa1 hqa2
    have HNo : Hid (∀ s', ¬ RuleT 1 (.dual (.bin op a b)) s') := Lib.hid (fun s' h => by cases h)
    go_enter Tryz.func43, Tryz.ntmps43
    go_wp2
    have hS0 : (fun w' => w'.cell? ⟨p, 8, none⟩ = some (.pointer none)) (World.drew w) := (HB0.out.cell (p := ⟨p, 8, none⟩) hpl).trans c8
    refine wp_region_held (S := fun w' => w'.cell? ⟨p, 8, none⟩ = some (.pointer none)) (by kernel_rfl) ?_
    change wpAnyH _ _ _ _ _ _ _ _ (World.drew _)
    refine takeY 75 (i := 0) (v := ?v0a) rfl rfl (by kernel_rfl) (by kernel_rfl) (by kernel_rfl) (fun _ _ _ h => h) (by kernel_rfl) ?y0a hS0 ?_
    case y0a =>
      intro w' hw'; (try dsimp only at hw'); obtain e8 := hw'; go_simp; try with_reducible rfl
    simp only [Act.put, List.setIfInBounds_toArray, List.set_cons_zero, List.set_cons_succ]
    refine takeY 76 (i := 1) (v := ?v1a) rfl rfl (by kernel_rfl) (by kernel_rfl) (by kernel_rfl) (fun _ _ _ h => h) (by kernel_rfl) ?y1a hS0 ?_
    case y1a =>
      intro w' hw'; (try dsimp only at hw'); obtain e8 := hw'; go_simp; try with_reducible rfl
    simp only [Act.put, List.setIfInBounds_toArray, List.set_cons_zero, List.set_cons_succ]
    refine takeY 77 (i := 2) (v := ?v2a) rfl rfl (by kernel_rfl) (by kernel_rfl) (by kernel_rfl) (fun _ _ _ h => h) (by kernel_rfl) ?y2a hS0 ?_
    case y2a =>
      intro w' hw'; (try dsimp only at hw'); obtain e8 := hw'; go_simp; try with_reducible rfl
    simp only [Act.put, List.setIfInBounds_toArray, List.set_cons_zero, List.set_cons_succ]
    refine takeU 78 (i := 3) rfl rfl (by kernel_rfl) (by kernel_rfl) (by kernel_rfl) (fun _ _ _ h => h) (by kernel_rfl) hS0 ?_
    simp only [Act.put, List.setIfInBounds_toArray, List.set_cons_zero, List.set_cons_succ]
    refine takeU 79 (i := 4) rfl rfl (by kernel_rfl) (by kernel_rfl) (by kernel_rfl) (fun _ _ _ h => h) (by kernel_rfl) hS0 ?_
    simp only [Act.put, List.setIfInBounds_toArray, List.set_cons_zero, List.set_cons_succ]
    refine takeU 80 (i := 5) rfl rfl (by kernel_rfl) (by kernel_rfl) (by kernel_rfl) (fun _ _ _ h => h) (by kernel_rfl) hS0 ?_
    simp only [Act.put, List.setIfInBounds_toArray, List.set_cons_zero, List.set_cons_succ]
    refine takeU 81 (i := 6) rfl rfl (by kernel_rfl) (by kernel_rfl) (by kernel_rfl) (fun _ _ _ h => h) (by kernel_rfl) hS0 ?_
    simp only [Act.put, List.setIfInBounds_toArray, List.set_cons_zero, List.set_cons_succ]
    refine takeU 82 (i := 7) rfl rfl (by kernel_rfl) (by kernel_rfl) (by kernel_rfl) (fun _ _ _ h => h) (by kernel_rfl) hS0 ?_
    simp only [Act.put, List.setIfInBounds_toArray, List.set_cons_zero, List.set_cons_succ]
    refine takeY 83 (i := 8) (v := ?v8a) rfl rfl (by kernel_rfl) (by kernel_rfl) (by kernel_rfl) (fun _ _ _ h => h) (by kernel_rfl) ?y8a hS0 ?_
    case y8a =>
      intro w' hw'; (try dsimp only at hw'); obtain e8 := hw'; go_simp; try with_reducible rfl
    simp only [Act.put, List.setIfInBounds_toArray, List.set_cons_zero, List.set_cons_succ]
    refine takeY 84 (i := 9) (v := ?v9a) rfl rfl (by kernel_rfl) (by kernel_rfl) (by kernel_rfl) (fun _ _ _ h => h) (by kernel_rfl) ?y9a hS0 ?_
    case y9a =>
      intro w' hw'; (try dsimp only at hw'); obtain e8 := hw'; go_simp; try with_reducible rfl
    simp only [Act.put, List.setIfInBounds_toArray, List.set_cons_zero, List.set_cons_succ]
    refine takeU 85 (i := 10) rfl rfl (by kernel_rfl) (by kernel_rfl) (by kernel_rfl) (fun _ _ _ h => h) (by kernel_rfl) hS0 ?_
    simp only [Act.put, List.setIfInBounds_toArray, List.set_cons_zero, List.set_cons_succ]
    refine takeU 86 (i := 11) rfl rfl (by kernel_rfl) (by kernel_rfl) (by kernel_rfl) (fun _ _ _ h => h) (by kernel_rfl) hS0 ?_
    simp only [Act.put, List.setIfInBounds_toArray, List.set_cons_zero, List.set_cons_succ]
    refine takeU 87 (i := 12) rfl rfl (by kernel_rfl) (by kernel_rfl) (by kernel_rfl) (fun _ _ _ h => h) (by kernel_rfl) hS0 ?_
    simp only [Act.put, List.setIfInBounds_toArray, List.set_cons_zero, List.set_cons_succ]
    refine takeU 88 (i := 13) rfl rfl (by kernel_rfl) (by kernel_rfl) (by kernel_rfl) (fun _ _ _ h => h) (by kernel_rfl) hS0 ?_
    simp only [Act.put, List.setIfInBounds_toArray, List.set_cons_zero, List.set_cons_succ]
    refine takeU 89 (i := 14) rfl rfl (by kernel_rfl) (by kernel_rfl) (by kernel_rfl) (fun _ _ _ h => h) (by kernel_rfl) hS0 ?_
    simp only [Act.put, List.setIfInBounds_toArray, List.set_cons_zero, List.set_cons_succ]
    refine takeU 90 (i := 15) rfl rfl (by kernel_rfl) (by kernel_rfl) (by kernel_rfl) (fun _ _ _ h => h) (by kernel_rfl) hS0 ?_
    simp only [Act.put, List.setIfInBounds_toArray, List.set_cons_zero, List.set_cons_succ]
    refine takeU 91 (i := 16) rfl rfl (by kernel_rfl) (by kernel_rfl) (by kernel_rfl) (fun _ _ _ h => h) (by kernel_rfl) hS0 ?_
    simp only [Act.put, List.setIfInBounds_toArray, List.set_cons_zero, List.set_cons_succ]
    refine takeU 92 (i := 17) rfl rfl (by kernel_rfl) (by kernel_rfl) (by kernel_rfl) (fun _ _ _ h => h) (by kernel_rfl) hS0 ?_
    simp only [Act.put, List.setIfInBounds_toArray, List.set_cons_zero, List.set_cons_succ]
    refine takeU 93 (i := 18) rfl rfl (by kernel_rfl) (by kernel_rfl) (by kernel_rfl) (fun _ _ _ h => h) (by kernel_rfl) hS0 ?_
    simp only [Act.put, List.setIfInBounds_toArray, List.set_cons_zero, List.set_cons_succ]
    refine takeU 94 (i := 19) rfl rfl (by kernel_rfl) (by kernel_rfl) (by kernel_rfl) (fun _ _ _ h => h) (by kernel_rfl) hS0 ?_
    simp only [Act.put, List.setIfInBounds_toArray, List.set_cons_zero, List.set_cons_succ]
    refine takeU 95 (i := 20) rfl rfl (by kernel_rfl) (by kernel_rfl) (by kernel_rfl) (fun _ _ _ h => h) (by kernel_rfl) hS0 ?_
    simp only [Act.put, List.setIfInBounds_toArray, List.set_cons_zero, List.set_cons_succ]
    refine takeY 96 (i := 21) (v := ?v21a) rfl rfl (by kernel_rfl) (by kernel_rfl) (by kernel_rfl) (fun _ _ _ h => h) (by kernel_rfl) ?y21a hS0 ?_
    case y21a =>
      intro w' hw'; (try dsimp only at hw'); obtain e8 := hw'; go_simp; try with_reducible rfl
    simp only [Act.put, List.setIfInBounds_toArray, List.set_cons_zero, List.set_cons_succ]
    refine takeY 74 (i := 22) (v := ?v22a) rfl rfl (by kernel_rfl) (by kernel_rfl) (by kernel_rfl) (fun _ _ _ h => h) (by kernel_rfl) ?y22a hS0 ?_
    case y22a =>
      intro w' hw'; (try dsimp only at hw'); obtain e8 := hw'; go_simp; try with_reducible rfl
    simp only [Act.put, List.setIfInBounds_toArray, List.set_cons_zero, List.set_cons_succ]
    refine wpAnyH_done (by kernel_rfl) ?_ _
    clear hS0
    generalize hw1 : World.drew w = w1 at *
    clear hw1
    replace c0 := (HB0.out.cell (p := ⟨p, 0, none⟩) hpl).trans c0
    replace c7 := (HB0.out.cell (p := ⟨p, 7, none⟩) hpl).trans c7
    replace c8 := (HB0.out.cell (p := ⟨p, 8, none⟩) hpl).trans c8
    replace d0 := (HB0.out.cell (p := ⟨q, 0, none⟩) hql).trans d0
    replace d8 := (HB0.out.cell (p := ⟨q, 8, none⟩) hql).trans d8
    go_wp2
    go_ret
    exact ⟨⟨_, rfl, .inr ⟨HNo.out, rfl⟩⟩, HB0.out⟩
  have f1 : (rule == 1) = false := by simpa using r1
  by_cases r2 : rule = 2
  · subst r2
    clear r1 f1
    have HA1 := Lib.hid hqa1
    have HA2 := Lib.hid hqa2
    have HRQ := Lib.hid hrowq
    clear hqa1 hqa2 hrowq
    have HSq : Hid (∀ W, Below w.heap.size w W → W.cell? ⟨q, 7, none⟩ = some (.pointer (some ⟨q1, 0, none⟩)) ∧ W.cell? ⟨q, 8, none⟩ = some (.pointer (some ⟨q2, 0, none⟩))) := Lib.hid fun W h => ⟨(h.cell (p := ⟨q, 7, none⟩) hql).trans d7, (h.cell (p := ⟨q, 8, none⟩) hql).trans d8⟩
    go_enter Tryz.func43, Tryz.ntmps43
    go_wp2
    have hS0 : (fun w' => w'.cell? ⟨q, 7, none⟩ = some (.pointer (some ⟨q1, 0, none⟩)) ∧ w'.cell? ⟨q, 8, none⟩ = some (.pointer (some ⟨q2, 0, none⟩))) (World.drew w) := HSq.out _ HB0.out
    refine wp_region_held (S := fun w' => w'.cell? ⟨q, 7, none⟩ = some (.pointer (some ⟨q1, 0, none⟩)) ∧ w'.cell? ⟨q, 8, none⟩ = some (.pointer (some ⟨q2, 0, none⟩))) (by kernel_rfl) ?_
    change wpAnyH _ _ _ _ _ _ _ _ (World.drew _)
    refine takeY 60 (i := 0) (v := ?v0b) rfl rfl (by kernel_rfl) (by kernel_rfl) (by kernel_rfl) (fun _ _ _ h => h) (by kernel_rfl) ?y0b hS0 ?_
    case y0b =>
      intro w' hw'; (try dsimp only at hw'); obtain ⟨d7, d8⟩ := hw'; go_simp; try with_reducible rfl
    simp only [Act.put, List.setIfInBounds_toArray, List.set_cons_zero, List.set_cons_succ]
    refine takeY 61 (i := 1) (v := ?v1b) rfl rfl (by kernel_rfl) (by kernel_rfl) (by kernel_rfl) (fun _ _ _ h => h) (by kernel_rfl) ?y1b hS0 ?_
    case y1b =>
      intro w' hw'; (try dsimp only at hw'); obtain ⟨d7, d8⟩ := hw'; go_simp; try with_reducible rfl
    simp only [Act.put, List.setIfInBounds_toArray, List.set_cons_zero, List.set_cons_succ]
    refine takeY 62 (i := 2) (v := ?v2b) rfl rfl (by kernel_rfl) (by kernel_rfl) (by kernel_rfl) (fun _ _ _ h => h) (by kernel_rfl) ?y2b hS0 ?_
    case y2b =>
      intro w' hw'; (try dsimp only at hw'); obtain ⟨d7, d8⟩ := hw'; go_simp; try with_reducible rfl
    simp only [Act.put, List.setIfInBounds_toArray, List.set_cons_zero, List.set_cons_succ]
    refine takeY 63 (i := 3) (v := ?v3b) rfl rfl (by kernel_rfl) (by kernel_rfl) (by kernel_rfl) (fun _ _ _ h => h) (by kernel_rfl) ?y3b hS0 ?_
    case y3b =>
      intro w' hw'; (try dsimp only at hw'); obtain ⟨d7, d8⟩ := hw'; go_simp; try with_reducible rfl
    simp only [Act.put, List.setIfInBounds_toArray, List.set_cons_zero, List.set_cons_succ]
    refine takeY 64 (i := 4) (v := ?v4b) rfl rfl (by kernel_rfl) (by kernel_rfl) (by kernel_rfl) (fun _ _ _ h => h) (by kernel_rfl) ?y4b hS0 ?_
    case y4b =>
      intro w' hw'; (try dsimp only at hw'); obtain ⟨d7, d8⟩ := hw'; go_simp; try with_reducible rfl
    simp only [Act.put, List.setIfInBounds_toArray, List.set_cons_zero, List.set_cons_succ]
    refine takeY 65 (i := 5) (v := ?v5b) rfl rfl (by kernel_rfl) (by kernel_rfl) (by kernel_rfl) (fun _ _ _ h => h) (by kernel_rfl) ?y5b hS0 ?_
    case y5b =>
      intro w' hw'; (try dsimp only at hw'); obtain ⟨d7, d8⟩ := hw'; go_simp; try with_reducible rfl
    simp only [Act.put, List.setIfInBounds_toArray, List.set_cons_zero, List.set_cons_succ]
    refine takeY 67 (i := 7) (v := ?v7b) rfl rfl (by kernel_rfl) (by kernel_rfl) (by kernel_rfl) (fun _ _ _ h => h) (by kernel_rfl) ?y7b hS0 ?_
    case y7b =>
      intro w' hw'; (try dsimp only at hw'); obtain ⟨d7, d8⟩ := hw'; go_simp; try with_reducible rfl
    simp only [Act.put, List.setIfInBounds_toArray, List.set_cons_zero, List.set_cons_succ]
    refine takeY 68 (i := 8) (v := ?v8b) rfl rfl (by kernel_rfl) (by kernel_rfl) (by kernel_rfl) (fun _ _ _ h => h) (by kernel_rfl) ?y8b hS0 ?_
    case y8b =>
      intro w' hw'; (try dsimp only at hw'); obtain ⟨d7, d8⟩ := hw'; go_simp; try with_reducible rfl
    simp only [Act.put, List.setIfInBounds_toArray, List.set_cons_zero, List.set_cons_succ]
    refine takeY 69 (i := 9) (v := ?v9b) rfl rfl (by kernel_rfl) (by kernel_rfl) (by kernel_rfl) (fun _ _ _ h => h) (by kernel_rfl) ?y9b hS0 ?_
    case y9b =>
      intro w' hw'; (try dsimp only at hw'); obtain ⟨d7, d8⟩ := hw'; go_simp; try with_reducible rfl
    simp only [Act.put, List.setIfInBounds_toArray, List.set_cons_zero, List.set_cons_succ]
    refine takeY 70 (i := 10) (v := ?v10b) rfl rfl (by kernel_rfl) (by kernel_rfl) (by kernel_rfl) (fun _ _ _ h => h) (by kernel_rfl) ?y10b hS0 ?_
    case y10b =>
      intro w' hw'; (try dsimp only at hw'); obtain ⟨d7, d8⟩ := hw'; go_simp; try with_reducible rfl
    simp only [Act.put, List.setIfInBounds_toArray, List.set_cons_zero, List.set_cons_succ]
    refine takeY 71 (i := 11) (v := ?v11b) rfl rfl (by kernel_rfl) (by kernel_rfl) (by kernel_rfl) (fun _ _ _ h => h) (by kernel_rfl) ?y11b hS0 ?_
    case y11b =>
      intro w' hw'; (try dsimp only at hw'); obtain ⟨d7, d8⟩ := hw'; go_simp; try with_reducible rfl
    simp only [Act.put, List.setIfInBounds_toArray, List.set_cons_zero, List.set_cons_succ]
    refine wpAnyH_ready (rs := [6]) (by kernel_rfl) (by simp) ?_
    refine AllReadyH.cons rfl (fun K hK => ?_) AllReadyH.nil
    go_simp; go_at_call 64; refine (iWith _ p _ _ _ _ _ (some ⟨q1, 0, none⟩) (none) ((HB0.out.block _ hpl).trans HRow.out)).mono ?_; rintro e w1 ⟨g1, rfl, hg1, hl1, hr1, hb1⟩; have G1 := Lib.hid (And.intro hg1 (And.intro hl1 hr1)); have HB1 := Lib.hid (below_on HB0.out hb1); have HD1 := Lib.hid hb1; clear hg1 hl1 hr1 hb1
    refine hK.out _ _ (HSq.out _ HB1.out) (fun hS1 => ?_)
    clear hK K
    try simp only [Act.put, List.setIfInBounds_toArray, List.set_cons_zero, List.set_cons_succ]
    refine wpAnyH_ready (rs := [12]) (by kernel_rfl) (by simp) ?_
    refine AllReadyH.cons rfl (fun K hK => ?_) AllReadyH.nil
    go_simp; go_at_call 64; refine (iWith _ p _ _ _ _ _ (some ⟨q2, 0, none⟩) (none) ((HB1.out.block _ hpl).trans HRow.out)).mono ?_; rintro e w2 ⟨g2, rfl, hg2, hl2, hr2, hb2⟩; have G2 := Lib.hid (And.intro hg2 (And.intro hl2 hr2)); have HB2 := Lib.hid (below_on HB1.out hb2); have HD2 := Lib.hid hb2; clear hg2 hl2 hr2 hb2
    refine hK.out _ _ (HSq.out _ HB2.out) (fun hS2 => ?_)
    clear hK K
    try simp only [Act.put, List.setIfInBounds_toArray, List.set_cons_zero, List.set_cons_succ]
    refine wpAnyH_ready (rs := [13]) (by kernel_rfl) (by simp) ?_
    refine AllReadyH.cons rfl (fun K hK => ?_) AllReadyH.nil
    go_simp; go_at_call 64; refine (iWith _ q _ _ _ _ _ (some ⟨g1, 0, none⟩) (some ⟨g2, 0, none⟩) ((HB2.out.block _ hql).trans HRQ.out)).mono ?_; rintro e w3 ⟨g3, rfl, hg3, hl3, hr3, hb3⟩; have G3 := Lib.hid (And.intro hg3 (And.intro hl3 hr3)); have HB3 := Lib.hid (below_on HB2.out hb3); have HD3 := Lib.hid hb3; clear hg3 hl3 hr3 hb3
    refine hK.out _ _ (HSq.out _ HB3.out) (fun hS3 => ?_)
    clear hK K
    try simp only [Act.put, List.setIfInBounds_toArray, List.set_cons_zero, List.set_cons_succ]
    refine takeY 4 (i := 14) (v := ?v14b) rfl rfl (by kernel_rfl) (by kernel_rfl) (by kernel_rfl) (fun _ _ _ h => h) (by kernel_rfl) ?y14b hS3 ?_
    case y14b =>
      intro w' hw'; (try dsimp only at hw'); obtain ⟨d7, d8⟩ := hw'; go_simp; try with_reducible rfl
    simp only [Act.put, List.setIfInBounds_toArray, List.set_cons_zero, List.set_cons_succ]
    refine wpAnyH_done (by kernel_rfl) ?_ _
    clear hS0 hS1 hS2 hS3
    have HF : Hid (PartAt w3 B lo (.bin op (.dual a) (.dual b)) g3) := Lib.hid (by
      obtain ⟨g1a, g1b, g1c⟩ := G1.out
      obtain ⟨g2a, g2b, g2c⟩ := G2.out
      obtain ⟨g3a, g3b, g3c⟩ := G3.out
      have s0 : w.heap.size ≤ (World.drew w).heap.size := HB0.out.size
      have s1 := HB1.out.size
      have s2 := HB2.out.size
      have s3 := HB3.out.size
      have b13 : Below w1.heap.size w1 w3 := below_on HD2.out HD3.out
      refine ⟨by omega, g3b, HBin.out, _, g1, g2, g3c, HNQ.out.1, HNQ.out.2.1, HNQ.out.2.2.below (HB3.out.mono hB), ?_, ?_⟩
      · exact ⟨by omega, Nat.lt_of_lt_of_le g1b b13.size, _, q1, (b13.block _ g1b).trans g1c, HNW.out.1, HNW.out.2.1, HNW.out.2.2.below (HB3.out.mono hB), HA1.out.below hB HB3.out⟩
      · exact ⟨by omega, Nat.lt_of_lt_of_le g2b HD3.out.size, _, q2, (HD3.out.block _ g2b).trans g2c, HNW.out.1, HNW.out.2.1, HNW.out.2.2.below (HB3.out.mono hB), HA2.out.below hB HB3.out⟩)
    go_wp2
    go_ret
    exact ⟨⟨_, rfl, .inl ⟨_, _, .push _ _ _, rfl, HF.out⟩⟩, HB3.out⟩
  have f2 : (rule == 2) = false := by simpa using r2
  by_cases r3 : rule = 3
  · subst r3
    clear r1 f1 r2 f2
    clear hqa1 hqa2
    have HNo : Hid (∀ s', ¬ RuleT 3 (.dual (.bin op a b)) s') := Lib.hid (fun s' h => by cases h)
    go_enter Tryz.func43, Tryz.ntmps43
    go_wp2
    have hS0 : (fun w' => w'.cell? ⟨p, 8, none⟩ = some (.pointer none)) (World.drew w) := (HB0.out.cell (p := ⟨p, 8, none⟩) hpl).trans c8
    refine wp_region_held (S := fun w' => w'.cell? ⟨p, 8, none⟩ = some (.pointer none)) (by kernel_rfl) ?_
    change wpAnyH _ _ _ _ _ _ _ _ (World.drew _)
    refine takeY 75 (i := 0) (v := ?v0c) rfl rfl (by kernel_rfl) (by kernel_rfl) (by kernel_rfl) (fun _ _ _ h => h) (by kernel_rfl) ?y0c hS0 ?_
    case y0c =>
      intro w' hw'; (try dsimp only at hw'); obtain e8 := hw'; go_simp; try with_reducible rfl
    simp only [Act.put, List.setIfInBounds_toArray, List.set_cons_zero, List.set_cons_succ]
    refine takeY 76 (i := 1) (v := ?v1c) rfl rfl (by kernel_rfl) (by kernel_rfl) (by kernel_rfl) (fun _ _ _ h => h) (by kernel_rfl) ?y1c hS0 ?_
    case y1c =>
      intro w' hw'; (try dsimp only at hw'); obtain e8 := hw'; go_simp; try with_reducible rfl
    simp only [Act.put, List.setIfInBounds_toArray, List.set_cons_zero, List.set_cons_succ]
    refine takeY 77 (i := 2) (v := ?v2c) rfl rfl (by kernel_rfl) (by kernel_rfl) (by kernel_rfl) (fun _ _ _ h => h) (by kernel_rfl) ?y2c hS0 ?_
    case y2c =>
      intro w' hw'; (try dsimp only at hw'); obtain e8 := hw'; go_simp; try with_reducible rfl
    simp only [Act.put, List.setIfInBounds_toArray, List.set_cons_zero, List.set_cons_succ]
    refine takeY 78 (i := 3) (v := ?v3c) rfl rfl (by kernel_rfl) (by kernel_rfl) (by kernel_rfl) (fun _ _ _ h => h) (by kernel_rfl) ?y3c hS0 ?_
    case y3c =>
      intro w' hw'; (try dsimp only at hw'); obtain e8 := hw'; go_simp; try with_reducible rfl
    simp only [Act.put, List.setIfInBounds_toArray, List.set_cons_zero, List.set_cons_succ]
    refine takeY 79 (i := 4) (v := ?v4c) rfl rfl (by kernel_rfl) (by kernel_rfl) (by kernel_rfl) (fun _ _ _ h => h) (by kernel_rfl) ?y4c hS0 ?_
    case y4c =>
      intro w' hw'; (try dsimp only at hw'); obtain e8 := hw'; go_simp; try with_reducible rfl
    simp only [Act.put, List.setIfInBounds_toArray, List.set_cons_zero, List.set_cons_succ]
    refine takeY 80 (i := 5) (v := ?v5c) rfl rfl (by kernel_rfl) (by kernel_rfl) (by kernel_rfl) (fun _ _ _ h => h) (by kernel_rfl) ?y5c hS0 ?_
    case y5c =>
      intro w' hw'; (try dsimp only at hw'); obtain e8 := hw'; go_simp; try with_reducible rfl
    simp only [Act.put, List.setIfInBounds_toArray, List.set_cons_zero, List.set_cons_succ]
    refine takeY 81 (i := 6) (v := ?v6c) rfl rfl (by kernel_rfl) (by kernel_rfl) (by kernel_rfl) (fun _ _ _ h => h) (by kernel_rfl) ?y6c hS0 ?_
    case y6c =>
      intro w' hw'; (try dsimp only at hw'); obtain e8 := hw'; go_simp; try with_reducible rfl
    simp only [Act.put, List.setIfInBounds_toArray, List.set_cons_zero, List.set_cons_succ]
    refine takeY 82 (i := 7) (v := ?v7c) rfl rfl (by kernel_rfl) (by kernel_rfl) (by kernel_rfl) (fun _ _ _ h => h) (by kernel_rfl) ?y7c hS0 ?_
    case y7c =>
      intro w' hw'; (try dsimp only at hw'); obtain e8 := hw'; go_simp; try with_reducible rfl
    simp only [Act.put, List.setIfInBounds_toArray, List.set_cons_zero, List.set_cons_succ]
    refine takeY 83 (i := 8) (v := ?v8c) rfl rfl (by kernel_rfl) (by kernel_rfl) (by kernel_rfl) (fun _ _ _ h => h) (by kernel_rfl) ?y8c hS0 ?_
    case y8c =>
      intro w' hw'; (try dsimp only at hw'); obtain e8 := hw'; go_simp; try with_reducible rfl
    simp only [Act.put, List.setIfInBounds_toArray, List.set_cons_zero, List.set_cons_succ]
    refine takeY 84 (i := 9) (v := ?v9c) rfl rfl (by kernel_rfl) (by kernel_rfl) (by kernel_rfl) (fun _ _ _ h => h) (by kernel_rfl) ?y9c hS0 ?_
    case y9c =>
      intro w' hw'; (try dsimp only at hw'); obtain e8 := hw'; go_simp; try with_reducible rfl
    simp only [Act.put, List.setIfInBounds_toArray, List.set_cons_zero, List.set_cons_succ]
    refine takeU 85 (i := 10) rfl rfl (by kernel_rfl) (by kernel_rfl) (by kernel_rfl) (fun _ _ _ h => h) (by kernel_rfl) hS0 ?_
    simp only [Act.put, List.setIfInBounds_toArray, List.set_cons_zero, List.set_cons_succ]
    refine takeU 86 (i := 11) rfl rfl (by kernel_rfl) (by kernel_rfl) (by kernel_rfl) (fun _ _ _ h => h) (by kernel_rfl) hS0 ?_
    simp only [Act.put, List.setIfInBounds_toArray, List.set_cons_zero, List.set_cons_succ]
    refine takeU 87 (i := 12) rfl rfl (by kernel_rfl) (by kernel_rfl) (by kernel_rfl) (fun _ _ _ h => h) (by kernel_rfl) hS0 ?_
    simp only [Act.put, List.setIfInBounds_toArray, List.set_cons_zero, List.set_cons_succ]
    refine takeU 88 (i := 13) rfl rfl (by kernel_rfl) (by kernel_rfl) (by kernel_rfl) (fun _ _ _ h => h) (by kernel_rfl) hS0 ?_
    simp only [Act.put, List.setIfInBounds_toArray, List.set_cons_zero, List.set_cons_succ]
    refine takeU 89 (i := 14) rfl rfl (by kernel_rfl) (by kernel_rfl) (by kernel_rfl) (fun _ _ _ h => h) (by kernel_rfl) hS0 ?_
    simp only [Act.put, List.setIfInBounds_toArray, List.set_cons_zero, List.set_cons_succ]
    refine takeU 90 (i := 15) rfl rfl (by kernel_rfl) (by kernel_rfl) (by kernel_rfl) (fun _ _ _ h => h) (by kernel_rfl) hS0 ?_
    simp only [Act.put, List.setIfInBounds_toArray, List.set_cons_zero, List.set_cons_succ]
    refine takeU 91 (i := 16) rfl rfl (by kernel_rfl) (by kernel_rfl) (by kernel_rfl) (fun _ _ _ h => h) (by kernel_rfl) hS0 ?_
    simp only [Act.put, List.setIfInBounds_toArray, List.set_cons_zero, List.set_cons_succ]
    refine takeU 92 (i := 17) rfl rfl (by kernel_rfl) (by kernel_rfl) (by kernel_rfl) (fun _ _ _ h => h) (by kernel_rfl) hS0 ?_
    simp only [Act.put, List.setIfInBounds_toArray, List.set_cons_zero, List.set_cons_succ]
    refine takeU 93 (i := 18) rfl rfl (by kernel_rfl) (by kernel_rfl) (by kernel_rfl) (fun _ _ _ h => h) (by kernel_rfl) hS0 ?_
    simp only [Act.put, List.setIfInBounds_toArray, List.set_cons_zero, List.set_cons_succ]
    refine takeU 94 (i := 19) rfl rfl (by kernel_rfl) (by kernel_rfl) (by kernel_rfl) (fun _ _ _ h => h) (by kernel_rfl) hS0 ?_
    simp only [Act.put, List.setIfInBounds_toArray, List.set_cons_zero, List.set_cons_succ]
    refine takeU 95 (i := 20) rfl rfl (by kernel_rfl) (by kernel_rfl) (by kernel_rfl) (fun _ _ _ h => h) (by kernel_rfl) hS0 ?_
    simp only [Act.put, List.setIfInBounds_toArray, List.set_cons_zero, List.set_cons_succ]
    refine takeY 96 (i := 21) (v := ?v21c) rfl rfl (by kernel_rfl) (by kernel_rfl) (by kernel_rfl) (fun _ _ _ h => h) (by kernel_rfl) ?y21c hS0 ?_
    case y21c =>
      intro w' hw'; (try dsimp only at hw'); obtain e8 := hw'; go_simp; try with_reducible rfl
    simp only [Act.put, List.setIfInBounds_toArray, List.set_cons_zero, List.set_cons_succ]
    refine takeY 74 (i := 22) (v := ?v22c) rfl rfl (by kernel_rfl) (by kernel_rfl) (by kernel_rfl) (fun _ _ _ h => h) (by kernel_rfl) ?y22c hS0 ?_
    case y22c =>
      intro w' hw'; (try dsimp only at hw'); obtain e8 := hw'; go_simp; try with_reducible rfl
    simp only [Act.put, List.setIfInBounds_toArray, List.set_cons_zero, List.set_cons_succ]
    refine wpAnyH_done (by kernel_rfl) ?_ _
    clear hS0
    generalize hw1 : World.drew w = w1 at *
    clear hw1
    replace c0 := (HB0.out.cell (p := ⟨p, 0, none⟩) hpl).trans c0
    replace c7 := (HB0.out.cell (p := ⟨p, 7, none⟩) hpl).trans c7
    replace c8 := (HB0.out.cell (p := ⟨p, 8, none⟩) hpl).trans c8
    replace d0 := (HB0.out.cell (p := ⟨q, 0, none⟩) hql).trans d0
    replace d8 := (HB0.out.cell (p := ⟨q, 8, none⟩) hql).trans d8
    go_wp2
    go_ret
    exact ⟨⟨_, rfl, .inr ⟨HNo.out, rfl⟩⟩, HB0.out⟩
  have f3 : (rule == 3) = false := by simpa using r3
  by_cases r4 : rule = 4
  · subst r4
    clear r1 f1 r2 f2 r3 f3
    clear hqa1 hqa2
    have HNo : Hid (∀ s', ¬ RuleT 4 (.dual (.bin op a b)) s') := Lib.hid (fun s' h => by cases h)
    go_enter Tryz.func43, Tryz.ntmps43
    go_wp2
    have hS0 : (fun w' => w'.cell? ⟨p, 8, none⟩ = some (.pointer none)) (World.drew w) := (HB0.out.cell (p := ⟨p, 8, none⟩) hpl).trans c8
    refine wp_region_held (S := fun w' => w'.cell? ⟨p, 8, none⟩ = some (.pointer none)) (by kernel_rfl) ?_
    change wpAnyH _ _ _ _ _ _ _ _ (World.drew _)
    refine takeY 75 (i := 0) (v := ?v0d) rfl rfl (by kernel_rfl) (by kernel_rfl) (by kernel_rfl) (fun _ _ _ h => h) (by kernel_rfl) ?y0d hS0 ?_
    case y0d =>
      intro w' hw'; (try dsimp only at hw'); obtain e8 := hw'; go_simp; try with_reducible rfl
    simp only [Act.put, List.setIfInBounds_toArray, List.set_cons_zero, List.set_cons_succ]
    refine takeY 76 (i := 1) (v := ?v1d) rfl rfl (by kernel_rfl) (by kernel_rfl) (by kernel_rfl) (fun _ _ _ h => h) (by kernel_rfl) ?y1d hS0 ?_
    case y1d =>
      intro w' hw'; (try dsimp only at hw'); obtain e8 := hw'; go_simp; try with_reducible rfl
    simp only [Act.put, List.setIfInBounds_toArray, List.set_cons_zero, List.set_cons_succ]
    refine takeY 77 (i := 2) (v := ?v2d) rfl rfl (by kernel_rfl) (by kernel_rfl) (by kernel_rfl) (fun _ _ _ h => h) (by kernel_rfl) ?y2d hS0 ?_
    case y2d =>
      intro w' hw'; (try dsimp only at hw'); obtain e8 := hw'; go_simp; try with_reducible rfl
    simp only [Act.put, List.setIfInBounds_toArray, List.set_cons_zero, List.set_cons_succ]
    refine takeU 78 (i := 3) rfl rfl (by kernel_rfl) (by kernel_rfl) (by kernel_rfl) (fun _ _ _ h => h) (by kernel_rfl) hS0 ?_
    simp only [Act.put, List.setIfInBounds_toArray, List.set_cons_zero, List.set_cons_succ]
    refine takeU 79 (i := 4) rfl rfl (by kernel_rfl) (by kernel_rfl) (by kernel_rfl) (fun _ _ _ h => h) (by kernel_rfl) hS0 ?_
    simp only [Act.put, List.setIfInBounds_toArray, List.set_cons_zero, List.set_cons_succ]
    refine takeU 80 (i := 5) rfl rfl (by kernel_rfl) (by kernel_rfl) (by kernel_rfl) (fun _ _ _ h => h) (by kernel_rfl) hS0 ?_
    simp only [Act.put, List.setIfInBounds_toArray, List.set_cons_zero, List.set_cons_succ]
    refine takeU 81 (i := 6) rfl rfl (by kernel_rfl) (by kernel_rfl) (by kernel_rfl) (fun _ _ _ h => h) (by kernel_rfl) hS0 ?_
    simp only [Act.put, List.setIfInBounds_toArray, List.set_cons_zero, List.set_cons_succ]
    refine takeU 82 (i := 7) rfl rfl (by kernel_rfl) (by kernel_rfl) (by kernel_rfl) (fun _ _ _ h => h) (by kernel_rfl) hS0 ?_
    simp only [Act.put, List.setIfInBounds_toArray, List.set_cons_zero, List.set_cons_succ]
    refine takeY 83 (i := 8) (v := ?v8d) rfl rfl (by kernel_rfl) (by kernel_rfl) (by kernel_rfl) (fun _ _ _ h => h) (by kernel_rfl) ?y8d hS0 ?_
    case y8d =>
      intro w' hw'; (try dsimp only at hw'); obtain e8 := hw'; go_simp; try with_reducible rfl
    simp only [Act.put, List.setIfInBounds_toArray, List.set_cons_zero, List.set_cons_succ]
    refine takeY 84 (i := 9) (v := ?v9d) rfl rfl (by kernel_rfl) (by kernel_rfl) (by kernel_rfl) (fun _ _ _ h => h) (by kernel_rfl) ?y9d hS0 ?_
    case y9d =>
      intro w' hw'; (try dsimp only at hw'); obtain e8 := hw'; go_simp; try with_reducible rfl
    simp only [Act.put, List.setIfInBounds_toArray, List.set_cons_zero, List.set_cons_succ]
    refine takeU 85 (i := 10) rfl rfl (by kernel_rfl) (by kernel_rfl) (by kernel_rfl) (fun _ _ _ h => h) (by kernel_rfl) hS0 ?_
    simp only [Act.put, List.setIfInBounds_toArray, List.set_cons_zero, List.set_cons_succ]
    refine takeU 86 (i := 11) rfl rfl (by kernel_rfl) (by kernel_rfl) (by kernel_rfl) (fun _ _ _ h => h) (by kernel_rfl) hS0 ?_
    simp only [Act.put, List.setIfInBounds_toArray, List.set_cons_zero, List.set_cons_succ]
    refine takeU 87 (i := 12) rfl rfl (by kernel_rfl) (by kernel_rfl) (by kernel_rfl) (fun _ _ _ h => h) (by kernel_rfl) hS0 ?_
    simp only [Act.put, List.setIfInBounds_toArray, List.set_cons_zero, List.set_cons_succ]
    refine takeU 88 (i := 13) rfl rfl (by kernel_rfl) (by kernel_rfl) (by kernel_rfl) (fun _ _ _ h => h) (by kernel_rfl) hS0 ?_
    simp only [Act.put, List.setIfInBounds_toArray, List.set_cons_zero, List.set_cons_succ]
    refine takeU 89 (i := 14) rfl rfl (by kernel_rfl) (by kernel_rfl) (by kernel_rfl) (fun _ _ _ h => h) (by kernel_rfl) hS0 ?_
    simp only [Act.put, List.setIfInBounds_toArray, List.set_cons_zero, List.set_cons_succ]
    refine takeU 90 (i := 15) rfl rfl (by kernel_rfl) (by kernel_rfl) (by kernel_rfl) (fun _ _ _ h => h) (by kernel_rfl) hS0 ?_
    simp only [Act.put, List.setIfInBounds_toArray, List.set_cons_zero, List.set_cons_succ]
    refine takeU 91 (i := 16) rfl rfl (by kernel_rfl) (by kernel_rfl) (by kernel_rfl) (fun _ _ _ h => h) (by kernel_rfl) hS0 ?_
    simp only [Act.put, List.setIfInBounds_toArray, List.set_cons_zero, List.set_cons_succ]
    refine takeU 92 (i := 17) rfl rfl (by kernel_rfl) (by kernel_rfl) (by kernel_rfl) (fun _ _ _ h => h) (by kernel_rfl) hS0 ?_
    simp only [Act.put, List.setIfInBounds_toArray, List.set_cons_zero, List.set_cons_succ]
    refine takeU 93 (i := 18) rfl rfl (by kernel_rfl) (by kernel_rfl) (by kernel_rfl) (fun _ _ _ h => h) (by kernel_rfl) hS0 ?_
    simp only [Act.put, List.setIfInBounds_toArray, List.set_cons_zero, List.set_cons_succ]
    refine takeU 94 (i := 19) rfl rfl (by kernel_rfl) (by kernel_rfl) (by kernel_rfl) (fun _ _ _ h => h) (by kernel_rfl) hS0 ?_
    simp only [Act.put, List.setIfInBounds_toArray, List.set_cons_zero, List.set_cons_succ]
    refine takeU 95 (i := 20) rfl rfl (by kernel_rfl) (by kernel_rfl) (by kernel_rfl) (fun _ _ _ h => h) (by kernel_rfl) hS0 ?_
    simp only [Act.put, List.setIfInBounds_toArray, List.set_cons_zero, List.set_cons_succ]
    refine takeY 96 (i := 21) (v := ?v21d) rfl rfl (by kernel_rfl) (by kernel_rfl) (by kernel_rfl) (fun _ _ _ h => h) (by kernel_rfl) ?y21d hS0 ?_
    case y21d =>
      intro w' hw'; (try dsimp only at hw'); obtain e8 := hw'; go_simp; try with_reducible rfl
    simp only [Act.put, List.setIfInBounds_toArray, List.set_cons_zero, List.set_cons_succ]
    refine takeY 74 (i := 22) (v := ?v22d) rfl rfl (by kernel_rfl) (by kernel_rfl) (by kernel_rfl) (fun _ _ _ h => h) (by kernel_rfl) ?y22d hS0 ?_
    case y22d =>
      intro w' hw'; (try dsimp only at hw'); obtain e8 := hw'; go_simp; try with_reducible rfl
    simp only [Act.put, List.setIfInBounds_toArray, List.set_cons_zero, List.set_cons_succ]
    refine wpAnyH_done (by kernel_rfl) ?_ _
    clear hS0
    generalize hw1 : World.drew w = w1 at *
    clear hw1
    replace c0 := (HB0.out.cell (p := ⟨p, 0, none⟩) hpl).trans c0
    replace c7 := (HB0.out.cell (p := ⟨p, 7, none⟩) hpl).trans c7
    replace c8 := (HB0.out.cell (p := ⟨p, 8, none⟩) hpl).trans c8
    replace d0 := (HB0.out.cell (p := ⟨q, 0, none⟩) hql).trans d0
    replace d8 := (HB0.out.cell (p := ⟨q, 8, none⟩) hql).trans d8
    go_wp2
    go_ret
    exact ⟨⟨_, rfl, .inr ⟨HNo.out, rfl⟩⟩, HB0.out⟩
  have f4 : (rule == 4) = false := by simpa using r4
  clear hqa1 hqa2
  have HNo : Hid (∀ s', ¬ RuleT rule (.dual (.bin op a b)) s') := Lib.hid (fun s' h => by cases h <;> contradiction)
  clear r1 r2 r3 r4
  go_enter Tryz.func43, Tryz.ntmps43
  go_wp2
  have hS0 : (fun w' => w'.cell? ⟨p, 8, none⟩ = some (.pointer none)) (World.drew w) := (HB0.out.cell (p := ⟨p, 8, none⟩) hpl).trans c8
  refine wp_region_held (S := fun w' => w'.cell? ⟨p, 8, none⟩ = some (.pointer none)) (by kernel_rfl) ?_
  change wpAnyH _ _ _ _ _ _ _ _ (World.drew _)
  refine takeY 75 (i := 0) (v := ?v0e) rfl rfl (by kernel_rfl) (by kernel_rfl) (by kernel_rfl) (fun _ _ _ h => h) (by kernel_rfl) ?y0e hS0 ?_
  case y0e =>
    intro w' hw'; (try dsimp only at hw'); obtain e8 := hw'; go_simp; try with_reducible rfl
  simp only [Act.put, List.setIfInBounds_toArray, List.set_cons_zero, List.set_cons_succ]
  refine takeY 76 (i := 1) (v := ?v1e) rfl rfl (by kernel_rfl) (by kernel_rfl) (by kernel_rfl) (fun _ _ _ h => h) (by kernel_rfl) ?y1e hS0 ?_
  case y1e =>
    intro w' hw'; (try dsimp only at hw'); obtain e8 := hw'; go_simp; try with_reducible rfl
  simp only [Act.put, List.setIfInBounds_toArray, List.set_cons_zero, List.set_cons_succ]
  refine takeY 77 (i := 2) (v := ?v2e) rfl rfl (by kernel_rfl) (by kernel_rfl) (by kernel_rfl) (fun _ _ _ h => h) (by kernel_rfl) ?y2e hS0 ?_
  case y2e =>
    intro w' hw'; (try dsimp only at hw'); obtain e8 := hw'; go_simp; try with_reducible rfl
  simp only [Act.put, List.setIfInBounds_toArray, List.set_cons_zero, List.set_cons_succ]
  refine takeU 78 (i := 3) rfl rfl (by kernel_rfl) (by kernel_rfl) (by kernel_rfl) (fun _ _ _ h => h) (by kernel_rfl) hS0 ?_
  simp only [Act.put, List.setIfInBounds_toArray, List.set_cons_zero, List.set_cons_succ]
  refine takeU 79 (i := 4) rfl rfl (by kernel_rfl) (by kernel_rfl) (by kernel_rfl) (fun _ _ _ h => h) (by kernel_rfl) hS0 ?_
  simp only [Act.put, List.setIfInBounds_toArray, List.set_cons_zero, List.set_cons_succ]
  refine takeU 80 (i := 5) rfl rfl (by kernel_rfl) (by kernel_rfl) (by kernel_rfl) (fun _ _ _ h => h) (by kernel_rfl) hS0 ?_
  simp only [Act.put, List.setIfInBounds_toArray, List.set_cons_zero, List.set_cons_succ]
  refine takeU 81 (i := 6) rfl rfl (by kernel_rfl) (by kernel_rfl) (by kernel_rfl) (fun _ _ _ h => h) (by kernel_rfl) hS0 ?_
  simp only [Act.put, List.setIfInBounds_toArray, List.set_cons_zero, List.set_cons_succ]
  refine takeU 82 (i := 7) rfl rfl (by kernel_rfl) (by kernel_rfl) (by kernel_rfl) (fun _ _ _ h => h) (by kernel_rfl) hS0 ?_
  simp only [Act.put, List.setIfInBounds_toArray, List.set_cons_zero, List.set_cons_succ]
  refine takeY 83 (i := 8) (v := ?v8e) rfl rfl (by kernel_rfl) (by kernel_rfl) (by kernel_rfl) (fun _ _ _ h => h) (by kernel_rfl) ?y8e hS0 ?_
  case y8e =>
    intro w' hw'; (try dsimp only at hw'); obtain e8 := hw'; go_simp; try with_reducible rfl
  simp only [Act.put, List.setIfInBounds_toArray, List.set_cons_zero, List.set_cons_succ]
  refine takeY 84 (i := 9) (v := ?v9e) rfl rfl (by kernel_rfl) (by kernel_rfl) (by kernel_rfl) (fun _ _ _ h => h) (by kernel_rfl) ?y9e hS0 ?_
  case y9e =>
    intro w' hw'; (try dsimp only at hw'); obtain e8 := hw'; go_simp; try with_reducible rfl
  simp only [Act.put, List.setIfInBounds_toArray, List.set_cons_zero, List.set_cons_succ]
  refine takeU 85 (i := 10) rfl rfl (by kernel_rfl) (by kernel_rfl) (by kernel_rfl) (fun _ _ _ h => h) (by kernel_rfl) hS0 ?_
  simp only [Act.put, List.setIfInBounds_toArray, List.set_cons_zero, List.set_cons_succ]
  refine takeU 86 (i := 11) rfl rfl (by kernel_rfl) (by kernel_rfl) (by kernel_rfl) (fun _ _ _ h => h) (by kernel_rfl) hS0 ?_
  simp only [Act.put, List.setIfInBounds_toArray, List.set_cons_zero, List.set_cons_succ]
  refine takeU 87 (i := 12) rfl rfl (by kernel_rfl) (by kernel_rfl) (by kernel_rfl) (fun _ _ _ h => h) (by kernel_rfl) hS0 ?_
  simp only [Act.put, List.setIfInBounds_toArray, List.set_cons_zero, List.set_cons_succ]
  refine takeU 88 (i := 13) rfl rfl (by kernel_rfl) (by kernel_rfl) (by kernel_rfl) (fun _ _ _ h => h) (by kernel_rfl) hS0 ?_
  simp only [Act.put, List.setIfInBounds_toArray, List.set_cons_zero, List.set_cons_succ]
  refine takeU 89 (i := 14) rfl rfl (by kernel_rfl) (by kernel_rfl) (by kernel_rfl) (fun _ _ _ h => h) (by kernel_rfl) hS0 ?_
  simp only [Act.put, List.setIfInBounds_toArray, List.set_cons_zero, List.set_cons_succ]
  refine takeU 90 (i := 15) rfl rfl (by kernel_rfl) (by kernel_rfl) (by kernel_rfl) (fun _ _ _ h => h) (by kernel_rfl) hS0 ?_
  simp only [Act.put, List.setIfInBounds_toArray, List.set_cons_zero, List.set_cons_succ]
  refine takeU 91 (i := 16) rfl rfl (by kernel_rfl) (by kernel_rfl) (by kernel_rfl) (fun _ _ _ h => h) (by kernel_rfl) hS0 ?_
  simp only [Act.put, List.setIfInBounds_toArray, List.set_cons_zero, List.set_cons_succ]
  refine takeU 92 (i := 17) rfl rfl (by kernel_rfl) (by kernel_rfl) (by kernel_rfl) (fun _ _ _ h => h) (by kernel_rfl) hS0 ?_
  simp only [Act.put, List.setIfInBounds_toArray, List.set_cons_zero, List.set_cons_succ]
  refine takeU 93 (i := 18) rfl rfl (by kernel_rfl) (by kernel_rfl) (by kernel_rfl) (fun _ _ _ h => h) (by kernel_rfl) hS0 ?_
  simp only [Act.put, List.setIfInBounds_toArray, List.set_cons_zero, List.set_cons_succ]
  refine takeU 94 (i := 19) rfl rfl (by kernel_rfl) (by kernel_rfl) (by kernel_rfl) (fun _ _ _ h => h) (by kernel_rfl) hS0 ?_
  simp only [Act.put, List.setIfInBounds_toArray, List.set_cons_zero, List.set_cons_succ]
  refine takeU 95 (i := 20) rfl rfl (by kernel_rfl) (by kernel_rfl) (by kernel_rfl) (fun _ _ _ h => h) (by kernel_rfl) hS0 ?_
  simp only [Act.put, List.setIfInBounds_toArray, List.set_cons_zero, List.set_cons_succ]
  refine takeY 96 (i := 21) (v := ?v21e) rfl rfl (by kernel_rfl) (by kernel_rfl) (by kernel_rfl) (fun _ _ _ h => h) (by kernel_rfl) ?y21e hS0 ?_
  case y21e =>
    intro w' hw'; (try dsimp only at hw'); obtain e8 := hw'; go_simp; try with_reducible rfl
  simp only [Act.put, List.setIfInBounds_toArray, List.set_cons_zero, List.set_cons_succ]
  refine takeY 74 (i := 22) (v := ?v22e) rfl rfl (by kernel_rfl) (by kernel_rfl) (by kernel_rfl) (fun _ _ _ h => h) (by kernel_rfl) ?y22e hS0 ?_
  case y22e =>
    intro w' hw'; (try dsimp only at hw'); obtain e8 := hw'; go_simp; try with_reducible rfl
  simp only [Act.put, List.setIfInBounds_toArray, List.set_cons_zero, List.set_cons_succ]
  refine wpAnyH_done (by kernel_rfl) ?_ _
  clear hS0
  generalize hw1 : World.drew w = w1 at *
  clear hw1
  replace c0 := (HB0.out.cell (p := ⟨p, 0, none⟩) hpl).trans c0
  replace c7 := (HB0.out.cell (p := ⟨p, 7, none⟩) hpl).trans c7
  replace c8 := (HB0.out.cell (p := ⟨p, 8, none⟩) hpl).trans c8
  replace d0 := (HB0.out.cell (p := ⟨q, 0, none⟩) hql).trans d0
  replace d8 := (HB0.out.cell (p := ⟨q, 8, none⟩) hql).trans d8
  go_wp2
  go_ret
  exact ⟨⟨_, rfl, .inr ⟨HNo.out, rfl⟩⟩, HB0.out⟩
set_option maxRecDepth 20000 in
set_option maxHeartbeats 3200000 in
theorem rew_bin (w : World) (B lo p : Nat) (rule : Int) (op : Int) (a b : Tr) (hpa : PartAt w B lo (.bin op a b) p) (hB : B ≤ w.heap.size) (hlo : lo ≤ w.heap.size) (hok : OkT (.bin op a b)) (hl : (flatT a).length + (flatT b).length ≤ 1000) :
    Calls Tryz.prog 43 #[.pointer (some ⟨p, 0, none⟩), .int .i64 rule] w fun e w' => (∃ v, e = .returned v ∧ RewV w' B lo rule (.bin op a b) v) ∧ Below w.heap.size w w' := by
  obtain ⟨_, hpl, hbin, t, q, r, hrow, hno, hsh, hwi, hqa, hra⟩ := hpa
  have HRow := Lib.hid hrow
  have HNW := Lib.hid (And.intro hno (And.intro hsh hwi))
  have HBin := Lib.hid hbin
  have e3 : (op == 3) = false := by have := (bin_ne hbin).2; simpa using this
  have c0 := part0 hrow
  have c7 := part7 hrow
  have c8 := part8 hrow
  clear hrow hno hsh hwi hbin
  have HB0 : Hid (Below w.heap.size w (World.drew w)) := Lib.hid (Below.refl _ _).drew
  by_cases r1 : rule = 1
  · subst r1
    clear hqa hra
    have HNo : Hid (∀ s', ¬ RuleT 1 (.bin op a b) s') := Lib.hid (fun s' h => by cases h)
    go_enter Tryz.func43, Tryz.ntmps43
    go_wp2
    have hS0 : (fun w' => w'.cell? ⟨p, 8, none⟩ = some (.pointer (some ⟨r, 0, none⟩))) (World.drew w) := (HB0.out.cell (p := ⟨p, 8, none⟩) hpl).trans c8
    refine wp_region_held (S := fun w' => w'.cell? ⟨p, 8, none⟩ = some (.pointer (some ⟨r, 0, none⟩))) (by kernel_rfl) ?_
    change wpAnyH _ _ _ _ _ _ _ _ (World.drew _)
    refine takeY 75 (i := 0) (v := ?v0a) rfl rfl (by kernel_rfl) (by kernel_rfl) (by kernel_rfl) (fun _ _ _ h => h) (by kernel_rfl) ?y0a hS0 ?_
    case y0a =>
      intro w' hw'; (try dsimp only at hw'); obtain e8 := hw'; go_simp; try with_reducible rfl
    simp only [Act.put, List.setIfInBounds_toArray, List.set_cons_zero, List.set_cons_succ]
    refine takeY 76 (i := 1) (v := ?v1a) rfl rfl (by kernel_rfl) (by kernel_rfl) (by kernel_rfl) (fun _ _ _ h => h) (by kernel_rfl) ?y1a hS0 ?_
    case y1a =>
      intro w' hw'; (try dsimp only at hw'); obtain e8 := hw'; go_simp; try with_reducible rfl
    simp only [Act.put, List.setIfInBounds_toArray, List.set_cons_zero, List.set_cons_succ]
    refine takeY 77 (i := 2) (v := ?v2a) rfl rfl (by kernel_rfl) (by kernel_rfl) (by kernel_rfl) (fun _ _ _ h => h) (by kernel_rfl) ?y2a hS0 ?_
    case y2a =>
      intro w' hw'; (try dsimp only at hw'); obtain e8 := hw'; go_simp; try with_reducible rfl
    simp only [Act.put, List.setIfInBounds_toArray, List.set_cons_zero, List.set_cons_succ]
    refine takeU 78 (i := 3) rfl rfl (by kernel_rfl) (by kernel_rfl) (by kernel_rfl) (fun _ _ _ h => h) (by kernel_rfl) hS0 ?_
    simp only [Act.put, List.setIfInBounds_toArray, List.set_cons_zero, List.set_cons_succ]
    refine takeU 79 (i := 4) rfl rfl (by kernel_rfl) (by kernel_rfl) (by kernel_rfl) (fun _ _ _ h => h) (by kernel_rfl) hS0 ?_
    simp only [Act.put, List.setIfInBounds_toArray, List.set_cons_zero, List.set_cons_succ]
    refine takeU 80 (i := 5) rfl rfl (by kernel_rfl) (by kernel_rfl) (by kernel_rfl) (fun _ _ _ h => h) (by kernel_rfl) hS0 ?_
    simp only [Act.put, List.setIfInBounds_toArray, List.set_cons_zero, List.set_cons_succ]
    refine takeU 81 (i := 6) rfl rfl (by kernel_rfl) (by kernel_rfl) (by kernel_rfl) (fun _ _ _ h => h) (by kernel_rfl) hS0 ?_
    simp only [Act.put, List.setIfInBounds_toArray, List.set_cons_zero, List.set_cons_succ]
    refine takeU 82 (i := 7) rfl rfl (by kernel_rfl) (by kernel_rfl) (by kernel_rfl) (fun _ _ _ h => h) (by kernel_rfl) hS0 ?_
    simp only [Act.put, List.setIfInBounds_toArray, List.set_cons_zero, List.set_cons_succ]
    refine takeY 83 (i := 8) (v := ?v8a) rfl rfl (by kernel_rfl) (by kernel_rfl) (by kernel_rfl) (fun _ _ _ h => h) (by kernel_rfl) ?y8a hS0 ?_
    case y8a =>
      intro w' hw'; (try dsimp only at hw'); obtain e8 := hw'; go_simp; try with_reducible rfl
    simp only [Act.put, List.setIfInBounds_toArray, List.set_cons_zero, List.set_cons_succ]
    refine takeY 84 (i := 9) (v := ?v9a) rfl rfl (by kernel_rfl) (by kernel_rfl) (by kernel_rfl) (fun _ _ _ h => h) (by kernel_rfl) ?y9a hS0 ?_
    case y9a =>
      intro w' hw'; (try dsimp only at hw'); obtain e8 := hw'; go_simp; try with_reducible rfl
    simp only [Act.put, List.setIfInBounds_toArray, List.set_cons_zero, List.set_cons_succ]
    refine takeU 85 (i := 10) rfl rfl (by kernel_rfl) (by kernel_rfl) (by kernel_rfl) (fun _ _ _ h => h) (by kernel_rfl) hS0 ?_
    simp only [Act.put, List.setIfInBounds_toArray, List.set_cons_zero, List.set_cons_succ]
    refine takeU 86 (i := 11) rfl rfl (by kernel_rfl) (by kernel_rfl) (by kernel_rfl) (fun _ _ _ h => h) (by kernel_rfl) hS0 ?_
    simp only [Act.put, List.setIfInBounds_toArray, List.set_cons_zero, List.set_cons_succ]
    refine takeU 87 (i := 12) rfl rfl (by kernel_rfl) (by kernel_rfl) (by kernel_rfl) (fun _ _ _ h => h) (by kernel_rfl) hS0 ?_
    simp only [Act.put, List.setIfInBounds_toArray, List.set_cons_zero, List.set_cons_succ]
    refine takeU 88 (i := 13) rfl rfl (by kernel_rfl) (by kernel_rfl) (by kernel_rfl) (fun _ _ _ h => h) (by kernel_rfl) hS0 ?_
    simp only [Act.put, List.setIfInBounds_toArray, List.set_cons_zero, List.set_cons_succ]
    refine takeU 89 (i := 14) rfl rfl (by kernel_rfl) (by kernel_rfl) (by kernel_rfl) (fun _ _ _ h => h) (by kernel_rfl) hS0 ?_
    simp only [Act.put, List.setIfInBounds_toArray, List.set_cons_zero, List.set_cons_succ]
    refine takeU 90 (i := 15) rfl rfl (by kernel_rfl) (by kernel_rfl) (by kernel_rfl) (fun _ _ _ h => h) (by kernel_rfl) hS0 ?_
    simp only [Act.put, List.setIfInBounds_toArray, List.set_cons_zero, List.set_cons_succ]
    refine takeU 91 (i := 16) rfl rfl (by kernel_rfl) (by kernel_rfl) (by kernel_rfl) (fun _ _ _ h => h) (by kernel_rfl) hS0 ?_
    simp only [Act.put, List.setIfInBounds_toArray, List.set_cons_zero, List.set_cons_succ]
    refine takeU 92 (i := 17) rfl rfl (by kernel_rfl) (by kernel_rfl) (by kernel_rfl) (fun _ _ _ h => h) (by kernel_rfl) hS0 ?_
    simp only [Act.put, List.setIfInBounds_toArray, List.set_cons_zero, List.set_cons_succ]
    refine takeU 93 (i := 18) rfl rfl (by kernel_rfl) (by kernel_rfl) (by kernel_rfl) (fun _ _ _ h => h) (by kernel_rfl) hS0 ?_
    simp only [Act.put, List.setIfInBounds_toArray, List.set_cons_zero, List.set_cons_succ]
    refine takeU 94 (i := 19) rfl rfl (by kernel_rfl) (by kernel_rfl) (by kernel_rfl) (fun _ _ _ h => h) (by kernel_rfl) hS0 ?_
    simp only [Act.put, List.setIfInBounds_toArray, List.set_cons_zero, List.set_cons_succ]
    refine takeU 95 (i := 20) rfl rfl (by kernel_rfl) (by kernel_rfl) (by kernel_rfl) (fun _ _ _ h => h) (by kernel_rfl) hS0 ?_
    simp only [Act.put, List.setIfInBounds_toArray, List.set_cons_zero, List.set_cons_succ]
    refine takeY 96 (i := 21) (v := ?v21a) rfl rfl (by kernel_rfl) (by kernel_rfl) (by kernel_rfl) (fun _ _ _ h => h) (by kernel_rfl) ?y21a hS0 ?_
    case y21a =>
      intro w' hw'; (try dsimp only at hw'); obtain e8 := hw'; go_simp; try with_reducible rfl
    simp only [Act.put, List.setIfInBounds_toArray, List.set_cons_zero, List.set_cons_succ]
    refine takeY 74 (i := 22) (v := ?v22a) rfl rfl (by kernel_rfl) (by kernel_rfl) (by kernel_rfl) (fun _ _ _ h => h) (by kernel_rfl) ?y22a hS0 ?_
    case y22a =>
      intro w' hw'; (try dsimp only at hw'); obtain e8 := hw'; go_simp; try with_reducible rfl
    simp only [Act.put, List.setIfInBounds_toArray, List.set_cons_zero, List.set_cons_succ]
    refine wpAnyH_done (by kernel_rfl) ?_ _
    clear hS0
    generalize hw1 : World.drew w = w1 at *
    clear hw1
    replace c0 := (HB0.out.cell (p := ⟨p, 0, none⟩) hpl).trans c0
    replace c7 := (HB0.out.cell (p := ⟨p, 7, none⟩) hpl).trans c7
    replace c8 := (HB0.out.cell (p := ⟨p, 8, none⟩) hpl).trans c8
    go_wp2
    go_ret
    exact ⟨⟨_, rfl, .inr ⟨HNo.out, rfl⟩⟩, HB0.out⟩
  have f1 : (rule == 1) = false := by simpa using r1
  by_cases r2 : rule = 2
  · subst r2
    clear r1 f1
    clear hqa hra
    have HNo : Hid (∀ s', ¬ RuleT 2 (.bin op a b) s') := Lib.hid (fun s' h => by cases h)
    go_enter Tryz.func43, Tryz.ntmps43
    go_wp2
    have hS0 : (fun w' => w'.cell? ⟨p, 8, none⟩ = some (.pointer (some ⟨r, 0, none⟩))) (World.drew w) := (HB0.out.cell (p := ⟨p, 8, none⟩) hpl).trans c8
    refine wp_region_held (S := fun w' => w'.cell? ⟨p, 8, none⟩ = some (.pointer (some ⟨r, 0, none⟩))) (by kernel_rfl) ?_
    change wpAnyH _ _ _ _ _ _ _ _ (World.drew _)
    refine takeY 75 (i := 0) (v := ?v0b) rfl rfl (by kernel_rfl) (by kernel_rfl) (by kernel_rfl) (fun _ _ _ h => h) (by kernel_rfl) ?y0b hS0 ?_
    case y0b =>
      intro w' hw'; (try dsimp only at hw'); obtain e8 := hw'; go_simp; try with_reducible rfl
    simp only [Act.put, List.setIfInBounds_toArray, List.set_cons_zero, List.set_cons_succ]
    refine takeY 76 (i := 1) (v := ?v1b) rfl rfl (by kernel_rfl) (by kernel_rfl) (by kernel_rfl) (fun _ _ _ h => h) (by kernel_rfl) ?y1b hS0 ?_
    case y1b =>
      intro w' hw'; (try dsimp only at hw'); obtain e8 := hw'; go_simp; try with_reducible rfl
    simp only [Act.put, List.setIfInBounds_toArray, List.set_cons_zero, List.set_cons_succ]
    refine takeY 77 (i := 2) (v := ?v2b) rfl rfl (by kernel_rfl) (by kernel_rfl) (by kernel_rfl) (fun _ _ _ h => h) (by kernel_rfl) ?y2b hS0 ?_
    case y2b =>
      intro w' hw'; (try dsimp only at hw'); obtain e8 := hw'; go_simp; try with_reducible rfl
    simp only [Act.put, List.setIfInBounds_toArray, List.set_cons_zero, List.set_cons_succ]
    refine takeU 78 (i := 3) rfl rfl (by kernel_rfl) (by kernel_rfl) (by kernel_rfl) (fun _ _ _ h => h) (by kernel_rfl) hS0 ?_
    simp only [Act.put, List.setIfInBounds_toArray, List.set_cons_zero, List.set_cons_succ]
    refine takeU 79 (i := 4) rfl rfl (by kernel_rfl) (by kernel_rfl) (by kernel_rfl) (fun _ _ _ h => h) (by kernel_rfl) hS0 ?_
    simp only [Act.put, List.setIfInBounds_toArray, List.set_cons_zero, List.set_cons_succ]
    refine takeU 80 (i := 5) rfl rfl (by kernel_rfl) (by kernel_rfl) (by kernel_rfl) (fun _ _ _ h => h) (by kernel_rfl) hS0 ?_
    simp only [Act.put, List.setIfInBounds_toArray, List.set_cons_zero, List.set_cons_succ]
    refine takeU 81 (i := 6) rfl rfl (by kernel_rfl) (by kernel_rfl) (by kernel_rfl) (fun _ _ _ h => h) (by kernel_rfl) hS0 ?_
    simp only [Act.put, List.setIfInBounds_toArray, List.set_cons_zero, List.set_cons_succ]
    refine takeU 82 (i := 7) rfl rfl (by kernel_rfl) (by kernel_rfl) (by kernel_rfl) (fun _ _ _ h => h) (by kernel_rfl) hS0 ?_
    simp only [Act.put, List.setIfInBounds_toArray, List.set_cons_zero, List.set_cons_succ]
    refine takeY 83 (i := 8) (v := ?v8b) rfl rfl (by kernel_rfl) (by kernel_rfl) (by kernel_rfl) (fun _ _ _ h => h) (by kernel_rfl) ?y8b hS0 ?_
    case y8b =>
      intro w' hw'; (try dsimp only at hw'); obtain e8 := hw'; go_simp; try with_reducible rfl
    simp only [Act.put, List.setIfInBounds_toArray, List.set_cons_zero, List.set_cons_succ]
    refine takeY 84 (i := 9) (v := ?v9b) rfl rfl (by kernel_rfl) (by kernel_rfl) (by kernel_rfl) (fun _ _ _ h => h) (by kernel_rfl) ?y9b hS0 ?_
    case y9b =>
      intro w' hw'; (try dsimp only at hw'); obtain e8 := hw'; go_simp; try with_reducible rfl
    simp only [Act.put, List.setIfInBounds_toArray, List.set_cons_zero, List.set_cons_succ]
    refine takeU 85 (i := 10) rfl rfl (by kernel_rfl) (by kernel_rfl) (by kernel_rfl) (fun _ _ _ h => h) (by kernel_rfl) hS0 ?_
    simp only [Act.put, List.setIfInBounds_toArray, List.set_cons_zero, List.set_cons_succ]
    refine takeU 86 (i := 11) rfl rfl (by kernel_rfl) (by kernel_rfl) (by kernel_rfl) (fun _ _ _ h => h) (by kernel_rfl) hS0 ?_
    simp only [Act.put, List.setIfInBounds_toArray, List.set_cons_zero, List.set_cons_succ]
    refine takeU 87 (i := 12) rfl rfl (by kernel_rfl) (by kernel_rfl) (by kernel_rfl) (fun _ _ _ h => h) (by kernel_rfl) hS0 ?_
    simp only [Act.put, List.setIfInBounds_toArray, List.set_cons_zero, List.set_cons_succ]
    refine takeU 88 (i := 13) rfl rfl (by kernel_rfl) (by kernel_rfl) (by kernel_rfl) (fun _ _ _ h => h) (by kernel_rfl) hS0 ?_
    simp only [Act.put, List.setIfInBounds_toArray, List.set_cons_zero, List.set_cons_succ]
    refine takeU 89 (i := 14) rfl rfl (by kernel_rfl) (by kernel_rfl) (by kernel_rfl) (fun _ _ _ h => h) (by kernel_rfl) hS0 ?_
    simp only [Act.put, List.setIfInBounds_toArray, List.set_cons_zero, List.set_cons_succ]
    refine takeU 90 (i := 15) rfl rfl (by kernel_rfl) (by kernel_rfl) (by kernel_rfl) (fun _ _ _ h => h) (by kernel_rfl) hS0 ?_
    simp only [Act.put, List.setIfInBounds_toArray, List.set_cons_zero, List.set_cons_succ]
    refine takeU 91 (i := 16) rfl rfl (by kernel_rfl) (by kernel_rfl) (by kernel_rfl) (fun _ _ _ h => h) (by kernel_rfl) hS0 ?_
    simp only [Act.put, List.setIfInBounds_toArray, List.set_cons_zero, List.set_cons_succ]
    refine takeU 92 (i := 17) rfl rfl (by kernel_rfl) (by kernel_rfl) (by kernel_rfl) (fun _ _ _ h => h) (by kernel_rfl) hS0 ?_
    simp only [Act.put, List.setIfInBounds_toArray, List.set_cons_zero, List.set_cons_succ]
    refine takeU 93 (i := 18) rfl rfl (by kernel_rfl) (by kernel_rfl) (by kernel_rfl) (fun _ _ _ h => h) (by kernel_rfl) hS0 ?_
    simp only [Act.put, List.setIfInBounds_toArray, List.set_cons_zero, List.set_cons_succ]
    refine takeU 94 (i := 19) rfl rfl (by kernel_rfl) (by kernel_rfl) (by kernel_rfl) (fun _ _ _ h => h) (by kernel_rfl) hS0 ?_
    simp only [Act.put, List.setIfInBounds_toArray, List.set_cons_zero, List.set_cons_succ]
    refine takeU 95 (i := 20) rfl rfl (by kernel_rfl) (by kernel_rfl) (by kernel_rfl) (fun _ _ _ h => h) (by kernel_rfl) hS0 ?_
    simp only [Act.put, List.setIfInBounds_toArray, List.set_cons_zero, List.set_cons_succ]
    refine takeY 96 (i := 21) (v := ?v21b) rfl rfl (by kernel_rfl) (by kernel_rfl) (by kernel_rfl) (fun _ _ _ h => h) (by kernel_rfl) ?y21b hS0 ?_
    case y21b =>
      intro w' hw'; (try dsimp only at hw'); obtain e8 := hw'; go_simp; try with_reducible rfl
    simp only [Act.put, List.setIfInBounds_toArray, List.set_cons_zero, List.set_cons_succ]
    refine takeY 74 (i := 22) (v := ?v22b) rfl rfl (by kernel_rfl) (by kernel_rfl) (by kernel_rfl) (fun _ _ _ h => h) (by kernel_rfl) ?y22b hS0 ?_
    case y22b =>
      intro w' hw'; (try dsimp only at hw'); obtain e8 := hw'; go_simp; try with_reducible rfl
    simp only [Act.put, List.setIfInBounds_toArray, List.set_cons_zero, List.set_cons_succ]
    refine wpAnyH_done (by kernel_rfl) ?_ _
    clear hS0
    generalize hw1 : World.drew w = w1 at *
    clear hw1
    replace c0 := (HB0.out.cell (p := ⟨p, 0, none⟩) hpl).trans c0
    replace c7 := (HB0.out.cell (p := ⟨p, 7, none⟩) hpl).trans c7
    replace c8 := (HB0.out.cell (p := ⟨p, 8, none⟩) hpl).trans c8
    go_wp2
    go_ret
    exact ⟨⟨_, rfl, .inr ⟨HNo.out, rfl⟩⟩, HB0.out⟩
  have f2 : (rule == 2) = false := by simpa using r2
  by_cases r3 : rule = 3
  · subst r3
    clear r1 f1 r2 f2
    obtain ⟨z, hz⟩ := bool_of (a = b)
    have HZ := Lib.hid hz
    have HNa : Hid (∀ W, Below w.heap.size w W → Calls Tryz.prog 40 #[.pointer (some ⟨q, 0, none⟩)] W (NodesOut (flatT a) W)) := Lib.hid fun W h => iNodes B lo a q W (hqa.below hB h) (Nat.le_trans hB h.size) (by omega)
    have HNb : Hid (∀ W, Below w.heap.size w W → Calls Tryz.prog 40 #[.pointer (some ⟨r, 0, none⟩)] W (NodesOut (flatT b) W)) := Lib.hid fun W h => iNodes B lo b r W (hra.below hB h) (Nat.le_trans hB h.size) (by omega)
    have HQa := Lib.hid hqa
    have HLn := Lib.hid hl
    have HOk := Lib.hid hok
    have HSp : Hid (∀ W, Below w.heap.size w W → W.cell? ⟨p, 7, none⟩ = some (.pointer (some ⟨q, 0, none⟩)) ∧ W.cell? ⟨p, 8, none⟩ = some (.pointer (some ⟨r, 0, none⟩))) := Lib.hid fun W h => ⟨(h.cell (p := ⟨p, 7, none⟩) hpl).trans c7, (h.cell (p := ⟨p, 8, none⟩) hpl).trans c8⟩
    have HC0 : Hid (∀ W, Below w.heap.size w W → W.cell? ⟨p, 0, none⟩ = some (.int .i64 op)) := Lib.hid fun W h => (h.cell (p := ⟨p, 0, none⟩) hpl).trans c0
    clear hqa hra hz hl hok
    go_enter Tryz.func43, Tryz.ntmps43
    go_wp2
    have hS0 : (fun w' => w'.cell? ⟨p, 7, none⟩ = some (.pointer (some ⟨q, 0, none⟩)) ∧ w'.cell? ⟨p, 8, none⟩ = some (.pointer (some ⟨r, 0, none⟩))) (World.drew w) := HSp.out _ HB0.out
    refine wp_region_held (S := fun w' => w'.cell? ⟨p, 7, none⟩ = some (.pointer (some ⟨q, 0, none⟩)) ∧ w'.cell? ⟨p, 8, none⟩ = some (.pointer (some ⟨r, 0, none⟩))) (by kernel_rfl) ?_
    change wpAnyH _ _ _ _ _ _ _ _ (World.drew _)
    refine takeY 75 (i := 0) (v := ?v0c) rfl rfl (by kernel_rfl) (by kernel_rfl) (by kernel_rfl) (fun _ _ _ h => h) (by kernel_rfl) ?y0c hS0 ?_
    case y0c =>
      intro w' hw'; (try dsimp only at hw'); obtain ⟨e7, e8⟩ := hw'; go_simp; try with_reducible rfl
    simp only [Act.put, List.setIfInBounds_toArray, List.set_cons_zero, List.set_cons_succ]
    refine takeY 76 (i := 1) (v := ?v1c) rfl rfl (by kernel_rfl) (by kernel_rfl) (by kernel_rfl) (fun _ _ _ h => h) (by kernel_rfl) ?y1c hS0 ?_
    case y1c =>
      intro w' hw'; (try dsimp only at hw'); obtain ⟨e7, e8⟩ := hw'; go_simp; try with_reducible rfl
    simp only [Act.put, List.setIfInBounds_toArray, List.set_cons_zero, List.set_cons_succ]
    refine takeY 77 (i := 2) (v := ?v2c) rfl rfl (by kernel_rfl) (by kernel_rfl) (by kernel_rfl) (fun _ _ _ h => h) (by kernel_rfl) ?y2c hS0 ?_
    case y2c =>
      intro w' hw'; (try dsimp only at hw'); obtain ⟨e7, e8⟩ := hw'; go_simp; try with_reducible rfl
    simp only [Act.put, List.setIfInBounds_toArray, List.set_cons_zero, List.set_cons_succ]
    refine takeY 78 (i := 3) (v := ?v3c) rfl rfl (by kernel_rfl) (by kernel_rfl) (by kernel_rfl) (fun _ _ _ h => h) (by kernel_rfl) ?y3c hS0 ?_
    case y3c =>
      intro w' hw'; (try dsimp only at hw'); obtain ⟨e7, e8⟩ := hw'; go_simp; try with_reducible rfl
    simp only [Act.put, List.setIfInBounds_toArray, List.set_cons_zero, List.set_cons_succ]
    refine takeY 79 (i := 4) (v := ?v4c) rfl rfl (by kernel_rfl) (by kernel_rfl) (by kernel_rfl) (fun _ _ _ h => h) (by kernel_rfl) ?y4c hS0 ?_
    case y4c =>
      intro w' hw'; (try dsimp only at hw'); obtain ⟨e7, e8⟩ := hw'; go_simp; try with_reducible rfl
    simp only [Act.put, List.setIfInBounds_toArray, List.set_cons_zero, List.set_cons_succ]
    refine takeY 80 (i := 5) (v := ?v5c) rfl rfl (by kernel_rfl) (by kernel_rfl) (by kernel_rfl) (fun _ _ _ h => h) (by kernel_rfl) ?y5c hS0 ?_
    case y5c =>
      intro w' hw'; (try dsimp only at hw'); obtain ⟨e7, e8⟩ := hw'; go_simp; try with_reducible rfl
    simp only [Act.put, List.setIfInBounds_toArray, List.set_cons_zero, List.set_cons_succ]
    refine takeY 81 (i := 6) (v := ?v6c) rfl rfl (by kernel_rfl) (by kernel_rfl) (by kernel_rfl) (fun _ _ _ h => h) (by kernel_rfl) ?y6c hS0 ?_
    case y6c =>
      intro w' hw'; (try dsimp only at hw'); obtain ⟨e7, e8⟩ := hw'; go_simp; try with_reducible rfl
    simp only [Act.put, List.setIfInBounds_toArray, List.set_cons_zero, List.set_cons_succ]
    refine takeY 82 (i := 7) (v := ?v7c) rfl rfl (by kernel_rfl) (by kernel_rfl) (by kernel_rfl) (fun _ _ _ h => h) (by kernel_rfl) ?y7c hS0 ?_
    case y7c =>
      intro w' hw'; (try dsimp only at hw'); obtain ⟨e7, e8⟩ := hw'; go_simp; try with_reducible rfl
    simp only [Act.put, List.setIfInBounds_toArray, List.set_cons_zero, List.set_cons_succ]
    refine takeY 83 (i := 8) (v := ?v8c) rfl rfl (by kernel_rfl) (by kernel_rfl) (by kernel_rfl) (fun _ _ _ h => h) (by kernel_rfl) ?y8c hS0 ?_
    case y8c =>
      intro w' hw'; (try dsimp only at hw'); obtain ⟨e7, e8⟩ := hw'; go_simp; try with_reducible rfl
    simp only [Act.put, List.setIfInBounds_toArray, List.set_cons_zero, List.set_cons_succ]
    refine takeY 84 (i := 9) (v := ?v9c) rfl rfl (by kernel_rfl) (by kernel_rfl) (by kernel_rfl) (fun _ _ _ h => h) (by kernel_rfl) ?y9c hS0 ?_
    case y9c =>
      intro w' hw'; (try dsimp only at hw'); obtain ⟨e7, e8⟩ := hw'; go_simp; try with_reducible rfl
    simp only [Act.put, List.setIfInBounds_toArray, List.set_cons_zero, List.set_cons_succ]
    refine takeY 85 (i := 10) (v := ?v10c) rfl rfl (by kernel_rfl) (by kernel_rfl) (by kernel_rfl) (fun _ _ _ h => h) (by kernel_rfl) ?y10c hS0 ?_
    case y10c =>
      intro w' hw'; (try dsimp only at hw'); obtain ⟨e7, e8⟩ := hw'; go_simp; try with_reducible rfl
    simp only [Act.put, List.setIfInBounds_toArray, List.set_cons_zero, List.set_cons_succ]
    refine takeY 86 (i := 11) (v := ?v11c) rfl rfl (by kernel_rfl) (by kernel_rfl) (by kernel_rfl) (fun _ _ _ h => h) (by kernel_rfl) ?y11c hS0 ?_
    case y11c =>
      intro w' hw'; (try dsimp only at hw'); obtain ⟨e7, e8⟩ := hw'; go_simp; try with_reducible rfl
    simp only [Act.put, List.setIfInBounds_toArray, List.set_cons_zero, List.set_cons_succ]
    refine takeY 87 (i := 12) (v := ?v12c) rfl rfl (by kernel_rfl) (by kernel_rfl) (by kernel_rfl) (fun _ _ _ h => h) (by kernel_rfl) ?y12c hS0 ?_
    case y12c =>
      intro w' hw'; (try dsimp only at hw'); obtain ⟨e7, e8⟩ := hw'; go_simp; try with_reducible rfl
    simp only [Act.put, List.setIfInBounds_toArray, List.set_cons_zero, List.set_cons_succ]
    refine takeY 88 (i := 13) (v := ?v13c) rfl rfl (by kernel_rfl) (by kernel_rfl) (by kernel_rfl) (fun _ _ _ h => h) (by kernel_rfl) ?y13c hS0 ?_
    case y13c =>
      intro w' hw'; (try dsimp only at hw'); obtain ⟨e7, e8⟩ := hw'; go_simp; try with_reducible rfl
    simp only [Act.put, List.setIfInBounds_toArray, List.set_cons_zero, List.set_cons_succ]
    refine takeY 90 (i := 15) (v := ?v15c) rfl rfl (by kernel_rfl) (by kernel_rfl) (by kernel_rfl) (fun _ _ _ h => h) (by kernel_rfl) ?y15c hS0 ?_
    case y15c =>
      intro w' hw'; (try dsimp only at hw'); obtain ⟨e7, e8⟩ := hw'; go_simp; try with_reducible rfl
    simp only [Act.put, List.setIfInBounds_toArray, List.set_cons_zero, List.set_cons_succ]
    refine takeY 91 (i := 16) (v := ?v16c) rfl rfl (by kernel_rfl) (by kernel_rfl) (by kernel_rfl) (fun _ _ _ h => h) (by kernel_rfl) ?y16c hS0 ?_
    case y16c =>
      intro w' hw'; (try dsimp only at hw'); obtain ⟨e7, e8⟩ := hw'; go_simp; try with_reducible rfl
    simp only [Act.put, List.setIfInBounds_toArray, List.set_cons_zero, List.set_cons_succ]
    refine takeY 92 (i := 17) (v := ?v17c) rfl rfl (by kernel_rfl) (by kernel_rfl) (by kernel_rfl) (fun _ _ _ h => h) (by kernel_rfl) ?y17c hS0 ?_
    case y17c =>
      intro w' hw'; (try dsimp only at hw'); obtain ⟨e7, e8⟩ := hw'; go_simp; try with_reducible rfl
    simp only [Act.put, List.setIfInBounds_toArray, List.set_cons_zero, List.set_cons_succ]
    refine takeY 93 (i := 18) (v := ?v18c) rfl rfl (by kernel_rfl) (by kernel_rfl) (by kernel_rfl) (fun _ _ _ h => h) (by kernel_rfl) ?y18c hS0 ?_
    case y18c =>
      intro w' hw'; (try dsimp only at hw'); obtain ⟨e7, e8⟩ := hw'; go_simp; try with_reducible rfl
    simp only [Act.put, List.setIfInBounds_toArray, List.set_cons_zero, List.set_cons_succ]
    refine wpAnyH_ready (rs := [14]) (by kernel_rfl) (by simp) ?_
    refine AllReadyH.cons rfl (fun K hK => ?_) AllReadyH.nil
    go_simp; go_at_call 40; refine (HNa.out _ HB0.out).mono ?_; rintro e w1 ⟨A1, n1, m1, l1, rfl, hN1, hd1, hs1, -, -, hb1⟩; have N1_1 := Lib.hid hN1; have D1 := Lib.hid hd1; have S1 := Lib.hid hs1; have HB1 := Lib.hid (below_on HB0.out hb1); clear hN1 hd1 hs1 hb1
    refine hK.out _ _ (HSp.out _ HB1.out) (fun hS1 => ?_)
    clear hK K
    try simp only [Act.put, List.setIfInBounds_toArray, List.set_cons_zero, List.set_cons_succ]
    refine wpAnyH_ready (rs := [19]) (by kernel_rfl) (by simp) ?_
    refine AllReadyH.cons rfl (fun K hK => ?_) AllReadyH.nil
    go_simp; go_at_call 40; refine (HNb.out _ HB1.out).mono ?_; rintro e w2 ⟨A2, n2, m2, l2, rfl, hN2, hd2, hs2, -, -, hb2⟩; have N2_2 := Lib.hid hN2; have N1_2 := Lib.hid (N1_1.out.step hb2); have D2 := Lib.hid hd2; have S2 := Lib.hid hs2; have HB2 := Lib.hid (below_on HB1.out hb2); clear hN2 hd2 hs2 hb2
    refine hK.out _ _ (HSp.out _ HB2.out) (fun hS2 => ?_)
    clear hK K
    try simp only [Act.put, List.setIfInBounds_toArray, List.set_cons_zero, List.set_cons_succ]
    refine wpAnyH_ready (rs := [20]) (by kernel_rfl) (by simp) ?_
    refine AllReadyH.cons rfl (fun K hK => ?_) AllReadyH.nil
    go_simp; go_at_call 65; refine (iEqE w2 w2.heap.size A1 A2 n1 n2 m1 m2 l1 l2 N1_2.out N2_2.out (Nat.le_refl _) (by have h1 := congrArg List.length D1.out; rw [datN_length, N1_2.out.len] at h1; have h2 := HLn.out; omega) S1.out z (by rw [D1.out, D2.out, HZ.out]; exact ⟨fun h => by rw [h], fun h => flat_inj HOk.out.2.1 HOk.out.2.2 h⟩)).mono ?_; rintro e w3 ⟨rfl, hb3⟩; have HB3 := Lib.hid (below_on HB2.out hb3); clear hb3
    refine hK.out _ _ (HSp.out _ HB3.out) (fun hS3 => ?_)
    clear hK K
    try simp only [Act.put, List.setIfInBounds_toArray, List.set_cons_zero, List.set_cons_succ]
    refine takeY 96 (i := 21) (v := ?v21c) rfl rfl (by kernel_rfl) (by kernel_rfl) (by kernel_rfl) (fun _ _ _ h => h) (by kernel_rfl) ?y21c hS3 ?_
    case y21c =>
      intro w' hw'; (try dsimp only at hw'); obtain ⟨e7, e8⟩ := hw'; go_simp; try with_reducible rfl
    simp only [Act.put, List.setIfInBounds_toArray, List.set_cons_zero, List.set_cons_succ]
    refine takeY 74 (i := 22) (v := ?v22c) rfl rfl (by kernel_rfl) (by kernel_rfl) (by kernel_rfl) (fun _ _ _ h => h) (by kernel_rfl) ?y22c hS3 ?_
    case y22c =>
      intro w' hw'; (try dsimp only at hw'); obtain ⟨e7, e8⟩ := hw'; go_simp; try with_reducible rfl
    simp only [Act.put, List.setIfInBounds_toArray, List.set_cons_zero, List.set_cons_succ]
    refine wpAnyH_done (by kernel_rfl) ?_ _
    clear hS0 hS1 hS2 hS3
    replace c0 := HC0.out _ HB3.out
    obtain ⟨c7', c8'⟩ := HSp.out _ HB3.out
    clear c7 c8
    cases z
    · have HNo : Hid (∀ s', ¬ RuleT 3 (.bin op a b) s') := Lib.hid fun s' h => by cases h; have := HZ.out.2 rfl; cases this
      go_wp2
      go_ret
      exact ⟨⟨_, rfl, .inr ⟨HNo.out, rfl⟩⟩, HB3.out⟩
    · have HR : Hid (RuleT 3 (.bin op a b) a) := Lib.hid (by rw [← HZ.out.1 (by first | rfl | trivial)]; exact .idem _ _)
      have HF := Lib.hid (HQa.out.below hB HB3.out)
      go_wp2
      go_ret
      exact ⟨⟨_, rfl, .inl ⟨_, _, HR.out, rfl, HF.out⟩⟩, HB3.out⟩
  have f3 : (rule == 3) = false := by simpa using r3
  by_cases r4 : rule = 4
  · subst r4
    clear r1 f1 r2 f2 r3 f3
    have HQa := Lib.hid hqa
    have HRa := Lib.hid hra
    have HC := Lib.hid (And.intro c7 c8)
    clear hqa hra
    rcases HBin.out with e | e | e
    · subst e
      clear e3 HBin
      go_enter Tryz.func43, Tryz.ntmps43
      go_wp2
      have hS0 : (fun w' => w'.cell? ⟨p, 8, none⟩ = some (.pointer (some ⟨r, 0, none⟩))) (World.drew w) := (HB0.out.cell (p := ⟨p, 8, none⟩) hpl).trans c8
      refine wp_region_held (S := fun w' => w'.cell? ⟨p, 8, none⟩ = some (.pointer (some ⟨r, 0, none⟩))) (by kernel_rfl) ?_
      change wpAnyH _ _ _ _ _ _ _ _ (World.drew _)
      refine takeY 75 (i := 0) (v := ?v0d) rfl rfl (by kernel_rfl) (by kernel_rfl) (by kernel_rfl) (fun _ _ _ h => h) (by kernel_rfl) ?y0d hS0 ?_
      case y0d =>
        intro w' hw'; (try dsimp only at hw'); obtain e8 := hw'; go_simp; try with_reducible rfl
      simp only [Act.put, List.setIfInBounds_toArray, List.set_cons_zero, List.set_cons_succ]
      refine takeY 76 (i := 1) (v := ?v1d) rfl rfl (by kernel_rfl) (by kernel_rfl) (by kernel_rfl) (fun _ _ _ h => h) (by kernel_rfl) ?y1d hS0 ?_
      case y1d =>
        intro w' hw'; (try dsimp only at hw'); obtain e8 := hw'; go_simp; try with_reducible rfl
      simp only [Act.put, List.setIfInBounds_toArray, List.set_cons_zero, List.set_cons_succ]
      refine takeY 77 (i := 2) (v := ?v2d) rfl rfl (by kernel_rfl) (by kernel_rfl) (by kernel_rfl) (fun _ _ _ h => h) (by kernel_rfl) ?y2d hS0 ?_
      case y2d =>
        intro w' hw'; (try dsimp only at hw'); obtain e8 := hw'; go_simp; try with_reducible rfl
      simp only [Act.put, List.setIfInBounds_toArray, List.set_cons_zero, List.set_cons_succ]
      refine takeU 78 (i := 3) rfl rfl (by kernel_rfl) (by kernel_rfl) (by kernel_rfl) (fun _ _ _ h => h) (by kernel_rfl) hS0 ?_
      simp only [Act.put, List.setIfInBounds_toArray, List.set_cons_zero, List.set_cons_succ]
      refine takeU 79 (i := 4) rfl rfl (by kernel_rfl) (by kernel_rfl) (by kernel_rfl) (fun _ _ _ h => h) (by kernel_rfl) hS0 ?_
      simp only [Act.put, List.setIfInBounds_toArray, List.set_cons_zero, List.set_cons_succ]
      refine takeU 80 (i := 5) rfl rfl (by kernel_rfl) (by kernel_rfl) (by kernel_rfl) (fun _ _ _ h => h) (by kernel_rfl) hS0 ?_
      simp only [Act.put, List.setIfInBounds_toArray, List.set_cons_zero, List.set_cons_succ]
      refine takeU 81 (i := 6) rfl rfl (by kernel_rfl) (by kernel_rfl) (by kernel_rfl) (fun _ _ _ h => h) (by kernel_rfl) hS0 ?_
      simp only [Act.put, List.setIfInBounds_toArray, List.set_cons_zero, List.set_cons_succ]
      refine takeU 82 (i := 7) rfl rfl (by kernel_rfl) (by kernel_rfl) (by kernel_rfl) (fun _ _ _ h => h) (by kernel_rfl) hS0 ?_
      simp only [Act.put, List.setIfInBounds_toArray, List.set_cons_zero, List.set_cons_succ]
      refine takeY 83 (i := 8) (v := ?v8d) rfl rfl (by kernel_rfl) (by kernel_rfl) (by kernel_rfl) (fun _ _ _ h => h) (by kernel_rfl) ?y8d hS0 ?_
      case y8d =>
        intro w' hw'; (try dsimp only at hw'); obtain e8 := hw'; go_simp; try with_reducible rfl
      simp only [Act.put, List.setIfInBounds_toArray, List.set_cons_zero, List.set_cons_succ]
      refine takeY 84 (i := 9) (v := ?v9d) rfl rfl (by kernel_rfl) (by kernel_rfl) (by kernel_rfl) (fun _ _ _ h => h) (by kernel_rfl) ?y9d hS0 ?_
      case y9d =>
        intro w' hw'; (try dsimp only at hw'); obtain e8 := hw'; go_simp; try with_reducible rfl
      simp only [Act.put, List.setIfInBounds_toArray, List.set_cons_zero, List.set_cons_succ]
      refine takeU 85 (i := 10) rfl rfl (by kernel_rfl) (by kernel_rfl) (by kernel_rfl) (fun _ _ _ h => h) (by kernel_rfl) hS0 ?_
      simp only [Act.put, List.setIfInBounds_toArray, List.set_cons_zero, List.set_cons_succ]
      refine takeU 86 (i := 11) rfl rfl (by kernel_rfl) (by kernel_rfl) (by kernel_rfl) (fun _ _ _ h => h) (by kernel_rfl) hS0 ?_
      simp only [Act.put, List.setIfInBounds_toArray, List.set_cons_zero, List.set_cons_succ]
      refine takeU 87 (i := 12) rfl rfl (by kernel_rfl) (by kernel_rfl) (by kernel_rfl) (fun _ _ _ h => h) (by kernel_rfl) hS0 ?_
      simp only [Act.put, List.setIfInBounds_toArray, List.set_cons_zero, List.set_cons_succ]
      refine takeU 88 (i := 13) rfl rfl (by kernel_rfl) (by kernel_rfl) (by kernel_rfl) (fun _ _ _ h => h) (by kernel_rfl) hS0 ?_
      simp only [Act.put, List.setIfInBounds_toArray, List.set_cons_zero, List.set_cons_succ]
      refine takeU 89 (i := 14) rfl rfl (by kernel_rfl) (by kernel_rfl) (by kernel_rfl) (fun _ _ _ h => h) (by kernel_rfl) hS0 ?_
      simp only [Act.put, List.setIfInBounds_toArray, List.set_cons_zero, List.set_cons_succ]
      refine takeU 90 (i := 15) rfl rfl (by kernel_rfl) (by kernel_rfl) (by kernel_rfl) (fun _ _ _ h => h) (by kernel_rfl) hS0 ?_
      simp only [Act.put, List.setIfInBounds_toArray, List.set_cons_zero, List.set_cons_succ]
      refine takeU 91 (i := 16) rfl rfl (by kernel_rfl) (by kernel_rfl) (by kernel_rfl) (fun _ _ _ h => h) (by kernel_rfl) hS0 ?_
      simp only [Act.put, List.setIfInBounds_toArray, List.set_cons_zero, List.set_cons_succ]
      refine takeU 92 (i := 17) rfl rfl (by kernel_rfl) (by kernel_rfl) (by kernel_rfl) (fun _ _ _ h => h) (by kernel_rfl) hS0 ?_
      simp only [Act.put, List.setIfInBounds_toArray, List.set_cons_zero, List.set_cons_succ]
      refine takeU 93 (i := 18) rfl rfl (by kernel_rfl) (by kernel_rfl) (by kernel_rfl) (fun _ _ _ h => h) (by kernel_rfl) hS0 ?_
      simp only [Act.put, List.setIfInBounds_toArray, List.set_cons_zero, List.set_cons_succ]
      refine takeU 94 (i := 19) rfl rfl (by kernel_rfl) (by kernel_rfl) (by kernel_rfl) (fun _ _ _ h => h) (by kernel_rfl) hS0 ?_
      simp only [Act.put, List.setIfInBounds_toArray, List.set_cons_zero, List.set_cons_succ]
      refine takeU 95 (i := 20) rfl rfl (by kernel_rfl) (by kernel_rfl) (by kernel_rfl) (fun _ _ _ h => h) (by kernel_rfl) hS0 ?_
      simp only [Act.put, List.setIfInBounds_toArray, List.set_cons_zero, List.set_cons_succ]
      refine takeY 96 (i := 21) (v := ?v21d) rfl rfl (by kernel_rfl) (by kernel_rfl) (by kernel_rfl) (fun _ _ _ h => h) (by kernel_rfl) ?y21d hS0 ?_
      case y21d =>
        intro w' hw'; (try dsimp only at hw'); obtain e8 := hw'; go_simp; try with_reducible rfl
      simp only [Act.put, List.setIfInBounds_toArray, List.set_cons_zero, List.set_cons_succ]
      refine takeY 74 (i := 22) (v := ?v22d) rfl rfl (by kernel_rfl) (by kernel_rfl) (by kernel_rfl) (fun _ _ _ h => h) (by kernel_rfl) ?y22d hS0 ?_
      case y22d =>
        intro w' hw'; (try dsimp only at hw'); obtain e8 := hw'; go_simp; try with_reducible rfl
      simp only [Act.put, List.setIfInBounds_toArray, List.set_cons_zero, List.set_cons_succ]
      refine wpAnyH_done (by kernel_rfl) ?_ _
      clear hS0
      generalize hw1 : World.drew w = w1 at *
      clear hw1
      replace c0 := (HB0.out.cell (p := ⟨p, 0, none⟩) hpl).trans c0
      replace c7 := (HB0.out.cell (p := ⟨p, 7, none⟩) hpl).trans c7
      replace c8 := (HB0.out.cell (p := ⟨p, 8, none⟩) hpl).trans c8
      have HW1 : Hid (Below w.heap.size w (World.drew w1)) := Lib.hid HB0.out.drew
      go_wp2
      have hS0 : (fun w' => w'.cell? ⟨p, 7, none⟩ = some (.pointer (some ⟨q, 0, none⟩)) ∧ w'.cell? ⟨p, 8, none⟩ = some (.pointer (some ⟨r, 0, none⟩))) (World.drew w1) := ⟨((Below.refl w1.heap.size w1).drew.cell (p := ⟨p, 7, none⟩) (Nat.lt_of_lt_of_le hpl HB0.out.size)).trans c7, ((Below.refl w1.heap.size w1).drew.cell (p := ⟨p, 8, none⟩) (Nat.lt_of_lt_of_le hpl HB0.out.size)).trans c8⟩
      refine wp_region_held (S := fun w' => w'.cell? ⟨p, 7, none⟩ = some (.pointer (some ⟨q, 0, none⟩)) ∧ w'.cell? ⟨p, 8, none⟩ = some (.pointer (some ⟨r, 0, none⟩))) (by kernel_rfl) ?_
      change wpAnyH _ _ _ _ _ _ _ _ (World.drew _)
      refine takeY 120 (i := 0) (v := ?v0e) rfl rfl (by kernel_rfl) (by kernel_rfl) (by kernel_rfl) (fun _ _ _ h => h) (by kernel_rfl) ?y0e hS0 ?_
      case y0e =>
        intro w' hw'; (try dsimp only at hw'); obtain ⟨c7, c8⟩ := hw'; go_simp; try with_reducible rfl
      simp only [Act.put, List.setIfInBounds_toArray, List.set_cons_zero, List.set_cons_succ]
      refine takeY 121 (i := 1) (v := ?v1e) rfl rfl (by kernel_rfl) (by kernel_rfl) (by kernel_rfl) (fun _ _ _ h => h) (by kernel_rfl) ?y1e hS0 ?_
      case y1e =>
        intro w' hw'; (try dsimp only at hw'); obtain ⟨c7, c8⟩ := hw'; go_simp; try with_reducible rfl
      simp only [Act.put, List.setIfInBounds_toArray, List.set_cons_zero, List.set_cons_succ]
      refine takeY 122 (i := 2) (v := ?v2e) rfl rfl (by kernel_rfl) (by kernel_rfl) (by kernel_rfl) (fun _ _ _ h => h) (by kernel_rfl) ?y2e hS0 ?_
      case y2e =>
        intro w' hw'; (try dsimp only at hw'); obtain ⟨c7, c8⟩ := hw'; go_simp; try with_reducible rfl
      simp only [Act.put, List.setIfInBounds_toArray, List.set_cons_zero, List.set_cons_succ]
      refine takeY 123 (i := 3) (v := ?v3e) rfl rfl (by kernel_rfl) (by kernel_rfl) (by kernel_rfl) (fun _ _ _ h => h) (by kernel_rfl) ?y3e hS0 ?_
      case y3e =>
        intro w' hw'; (try dsimp only at hw'); obtain ⟨c7, c8⟩ := hw'; go_simp; try with_reducible rfl
      simp only [Act.put, List.setIfInBounds_toArray, List.set_cons_zero, List.set_cons_succ]
      refine takeY 124 (i := 4) (v := ?v4e) rfl rfl (by kernel_rfl) (by kernel_rfl) (by kernel_rfl) (fun _ _ _ h => h) (by kernel_rfl) ?y4e hS0 ?_
      case y4e =>
        intro w' hw'; (try dsimp only at hw'); obtain ⟨c7, c8⟩ := hw'; go_simp; try with_reducible rfl
      simp only [Act.put, List.setIfInBounds_toArray, List.set_cons_zero, List.set_cons_succ]
      refine takeY 125 (i := 5) (v := ?v5e) rfl rfl (by kernel_rfl) (by kernel_rfl) (by kernel_rfl) (fun _ _ _ h => h) (by kernel_rfl) ?y5e hS0 ?_
      case y5e =>
        intro w' hw'; (try dsimp only at hw'); obtain ⟨c7, c8⟩ := hw'; go_simp; try with_reducible rfl
      simp only [Act.put, List.setIfInBounds_toArray, List.set_cons_zero, List.set_cons_succ]
      refine takeY 126 (i := 6) (v := ?v6e) rfl rfl (by kernel_rfl) (by kernel_rfl) (by kernel_rfl) (fun _ _ _ h => h) (by kernel_rfl) ?y6e hS0 ?_
      case y6e =>
        intro w' hw'; (try dsimp only at hw'); obtain ⟨c7, c8⟩ := hw'; go_simp; try with_reducible rfl
      simp only [Act.put, List.setIfInBounds_toArray, List.set_cons_zero, List.set_cons_succ]
      refine takeY 127 (i := 7) (v := ?v7e) rfl rfl (by kernel_rfl) (by kernel_rfl) (by kernel_rfl) (fun _ _ _ h => h) (by kernel_rfl) ?y7e hS0 ?_
      case y7e =>
        intro w' hw'; (try dsimp only at hw'); obtain ⟨c7, c8⟩ := hw'; go_simp; try with_reducible rfl
      simp only [Act.put, List.setIfInBounds_toArray, List.set_cons_zero, List.set_cons_succ]
      refine takeY 128 (i := 8) (v := ?v8e) rfl rfl (by kernel_rfl) (by kernel_rfl) (by kernel_rfl) (fun _ _ _ h => h) (by kernel_rfl) ?y8e hS0 ?_
      case y8e =>
        intro w' hw'; (try dsimp only at hw'); obtain ⟨c7, c8⟩ := hw'; go_simp; try with_reducible rfl
      simp only [Act.put, List.setIfInBounds_toArray, List.set_cons_zero, List.set_cons_succ]
      refine wpAnyH_ready (rs := [9]) (by kernel_rfl) (by simp) ?_
      refine AllReadyH.cons rfl (fun K hK => ?_) AllReadyH.nil
      go_simp; go_at_call 64; refine (iWith _ p _ _ _ _ _ (some ⟨r, 0, none⟩) (some ⟨q, 0, none⟩) ((HW1.out.block _ hpl).trans HRow.out)).mono ?_; rintro e w2 ⟨g1, rfl, hg1, hl1, hr1, hb1⟩; have G1 := Lib.hid (And.intro hg1 (And.intro hl1 hr1)); have HB2 := Lib.hid (below_on HW1.out hb1); clear hg1 hl1 hr1 hb1
      refine hK.out _ _ ⟨(HB2.out.cell (p := ⟨p, 7, none⟩) hpl).trans HC.out.1, (HB2.out.cell (p := ⟨p, 8, none⟩) hpl).trans HC.out.2⟩ (fun hS1 => ?_)
      clear hK K
      try simp only [Act.put, List.setIfInBounds_toArray, List.set_cons_zero, List.set_cons_succ]
      refine takeY 4 (i := 10) (v := ?v10e) rfl rfl (by kernel_rfl) (by kernel_rfl) (by kernel_rfl) (fun _ _ _ h => h) (by kernel_rfl) ?y10e hS1 ?_
      case y10e =>
        intro w' hw'; (try dsimp only at hw'); obtain ⟨c7, c8⟩ := hw'; go_simp; try with_reducible rfl
      simp only [Act.put, List.setIfInBounds_toArray, List.set_cons_zero, List.set_cons_succ]
      refine wpAnyH_done (by kernel_rfl) ?_ _
      clear hS0 hS1
      have HF : Hid (PartAt w2 B lo (.bin 1 b a) g1) := Lib.hid (by
        obtain ⟨g1a, g1b, g1c⟩ := G1.out
        have s0 := HW1.out.size
        exact ⟨by omega, g1b, .inl rfl, _, r, q, g1c, HNW.out.1, HNW.out.2.1, HNW.out.2.2.below (HB2.out.mono hB), HRa.out.below hB HB2.out, HQa.out.below hB HB2.out⟩)
      go_wp2
      go_ret
      exact ⟨⟨_, rfl, .inl ⟨_, _, .comm _ _ _ (by decide), rfl, HF.out⟩⟩, HB2.out⟩
    · subst e
      clear e3 HBin
      have HNo : Hid (∀ s', ¬ RuleT 4 (.bin 2 a b) s') := Lib.hid (fun s' h => by cases h; exact absurd rfl (by assumption))
      go_enter Tryz.func43, Tryz.ntmps43
      go_wp2
      have hS0 : (fun w' => w'.cell? ⟨p, 8, none⟩ = some (.pointer (some ⟨r, 0, none⟩))) (World.drew w) := (HB0.out.cell (p := ⟨p, 8, none⟩) hpl).trans c8
      refine wp_region_held (S := fun w' => w'.cell? ⟨p, 8, none⟩ = some (.pointer (some ⟨r, 0, none⟩))) (by kernel_rfl) ?_
      change wpAnyH _ _ _ _ _ _ _ _ (World.drew _)
      refine takeY 75 (i := 0) (v := ?v0f) rfl rfl (by kernel_rfl) (by kernel_rfl) (by kernel_rfl) (fun _ _ _ h => h) (by kernel_rfl) ?y0f hS0 ?_
      case y0f =>
        intro w' hw'; (try dsimp only at hw'); obtain e8 := hw'; go_simp; try with_reducible rfl
      simp only [Act.put, List.setIfInBounds_toArray, List.set_cons_zero, List.set_cons_succ]
      refine takeY 76 (i := 1) (v := ?v1f) rfl rfl (by kernel_rfl) (by kernel_rfl) (by kernel_rfl) (fun _ _ _ h => h) (by kernel_rfl) ?y1f hS0 ?_
      case y1f =>
        intro w' hw'; (try dsimp only at hw'); obtain e8 := hw'; go_simp; try with_reducible rfl
      simp only [Act.put, List.setIfInBounds_toArray, List.set_cons_zero, List.set_cons_succ]
      refine takeY 77 (i := 2) (v := ?v2f) rfl rfl (by kernel_rfl) (by kernel_rfl) (by kernel_rfl) (fun _ _ _ h => h) (by kernel_rfl) ?y2f hS0 ?_
      case y2f =>
        intro w' hw'; (try dsimp only at hw'); obtain e8 := hw'; go_simp; try with_reducible rfl
      simp only [Act.put, List.setIfInBounds_toArray, List.set_cons_zero, List.set_cons_succ]
      refine takeU 78 (i := 3) rfl rfl (by kernel_rfl) (by kernel_rfl) (by kernel_rfl) (fun _ _ _ h => h) (by kernel_rfl) hS0 ?_
      simp only [Act.put, List.setIfInBounds_toArray, List.set_cons_zero, List.set_cons_succ]
      refine takeU 79 (i := 4) rfl rfl (by kernel_rfl) (by kernel_rfl) (by kernel_rfl) (fun _ _ _ h => h) (by kernel_rfl) hS0 ?_
      simp only [Act.put, List.setIfInBounds_toArray, List.set_cons_zero, List.set_cons_succ]
      refine takeU 80 (i := 5) rfl rfl (by kernel_rfl) (by kernel_rfl) (by kernel_rfl) (fun _ _ _ h => h) (by kernel_rfl) hS0 ?_
      simp only [Act.put, List.setIfInBounds_toArray, List.set_cons_zero, List.set_cons_succ]
      refine takeU 81 (i := 6) rfl rfl (by kernel_rfl) (by kernel_rfl) (by kernel_rfl) (fun _ _ _ h => h) (by kernel_rfl) hS0 ?_
      simp only [Act.put, List.setIfInBounds_toArray, List.set_cons_zero, List.set_cons_succ]
      refine takeU 82 (i := 7) rfl rfl (by kernel_rfl) (by kernel_rfl) (by kernel_rfl) (fun _ _ _ h => h) (by kernel_rfl) hS0 ?_
      simp only [Act.put, List.setIfInBounds_toArray, List.set_cons_zero, List.set_cons_succ]
      refine takeY 83 (i := 8) (v := ?v8f) rfl rfl (by kernel_rfl) (by kernel_rfl) (by kernel_rfl) (fun _ _ _ h => h) (by kernel_rfl) ?y8f hS0 ?_
      case y8f =>
        intro w' hw'; (try dsimp only at hw'); obtain e8 := hw'; go_simp; try with_reducible rfl
      simp only [Act.put, List.setIfInBounds_toArray, List.set_cons_zero, List.set_cons_succ]
      refine takeY 84 (i := 9) (v := ?v9f) rfl rfl (by kernel_rfl) (by kernel_rfl) (by kernel_rfl) (fun _ _ _ h => h) (by kernel_rfl) ?y9f hS0 ?_
      case y9f =>
        intro w' hw'; (try dsimp only at hw'); obtain e8 := hw'; go_simp; try with_reducible rfl
      simp only [Act.put, List.setIfInBounds_toArray, List.set_cons_zero, List.set_cons_succ]
      refine takeU 85 (i := 10) rfl rfl (by kernel_rfl) (by kernel_rfl) (by kernel_rfl) (fun _ _ _ h => h) (by kernel_rfl) hS0 ?_
      simp only [Act.put, List.setIfInBounds_toArray, List.set_cons_zero, List.set_cons_succ]
      refine takeU 86 (i := 11) rfl rfl (by kernel_rfl) (by kernel_rfl) (by kernel_rfl) (fun _ _ _ h => h) (by kernel_rfl) hS0 ?_
      simp only [Act.put, List.setIfInBounds_toArray, List.set_cons_zero, List.set_cons_succ]
      refine takeU 87 (i := 12) rfl rfl (by kernel_rfl) (by kernel_rfl) (by kernel_rfl) (fun _ _ _ h => h) (by kernel_rfl) hS0 ?_
      simp only [Act.put, List.setIfInBounds_toArray, List.set_cons_zero, List.set_cons_succ]
      refine takeU 88 (i := 13) rfl rfl (by kernel_rfl) (by kernel_rfl) (by kernel_rfl) (fun _ _ _ h => h) (by kernel_rfl) hS0 ?_
      simp only [Act.put, List.setIfInBounds_toArray, List.set_cons_zero, List.set_cons_succ]
      refine takeU 89 (i := 14) rfl rfl (by kernel_rfl) (by kernel_rfl) (by kernel_rfl) (fun _ _ _ h => h) (by kernel_rfl) hS0 ?_
      simp only [Act.put, List.setIfInBounds_toArray, List.set_cons_zero, List.set_cons_succ]
      refine takeU 90 (i := 15) rfl rfl (by kernel_rfl) (by kernel_rfl) (by kernel_rfl) (fun _ _ _ h => h) (by kernel_rfl) hS0 ?_
      simp only [Act.put, List.setIfInBounds_toArray, List.set_cons_zero, List.set_cons_succ]
      refine takeU 91 (i := 16) rfl rfl (by kernel_rfl) (by kernel_rfl) (by kernel_rfl) (fun _ _ _ h => h) (by kernel_rfl) hS0 ?_
      simp only [Act.put, List.setIfInBounds_toArray, List.set_cons_zero, List.set_cons_succ]
      refine takeU 92 (i := 17) rfl rfl (by kernel_rfl) (by kernel_rfl) (by kernel_rfl) (fun _ _ _ h => h) (by kernel_rfl) hS0 ?_
      simp only [Act.put, List.setIfInBounds_toArray, List.set_cons_zero, List.set_cons_succ]
      refine takeU 93 (i := 18) rfl rfl (by kernel_rfl) (by kernel_rfl) (by kernel_rfl) (fun _ _ _ h => h) (by kernel_rfl) hS0 ?_
      simp only [Act.put, List.setIfInBounds_toArray, List.set_cons_zero, List.set_cons_succ]
      refine takeU 94 (i := 19) rfl rfl (by kernel_rfl) (by kernel_rfl) (by kernel_rfl) (fun _ _ _ h => h) (by kernel_rfl) hS0 ?_
      simp only [Act.put, List.setIfInBounds_toArray, List.set_cons_zero, List.set_cons_succ]
      refine takeU 95 (i := 20) rfl rfl (by kernel_rfl) (by kernel_rfl) (by kernel_rfl) (fun _ _ _ h => h) (by kernel_rfl) hS0 ?_
      simp only [Act.put, List.setIfInBounds_toArray, List.set_cons_zero, List.set_cons_succ]
      refine takeY 96 (i := 21) (v := ?v21f) rfl rfl (by kernel_rfl) (by kernel_rfl) (by kernel_rfl) (fun _ _ _ h => h) (by kernel_rfl) ?y21f hS0 ?_
      case y21f =>
        intro w' hw'; (try dsimp only at hw'); obtain e8 := hw'; go_simp; try with_reducible rfl
      simp only [Act.put, List.setIfInBounds_toArray, List.set_cons_zero, List.set_cons_succ]
      refine takeY 74 (i := 22) (v := ?v22f) rfl rfl (by kernel_rfl) (by kernel_rfl) (by kernel_rfl) (fun _ _ _ h => h) (by kernel_rfl) ?y22f hS0 ?_
      case y22f =>
        intro w' hw'; (try dsimp only at hw'); obtain e8 := hw'; go_simp; try with_reducible rfl
      simp only [Act.put, List.setIfInBounds_toArray, List.set_cons_zero, List.set_cons_succ]
      refine wpAnyH_done (by kernel_rfl) ?_ _
      clear hS0
      generalize hw1 : World.drew w = w1 at *
      clear hw1
      replace c0 := (HB0.out.cell (p := ⟨p, 0, none⟩) hpl).trans c0
      replace c7 := (HB0.out.cell (p := ⟨p, 7, none⟩) hpl).trans c7
      replace c8 := (HB0.out.cell (p := ⟨p, 8, none⟩) hpl).trans c8
      go_wp2
      go_ret
      exact ⟨⟨_, rfl, .inr ⟨HNo.out, rfl⟩⟩, HB0.out⟩
    · subst e
      clear e3 HBin
      go_enter Tryz.func43, Tryz.ntmps43
      go_wp2
      have hS0 : (fun w' => w'.cell? ⟨p, 8, none⟩ = some (.pointer (some ⟨r, 0, none⟩))) (World.drew w) := (HB0.out.cell (p := ⟨p, 8, none⟩) hpl).trans c8
      refine wp_region_held (S := fun w' => w'.cell? ⟨p, 8, none⟩ = some (.pointer (some ⟨r, 0, none⟩))) (by kernel_rfl) ?_
      change wpAnyH _ _ _ _ _ _ _ _ (World.drew _)
      refine takeY 75 (i := 0) (v := ?v0g) rfl rfl (by kernel_rfl) (by kernel_rfl) (by kernel_rfl) (fun _ _ _ h => h) (by kernel_rfl) ?y0g hS0 ?_
      case y0g =>
        intro w' hw'; (try dsimp only at hw'); obtain e8 := hw'; go_simp; try with_reducible rfl
      simp only [Act.put, List.setIfInBounds_toArray, List.set_cons_zero, List.set_cons_succ]
      refine takeY 76 (i := 1) (v := ?v1g) rfl rfl (by kernel_rfl) (by kernel_rfl) (by kernel_rfl) (fun _ _ _ h => h) (by kernel_rfl) ?y1g hS0 ?_
      case y1g =>
        intro w' hw'; (try dsimp only at hw'); obtain e8 := hw'; go_simp; try with_reducible rfl
      simp only [Act.put, List.setIfInBounds_toArray, List.set_cons_zero, List.set_cons_succ]
      refine takeY 77 (i := 2) (v := ?v2g) rfl rfl (by kernel_rfl) (by kernel_rfl) (by kernel_rfl) (fun _ _ _ h => h) (by kernel_rfl) ?y2g hS0 ?_
      case y2g =>
        intro w' hw'; (try dsimp only at hw'); obtain e8 := hw'; go_simp; try with_reducible rfl
      simp only [Act.put, List.setIfInBounds_toArray, List.set_cons_zero, List.set_cons_succ]
      refine takeU 78 (i := 3) rfl rfl (by kernel_rfl) (by kernel_rfl) (by kernel_rfl) (fun _ _ _ h => h) (by kernel_rfl) hS0 ?_
      simp only [Act.put, List.setIfInBounds_toArray, List.set_cons_zero, List.set_cons_succ]
      refine takeU 79 (i := 4) rfl rfl (by kernel_rfl) (by kernel_rfl) (by kernel_rfl) (fun _ _ _ h => h) (by kernel_rfl) hS0 ?_
      simp only [Act.put, List.setIfInBounds_toArray, List.set_cons_zero, List.set_cons_succ]
      refine takeU 80 (i := 5) rfl rfl (by kernel_rfl) (by kernel_rfl) (by kernel_rfl) (fun _ _ _ h => h) (by kernel_rfl) hS0 ?_
      simp only [Act.put, List.setIfInBounds_toArray, List.set_cons_zero, List.set_cons_succ]
      refine takeU 81 (i := 6) rfl rfl (by kernel_rfl) (by kernel_rfl) (by kernel_rfl) (fun _ _ _ h => h) (by kernel_rfl) hS0 ?_
      simp only [Act.put, List.setIfInBounds_toArray, List.set_cons_zero, List.set_cons_succ]
      refine takeU 82 (i := 7) rfl rfl (by kernel_rfl) (by kernel_rfl) (by kernel_rfl) (fun _ _ _ h => h) (by kernel_rfl) hS0 ?_
      simp only [Act.put, List.setIfInBounds_toArray, List.set_cons_zero, List.set_cons_succ]
      refine takeY 83 (i := 8) (v := ?v8g) rfl rfl (by kernel_rfl) (by kernel_rfl) (by kernel_rfl) (fun _ _ _ h => h) (by kernel_rfl) ?y8g hS0 ?_
      case y8g =>
        intro w' hw'; (try dsimp only at hw'); obtain e8 := hw'; go_simp; try with_reducible rfl
      simp only [Act.put, List.setIfInBounds_toArray, List.set_cons_zero, List.set_cons_succ]
      refine takeY 84 (i := 9) (v := ?v9g) rfl rfl (by kernel_rfl) (by kernel_rfl) (by kernel_rfl) (fun _ _ _ h => h) (by kernel_rfl) ?y9g hS0 ?_
      case y9g =>
        intro w' hw'; (try dsimp only at hw'); obtain e8 := hw'; go_simp; try with_reducible rfl
      simp only [Act.put, List.setIfInBounds_toArray, List.set_cons_zero, List.set_cons_succ]
      refine takeU 85 (i := 10) rfl rfl (by kernel_rfl) (by kernel_rfl) (by kernel_rfl) (fun _ _ _ h => h) (by kernel_rfl) hS0 ?_
      simp only [Act.put, List.setIfInBounds_toArray, List.set_cons_zero, List.set_cons_succ]
      refine takeU 86 (i := 11) rfl rfl (by kernel_rfl) (by kernel_rfl) (by kernel_rfl) (fun _ _ _ h => h) (by kernel_rfl) hS0 ?_
      simp only [Act.put, List.setIfInBounds_toArray, List.set_cons_zero, List.set_cons_succ]
      refine takeU 87 (i := 12) rfl rfl (by kernel_rfl) (by kernel_rfl) (by kernel_rfl) (fun _ _ _ h => h) (by kernel_rfl) hS0 ?_
      simp only [Act.put, List.setIfInBounds_toArray, List.set_cons_zero, List.set_cons_succ]
      refine takeU 88 (i := 13) rfl rfl (by kernel_rfl) (by kernel_rfl) (by kernel_rfl) (fun _ _ _ h => h) (by kernel_rfl) hS0 ?_
      simp only [Act.put, List.setIfInBounds_toArray, List.set_cons_zero, List.set_cons_succ]
      refine takeU 89 (i := 14) rfl rfl (by kernel_rfl) (by kernel_rfl) (by kernel_rfl) (fun _ _ _ h => h) (by kernel_rfl) hS0 ?_
      simp only [Act.put, List.setIfInBounds_toArray, List.set_cons_zero, List.set_cons_succ]
      refine takeU 90 (i := 15) rfl rfl (by kernel_rfl) (by kernel_rfl) (by kernel_rfl) (fun _ _ _ h => h) (by kernel_rfl) hS0 ?_
      simp only [Act.put, List.setIfInBounds_toArray, List.set_cons_zero, List.set_cons_succ]
      refine takeU 91 (i := 16) rfl rfl (by kernel_rfl) (by kernel_rfl) (by kernel_rfl) (fun _ _ _ h => h) (by kernel_rfl) hS0 ?_
      simp only [Act.put, List.setIfInBounds_toArray, List.set_cons_zero, List.set_cons_succ]
      refine takeU 92 (i := 17) rfl rfl (by kernel_rfl) (by kernel_rfl) (by kernel_rfl) (fun _ _ _ h => h) (by kernel_rfl) hS0 ?_
      simp only [Act.put, List.setIfInBounds_toArray, List.set_cons_zero, List.set_cons_succ]
      refine takeU 93 (i := 18) rfl rfl (by kernel_rfl) (by kernel_rfl) (by kernel_rfl) (fun _ _ _ h => h) (by kernel_rfl) hS0 ?_
      simp only [Act.put, List.setIfInBounds_toArray, List.set_cons_zero, List.set_cons_succ]
      refine takeU 94 (i := 19) rfl rfl (by kernel_rfl) (by kernel_rfl) (by kernel_rfl) (fun _ _ _ h => h) (by kernel_rfl) hS0 ?_
      simp only [Act.put, List.setIfInBounds_toArray, List.set_cons_zero, List.set_cons_succ]
      refine takeU 95 (i := 20) rfl rfl (by kernel_rfl) (by kernel_rfl) (by kernel_rfl) (fun _ _ _ h => h) (by kernel_rfl) hS0 ?_
      simp only [Act.put, List.setIfInBounds_toArray, List.set_cons_zero, List.set_cons_succ]
      refine takeY 96 (i := 21) (v := ?v21g) rfl rfl (by kernel_rfl) (by kernel_rfl) (by kernel_rfl) (fun _ _ _ h => h) (by kernel_rfl) ?y21g hS0 ?_
      case y21g =>
        intro w' hw'; (try dsimp only at hw'); obtain e8 := hw'; go_simp; try with_reducible rfl
      simp only [Act.put, List.setIfInBounds_toArray, List.set_cons_zero, List.set_cons_succ]
      refine takeY 74 (i := 22) (v := ?v22g) rfl rfl (by kernel_rfl) (by kernel_rfl) (by kernel_rfl) (fun _ _ _ h => h) (by kernel_rfl) ?y22g hS0 ?_
      case y22g =>
        intro w' hw'; (try dsimp only at hw'); obtain e8 := hw'; go_simp; try with_reducible rfl
      simp only [Act.put, List.setIfInBounds_toArray, List.set_cons_zero, List.set_cons_succ]
      refine wpAnyH_done (by kernel_rfl) ?_ _
      clear hS0
      generalize hw1 : World.drew w = w1 at *
      clear hw1
      replace c0 := (HB0.out.cell (p := ⟨p, 0, none⟩) hpl).trans c0
      replace c7 := (HB0.out.cell (p := ⟨p, 7, none⟩) hpl).trans c7
      replace c8 := (HB0.out.cell (p := ⟨p, 8, none⟩) hpl).trans c8
      have HW1 : Hid (Below w.heap.size w (World.drew w1)) := Lib.hid HB0.out.drew
      go_wp2
      have hS0 : (fun w' => w'.cell? ⟨p, 7, none⟩ = some (.pointer (some ⟨q, 0, none⟩)) ∧ w'.cell? ⟨p, 8, none⟩ = some (.pointer (some ⟨r, 0, none⟩))) (World.drew w1) := ⟨((Below.refl w1.heap.size w1).drew.cell (p := ⟨p, 7, none⟩) (Nat.lt_of_lt_of_le hpl HB0.out.size)).trans c7, ((Below.refl w1.heap.size w1).drew.cell (p := ⟨p, 8, none⟩) (Nat.lt_of_lt_of_le hpl HB0.out.size)).trans c8⟩
      refine wp_region_held (S := fun w' => w'.cell? ⟨p, 7, none⟩ = some (.pointer (some ⟨q, 0, none⟩)) ∧ w'.cell? ⟨p, 8, none⟩ = some (.pointer (some ⟨r, 0, none⟩))) (by kernel_rfl) ?_
      change wpAnyH _ _ _ _ _ _ _ _ (World.drew _)
      refine takeY 120 (i := 0) (v := ?v0h) rfl rfl (by kernel_rfl) (by kernel_rfl) (by kernel_rfl) (fun _ _ _ h => h) (by kernel_rfl) ?y0h hS0 ?_
      case y0h =>
        intro w' hw'; (try dsimp only at hw'); obtain ⟨c7, c8⟩ := hw'; go_simp; try with_reducible rfl
      simp only [Act.put, List.setIfInBounds_toArray, List.set_cons_zero, List.set_cons_succ]
      refine takeY 121 (i := 1) (v := ?v1h) rfl rfl (by kernel_rfl) (by kernel_rfl) (by kernel_rfl) (fun _ _ _ h => h) (by kernel_rfl) ?y1h hS0 ?_
      case y1h =>
        intro w' hw'; (try dsimp only at hw'); obtain ⟨c7, c8⟩ := hw'; go_simp; try with_reducible rfl
      simp only [Act.put, List.setIfInBounds_toArray, List.set_cons_zero, List.set_cons_succ]
      refine takeY 122 (i := 2) (v := ?v2h) rfl rfl (by kernel_rfl) (by kernel_rfl) (by kernel_rfl) (fun _ _ _ h => h) (by kernel_rfl) ?y2h hS0 ?_
      case y2h =>
        intro w' hw'; (try dsimp only at hw'); obtain ⟨c7, c8⟩ := hw'; go_simp; try with_reducible rfl
      simp only [Act.put, List.setIfInBounds_toArray, List.set_cons_zero, List.set_cons_succ]
      refine takeY 123 (i := 3) (v := ?v3h) rfl rfl (by kernel_rfl) (by kernel_rfl) (by kernel_rfl) (fun _ _ _ h => h) (by kernel_rfl) ?y3h hS0 ?_
      case y3h =>
        intro w' hw'; (try dsimp only at hw'); obtain ⟨c7, c8⟩ := hw'; go_simp; try with_reducible rfl
      simp only [Act.put, List.setIfInBounds_toArray, List.set_cons_zero, List.set_cons_succ]
      refine takeY 124 (i := 4) (v := ?v4h) rfl rfl (by kernel_rfl) (by kernel_rfl) (by kernel_rfl) (fun _ _ _ h => h) (by kernel_rfl) ?y4h hS0 ?_
      case y4h =>
        intro w' hw'; (try dsimp only at hw'); obtain ⟨c7, c8⟩ := hw'; go_simp; try with_reducible rfl
      simp only [Act.put, List.setIfInBounds_toArray, List.set_cons_zero, List.set_cons_succ]
      refine takeY 125 (i := 5) (v := ?v5h) rfl rfl (by kernel_rfl) (by kernel_rfl) (by kernel_rfl) (fun _ _ _ h => h) (by kernel_rfl) ?y5h hS0 ?_
      case y5h =>
        intro w' hw'; (try dsimp only at hw'); obtain ⟨c7, c8⟩ := hw'; go_simp; try with_reducible rfl
      simp only [Act.put, List.setIfInBounds_toArray, List.set_cons_zero, List.set_cons_succ]
      refine takeY 126 (i := 6) (v := ?v6h) rfl rfl (by kernel_rfl) (by kernel_rfl) (by kernel_rfl) (fun _ _ _ h => h) (by kernel_rfl) ?y6h hS0 ?_
      case y6h =>
        intro w' hw'; (try dsimp only at hw'); obtain ⟨c7, c8⟩ := hw'; go_simp; try with_reducible rfl
      simp only [Act.put, List.setIfInBounds_toArray, List.set_cons_zero, List.set_cons_succ]
      refine takeY 127 (i := 7) (v := ?v7h) rfl rfl (by kernel_rfl) (by kernel_rfl) (by kernel_rfl) (fun _ _ _ h => h) (by kernel_rfl) ?y7h hS0 ?_
      case y7h =>
        intro w' hw'; (try dsimp only at hw'); obtain ⟨c7, c8⟩ := hw'; go_simp; try with_reducible rfl
      simp only [Act.put, List.setIfInBounds_toArray, List.set_cons_zero, List.set_cons_succ]
      refine takeY 128 (i := 8) (v := ?v8h) rfl rfl (by kernel_rfl) (by kernel_rfl) (by kernel_rfl) (fun _ _ _ h => h) (by kernel_rfl) ?y8h hS0 ?_
      case y8h =>
        intro w' hw'; (try dsimp only at hw'); obtain ⟨c7, c8⟩ := hw'; go_simp; try with_reducible rfl
      simp only [Act.put, List.setIfInBounds_toArray, List.set_cons_zero, List.set_cons_succ]
      refine wpAnyH_ready (rs := [9]) (by kernel_rfl) (by simp) ?_
      refine AllReadyH.cons rfl (fun K hK => ?_) AllReadyH.nil
      go_simp; go_at_call 64; refine (iWith _ p _ _ _ _ _ (some ⟨r, 0, none⟩) (some ⟨q, 0, none⟩) ((HW1.out.block _ hpl).trans HRow.out)).mono ?_; rintro e w2 ⟨g1, rfl, hg1, hl1, hr1, hb1⟩; have G1 := Lib.hid (And.intro hg1 (And.intro hl1 hr1)); have HB2 := Lib.hid (below_on HW1.out hb1); clear hg1 hl1 hr1 hb1
      refine hK.out _ _ ⟨(HB2.out.cell (p := ⟨p, 7, none⟩) hpl).trans HC.out.1, (HB2.out.cell (p := ⟨p, 8, none⟩) hpl).trans HC.out.2⟩ (fun hS1 => ?_)
      clear hK K
      try simp only [Act.put, List.setIfInBounds_toArray, List.set_cons_zero, List.set_cons_succ]
      refine takeY 4 (i := 10) (v := ?v10h) rfl rfl (by kernel_rfl) (by kernel_rfl) (by kernel_rfl) (fun _ _ _ h => h) (by kernel_rfl) ?y10h hS1 ?_
      case y10h =>
        intro w' hw'; (try dsimp only at hw'); obtain ⟨c7, c8⟩ := hw'; go_simp; try with_reducible rfl
      simp only [Act.put, List.setIfInBounds_toArray, List.set_cons_zero, List.set_cons_succ]
      refine wpAnyH_done (by kernel_rfl) ?_ _
      clear hS0 hS1
      have HF : Hid (PartAt w2 B lo (.bin 4 b a) g1) := Lib.hid (by
        obtain ⟨g1a, g1b, g1c⟩ := G1.out
        have s0 := HW1.out.size
        exact ⟨by omega, g1b, .inr (.inr rfl), _, r, q, g1c, HNW.out.1, HNW.out.2.1, HNW.out.2.2.below (HB2.out.mono hB), HRa.out.below hB HB2.out, HQa.out.below hB HB2.out⟩)
      go_wp2
      go_ret
      exact ⟨⟨_, rfl, .inl ⟨_, _, .comm _ _ _ (by decide), rfl, HF.out⟩⟩, HB2.out⟩
  have f4 : (rule == 4) = false := by simpa using r4
  clear hqa hra
  have HNo : Hid (∀ s', ¬ RuleT rule (.bin op a b) s') := Lib.hid (fun s' h => by cases h <;> contradiction)
  clear r1 r2 r3 r4
  go_enter Tryz.func43, Tryz.ntmps43
  go_wp2
  have hS0 : (fun w' => w'.cell? ⟨p, 8, none⟩ = some (.pointer (some ⟨r, 0, none⟩))) (World.drew w) := (HB0.out.cell (p := ⟨p, 8, none⟩) hpl).trans c8
  refine wp_region_held (S := fun w' => w'.cell? ⟨p, 8, none⟩ = some (.pointer (some ⟨r, 0, none⟩))) (by kernel_rfl) ?_
  change wpAnyH _ _ _ _ _ _ _ _ (World.drew _)
  refine takeY 75 (i := 0) (v := ?v0i) rfl rfl (by kernel_rfl) (by kernel_rfl) (by kernel_rfl) (fun _ _ _ h => h) (by kernel_rfl) ?y0i hS0 ?_
  case y0i =>
    intro w' hw'; (try dsimp only at hw'); obtain e8 := hw'; go_simp; try with_reducible rfl
  simp only [Act.put, List.setIfInBounds_toArray, List.set_cons_zero, List.set_cons_succ]
  refine takeY 76 (i := 1) (v := ?v1i) rfl rfl (by kernel_rfl) (by kernel_rfl) (by kernel_rfl) (fun _ _ _ h => h) (by kernel_rfl) ?y1i hS0 ?_
  case y1i =>
    intro w' hw'; (try dsimp only at hw'); obtain e8 := hw'; go_simp; try with_reducible rfl
  simp only [Act.put, List.setIfInBounds_toArray, List.set_cons_zero, List.set_cons_succ]
  refine takeY 77 (i := 2) (v := ?v2i) rfl rfl (by kernel_rfl) (by kernel_rfl) (by kernel_rfl) (fun _ _ _ h => h) (by kernel_rfl) ?y2i hS0 ?_
  case y2i =>
    intro w' hw'; (try dsimp only at hw'); obtain e8 := hw'; go_simp; try with_reducible rfl
  simp only [Act.put, List.setIfInBounds_toArray, List.set_cons_zero, List.set_cons_succ]
  refine takeU 78 (i := 3) rfl rfl (by kernel_rfl) (by kernel_rfl) (by kernel_rfl) (fun _ _ _ h => h) (by kernel_rfl) hS0 ?_
  simp only [Act.put, List.setIfInBounds_toArray, List.set_cons_zero, List.set_cons_succ]
  refine takeU 79 (i := 4) rfl rfl (by kernel_rfl) (by kernel_rfl) (by kernel_rfl) (fun _ _ _ h => h) (by kernel_rfl) hS0 ?_
  simp only [Act.put, List.setIfInBounds_toArray, List.set_cons_zero, List.set_cons_succ]
  refine takeU 80 (i := 5) rfl rfl (by kernel_rfl) (by kernel_rfl) (by kernel_rfl) (fun _ _ _ h => h) (by kernel_rfl) hS0 ?_
  simp only [Act.put, List.setIfInBounds_toArray, List.set_cons_zero, List.set_cons_succ]
  refine takeU 81 (i := 6) rfl rfl (by kernel_rfl) (by kernel_rfl) (by kernel_rfl) (fun _ _ _ h => h) (by kernel_rfl) hS0 ?_
  simp only [Act.put, List.setIfInBounds_toArray, List.set_cons_zero, List.set_cons_succ]
  refine takeU 82 (i := 7) rfl rfl (by kernel_rfl) (by kernel_rfl) (by kernel_rfl) (fun _ _ _ h => h) (by kernel_rfl) hS0 ?_
  simp only [Act.put, List.setIfInBounds_toArray, List.set_cons_zero, List.set_cons_succ]
  refine takeY 83 (i := 8) (v := ?v8i) rfl rfl (by kernel_rfl) (by kernel_rfl) (by kernel_rfl) (fun _ _ _ h => h) (by kernel_rfl) ?y8i hS0 ?_
  case y8i =>
    intro w' hw'; (try dsimp only at hw'); obtain e8 := hw'; go_simp; try with_reducible rfl
  simp only [Act.put, List.setIfInBounds_toArray, List.set_cons_zero, List.set_cons_succ]
  refine takeY 84 (i := 9) (v := ?v9i) rfl rfl (by kernel_rfl) (by kernel_rfl) (by kernel_rfl) (fun _ _ _ h => h) (by kernel_rfl) ?y9i hS0 ?_
  case y9i =>
    intro w' hw'; (try dsimp only at hw'); obtain e8 := hw'; go_simp; try with_reducible rfl
  simp only [Act.put, List.setIfInBounds_toArray, List.set_cons_zero, List.set_cons_succ]
  refine takeU 85 (i := 10) rfl rfl (by kernel_rfl) (by kernel_rfl) (by kernel_rfl) (fun _ _ _ h => h) (by kernel_rfl) hS0 ?_
  simp only [Act.put, List.setIfInBounds_toArray, List.set_cons_zero, List.set_cons_succ]
  refine takeU 86 (i := 11) rfl rfl (by kernel_rfl) (by kernel_rfl) (by kernel_rfl) (fun _ _ _ h => h) (by kernel_rfl) hS0 ?_
  simp only [Act.put, List.setIfInBounds_toArray, List.set_cons_zero, List.set_cons_succ]
  refine takeU 87 (i := 12) rfl rfl (by kernel_rfl) (by kernel_rfl) (by kernel_rfl) (fun _ _ _ h => h) (by kernel_rfl) hS0 ?_
  simp only [Act.put, List.setIfInBounds_toArray, List.set_cons_zero, List.set_cons_succ]
  refine takeU 88 (i := 13) rfl rfl (by kernel_rfl) (by kernel_rfl) (by kernel_rfl) (fun _ _ _ h => h) (by kernel_rfl) hS0 ?_
  simp only [Act.put, List.setIfInBounds_toArray, List.set_cons_zero, List.set_cons_succ]
  refine takeU 89 (i := 14) rfl rfl (by kernel_rfl) (by kernel_rfl) (by kernel_rfl) (fun _ _ _ h => h) (by kernel_rfl) hS0 ?_
  simp only [Act.put, List.setIfInBounds_toArray, List.set_cons_zero, List.set_cons_succ]
  refine takeU 90 (i := 15) rfl rfl (by kernel_rfl) (by kernel_rfl) (by kernel_rfl) (fun _ _ _ h => h) (by kernel_rfl) hS0 ?_
  simp only [Act.put, List.setIfInBounds_toArray, List.set_cons_zero, List.set_cons_succ]
  refine takeU 91 (i := 16) rfl rfl (by kernel_rfl) (by kernel_rfl) (by kernel_rfl) (fun _ _ _ h => h) (by kernel_rfl) hS0 ?_
  simp only [Act.put, List.setIfInBounds_toArray, List.set_cons_zero, List.set_cons_succ]
  refine takeU 92 (i := 17) rfl rfl (by kernel_rfl) (by kernel_rfl) (by kernel_rfl) (fun _ _ _ h => h) (by kernel_rfl) hS0 ?_
  simp only [Act.put, List.setIfInBounds_toArray, List.set_cons_zero, List.set_cons_succ]
  refine takeU 93 (i := 18) rfl rfl (by kernel_rfl) (by kernel_rfl) (by kernel_rfl) (fun _ _ _ h => h) (by kernel_rfl) hS0 ?_
  simp only [Act.put, List.setIfInBounds_toArray, List.set_cons_zero, List.set_cons_succ]
  refine takeU 94 (i := 19) rfl rfl (by kernel_rfl) (by kernel_rfl) (by kernel_rfl) (fun _ _ _ h => h) (by kernel_rfl) hS0 ?_
  simp only [Act.put, List.setIfInBounds_toArray, List.set_cons_zero, List.set_cons_succ]
  refine takeU 95 (i := 20) rfl rfl (by kernel_rfl) (by kernel_rfl) (by kernel_rfl) (fun _ _ _ h => h) (by kernel_rfl) hS0 ?_
  simp only [Act.put, List.setIfInBounds_toArray, List.set_cons_zero, List.set_cons_succ]
  refine takeY 96 (i := 21) (v := ?v21i) rfl rfl (by kernel_rfl) (by kernel_rfl) (by kernel_rfl) (fun _ _ _ h => h) (by kernel_rfl) ?y21i hS0 ?_
  case y21i =>
    intro w' hw'; (try dsimp only at hw'); obtain e8 := hw'; go_simp; try with_reducible rfl
  simp only [Act.put, List.setIfInBounds_toArray, List.set_cons_zero, List.set_cons_succ]
  refine takeY 74 (i := 22) (v := ?v22i) rfl rfl (by kernel_rfl) (by kernel_rfl) (by kernel_rfl) (fun _ _ _ h => h) (by kernel_rfl) ?y22i hS0 ?_
  case y22i =>
    intro w' hw'; (try dsimp only at hw'); obtain e8 := hw'; go_simp; try with_reducible rfl
  simp only [Act.put, List.setIfInBounds_toArray, List.set_cons_zero, List.set_cons_succ]
  refine wpAnyH_done (by kernel_rfl) ?_ _
  clear hS0
  generalize hw1 : World.drew w = w1 at *
  clear hw1
  replace c0 := (HB0.out.cell (p := ⟨p, 0, none⟩) hpl).trans c0
  replace c7 := (HB0.out.cell (p := ⟨p, 7, none⟩) hpl).trans c7
  replace c8 := (HB0.out.cell (p := ⟨p, 8, none⟩) hpl).trans c8
  go_wp2
  go_ret
  exact ⟨⟨_, rfl, .inr ⟨HNo.out, rfl⟩⟩, HB0.out⟩
/-- What a rule makes of a part. -/
theorem iRewrite (w : World) (B lo p : Nat) (rule : Int) (s : Tr) (hpa : PartAt w B lo s p) (hok : OkT s) (hl : (flatT s).length ≤ 1000) (hB : B ≤ w.heap.size) (hlo : lo ≤ w.heap.size) :
    Calls Tryz.prog 43 #[.pointer (some ⟨p, 0, none⟩), .int .i64 rule] w fun e w' => (∃ v, e = .returned v ∧ RewV w' B lo rule s v) ∧ Below w.heap.size w w' := by
  cases s with
  | base d => exact rew_base w B lo p rule d hpa hB hlo
  | dual a =>
    cases a with
    | base d => exact rew_dual_base w B lo p rule d hpa hB hlo
    | dual a => exact rew_dual_dual w B lo p rule a hpa hB hlo
    | bin op a b => exact rew_dual_bin w B lo p rule op a b hpa hB hlo
  | bin op a b => exact rew_bin w B lo p rule op a b hpa hB hlo hok (by rw [flatT, List.length_append, List.length_append] at hl; omega)
end Go.Proofs.YtaijajajpnekbaaGreat.num
namespace Go.Proofs.YtaijajajpnekbaaGreat.num
set_option maxRecDepth 20000
open Go.RowKit Go.Maps
set_option linter.unusedVariables false
set_option linter.unusedSimpArgs false

set_option maxRecDepth 20000 in
set_option maxHeartbeats 1600000 in
theorem iSubtree (w : World) (B : Nat) (A : Option Addr) (n c : Nat) (ns : List Nd) (pos : Int) (hi : Nodes w B A n ns) (hB : B ≤ w.heap.size) (hnc : n ≤ c) (hc : c ≤ 9223372036854775807) (hN : ShortN ns) (out : List ND) (ho : SubD (datN ns) pos out) :
    Calls Tryz.prog 20 #[.slice A n c, .int .i64 pos] w fun e w' => ∃ v ns', e = .returned v ∧ datN ns' = out ∧ ShortN ns' ∧ OwnN w' w.heap.size v ns' ∧ Below w.heap.size w w' := by
  have HP := Lib.hid (iPartAt w B A n c ns pos hi hB hnc hc hN)
  have HO := Lib.hid ho
  clear hi hN ho
  go_enter Tryz.func20, Tryz.ntmps20
  go_wp2_with fail
  refine HP.out.mono ?_
  rintro e w1 ⟨⟨v, sl, rfl, hp⟩, hb1⟩
  have HB1 := Lib.hid hb1
  rcases hp with ⟨k, i, s, p, hk, ha, rfl, rfl, hpa⟩ | ⟨hn, rfl, rfl⟩
  · have HD := Lib.hid (HO.out.one hk ha)
    have H9 := Lib.hid ha.len9
    have HND := Lib.hid (iNodes B w.heap.size s p w1 hpa (Nat.le_trans hB hb1.size) (Nat.le_trans ha.len9 (by decide)))
    clear ha hpa hb1 hk
    go_wp2_with fail
    refine HND.out.mono ?_
    rintro e w2 ⟨A2, n2, c2, l2, rfl, hN2, hd2, hs2, -, -, hb2⟩
    have HN2 := Lib.hid hN2
    have HD2 := Lib.hid hd2
    have HS2 := Lib.hid hs2
    have HB2 := Lib.hid (below_on HB1.out hb2)
    have hn2 : n2 ≤ 1048576 := by
      have h1 := congrArg List.length hd2
      rw [datN_length, hN2.len] at h1
      have := H9.out
      omega
    clear hN2 hd2 hs2 hb2 HND
    go_wp2_with fail
    refine (copyNodes_c w2 w2.heap.size A2 n2 c2 l2 HN2.out (Nat.le_refl _) hn2 HS2.out).mono ?_
    rintro e w3 ⟨v, k3, rfl, hd3, hs3, ho3, hb3⟩
    have HF := Lib.hid (And.intro (hd3.trans (HD2.out.trans HD.out.symm)) (And.intro hs3 (ho3.low HB2.out.size)))
    have HB3 := Lib.hid (below_on HB2.out hb3)
    clear hd3 hs3 ho3 hb3
    go_wp2
    go_ret
    exact ⟨_, _, rfl, HF.out.1, HF.out.2.1, HF.out.2.2, HB3.out⟩
  · have HD := Lib.hid (HO.out.none hn)
    clear hn hb1
    go_wp2_with fail
    refine (nodes_none w1).mono ?_
    rintro e w2 ⟨A2, n2, c2, l2, rfl, hN2, hd2, hs2, -, -, hb2⟩
    have HN2 := Lib.hid hN2
    have HD2 := Lib.hid hd2
    have HS2 := Lib.hid hs2
    have HB2 := Lib.hid (below_on HB1.out hb2)
    have hn2 : n2 ≤ 1048576 := by
      have h1 := congrArg List.length hd2
      rw [datN_length, hN2.len, List.length_nil] at h1
      omega
    clear hN2 hd2 hs2 hb2
    go_wp2_with fail
    refine (copyNodes_c w2 w2.heap.size A2 n2 c2 l2 HN2.out (Nat.le_refl _) hn2 HS2.out).mono ?_
    rintro e w3 ⟨v, k3, rfl, hd3, hs3, ho3, hb3⟩
    have HF := Lib.hid (And.intro (hd3.trans (HD2.out.trans HD.out.symm)) (And.intro hs3 (ho3.low HB2.out.size)))
    have HB3 := Lib.hid (below_on HB2.out hb3)
    clear hd3 hs3 ho3 hb3
    go_wp2
    go_ret
    exact ⟨_, _, rfl, HF.out.1, HF.out.2.1, HF.out.2.2, HB3.out⟩
set_option maxRecDepth 20000 in
set_option maxHeartbeats 3200000 in
theorem iRewriteAt (w : World) (B : Nat) (A : Option Addr) (n c : Nat) (ns : List Nd) (rule pos : Int) (hi : Nodes w B A n ns) (hB : B ≤ w.heap.size) (hnc : n ≤ c) (hc : c ≤ 9223372036854775807) (hN : ShortN ns) (o : Option (List ND)) (ho : AppD (datN ns) rule pos o) :
    Calls Tryz.prog 26 #[.slice A n c, .int .i64 rule, .int .i64 pos] w (RewOut o w) := by
  have HP := Lib.hid (iPartAt w B A n c ns pos hi hB hnc hc hN)
  have HO := Lib.hid ho
  have HX := Lib.hid hi
  have HSh := Lib.hid hN
  clear hi hN ho
  go_enter Tryz.func26, Tryz.ntmps26
  go_wp2_with fail
  refine HP.out.mono ?_
  rintro e w1 ⟨⟨v, sl, rfl, hp⟩, hb1⟩
  have HB1 := Lib.hid hb1
  rcases hp with ⟨k, i, s, p, hk, ha, rfl, rfl, hpa⟩ | ⟨hn, rfl, rfl⟩
  · subst hk
    have HA := Lib.hid ha
    have HRw := Lib.hid (iRewrite w1 B w.heap.size p rule s hpa ha.ok (Nat.le_trans ha.len9 (by decide)) (Nat.le_trans hB hb1.size) hb1.size)
    clear ha hpa hb1
    go_wp2_with fail
    refine HRw.out.mono ?_
    rintro e w2 ⟨⟨v, rfl, hv⟩, hb2⟩
    have HB2 := Lib.hid (below_on HB1.out hb2)
    clear hb2 HRw
    rcases hv with ⟨s', p', hr, rfl, hpa'⟩ | ⟨hno, rfl⟩
    · have HR := Lib.hid hr
      have HPa := Lib.hid hpa'
      have hsl : (flatT s').length ≤ 11 := by
        have h9 := HA.out.len9
        cases hr with
        | dd a => simp only [flatT, List.length_append, List.length_cons, List.length_nil] at h9; omega
        | push op a b => simp only [flatT, List.length_append, List.length_cons, List.length_nil] at h9 ⊢; omega
        | idem op a => simp only [flatT, List.length_append, List.length_cons, List.length_nil] at h9; omega
        | comm op a b h => simp only [flatT, List.length_append, List.length_cons, List.length_nil] at h9 ⊢; omega
      have HND := Lib.hid (iNodes B w.heap.size s' p' w2 hpa' (Nat.le_trans hB HB2.out.size) (by omega))
      have HSl := Lib.hid hsl
      have hkn : k < n := by have := HA.out.lt; rwa [datN_length, HX.out.len] at this
      have hik : i ≤ k := HA.out.le
      have h9 : n ≤ 9 := by have := HA.out.e.1; rwa [datN_length, HX.out.len] at this
      obtain ⟨b, off, x0, hA, _⟩ := HX.out.at k hkn
      subst hA
      have hs1 : (k : Int) + 1 ≤ (c : Int) := by omega
      have hs2 : (k : Int) + 1 ≤ (n : Int) := by omega
      have hs0 : (0 : Int) ≤ (k : Int) + 1 := by omega
      have hw1 : IntKind.i64.wrap ((k : Int) + 1) = (k : Int) + 1 := IntWalk.i64_in _ ⟨by omega, by omega⟩
      clear hr hpa' hsl
      go_wp2
      by_cases hck : c = k + 1
      · subst hck
        have HM : Hid (∀ W, Below w.heap.size w W → Nodes W W.heap.size (some ⟨b, off, none⟩) 0 (ns.drop (k + 1))) := Lib.hid fun W h => by
          rw [List.drop_eq_nil_of_le (by rw [HX.out.len]; omega)]
          exact .nil _ _ _
        have HPd : Hid (PartAt (World.drew w2) B w.heap.size s' p') := Lib.hid (HPa.out.below (Nat.le_trans hB HB2.out.size) (Below.refl _ _).drew)
        have HB2d : Hid (Below w.heap.size w (World.drew w2)) := Lib.hid HB2.out.drew
        have HLl : Hid ((flatT s').length ≤ 1000) := Lib.hid (by have := HSl.out; omega)
        have hS0 : (fun w' : World => Below w.heap.size w w') (World.drew w2) := HB2.out.drew
        refine wp_region_held (S := fun w' : World => Below w.heap.size w w') (by kernel_rfl) ?_
        change wpAnyH _ _ _ _ _ _ _ _ (World.drew _)
        refine takeY 25 (i := 0) (v := ?v0a) rfl rfl (by kernel_rfl) (by kernel_rfl) (by kernel_rfl) (fun _ _ _ h => h) (by kernel_rfl) ?y0a hS0 ?_
        case y0a =>
          intro w' hw'; (try dsimp only at hw'); obtain - := hw'; go_simp; try with_reducible rfl
        simp only [Act.put, List.setIfInBounds_toArray, List.set_cons_zero, List.set_cons_succ]
        refine takeY 26 (i := 1) (v := ?v1a) rfl rfl (by kernel_rfl) (by kernel_rfl) (by kernel_rfl) (fun _ _ _ h => h) (by kernel_rfl) ?y1a hS0 ?_
        case y1a =>
          intro w' hw'; (try dsimp only at hw'); obtain - := hw'; go_simp; try with_reducible rfl
        simp only [Act.put, List.setIfInBounds_toArray, List.set_cons_zero, List.set_cons_succ]
        refine takeY 28 (i := 3) (v := ?v3a) rfl rfl (by kernel_rfl) (by kernel_rfl) (by kernel_rfl) (fun _ _ _ h => h) (by kernel_rfl) ?y3a hS0 ?_
        case y3a =>
          intro w' hw'; (try dsimp only at hw'); obtain - := hw'; go_simp; try with_reducible rfl
        simp only [Act.put, List.setIfInBounds_toArray, List.set_cons_zero, List.set_cons_succ]
        refine takeY 29 (i := 4) (v := ?v4a) rfl rfl (by kernel_rfl) (by kernel_rfl) (by kernel_rfl) (fun _ _ _ h => h) (by kernel_rfl) ?y4a hS0 ?_
        case y4a =>
          intro w' hw'; (try dsimp only at hw'); obtain - := hw'; go_simp; try with_reducible rfl
        simp only [Act.put, List.setIfInBounds_toArray, List.set_cons_zero, List.set_cons_succ]
        refine takeY 30 (i := 5) (v := ?v5a) rfl rfl (by kernel_rfl) (by kernel_rfl) (by kernel_rfl) (fun _ _ _ h => h) (by kernel_rfl) ?y5a hS0 ?_
        case y5a =>
          intro w' hw'; (try dsimp only at hw'); obtain - := hw'; go_simp; try with_reducible rfl
        simp only [Act.put, List.setIfInBounds_toArray, List.set_cons_zero, List.set_cons_succ]
        refine takeY 31 (i := 6) (v := ?v6a) rfl rfl (by kernel_rfl) (by kernel_rfl) (by kernel_rfl) (fun _ _ _ h => h) (by kernel_rfl) ?y6a hS0 ?_
        case y6a =>
          intro w' hw'; (try dsimp only at hw'); obtain - := hw'; go_simp; try with_reducible rfl
        simp only [Act.put, List.setIfInBounds_toArray, List.set_cons_zero, List.set_cons_succ]
        refine wpAnyH_ready (rs := [2]) (by kernel_rfl) (by simp) ?_
        refine AllReadyH.cons rfl (fun K hK => ?_) AllReadyH.nil
        go_simp; go_at_call 40; refine (iNodes B w.heap.size s' p' _ HPd.out (Nat.le_trans hB HB2d.out.size) HLl.out).mono ?_; rintro e w3 ⟨A3, n3, c3, l3, rfl, hN3, hd3, hs3, -, -, hb3⟩; have HN3 := Lib.hid hN3; have HD3 := Lib.hid hd3; have HS3 := Lib.hid hs3; have HB3 := Lib.hid (below_on HB2d.out hb3); clear hN3 hd3 hs3 hb3
        refine hK.out _ _ HB3.out (fun hS1 => ?_)
        clear hK K
        try simp only [Act.put, List.setIfInBounds_toArray, List.set_cons_zero, List.set_cons_succ]
        refine wpAnyH_ready (rs := [7]) (by kernel_rfl) (by simp) ?_
        refine AllReadyH.cons rfl (fun K hK => ?_) AllReadyH.nil
        go_simp; have HB4 : Hid (Below w.heap.size w (w3.alloc (.cells #[.slice (some ⟨b, off, none⟩) i (k + 1), .slice A3 n3 c3, .slice (some ⟨b, off, none⟩) 0 (0)] 24))) := Lib.hid (HB3.out.alloc HB3.out.size _)
        refine hK.out _ _ HB4.out (fun hS2 => ?_)
        clear hK K
        try simp only [Act.put, List.setIfInBounds_toArray, List.set_cons_zero, List.set_cons_succ]
        refine wpAnyH_ready (rs := [8]) (by kernel_rfl) (by simp) ?_
        refine AllReadyH.cons rfl (fun K hK => ?_) AllReadyH.nil
        go_simp; go_at_call 44; refine (concatAt w3 _ (by first | rfl | simp) (some ⟨b, off, none⟩) A3 (some ⟨b, off, none⟩) i n3 0 _ _ _ (ns.take i) l3 (ns.drop (k + 1)) (((HX.out.below (HB3.out.mono hB)).more (Nat.le_trans hB HB3.out.size)).take (by omega)) HN3.out (HM.out _ HB3.out) (by have h1 := congrArg List.length HD3.out; rw [datN_length, HN3.out.len] at h1; have h2 := HSl.out; omega)).mono ?_; rintro e w5 ⟨A5, n5, c5, rfl, hN5, hle5, hcm5, hb5⟩; have HN5 := Lib.hid hN5; have HB5 := Lib.hid (below_on HB3.out hb5); have hcl : c5 ≤ 9223372036854775807 := (by unfold maxLen at hcm5; omega); clear hN5 hcm5 hb5
        refine hK.out _ _ HB5.out (fun hS3 => ?_)
        clear hK K
        try simp only [Act.put, List.setIfInBounds_toArray, List.set_cons_zero, List.set_cons_succ]
        refine takeY 11 (i := 9) (v := ?v9a) rfl rfl (by kernel_rfl) (by kernel_rfl) (by kernel_rfl) (fun _ _ _ h => h) (by kernel_rfl) ?y9a hS3 ?_
        case y9a =>
          intro w' hw'; (try dsimp only at hw'); obtain - := hw'; go_simp; try with_reducible rfl
        simp only [Act.put, List.setIfInBounds_toArray, List.set_cons_zero, List.set_cons_succ]
        refine wpAnyH_done (by kernel_rfl) ?_ _
        clear hS0 hS1 hS2 hS3
        have HDt : Hid (datN (ns.take i ++ l3 ++ ns.drop (k + 1)) = putD (datN ns) k i s') := Lib.hid (by rw [datN_app, datN_app, HD3.out, datN_take, datN_drop]; rfl)
        have HSt : Hid (ShortN (ns.take i ++ l3 ++ ns.drop (k + 1))) := Lib.hid (short_app (short_app (fun x hx => HSh.out x (List.mem_of_mem_take hx)) HS3.out) (fun x hx => HSh.out x (List.mem_of_mem_drop hx)))
        have HL5 : Hid ((putD (datN ns) k i s').length = n5) := Lib.hid (by rw [← HDt.out, datN_length, HN5.out.len])
        by_cases hl9 : n5 ≤ 9
        · obtain rfl := HO.out.yes HA.out HR.out (by rw [HL5.out]; exact hl9)
          have hd9 : (n5 : Int) ≤ 9 := by omega
          go_wp2
          go_ret2
          exact ⟨⟨_, _, _, _, rfl, fun r h => by cases h; exact ⟨HN5.out, HDt.out, HSt.out, hl9⟩⟩, HB5.out⟩
        · obtain rfl := HO.out.big HA.out HR.out (by rw [HL5.out]; omega)
          have hd9 : ¬ ((n5 : Int) ≤ 9) := by omega
          go_wp2
          go_ret2
          exact ⟨⟨_, _, _, [], rfl, fun r h => by cases h⟩, HB5.out⟩
      · have HM : Hid (∀ W, Below w.heap.size w W → Nodes W W.heap.size (some ⟨b, off + (k + 1) * 6, none⟩) (n - (k + 1)) (ns.drop (k + 1))) := Lib.hid fun W h => by
          have h1 := ((HX.out.below (h.mono hB)).more (Nat.le_trans hB h.size)).mid (i := k + 1) (j := n) (by omega) (Nat.le_refl _)
          rwa [List.take_of_length_le (by rw [HX.out.len]; exact Nat.le_refl _)] at h1
        have HPd : Hid (PartAt (World.drew w2) B w.heap.size s' p') := Lib.hid (HPa.out.below (Nat.le_trans hB HB2.out.size) (Below.refl _ _).drew)
        have HB2d : Hid (Below w.heap.size w (World.drew w2)) := Lib.hid HB2.out.drew
        have HLl : Hid ((flatT s').length ≤ 1000) := Lib.hid (by have := HSl.out; omega)
        have hS0 : (fun w' : World => Below w.heap.size w w') (World.drew w2) := HB2.out.drew
        refine wp_region_held (S := fun w' : World => Below w.heap.size w w') (by kernel_rfl) ?_
        change wpAnyH _ _ _ _ _ _ _ _ (World.drew _)
        refine takeY 25 (i := 0) (v := ?v0b) rfl rfl (by kernel_rfl) (by kernel_rfl) (by kernel_rfl) (fun _ _ _ h => h) (by kernel_rfl) ?y0b hS0 ?_
        case y0b =>
          intro w' hw'; (try dsimp only at hw'); obtain - := hw'; go_simp; try with_reducible rfl
        simp only [Act.put, List.setIfInBounds_toArray, List.set_cons_zero, List.set_cons_succ]
        refine takeY 26 (i := 1) (v := ?v1b) rfl rfl (by kernel_rfl) (by kernel_rfl) (by kernel_rfl) (fun _ _ _ h => h) (by kernel_rfl) ?y1b hS0 ?_
        case y1b =>
          intro w' hw'; (try dsimp only at hw'); obtain - := hw'; go_simp; try with_reducible rfl
        simp only [Act.put, List.setIfInBounds_toArray, List.set_cons_zero, List.set_cons_succ]
        refine takeY 28 (i := 3) (v := ?v3b) rfl rfl (by kernel_rfl) (by kernel_rfl) (by kernel_rfl) (fun _ _ _ h => h) (by kernel_rfl) ?y3b hS0 ?_
        case y3b =>
          intro w' hw'; (try dsimp only at hw'); obtain - := hw'; go_simp; try with_reducible rfl
        simp only [Act.put, List.setIfInBounds_toArray, List.set_cons_zero, List.set_cons_succ]
        refine takeY 29 (i := 4) (v := ?v4b) rfl rfl (by kernel_rfl) (by kernel_rfl) (by kernel_rfl) (fun _ _ _ h => h) (by kernel_rfl) ?y4b hS0 ?_
        case y4b =>
          intro w' hw'; (try dsimp only at hw'); obtain - := hw'; go_simp; try with_reducible rfl
        simp only [Act.put, List.setIfInBounds_toArray, List.set_cons_zero, List.set_cons_succ]
        refine takeY 30 (i := 5) (v := ?v5b) rfl rfl (by kernel_rfl) (by kernel_rfl) (by kernel_rfl) (fun _ _ _ h => h) (by kernel_rfl) ?y5b hS0 ?_
        case y5b =>
          intro w' hw'; (try dsimp only at hw'); obtain - := hw'; go_simp; try with_reducible rfl
        simp only [Act.put, List.setIfInBounds_toArray, List.set_cons_zero, List.set_cons_succ]
        refine takeY 31 (i := 6) (v := ?v6b) rfl rfl (by kernel_rfl) (by kernel_rfl) (by kernel_rfl) (fun _ _ _ h => h) (by kernel_rfl) ?y6b hS0 ?_
        case y6b =>
          intro w' hw'; (try dsimp only at hw'); obtain - := hw'; go_simp; try with_reducible rfl
        simp only [Act.put, List.setIfInBounds_toArray, List.set_cons_zero, List.set_cons_succ]
        refine wpAnyH_ready (rs := [2]) (by kernel_rfl) (by simp) ?_
        refine AllReadyH.cons rfl (fun K hK => ?_) AllReadyH.nil
        go_simp; go_at_call 40; refine (iNodes B w.heap.size s' p' _ HPd.out (Nat.le_trans hB HB2d.out.size) HLl.out).mono ?_; rintro e w3 ⟨A3, n3, c3, l3, rfl, hN3, hd3, hs3, -, -, hb3⟩; have HN3 := Lib.hid hN3; have HD3 := Lib.hid hd3; have HS3 := Lib.hid hs3; have HB3 := Lib.hid (below_on HB2d.out hb3); clear hN3 hd3 hs3 hb3
        refine hK.out _ _ HB3.out (fun hS1 => ?_)
        clear hK K
        try simp only [Act.put, List.setIfInBounds_toArray, List.set_cons_zero, List.set_cons_succ]
        refine wpAnyH_ready (rs := [7]) (by kernel_rfl) (by simp) ?_
        refine AllReadyH.cons rfl (fun K hK => ?_) AllReadyH.nil
        go_simp; have HB4 : Hid (Below w.heap.size w (w3.alloc (.cells #[.slice (some ⟨b, off, none⟩) i c, .slice A3 n3 c3, .slice (some ⟨b, off + (k + 1) * 6, none⟩) (n - (k + 1)) (c - (k + 1))] 24))) := Lib.hid (HB3.out.alloc HB3.out.size _)
        refine hK.out _ _ HB4.out (fun hS2 => ?_)
        clear hK K
        try simp only [Act.put, List.setIfInBounds_toArray, List.set_cons_zero, List.set_cons_succ]
        refine wpAnyH_ready (rs := [8]) (by kernel_rfl) (by simp) ?_
        refine AllReadyH.cons rfl (fun K hK => ?_) AllReadyH.nil
        go_simp; go_at_call 44; refine (concatAt w3 _ (by first | rfl | simp) (some ⟨b, off, none⟩) A3 (some ⟨b, off + (k + 1) * 6, none⟩) i n3 (n - (k + 1)) _ _ _ (ns.take i) l3 (ns.drop (k + 1)) (((HX.out.below (HB3.out.mono hB)).more (Nat.le_trans hB HB3.out.size)).take (by omega)) HN3.out (HM.out _ HB3.out) (by have h1 := congrArg List.length HD3.out; rw [datN_length, HN3.out.len] at h1; have h2 := HSl.out; omega)).mono ?_; rintro e w5 ⟨A5, n5, c5, rfl, hN5, hle5, hcm5, hb5⟩; have HN5 := Lib.hid hN5; have HB5 := Lib.hid (below_on HB3.out hb5); have hcl : c5 ≤ 9223372036854775807 := (by unfold maxLen at hcm5; omega); clear hN5 hcm5 hb5
        refine hK.out _ _ HB5.out (fun hS3 => ?_)
        clear hK K
        try simp only [Act.put, List.setIfInBounds_toArray, List.set_cons_zero, List.set_cons_succ]
        refine takeY 11 (i := 9) (v := ?v9b) rfl rfl (by kernel_rfl) (by kernel_rfl) (by kernel_rfl) (fun _ _ _ h => h) (by kernel_rfl) ?y9b hS3 ?_
        case y9b =>
          intro w' hw'; (try dsimp only at hw'); obtain - := hw'; go_simp; try with_reducible rfl
        simp only [Act.put, List.setIfInBounds_toArray, List.set_cons_zero, List.set_cons_succ]
        refine wpAnyH_done (by kernel_rfl) ?_ _
        clear hS0 hS1 hS2 hS3
        have HDt : Hid (datN (ns.take i ++ l3 ++ ns.drop (k + 1)) = putD (datN ns) k i s') := Lib.hid (by rw [datN_app, datN_app, HD3.out, datN_take, datN_drop]; rfl)
        have HSt : Hid (ShortN (ns.take i ++ l3 ++ ns.drop (k + 1))) := Lib.hid (short_app (short_app (fun x hx => HSh.out x (List.mem_of_mem_take hx)) HS3.out) (fun x hx => HSh.out x (List.mem_of_mem_drop hx)))
        have HL5 : Hid ((putD (datN ns) k i s').length = n5) := Lib.hid (by rw [← HDt.out, datN_length, HN5.out.len])
        by_cases hl9 : n5 ≤ 9
        · obtain rfl := HO.out.yes HA.out HR.out (by rw [HL5.out]; exact hl9)
          have hd9 : (n5 : Int) ≤ 9 := by omega
          go_wp2
          go_ret2
          exact ⟨⟨_, _, _, _, rfl, fun r h => by cases h; exact ⟨HN5.out, HDt.out, HSt.out, hl9⟩⟩, HB5.out⟩
        · obtain rfl := HO.out.big HA.out HR.out (by rw [HL5.out]; omega)
          have hd9 : ¬ ((n5 : Int) ≤ 9) := by omega
          go_wp2
          go_ret2
          exact ⟨⟨_, _, _, [], rfl, fun r h => by cases h⟩, HB5.out⟩
    · obtain rfl := HO.out.no HA.out hno
      clear hno
      go_wp2
      go_ret2
      exact ⟨⟨_, _, _, [], rfl, fun r h => by cases h⟩, HB2.out⟩
  · obtain rfl := HO.out.out hn
    clear hn hb1
    go_wp2
    go_ret2
    exact ⟨⟨_, _, _, [], rfl, fun r h => by cases h⟩, HB1.out⟩
set_option maxRecDepth 20000 in
set_option maxHeartbeats 1600000 in
theorem iApply (w : World) (B : Nat) (A : Option Addr) (n c : Nat) (ns : List Nd) (rule pos : Int) (hi : Nodes w B A n ns) (hB : B ≤ w.heap.size) (hnc : n ≤ c) (hc : c ≤ 9223372036854775807) (hn : n ≤ 1048576) (hN : ShortN ns) (o : Option (List ND)) (ho : AppD (datN ns) rule pos o) :
    Calls Tryz.prog 6 #[.slice A n c, .int .i64 rule, .int .i64 pos] w fun e w' => ∃ v ns', e = .returned (.tuple #[v, .bool o.isSome]) ∧ datN ns' = o.getD (datN ns) ∧ ShortN ns' ∧ OwnN w' w.heap.size v ns' ∧ Below w.heap.size w w' := by
  have HP := Lib.hid (iRewriteAt w B A n c ns rule pos hi hB hnc hc hN o ho)
  have HX := Lib.hid hi
  have HSh := Lib.hid hN
  clear hi hN ho
  go_enter Tryz.func6, Tryz.ntmps6
  go_wp2_with fail
  refine HP.out.mono ?_
  rintro e w1 ⟨⟨A1, n1, c1, l1, rfl, hf⟩, hb1⟩
  have HB1 := Lib.hid hb1
  have HF := Lib.hid hf
  clear hb1 hf HP
  cases o with
  | none =>
    go_wp2_with fail
    refine (copyNodes_c w1 B A n c ns (HX.out.below (HB1.out.mono hB)) (Nat.le_trans hB HB1.out.size) hn HSh.out).mono ?_
    rintro e w2 ⟨v, k2, rfl, hd2, hs2, ho2, hb2⟩
    have HG := Lib.hid (And.intro hd2 (And.intro hs2 (ho2.low HB1.out.size)))
    have HB2 := Lib.hid (below_on HB1.out hb2)
    clear hd2 hs2 ho2 hb2
    go_wp2
    go_ret2
    exact ⟨_, _, rfl, HG.out.1, HG.out.2.1, HG.out.2.2, HB2.out⟩
  | some r =>
    obtain ⟨hN1, hd1, hs1, hn1⟩ := HF.out r rfl
    have HN1 := Lib.hid hN1
    have HD1 := Lib.hid hd1
    have HS1 := Lib.hid hs1
    clear hN1 hd1 hs1
    go_wp2_with fail
    refine (copyNodes_c w1 w1.heap.size A1 n1 c1 l1 HN1.out (Nat.le_refl _) (by omega) HS1.out).mono ?_
    rintro e w2 ⟨v, k2, rfl, hd2, hs2, ho2, hb2⟩
    have HG := Lib.hid (And.intro (hd2.trans HD1.out) (And.intro hs2 (ho2.low HB1.out.size)))
    have HB2 := Lib.hid (below_on HB1.out hb2)
    clear hd2 hs2 ho2 hb2
    go_wp2
    go_ret2
    exact ⟨_, _, rfl, HG.out.1, HG.out.2.1, HG.out.2.2, HB2.out⟩
end Go.Proofs.YtaijajajpnekbaaGreat.num
