/-
  The laws' own copy and comparison of slices of nodes.
-/
import Derived.Test.YtceiocdemhkcdaaGreatExpMem
import Derived.Test.YtceiocdemhkcdaaGreatGetSnoc
namespace Go.Proofs.YtceiocdemhkcdaaGreat.num
set_option maxRecDepth 20000
open Go.RowKit
set_option linter.unusedVariables false
set_option linter.unusedSimpArgs false

theorem OwnN.of_row {w : World} {B bx n : Nat} {ns : List Nd} (hB : B ≤ bx) (hl : ns.length = n) (hn : n ≤ 1048576) (hr : w.rowIs bx 111 (n * 6) (nodeCell ns)) (hx : ∀ (k : Nat) (x : Nd), ns[k]? = some x → (Lit.int .i64 x.op).wf = true ∧ WiO w (bx + 1) x.t)
    (hd : ∀ (i j : Nat) (x y : Nd) (b : Nat), i < j → ns[i]? = some x → ns[j]? = some y → x.t.has b → ¬ y.t.has b) : OwnN w B (.slice (some ⟨bx, 0, none⟩) n n) ns :=
  ⟨OwnG.of_row nodeCells_len hB hl (Nat.le_refl _) (by unfold maxLen; omega) hr (fun j hj => cellG_own nodeCells_len zN hl hj), fun k x hk => ⟨(hx k x hk).1, (hx k x hk).2.low (by omega)⟩,
    fun k x b hk hb e => by have h := ((hx k x hk).2.has_in hb).1; have := Option.some.inj e; simp at this; omega, hd⟩

set_option maxRecDepth 20000 in
theorem toNodes_c (w : World) (B : Nat) (A : Option Addr) (n c : Nat) (ns : List Nd) (hi : Nodes w B A n ns) (hB : B ≤ w.heap.size) (hn : n ≤ 1048576) (hN : ShortN ns) :
    Calls Tryz.prog 76 #[.slice A n c] w fun e w' => ∃ ns', e = .returned (.slice (some ⟨w.heap.size, 0, none⟩) n n) ∧ ns'.map Nd.dat = ns.map Nd.dat ∧ ShortN ns' ∧ OwnN w' w.heap.size (.slice (some ⟨w.heap.size, 0, none⟩) n n) ns' ∧ Below w.heap.size w w' := by
  have HX := Lib.hid hi
  have HN := Lib.hid hN
  have hmk := make_nodes n hn
  clear hi hN
  go_enter Tryz.func76, Tryz.ntmps76
  go_wp2
  clear hmk
  go_loopw [4] (fun i wr => ∃ (k : Nat) (ns' : List Nd), k ≤ n ∧ i = .int .i64 k ∧ ns'.length = k ∧ ns'.map Nd.dat = (ns.take k).map Nd.dat ∧ ShortN ns' ∧ wr.rowIs w.heap.size 111 (n * 6) (nodeCell ns') ∧ (∀ (k : Nat) (x : Nd), ns'[k]? = some x → (Lit.int .i64 x.op).wf = true ∧ WiO wr (w.heap.size + 1) x.t) ∧
    (∀ (i j : Nat) (x y : Nd) (b : Nat), i < j → ns'[i]? = some x → ns'[j]? = some y → x.t.has b → ¬ y.t.has b) ∧ Below w.heap.size w wr) (fun i _ => n - (intOf i).toNat)
  case atStart => exact ⟨0, [], Nat.zero_le _, rfl, rfl, rfl, by simp [ShortN], made_nodes w n, by simp, by simp, (Below.refl _ _).alloc (Nat.le_refl _) _⟩
  case round =>
    obtain ⟨k, ns', hk, rfl, hlen, hdat, hsh, hrow, hx, hdd, hbel⟩ := hrel
    have HD := Lib.hid hdat
    have HL := Lib.hid hlen
    have HS := Lib.hid hsh
    have HR := Lib.hid hrow
    have HXs := Lib.hid hx
    have HDd := Lib.hid hdd
    have HB := Lib.hid hbel
    clear hdat hlen hsh hx hdd
    by_cases hlt : k < n
    · obtain ⟨b, off, x, rfl, hb, hat, hwf, g0, g1, g2, g3, g4, g5⟩ := HX.out.at k hlt
      have HT := Lib.hid hat
      have HWf := Lib.hid hwf.1
      have g0 := (hbel.cell (p := ⟨b, off + k * 6, none⟩) (Nat.lt_of_lt_of_le hb hB)).trans g0
      have g1 := (hbel.cell (p := ⟨b, off + k * 6 + 1, none⟩) (Nat.lt_of_lt_of_le hb hB)).trans g1
      have g2 := (hbel.cell (p := ⟨b, off + k * 6 + 2, none⟩) (Nat.lt_of_lt_of_le hb hB)).trans g2
      have g3 := (hbel.cell (p := ⟨b, off + k * 6 + 3, none⟩) (Nat.lt_of_lt_of_le hb hB)).trans g3
      have g4 := (hbel.cell (p := ⟨b, off + k * 6 + 4, none⟩) (Nat.lt_of_lt_of_le hb hB)).trans g4
      have g5 := (hbel.cell (p := ⟨b, off + k * 6 + 5, none⟩) (Nat.lt_of_lt_of_le hb hB)).trans g5
      have hbs := hrow.lt
      have HC : Hid (Calls Tryz.prog 113 #[.agg #[.int .i64 x.op, .int .i64 x.t.kind, .int .i64 x.t.field, .int .i64 x.t.value, .slice x.t.LA x.t.Ln x.t.Lc, .slice x.t.PA x.t.Pn x.t.Pc]] wr fun e w' => ∃ x' : Nd, e = .returned x'.val ∧ x'.dat = x.dat ∧ x'.t.Short ∧ WiO w' wr.heap.size x'.t ∧ x'.op = x.op ∧ Below wr.heap.size wr w') :=
        Lib.hid (toNode_c wr B x (hwf.2.below (hbel.mono hB)) (Nat.le_trans hB hbel.size) (HN.out x (List.mem_of_getElem? hat)))
      clear hat hbel hwf hrow
      go_wp2_with fail
      refine HC.out.mono ?_
      rintro e w1 ⟨x', rfl, hd', hs', ho', hop', hb1⟩
      have hrow1 := World.rowIs.of_block HR.out (hb1.block _ hbs)
      have q : ∀ i, i < 6 → w1.cell? ⟨w.heap.size, k * 6 + i, none⟩ = some (zN i) := fun i hi => by
        rw [World.rowIs.cell hrow1 (by omega)]
        congr 1
        show cellG nodeCells zN ns' _ = _
        rw [cellG_none nodeCells_len zN (by rw [HL.out]; omega)]
        unfold zN
        rw [show (k * 6 + i) % 6 = i % 6 by omega]
      have q0 : w1.cell? ⟨w.heap.size, k * 6, none⟩ = some (.int .i64 0) := q 0 (by decide)
      have q1 : w1.cell? ⟨w.heap.size, k * 6 + 1, none⟩ = some (.int .i64 0) := q 1 (by decide)
      have q2 : w1.cell? ⟨w.heap.size, k * 6 + 2, none⟩ = some (.int .i64 0) := q 2 (by decide)
      have q3 : w1.cell? ⟨w.heap.size, k * 6 + 3, none⟩ = some (.int .i64 0) := q 3 (by decide)
      have q4 : w1.cell? ⟨w.heap.size, k * 6 + 4, none⟩ = some (.slice none 0 0) := q 4 (by decide)
      have q5 : w1.cell? ⟨w.heap.size, k * 6 + 5, none⟩ = some (.slice none 0 0) := q 5 (by decide)
      have p0 := World.rowIs.frozen hrow1 (k * 6)
      have p1 := World.rowIs.frozen hrow1 (k * 6 + 1)
      have p2 := World.rowIs.frozen hrow1 (k * 6 + 2)
      have p3 := World.rowIs.frozen hrow1 (k * 6 + 3)
      have p4 := World.rowIs.frozen hrow1 (k * 6 + 4)
      have p5 := World.rowIs.frozen hrow1 (k * 6 + 5)
      have HR1 := Lib.hid hrow1
      have HB1 := Lib.hid hb1
      have HO1 := Lib.hid ho'
      have HD1 := Lib.hid hd'
      have HS1 := Lib.hid hs'
      have HOp := Lib.hid hop'
      have HBs := Lib.hid hbs
      clear hrow1 hb1 ho' hd' hs' hop' q g0 g1 g2 g3 g4 g5 hbs HC
      unfold Nd.val
      go_wp2
      go_roundw
      case rel =>
        have hk2 : ∀ b, b ≠ w.heap.size → ∀ v0 v1 v2 v3 v4 v5, ((((((w1.setCell ⟨w.heap.size, k * 6, none⟩ v0).setCell ⟨w.heap.size, k * 6 + 1, none⟩ v1).setCell ⟨w.heap.size, k * 6 + 2, none⟩ v2).setCell ⟨w.heap.size, k * 6 + 3, none⟩ v3).setCell ⟨w.heap.size, k * 6 + 4, none⟩ v4).setCell ⟨w.heap.size, k * 6 + 5, none⟩ v5).heap[b]? = w1.heap[b]? := fun b hb v0 v1 v2 v3 v4 v5 => by
          repeat rw [heap_setCell_other _ _ _ _ (by simp; omega)]
        refine ⟨k + 1, ns' ++ [x'], by omega, by go_num, by rw [List.length_append, HL.out]; rfl, ?_, ?_, ?_, ?_, ?_, ?_⟩
        · rw [ptake_at HT.out, List.map_append, List.map_append, HD.out, List.map_singleton, List.map_singleton, HD1.out]
        · intro y hy
          rcases List.mem_append.1 hy with h | h
          · exact HS.out y h
          · rw [List.mem_singleton.1 h]; exact HS1.out
        · exact (World.rowIs.set (World.rowIs.set (World.rowIs.set (World.rowIs.set (World.rowIs.set (World.rowIs.set HR1.out (k * 6) _) (k * 6 + 1) _) (k * 6 + 2) _) (k * 6 + 3) _) (k * 6 + 4) _) (k * 6 + 5) _).congr (fun j _ => nodeCell_snoc HL.out x' j)
        · intro i y hy
          rcases get_snoc HL.out hy with ⟨_, h⟩ | ⟨_, rfl⟩
          · obtain ⟨e1, e2⟩ := HXs.out i y h
            refine ⟨e1, WiO.blocks (e2.below HB1.out) fun b hb => hk2 b ?_ _ _ _ _ _ _⟩
            have := (e2.has_in hb).1
            omega
          · refine ⟨by rw [HOp.out]; exact HWf.out, (WiO.blocks HO1.out fun b hb => hk2 b ?_ _ _ _ _ _ _).low (by have := HBs.out; omega)⟩
            have := (HO1.out.has_in hb).1
            have := HBs.out
            omega
        · intro i j y z b hij hy hz hb
          rcases get_snoc HL.out hz with ⟨hj, h⟩ | ⟨_, rfl⟩
          · rcases get_snoc HL.out hy with ⟨_, h'⟩ | ⟨e, _⟩
            · exact HDd.out i j y z b hij h' h hb
            · omega
          · rcases get_snoc HL.out hy with ⟨_, h'⟩ | ⟨e, _⟩
            · intro hb'
              have g1 := ((HXs.out i y h').2.has_in hb).2
              have g2 := (HO1.out.has_in hb').1
              omega
            · omega
        · exact ((((((below_on HB.out HB1.out).setCell (Nat.le_refl _) _).setCell (Nat.le_refl _) _).setCell (Nat.le_refl _) _).setCell (Nat.le_refl _) _).setCell (Nat.le_refl _) _).setCell (Nat.le_refl _) _
      case measure => simp [intOf]; omega
    · obtain rfl : k = n := by omega
      clear hbel hrow
      go_wp2
      go_ret
      refine ⟨ns', rfl, ?_, HS.out, OwnN.of_row (Nat.le_refl _) HL.out hn HR.out HXs.out HDd.out, HB.out⟩
      rw [HD.out, ptake_all HX.out.len]

theorem nd_dat {x y : Nd} : x.dat = y.dat ↔ x.op = y.op ∧ x.t.dat = y.t.dat := by unfold Nd.dat; rw [ND.mk.injEq]
set_option maxRecDepth 20000 in
theorem eqNode_c (w : World) (B : Nat) (x y : Nd) (h1 : WiIn w B x.t) (h2 : WiIn w B y.t) (hB : B ≤ w.heap.size) (hn : x.t.Short) (b : Bool) (hb : b = true ↔ x.dat = y.dat) :
    Calls Tryz.prog 114 #[x.val, y.val] w fun e w' => e = .returned (.bool b) ∧ Below w.heap.size w w' := by
  obtain ⟨op, t⟩ := x
  obtain ⟨op', t'⟩ := y
  rw [nd_dat] at hb
  have HB := Lib.hid hb
  have HB2 : Hid (∀ o1 o2 : Obj, Below B w ((w.alloc o1).alloc o2)) := Lib.hid fun o1 o2 => ((Below.refl B w).alloc hB _).alloc (by simp; omega) _
  have HW2 : Hid (∀ o1 o2 : Obj, Below w.heap.size w ((w.alloc o1).alloc o2)) := Lib.hid fun o1 o2 => ((Below.refl _ w).alloc (Nat.le_refl _) _).alloc (by simp) _
  obtain ⟨q, hq⟩ := bool_of (t.dat = t'.dat)
  have HQ := Lib.hid hq
  have HS : Hid (∀ w1, Below B w w1 → Calls Tryz.prog 143 #[t.val, t'.val] w1 fun e w' => e = .returned (.bool q) ∧ Below w1.heap.size w1 w') := Lib.hid fun w1 hb => eqWish_c w1 B t t' (h1.below hb) (h2.below hb) (Nat.le_trans hB hb.size) hn q hq
  have hval : (Nd.mk op t).val = .agg #[.int .i64 op, .int .i64 t.kind, .int .i64 t.field, .int .i64 t.value, .slice t.LA t.Ln t.Lc, .slice t.PA t.Pn t.Pc] := rfl
  have hval' : (Nd.mk op' t').val = .agg #[.int .i64 op', .int .i64 t'.kind, .int .i64 t'.field, .int .i64 t'.value, .slice t'.LA t'.Ln t'.Lc, .slice t'.PA t'.Pn t'.Pc] := rfl
  have hvw : t.val = .agg #[.int .i64 t.kind, .int .i64 t.field, .int .i64 t.value, .slice t.LA t.Ln t.Lc, .slice t.PA t.Pn t.Pc] := rfl
  have hvw' : t'.val = .agg #[.int .i64 t'.kind, .int .i64 t'.field, .int .i64 t'.value, .slice t'.LA t'.Ln t'.Lc, .slice t'.PA t'.Pn t'.Pc] := rfl
  rw [hval, hval']
  rw [hvw, hvw'] at HS
  clear hval hval' hvw hvw' hb hq h1 h2
  by_cases e1 : op = op'
  · subst e1
    go_enter Tryz.func114, Tryz.ntmps114
    go_wp2_with fail
    refine (HS.out _ (HB2.out _ _)).mono ?_
    rintro e w1 ⟨rfl, hb1⟩
    have HBB := Lib.hid (below_on (HW2.out _ _) hb1)
    clear hb1
    cases q
    · obtain rfl : b = false := by
        cases b
        · rfl
        · exact absurd (HQ.out.2 (HB.out.1 rfl).2) (by simp)
      go_wp2
      go_ret
      exact ⟨rfl, HBB.out⟩
    · obtain rfl : b = true := HB.out.2 ⟨by first | rfl | trivial, HQ.out.1 (by first | rfl | trivial)⟩
      go_wp2
      go_ret
      exact ⟨rfl, HBB.out⟩
  · obtain rfl : b = false := by
      cases b
      · rfl
      · exact absurd (HB.out.1 rfl).1 e1
    have hne : (op != op') = true := by simpa using e1
    clear e1
    go_enter Tryz.func114, Tryz.ntmps114
    go_wp2
    go_ret
    exact ⟨rfl, HW2.out _ _⟩
theorem ne_nd {l l' : List Nd} {k : Nat} {t t' : Nd} (h1 : l[k]? = some t) (h2 : l'[k]? = some t') (h : t.dat ≠ t'.dat) : l.map Nd.dat ≠ l'.map Nd.dat := fun e => h (by
  have := congrArg (·[k]?) e
  simpa [h1, h2] using this)
set_option maxRecDepth 20000 in
theorem eqNodes_c (w : World) (B : Nat) (A A' : Option Addr) (n n' c c' : Nat) (xs ys : List Nd) (h1 : Nodes w B A n xs) (h2 : Nodes w B A' n' ys) (hB : B ≤ w.heap.size) (hn : n ≤ 1048576) (hN : ShortN xs) (b : Bool) (hb : b = true ↔ xs.map Nd.dat = ys.map Nd.dat) :
    Calls Tryz.prog 78 #[.slice A n c, .slice A' n' c'] w fun e w' => e = .returned (.bool b) ∧ Below w.heap.size w w' := by
  have HX := Lib.hid h1
  have HY := Lib.hid h2
  have HN := Lib.hid hN
  by_cases hl : n = n'
  · subst hl
    have HBo := Lib.hid hb
    clear h1 h2 hN hb
    go_enter Tryz.func78, Tryz.ntmps78
    go_wp2
    go_loopw [5] (fun i wr => ∃ k : Nat, k ≤ n ∧ i = .int .i64 k ∧ (xs.take k).map Nd.dat = (ys.take k).map Nd.dat ∧ Below w.heap.size w wr) (fun i _ => n - (intOf i).toNat)
    case atStart => exact ⟨0, Nat.zero_le _, rfl, rfl, Below.refl _ _⟩
    case round =>
      obtain ⟨k, hk, rfl, htake, hbel⟩ := hrel
      have HT := Lib.hid htake
      have HB := Lib.hid hbel
      clear htake
      by_cases hlt : k < n
      · obtain ⟨b1, off1, x, rfl, hb1, hat1, hw1, e0, e1, e2, e3, e4, e5⟩ := HX.out.at k hlt
        obtain ⟨b2, off2, y, rfl, hb2, hat2, hw2, f0, f1, f2, f3, f4, f5⟩ := HY.out.at k hlt
        have tr : ∀ {bb oo : Nat} {v : Value}, bb < B → w.cell? ⟨bb, oo, none⟩ = some v → wr.cell? ⟨bb, oo, none⟩ = some v := fun {bb oo v} hb h => (hbel.cell (p := ⟨bb, oo, none⟩) (Nat.lt_of_lt_of_le hb hB)).trans h
        have e0 := tr hb1 e0
        have e1 := tr hb1 e1
        have e2 := tr hb1 e2
        have e3 := tr hb1 e3
        have e4 := tr hb1 e4
        have e5 := tr hb1 e5
        have f0 := tr hb2 f0
        have f1 := tr hb2 f1
        have f2 := tr hb2 f2
        have f3 := tr hb2 f3
        have f4 := tr hb2 f4
        have f5 := tr hb2 f5
        have HA1 := Lib.hid hat1
        have HA2 := Lib.hid hat2
        have hsz := Lib.hid hbel.size
        have hlt' : (k : Int) < (n : Int) := by omega
        obtain ⟨q, hq⟩ : ∃ q : Bool, q = true ↔ x.dat = y.dat := bool_of _
        have HQ := Lib.hid hq
        have HC : Hid (∀ w1, Below B w w1 → Calls Tryz.prog 114 #[.agg #[.int .i64 x.op, .int .i64 x.t.kind, .int .i64 x.t.field, .int .i64 x.t.value, .slice x.t.LA x.t.Ln x.t.Lc, .slice x.t.PA x.t.Pn x.t.Pc], .agg #[.int .i64 y.op, .int .i64 y.t.kind, .int .i64 y.t.field, .int .i64 y.t.value, .slice y.t.LA y.t.Ln y.t.Lc, .slice y.t.PA y.t.Pn y.t.Pc]] w1 fun e w' => e = .returned (.bool q) ∧ Below w1.heap.size w1 w') :=
          Lib.hid fun w1 hb => eqNode_c w1 B x y (hw1.2.below hb) (hw2.2.below hb) (Nat.le_trans hB hb.size) (HN.out x (List.mem_of_getElem? hat1)) q hq
        clear hat1 hat2 hbel hq hw1 hw2 tr
        have HB' : Hid (Below w.heap.size w wr.drew) := Lib.hid HB.out.drew
        have hsz' : Hid (w.heap.size ≤ wr.drew.heap.size) := hsz
        clear HB hsz
        go_wp2
        go_still_tail 8, (by kernel_rfl)
        change wpList _ _ _ _ _ wr.drew
        generalize wr.drew = w2 at *
        clear e0 e1 e2 e3 e4 e5 f0 f1 f2 f3 f4 f5
        go_wp2_with fail
        refine (HC.out w2 (HB'.out.mono hB)).mono ?_
        rintro e w3 ⟨rfl, hb3⟩
        have HB3 := Lib.hid (below_on HB'.out hb3)
        clear hb3 HC
        cases q
        · have HF := Lib.hid (ne_nd HA1.out HA2.out (fun e => by have := HQ.out.2 e; cases this))
          obtain rfl : b = false := by
            cases b
            · rfl
            · exact absurd (HBo.out.1 rfl) HF.out
          go_wp2
          go_ret
          exact ⟨rfl, HB3.out⟩
        · have HD := Lib.hid (HQ.out.1 (by first | rfl | trivial))
          go_wp2
          go_roundw
          case rel => exact ⟨k + 1, by omega, by go_num, by rw [ptake_at HA1.out, ptake_at HA2.out, List.map_append, List.map_append, HT.out, List.map_singleton, List.map_singleton, HD.out], HB3.out⟩
          case measure => simp [intOf]; omega
      · obtain rfl : k = n := by omega
        obtain rfl : b = true := HBo.out.2 (by have := HT.out; rwa [ptake_all HX.out.len, ptake_all HY.out.len] at this)
        clear hbel
        go_wp2
        go_ret
        exact ⟨rfl, HB.out⟩
  · obtain rfl : b = false := by
      cases b
      · rfl
      · exact absurd (hb.1 rfl) (ne_len (by rw [h1.len, h2.len]; exact hl))
    clear h1 h2 hb
    go_enter Tryz.func78, Tryz.ntmps78
    go_wp2
    go_ret
    exact ⟨rfl, Below.refl _ _⟩
end Go.Proofs.YtceiocdemhkcdaaGreat.num
