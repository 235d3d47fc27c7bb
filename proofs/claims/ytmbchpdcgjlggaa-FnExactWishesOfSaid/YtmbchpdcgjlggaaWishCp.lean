/-
  The model's copy of a wish: contract.
-/
import Derived.Test.YtmbchpdcgjlggaaSpread
import Derived.Test.YtmbchpdcgjlggaaWishOwn
namespace Go.Proofs.Ytmbchpdcgjlggaa.num
set_option maxRecDepth 20000
open Go.RowKit
set_option linter.unusedVariables false
set_option linter.unusedSimpArgs false

theorem ownP_shapeW {w : World} {B : Nat} {v : Value} {l : List (Int × Int)} (h : OwnP w B v l) : ∃ A n c, v = .slice A n c := by
  rcases h.2 with ⟨rfl, _⟩ | ⟨g, cap, cur, rfl, _⟩
  · exact ⟨_, _, _, rfl⟩
  · exact ⟨_, _, _, rfl⟩
/-- What the copy hands back. -/
theorem wishcp_end {w wb : World} {t : Wi} {LA' PA' : Option Addr} {Ln' Lc' Pn' Pc' : Nat} {u0 u1 u2 u3 u4 : Value} (hwf : ((Lit.int .i64 t.kind).wf = true ∧ (Lit.int .i64 t.field).wf = true ∧ (Lit.int .i64 t.value).wf = true) ∧ t.ls.length ≤ 1048576 ∧ t.ps.length ≤ 1048576)
    (hl : OwnI wb (w.heap.size + 2) (.slice LA' Ln' Lc') t.ls) (hp : OwnP wb (w.heap.size + 2) (.slice PA' Pn' Pc') t.ps) (ha : ∀ b, (Value.slice LA' Ln' Lc').ownBlock = some b → (Value.slice PA' Pn' Pc').ownBlock ≠ some b) (hb : Below w.heap.size w wb) :
    ∃ t' : Wi, Ending.returned (.agg #[.int .i64 t.kind, .int .i64 t.field, .int .i64 t.value, .slice LA' Ln' Lc', .slice PA' Pn' Pc']) = .returned t'.val ∧ t'.dat = t.dat ∧ t'.Short ∧ WiO (((((wb.setCell ⟨w.heap.size + 1, 0, none⟩ u0).setCell ⟨w.heap.size + 1, 1, none⟩ u1).setCell ⟨w.heap.size + 1, 2, none⟩ u2).setCell ⟨w.heap.size + 1, 3, none⟩ u3).setCell ⟨w.heap.size + 1, 4, none⟩ u4) w.heap.size t' ∧
      Below w.heap.size w (((((wb.setCell ⟨w.heap.size + 1, 0, none⟩ u0).setCell ⟨w.heap.size + 1, 1, none⟩ u1).setCell ⟨w.heap.size + 1, 2, none⟩ u2).setCell ⟨w.heap.size + 1, 3, none⟩ u3).setCell ⟨w.heap.size + 1, 4, none⟩ u4) := by
  have hk : ∀ b, w.heap.size + 2 ≤ b → (((((wb.setCell ⟨w.heap.size + 1, 0, none⟩ u0).setCell ⟨w.heap.size + 1, 1, none⟩ u1).setCell ⟨w.heap.size + 1, 2, none⟩ u2).setCell ⟨w.heap.size + 1, 3, none⟩ u3).setCell ⟨w.heap.size + 1, 4, none⟩ u4).heap[b]? = wb.heap[b]? := fun b h => by
    repeat rw [heap_setCell_other _ _ _ _ (by simp; omega)]
  have hn : Ln' = t.ls.length ∧ Pn' = t.ps.length := by
    constructor
    · rcases hl.2 with ⟨e, h⟩ | ⟨g, cap, cur, e, _⟩ <;> (injection e with e1 e2 e3 <;> omega)
    · rcases hp.2 with ⟨e, h⟩ | ⟨g, cap, cur, e, _⟩ <;> (injection e with e1 e2 e3 <;> omega)
  refine ⟨⟨t.kind, t.field, t.value, LA', Ln', Lc', t.ls, PA', Pn', Pc', t.ps⟩, rfl, rfl, ⟨by show Ln' ≤ _; rw [hn.1]; exact hwf.2.1, by show Pn' ≤ _; rw [hn.2]; exact hwf.2.2⟩, ⟨hwf.1.1, hwf.1.2.1, hwf.1.2.2, ?_, ?_, ha⟩, ?_⟩
  · exact ownI_lowE (ownI_blocks hl fun b h => hk b (ownI_lows hl b h)) (by omega)
  · exact ownP_lowE (hp.blocks fun b h => hk b (hp.lows b h)) (by omega)
  · exact ((((hb.setCell (by show _ ≤ w.heap.size + 1; omega) _).setCell (by show _ ≤ w.heap.size + 1; omega) _).setCell (by show _ ≤ w.heap.size + 1; omega) _).setCell (by show _ ≤ w.heap.size + 1; omega) _).setCell (by show _ ≤ w.heap.size + 1; omega) _

set_option maxRecDepth 20000 in
set_option maxHeartbeats 3200000 in
theorem sWish_c (w : World) (B : Nat) (t : Wi) (hi : WiIn w B t) (hB : B ≤ w.heap.size) (hn : t.Short) :
    Calls Try.prog 81 #[t.val] w fun e w' => ∃ t' : Wi, e = .returned t'.val ∧ t'.dat = t.dat ∧ t'.Short ∧ WiO w' w.heap.size t' ∧ Below w.heap.size w w' := by
  have hval : t.val = .agg #[.int .i64 t.kind, .int .i64 t.field, .int .i64 t.value, .slice t.LA t.Ln t.Lc, .slice t.PA t.Pn t.Pc] := rfl
  rw [hval]
  have HB0 : Hid (Below w.heap.size w ((w.alloc (.cells #[.int .i64 t.kind, .int .i64 t.field, .int .i64 t.value, .slice t.LA t.Ln t.Lc, .slice t.PA t.Pn t.Pc] 30)).alloc (.cells #[.int .i64 0, .int .i64 0, .int .i64 0, .slice none 0 0, .slice none 0 0] 30))) := Lib.hid (((Below.refl _ w).alloc (Nat.le_refl _) _).alloc (by simp) _)
  have HI : Hid (∀ W, Below (w.heap.size + 2) ((w.alloc (.cells #[.int .i64 t.kind, .int .i64 t.field, .int .i64 t.value, .slice t.LA t.Ln t.Lc, .slice t.PA t.Pn t.Pc] 30)).alloc (.cells #[.int .i64 0, .int .i64 0, .int .i64 0, .slice none 0 0, .slice none 0 0] 30)) W → Ints W B t.LA t.Ln t.ls) := Lib.hid fun W h => hi.l.below ((HB0.out.mono hB).trans (h.mono (by omega)))
  have HP : Hid (∀ W, Below (w.heap.size + 2) ((w.alloc (.cells #[.int .i64 t.kind, .int .i64 t.field, .int .i64 t.value, .slice t.LA t.Ln t.Lc, .slice t.PA t.Pn t.Pc] 30)).alloc (.cells #[.int .i64 0, .int .i64 0, .int .i64 0, .slice none 0 0, .slice none 0 0] 30)) W → Pairs W B t.PA t.Pn t.ps) := Lib.hid fun W h => hi.p.below ((HB0.out.mono hB).trans (h.mono (by omega)))
  have HWf : Hid (((Lit.int .i64 t.kind).wf = true ∧ (Lit.int .i64 t.field).wf = true ∧ (Lit.int .i64 t.value).wf = true) ∧ t.ls.length ≤ 1048576 ∧ t.ps.length ≤ 1048576) := Lib.hid ⟨⟨hi.k, hi.f, hi.v⟩, by rw [hi.l.1]; exact hn.1, by rw [hi.p.1]; exact hn.2⟩
  have hcapI : t.Ln * 8 ≤ 140737488355328 := by have := hn.1; omega
  have hcapP : t.Pn * 16 ≤ 140737488355328 := by have := hn.2; omega
  have HZr : Hid (((w.alloc (.cells #[.int .i64 t.kind, .int .i64 t.field, .int .i64 t.value, .slice t.LA t.Ln t.Lc, .slice t.PA t.Pn t.Pc] 30)).alloc (.cells #[.int .i64 0, .int .i64 0, .int .i64 0, .slice none 0 0, .slice none 0 0] 30)).heap[w.heap.size + 1]? = some (.cells #[.int .i64 0, .int .i64 0, .int .i64 0, .slice none 0 0, .slice none 0 0] 30 (0, 0))) := Lib.hid (heap_alloc2_new w _ _)
  have hbx := (Box5.new w t 30).alloc (.cells #[.int .i64 0, .int .i64 0, .int .i64 0, .slice none 0 0, .slice none 0 0] 30)
  obtain ⟨-, x_0, x_1, x_2, x_3, x_4⟩ := hbx
  clear hval hi hn
  have X0 := Lib.hid x_0
  have X1 := Lib.hid x_1
  have X2 := Lib.hid x_2
  have X3 := Lib.hid x_3
  have X4 := Lib.hid x_4
  have hs0 : w.heap.size + 2 ≤ ((w.alloc (.cells #[.int .i64 t.kind, .int .i64 t.field, .int .i64 t.value, .slice t.LA t.Ln t.Lc, .slice t.PA t.Pn t.Pc] 30)).alloc (.cells #[.int .i64 0, .int .i64 0, .int .i64 0, .slice none 0 0, .slice none 0 0] 30)).drew.heap.size := by show _ ≤ ((w.alloc (.cells #[.int .i64 t.kind, .int .i64 t.field, .int .i64 t.value, .slice t.LA t.Ln t.Lc, .slice t.PA t.Pn t.Pc] 30)).alloc (.cells #[.int .i64 0, .int .i64 0, .int .i64 0, .slice none 0 0, .slice none 0 0] 30)).heap.size; simp
  have HK0 : Below (w.heap.size + 2) ((w.alloc (.cells #[.int .i64 t.kind, .int .i64 t.field, .int .i64 t.value, .slice t.LA t.Ln t.Lc, .slice t.PA t.Pn t.Pc] 30)).alloc (.cells #[.int .i64 0, .int .i64 0, .int .i64 0, .slice none 0 0, .slice none 0 0] 30)) ((w.alloc (.cells #[.int .i64 t.kind, .int .i64 t.field, .int .i64 t.value, .slice t.LA t.Ln t.Lc, .slice t.PA t.Pn t.Pc] 30)).alloc (.cells #[.int .i64 0, .int .i64 0, .int .i64 0, .slice none 0 0, .slice none 0 0] 30)).drew := (Below.refl _ _).drew
  go_enter Try.func81, Try.ntmps81
  go_wp2
  have hS0 : (fun w' => w'.cell? ⟨w.heap.size, 0, none⟩ = some (.int .i64 t.kind) ∧ w'.cell? ⟨w.heap.size, 1, none⟩ = some (.int .i64 t.field) ∧ w'.cell? ⟨w.heap.size, 2, none⟩ = some (.int .i64 t.value) ∧ w'.cell? ⟨w.heap.size, 3, none⟩ = some (.slice t.LA t.Ln t.Lc) ∧ w'.cell? ⟨w.heap.size, 4, none⟩ = some (.slice t.PA t.Pn t.Pc)) ((w.alloc (.cells #[.int .i64 t.kind, .int .i64 t.field, .int .i64 t.value, .slice t.LA t.Ln t.Lc, .slice t.PA t.Pn t.Pc] 30)).alloc (.cells #[.int .i64 0, .int .i64 0, .int .i64 0, .slice none 0 0, .slice none 0 0] 30)).drew := ⟨x_0, x_1, x_2, x_3, x_4⟩
  clear x_0 x_1 x_2 x_3 x_4
  generalize ((w.alloc (.cells #[.int .i64 t.kind, .int .i64 t.field, .int .i64 t.value, .slice t.LA t.Ln t.Lc, .slice t.PA t.Pn t.Pc] 30)).alloc (.cells #[.int .i64 0, .int .i64 0, .int .i64 0, .slice none 0 0, .slice none 0 0] 30)) = w00 at *
  refine wp_region_held (S := fun w' => w'.cell? ⟨w.heap.size, 0, none⟩ = some (.int .i64 t.kind) ∧ w'.cell? ⟨w.heap.size, 1, none⟩ = some (.int .i64 t.field) ∧ w'.cell? ⟨w.heap.size, 2, none⟩ = some (.int .i64 t.value) ∧ w'.cell? ⟨w.heap.size, 3, none⟩ = some (.slice t.LA t.Ln t.Lc) ∧ w'.cell? ⟨w.heap.size, 4, none⟩ = some (.slice t.PA t.Pn t.Pc)) (by kernel_rfl) ?_
  change wpAnyH _ _ _ _ _ _ _ _ (World.drew _)
  generalize w00.drew = w0 at *
  refine takeY 3 (i := 0) (v := ?vt1) rfl rfl (by kernel_rfl) (by kernel_rfl) (by kernel_rfl) (fun _ _ _ h => h) (by kernel_rfl) ?yt1 hS0 ?_
  case yt1 =>
    intro w' hw'; (try dsimp only at hw'); obtain ⟨e0, e1, e2, e3, e4⟩ := hw'; go_simp; try with_reducible rfl
  simp only [Act.put, List.setIfInBounds_toArray, List.set_cons_zero, List.set_cons_succ]
  refine takeY 4 (i := 1) (v := ?vt2) rfl rfl (by kernel_rfl) (by kernel_rfl) (by kernel_rfl) (fun _ _ _ h => h) (by kernel_rfl) ?yt2 hS0 ?_
  case yt2 =>
    intro w' hw'; (try dsimp only at hw'); obtain ⟨e0, e1, e2, e3, e4⟩ := hw'; go_simp; try with_reducible rfl
  simp only [Act.put, List.setIfInBounds_toArray, List.set_cons_zero, List.set_cons_succ]
  refine takeY 5 (i := 2) (v := ?vt3) rfl rfl (by kernel_rfl) (by kernel_rfl) (by kernel_rfl) (fun _ _ _ h => h) (by kernel_rfl) ?yt3 hS0 ?_
  case yt3 =>
    intro w' hw'; (try dsimp only at hw'); obtain ⟨e0, e1, e2, e3, e4⟩ := hw'; go_simp; try with_reducible rfl
  simp only [Act.put, List.setIfInBounds_toArray, List.set_cons_zero, List.set_cons_succ]
  refine takeY 6 (i := 3) (v := ?vt4) rfl rfl (by kernel_rfl) (by kernel_rfl) (by kernel_rfl) (fun _ _ _ h => h) (by kernel_rfl) ?yt4 hS0 ?_
  case yt4 =>
    intro w' hw'; (try dsimp only at hw'); obtain ⟨e0, e1, e2, e3, e4⟩ := hw'; go_simp; try with_reducible rfl
  simp only [Act.put, List.setIfInBounds_toArray, List.set_cons_zero, List.set_cons_succ]
  refine takeY 7 (i := 4) (v := ?vt5) rfl rfl (by kernel_rfl) (by kernel_rfl) (by kernel_rfl) (fun _ _ _ h => h) (by kernel_rfl) ?yt5 hS0 ?_
  case yt5 =>
    intro w' hw'; (try dsimp only at hw'); obtain ⟨e0, e1, e2, e3, e4⟩ := hw'; go_simp; try with_reducible rfl
  simp only [Act.put, List.setIfInBounds_toArray, List.set_cons_zero, List.set_cons_succ]
  refine takeY 8 (i := 5) (v := ?vt6) rfl rfl (by kernel_rfl) (by kernel_rfl) (by kernel_rfl) (fun _ _ _ h => h) (by kernel_rfl) ?yt6 hS0 ?_
  case yt6 =>
    intro w' hw'; (try dsimp only at hw'); obtain ⟨e0, e1, e2, e3, e4⟩ := hw'; go_simp; try with_reducible rfl
  simp only [Act.put, List.setIfInBounds_toArray, List.set_cons_zero, List.set_cons_succ]
  refine takeY 10 (i := 7) (v := ?vt7) rfl rfl (by kernel_rfl) (by kernel_rfl) (by kernel_rfl) (fun _ _ _ h => h) (by kernel_rfl) ?yt7 hS0 ?_
  case yt7 =>
    intro w' hw'; (try dsimp only at hw'); obtain ⟨e0, e1, e2, e3, e4⟩ := hw'; go_simp; try with_reducible rfl
  simp only [Act.put, List.setIfInBounds_toArray, List.set_cons_zero, List.set_cons_succ]
  refine takeY 11 (i := 8) (v := ?vt8) rfl rfl (by kernel_rfl) (by kernel_rfl) (by kernel_rfl) (fun _ _ _ h => h) (by kernel_rfl) ?yt8 hS0 ?_
  case yt8 =>
    intro w' hw'; (try dsimp only at hw'); obtain ⟨e0, e1, e2, e3, e4⟩ := hw'; go_simp; try with_reducible rfl
  simp only [Act.put, List.setIfInBounds_toArray, List.set_cons_zero, List.set_cons_succ]
  refine takeY 14 (i := 11) (v := ?vt9) rfl rfl (by kernel_rfl) (by kernel_rfl) (by kernel_rfl) (fun _ _ _ h => h) (by kernel_rfl) ?yt9 hS0 ?_
  case yt9 =>
    intro w' hw'; (try dsimp only at hw'); obtain ⟨e0, e1, e2, e3, e4⟩ := hw'; go_simp; try with_reducible rfl
  simp only [Act.put, List.setIfInBounds_toArray, List.set_cons_zero, List.set_cons_succ]
  refine takeY 15 (i := 12) (v := ?vt10) rfl rfl (by kernel_rfl) (by kernel_rfl) (by kernel_rfl) (fun _ _ _ h => h) (by kernel_rfl) ?yt10 hS0 ?_
  case yt10 =>
    intro w' hw'; (try dsimp only at hw'); obtain ⟨e0, e1, e2, e3, e4⟩ := hw'; go_simp; try with_reducible rfl
  simp only [Act.put, List.setIfInBounds_toArray, List.set_cons_zero, List.set_cons_succ]
  refine wpAnyH_ready (rs := [6, 10]) (by kernel_rfl) (by simp) ?_
  refine AllReadyH.cons rfl (fun K hK => ?_) (AllReadyH.cons rfl (fun K hK => ?_) AllReadyH.nil)
  · go_simp
    have o1 := OwnI.empty w0 (w.heap.size + 2) hs0
    try simp only [World.size_alloc] at o1
    have k1 := HK0.alloc hs0 (.cells #[] 3)
    have hs1 : w.heap.size + 2 ≤ (w0.alloc (.cells #[] 3)).heap.size := Nat.le_trans hs0 (by simp)
    refine hK.out _ _ ⟨(k1.cell (p := ⟨w.heap.size, 0, none⟩) (by simp)).trans X0.out, (k1.cell (p := ⟨w.heap.size, 1, none⟩) (by simp)).trans X1.out, (k1.cell (p := ⟨w.heap.size, 2, none⟩) (by simp)).trans X2.out, (k1.cell (p := ⟨w.heap.size, 3, none⟩) (by simp)).trans X3.out, (k1.cell (p := ⟨w.heap.size, 4, none⟩) (by simp)).trans X4.out⟩ (fun hS1 => ?_)
    clear hK K
    try simp only [Act.put, List.setIfInBounds_toArray, List.set_cons_zero, List.set_cons_succ]
    refine wpAnyH_ready (rs := [9, 10]) (by kernel_rfl) (by simp) ?_
    refine AllReadyH.cons rfl (fun K hK => ?_) (AllReadyH.cons rfl (fun K hK => ?_) AllReadyH.nil)
    · obtain ⟨v9, wa, hr9, ho9, hg9, ha9⟩ := run_spreadI (ty := 22) (c := t.Lc) o1 (HI.out _ k1) (by simpa using hcapI) hs1
      refine step_run _ (by rfl) (.tmp 9) (.tmp 11) 22 (by rfl) _ _ (by rfl) (by rfl) hr9 ?_
      have ka := k1.grown hg9 hs1 (fun k hk => ownI_lows o1 k hk)
      have hsa : w.heap.size + 2 ≤ wa.heap.size := Nat.le_trans hs1 hg9.size
      rw [List.nil_append] at ho9
      refine hK.out _ _ ⟨(ka.cell (p := ⟨w.heap.size, 0, none⟩) (by simp)).trans X0.out, (ka.cell (p := ⟨w.heap.size, 1, none⟩) (by simp)).trans X1.out, (ka.cell (p := ⟨w.heap.size, 2, none⟩) (by simp)).trans X2.out, (ka.cell (p := ⟨w.heap.size, 3, none⟩) (by simp)).trans X3.out, (ka.cell (p := ⟨w.heap.size, 4, none⟩) (by simp)).trans X4.out⟩ (fun hS2 => ?_)
      clear hK K
      try simp only [Act.put, List.setIfInBounds_toArray, List.set_cons_zero, List.set_cons_succ]
      refine wpAnyH_ready (rs := [10]) (by kernel_rfl) (by simp) ?_
      refine AllReadyH.cons rfl (fun K hK => ?_) AllReadyH.nil
      have ho9o := ho9
      go_simp
      have o2 := OwnP.empty wa (w.heap.size + 2) hsa
      try simp only [World.size_alloc] at o2
      have k3 := ka.alloc hsa (.cells #[] 121)
      have hs3 : w.heap.size + 2 ≤ (wa.alloc (.cells #[] 121)).heap.size := Nat.le_trans hsa (by simp)
      have ho9 := ownI_below ho9 ((Below.refl _ _).alloc (Nat.le_refl _) (.cells #[] 121))
      refine hK.out _ _ ⟨(k3.cell (p := ⟨w.heap.size, 0, none⟩) (by simp)).trans X0.out, (k3.cell (p := ⟨w.heap.size, 1, none⟩) (by simp)).trans X1.out, (k3.cell (p := ⟨w.heap.size, 2, none⟩) (by simp)).trans X2.out, (k3.cell (p := ⟨w.heap.size, 3, none⟩) (by simp)).trans X3.out, (k3.cell (p := ⟨w.heap.size, 4, none⟩) (by simp)).trans X4.out⟩ (fun hS3 => ?_)
      clear hK K
      try simp only [Act.put, List.setIfInBounds_toArray, List.set_cons_zero, List.set_cons_succ]
      refine wpAnyH_ready (rs := [13]) (by kernel_rfl) (by simp) ?_
      refine AllReadyH.cons rfl (fun K hK => ?_) AllReadyH.nil
      obtain ⟨vp, wb, hrp, hop, hgp, hap⟩ := run_spreadP (ty := 28) (c := t.Pc) o2 (HP.out _ k3) (by simpa using hcapP) hs3
      refine step_run _ (by rfl) (.tmp 13) (.tmp 15) 28 (by rfl) _ _ (by rfl) (by rfl) hrp ?_
      have kb := k3.grown hgp hs3 (fun k hk => o2.lows k hk)
      have hsb : w.heap.size + 2 ≤ wb.heap.size := Nat.le_trans hs3 hgp.size
      rw [List.nil_append] at hop
      have ho9b : OwnI wb (w.heap.size + 2) v9 t.ls := ownI_blocks ho9 fun k hk => hgp.block k (ownI_tops ho9 k hk) (fun e => by have h1 := ownI_tops ho9o k hk; cases e; exact absurd h1 (Nat.lt_irrefl _))
      have hapart : ∀ b, v9.ownBlock = some b → vp.ownBlock ≠ some b := fun b h1 h2 => by
        have h3 := ownI_tops ho9o b h1
        rcases hap with q | q
        · rw [q] at h2; cases h2; exact absurd h3 (Nat.lt_irrefl _)
        · rw [q] at h2; have := Option.some.inj h2; simp at this; omega
      refine hK.out _ _ ⟨(kb.cell (p := ⟨w.heap.size, 0, none⟩) (by simp)).trans X0.out, (kb.cell (p := ⟨w.heap.size, 1, none⟩) (by simp)).trans X1.out, (kb.cell (p := ⟨w.heap.size, 2, none⟩) (by simp)).trans X2.out, (kb.cell (p := ⟨w.heap.size, 3, none⟩) (by simp)).trans X3.out, (kb.cell (p := ⟨w.heap.size, 4, none⟩) (by simp)).trans X4.out⟩ (fun hS5 => ?_)
      clear hK K
      try simp only [Act.put, List.setIfInBounds_toArray, List.set_cons_zero, List.set_cons_succ]
      obtain ⟨LA', Ln', Lc', rfl, -⟩ := ho9b.ints
      obtain ⟨PA', Pn', Pc', rfl⟩ := ownP_shapeW hop
      refine takeY 17 (i := 14) (v := ?vt11) rfl rfl (by kernel_rfl) (by kernel_rfl) (by kernel_rfl) (fun _ _ _ h => h) (by kernel_rfl) ?yt11 hS5 ?_
      case yt11 =>
        intro w' hw'; (try dsimp only at hw'); obtain ⟨e0, e1, e2, e3, e4⟩ := hw'; go_simp; try with_reducible rfl
      simp only [Act.put, List.setIfInBounds_toArray, List.set_cons_zero, List.set_cons_succ]
      have hrow : wb.heap[w.heap.size + 1]? = some (.cells #[.int .i64 0, .int .i64 0, .int .i64 0, .slice none 0 0, .slice none 0 0] 30 (0, 0)) := (kb.block _ (by omega)).trans HZr.out
      have z0 : wb.cell? ⟨w.heap.size + 1, 0, none⟩ = some (.int .i64 0) := cell_of_row wb _ 0 _ _ (0, 0) hrow
      have z1 : wb.cell? ⟨w.heap.size + 1, 1, none⟩ = some (.int .i64 0) := cell_of_row wb _ 1 _ _ (0, 0) hrow
      have z2 : wb.cell? ⟨w.heap.size + 1, 2, none⟩ = some (.int .i64 0) := cell_of_row wb _ 2 _ _ (0, 0) hrow
      have z3 : wb.cell? ⟨w.heap.size + 1, 3, none⟩ = some (.slice none 0 0) := cell_of_row wb _ 3 _ _ (0, 0) hrow
      have z4 : wb.cell? ⟨w.heap.size + 1, 4, none⟩ = some (.slice none 0 0) := cell_of_row wb _ 4 _ _ (0, 0) hrow
      have f0 : wb.frozen? ⟨w.heap.size + 1, 0, none⟩ = false := frozen_of_row wb _ 0 _ _ hrow
      have f1 : wb.frozen? ⟨w.heap.size + 1, 1, none⟩ = false := frozen_of_row wb _ 1 _ _ hrow
      have f2 : wb.frozen? ⟨w.heap.size + 1, 2, none⟩ = false := frozen_of_row wb _ 2 _ _ hrow
      have f3 : wb.frozen? ⟨w.heap.size + 1, 3, none⟩ = false := frozen_of_row wb _ 3 _ _ hrow
      have f4 : wb.frozen? ⟨w.heap.size + 1, 4, none⟩ = false := frozen_of_row wb _ 4 _ _ hrow
      have HRow := Lib.hid hrow
      clear hrow
      refine wpAnyH_ready (rs := [15]) (by kernel_rfl) (by simp) ?_
      refine AllReadyH.cons rfl (fun K hK => ?_) AllReadyH.nil
      go_simp
      refine hK.out _ _ (by
        refine ⟨?_, ?_, ?_, ?_, ?_⟩
        · repeat rw [World.cell?_setCell_other _ _ _ _ (by simp)]
          exact (kb.cell (p := ⟨w.heap.size, 0, none⟩) (by simp)).trans X0.out
        · repeat rw [World.cell?_setCell_other _ _ _ _ (by simp)]
          exact (kb.cell (p := ⟨w.heap.size, 1, none⟩) (by simp)).trans X1.out
        · repeat rw [World.cell?_setCell_other _ _ _ _ (by simp)]
          exact (kb.cell (p := ⟨w.heap.size, 2, none⟩) (by simp)).trans X2.out
        · repeat rw [World.cell?_setCell_other _ _ _ _ (by simp)]
          exact (kb.cell (p := ⟨w.heap.size, 3, none⟩) (by simp)).trans X3.out
        · repeat rw [World.cell?_setCell_other _ _ _ _ (by simp)]
          exact (kb.cell (p := ⟨w.heap.size, 4, none⟩) (by simp)).trans X4.out) (fun hS9 => ?_)
      clear hK K
      refine wpAnyH_done (by kernel_rfl) ?_ _
      have HEnd := Lib.hid (And.intro ho9b (And.intro hop (And.intro hapart kb)))
      clear z0 z1 z2 z3 z4 f0 f1 f2 f3 f4
      go_wp2
      refine bodyPost_ret_by (results_cell_row rfl _ _ (w.heap.size + 1) 30 _ (0, 0) _ rfl (five_set HRow.out) Try.underlying30 rfl (by kernel_rfl)) rfl ?_
      exact wishcp_end HWf.out HEnd.out.1 HEnd.out.2.1 HEnd.out.2.2.1 (HB0.out.trans (HEnd.out.2.2.2.mono (by omega)))
    · go_simp
      have o2 := OwnP.empty (w0.alloc (.cells #[] 3)) (w.heap.size + 2) hs1
      try simp only [World.size_alloc] at o2
      have k2 := k1.alloc hs1 (.cells #[] 121)
      have hs2 : w.heap.size + 2 ≤ ((w0.alloc (.cells #[] 3)).alloc (.cells #[] 121)).heap.size := Nat.le_trans hs1 (by simp)
      have o1 := ownI_below o1 ((Below.refl _ _).alloc (Nat.le_refl _) (.cells #[] 121))
      refine hK.out _ _ ⟨(k2.cell (p := ⟨w.heap.size, 0, none⟩) (by simp)).trans X0.out, (k2.cell (p := ⟨w.heap.size, 1, none⟩) (by simp)).trans X1.out, (k2.cell (p := ⟨w.heap.size, 2, none⟩) (by simp)).trans X2.out, (k2.cell (p := ⟨w.heap.size, 3, none⟩) (by simp)).trans X3.out, (k2.cell (p := ⟨w.heap.size, 4, none⟩) (by simp)).trans X4.out⟩ (fun hS2 => ?_)
      clear hK K
      try simp only [Act.put, List.setIfInBounds_toArray, List.set_cons_zero, List.set_cons_succ]
      refine wpAnyH_ready (rs := [9]) (by kernel_rfl) (by simp) ?_
      refine AllReadyH.cons rfl (fun K hK => ?_) AllReadyH.nil
      obtain ⟨v9, wa, hr9, ho9, hg9, ha9⟩ := run_spreadI (ty := 22) (c := t.Lc) o1 (HI.out _ k2) (by simpa using hcapI) hs2
      refine step_run _ (by rfl) (.tmp 9) (.tmp 11) 22 (by rfl) _ _ (by rfl) (by rfl) hr9 ?_
      have ka := k2.grown hg9 hs2 (fun k hk => ownI_lows o1 k hk)
      have hsa : w.heap.size + 2 ≤ wa.heap.size := Nat.le_trans hs2 hg9.size
      rw [List.nil_append] at ho9
      have o2 : OwnP wa (w.heap.size + 2) _ [] := o2.blocks fun k hk => hg9.block k (o2.tops k hk) (fun e => by have h1 := Option.some.inj hk; have h2 := Option.some.inj e; simp at h1 h2; omega)
      refine hK.out _ _ ⟨(ka.cell (p := ⟨w.heap.size, 0, none⟩) (by simp)).trans X0.out, (ka.cell (p := ⟨w.heap.size, 1, none⟩) (by simp)).trans X1.out, (ka.cell (p := ⟨w.heap.size, 2, none⟩) (by simp)).trans X2.out, (ka.cell (p := ⟨w.heap.size, 3, none⟩) (by simp)).trans X3.out, (ka.cell (p := ⟨w.heap.size, 4, none⟩) (by simp)).trans X4.out⟩ (fun hS3 => ?_)
      clear hK K
      try simp only [Act.put, List.setIfInBounds_toArray, List.set_cons_zero, List.set_cons_succ]
      refine wpAnyH_ready (rs := [13]) (by kernel_rfl) (by simp) ?_
      refine AllReadyH.cons rfl (fun K hK => ?_) AllReadyH.nil
      obtain ⟨vp, wb, hrp, hop, hgp, hap⟩ := run_spreadP (ty := 28) (c := t.Pc) o2 (HP.out _ ka) (by simpa using hcapP) hsa
      refine step_run _ (by rfl) (.tmp 13) (.tmp 15) 28 (by rfl) _ _ (by rfl) (by rfl) hrp ?_
      have kb := ka.grown hgp hsa (fun k hk => o2.lows k hk)
      have hsb : w.heap.size + 2 ≤ wb.heap.size := Nat.le_trans hsa hgp.size
      rw [List.nil_append] at hop
      have ho9b : OwnI wb (w.heap.size + 2) v9 t.ls := ownI_blocks ho9 fun k hk => hgp.block k (ownI_tops ho9 k hk) (fun e => by rcases ha9 with q | q <;> (rw [q] at hk; have h1 := Option.some.inj hk; have h2 := Option.some.inj e; (try simp at h1); (try simp at h2); omega))
      have hapart : ∀ b, v9.ownBlock = some b → vp.ownBlock ≠ some b := fun b h1 h2 => by
        have h3 := ownI_tops ho9 b h1
        rcases hap with q | q
        · rw [q] at h2; rcases ha9 with q' | q' <;> (rw [q'] at h1; have h4 := Option.some.inj h1; have h5 := Option.some.inj h2; (try simp at h4); (try simp at h5); omega)
        · rw [q] at h2; have := Option.some.inj h2; omega
      refine hK.out _ _ ⟨(kb.cell (p := ⟨w.heap.size, 0, none⟩) (by simp)).trans X0.out, (kb.cell (p := ⟨w.heap.size, 1, none⟩) (by simp)).trans X1.out, (kb.cell (p := ⟨w.heap.size, 2, none⟩) (by simp)).trans X2.out, (kb.cell (p := ⟨w.heap.size, 3, none⟩) (by simp)).trans X3.out, (kb.cell (p := ⟨w.heap.size, 4, none⟩) (by simp)).trans X4.out⟩ (fun hS5 => ?_)
      clear hK K
      try simp only [Act.put, List.setIfInBounds_toArray, List.set_cons_zero, List.set_cons_succ]
      obtain ⟨LA', Ln', Lc', rfl, -⟩ := ho9b.ints
      obtain ⟨PA', Pn', Pc', rfl⟩ := ownP_shapeW hop
      refine takeY 17 (i := 14) (v := ?vt12) rfl rfl (by kernel_rfl) (by kernel_rfl) (by kernel_rfl) (fun _ _ _ h => h) (by kernel_rfl) ?yt12 hS5 ?_
      case yt12 =>
        intro w' hw'; (try dsimp only at hw'); obtain ⟨e0, e1, e2, e3, e4⟩ := hw'; go_simp; try with_reducible rfl
      simp only [Act.put, List.setIfInBounds_toArray, List.set_cons_zero, List.set_cons_succ]
      have hrow : wb.heap[w.heap.size + 1]? = some (.cells #[.int .i64 0, .int .i64 0, .int .i64 0, .slice none 0 0, .slice none 0 0] 30 (0, 0)) := (kb.block _ (by omega)).trans HZr.out
      have z0 : wb.cell? ⟨w.heap.size + 1, 0, none⟩ = some (.int .i64 0) := cell_of_row wb _ 0 _ _ (0, 0) hrow
      have z1 : wb.cell? ⟨w.heap.size + 1, 1, none⟩ = some (.int .i64 0) := cell_of_row wb _ 1 _ _ (0, 0) hrow
      have z2 : wb.cell? ⟨w.heap.size + 1, 2, none⟩ = some (.int .i64 0) := cell_of_row wb _ 2 _ _ (0, 0) hrow
      have z3 : wb.cell? ⟨w.heap.size + 1, 3, none⟩ = some (.slice none 0 0) := cell_of_row wb _ 3 _ _ (0, 0) hrow
      have z4 : wb.cell? ⟨w.heap.size + 1, 4, none⟩ = some (.slice none 0 0) := cell_of_row wb _ 4 _ _ (0, 0) hrow
      have f0 : wb.frozen? ⟨w.heap.size + 1, 0, none⟩ = false := frozen_of_row wb _ 0 _ _ hrow
      have f1 : wb.frozen? ⟨w.heap.size + 1, 1, none⟩ = false := frozen_of_row wb _ 1 _ _ hrow
      have f2 : wb.frozen? ⟨w.heap.size + 1, 2, none⟩ = false := frozen_of_row wb _ 2 _ _ hrow
      have f3 : wb.frozen? ⟨w.heap.size + 1, 3, none⟩ = false := frozen_of_row wb _ 3 _ _ hrow
      have f4 : wb.frozen? ⟨w.heap.size + 1, 4, none⟩ = false := frozen_of_row wb _ 4 _ _ hrow
      have HRow := Lib.hid hrow
      clear hrow
      refine wpAnyH_ready (rs := [15]) (by kernel_rfl) (by simp) ?_
      refine AllReadyH.cons rfl (fun K hK => ?_) AllReadyH.nil
      go_simp
      refine hK.out _ _ (by
        refine ⟨?_, ?_, ?_, ?_, ?_⟩
        · repeat rw [World.cell?_setCell_other _ _ _ _ (by simp)]
          exact (kb.cell (p := ⟨w.heap.size, 0, none⟩) (by simp)).trans X0.out
        · repeat rw [World.cell?_setCell_other _ _ _ _ (by simp)]
          exact (kb.cell (p := ⟨w.heap.size, 1, none⟩) (by simp)).trans X1.out
        · repeat rw [World.cell?_setCell_other _ _ _ _ (by simp)]
          exact (kb.cell (p := ⟨w.heap.size, 2, none⟩) (by simp)).trans X2.out
        · repeat rw [World.cell?_setCell_other _ _ _ _ (by simp)]
          exact (kb.cell (p := ⟨w.heap.size, 3, none⟩) (by simp)).trans X3.out
        · repeat rw [World.cell?_setCell_other _ _ _ _ (by simp)]
          exact (kb.cell (p := ⟨w.heap.size, 4, none⟩) (by simp)).trans X4.out) (fun hS9 => ?_)
      clear hK K
      refine wpAnyH_done (by kernel_rfl) ?_ _
      have HEnd := Lib.hid (And.intro ho9b (And.intro hop (And.intro hapart kb)))
      clear z0 z1 z2 z3 z4 f0 f1 f2 f3 f4
      go_wp2
      refine bodyPost_ret_by (results_cell_row rfl _ _ (w.heap.size + 1) 30 _ (0, 0) _ rfl (five_set HRow.out) Try.underlying30 rfl (by kernel_rfl)) rfl ?_
      exact wishcp_end HWf.out HEnd.out.1 HEnd.out.2.1 HEnd.out.2.2.1 (HB0.out.trans (HEnd.out.2.2.2.mono (by omega)))
  · go_simp
    have o2 := OwnP.empty w0 (w.heap.size + 2) hs0
    try simp only [World.size_alloc] at o2
    have k1 := HK0.alloc hs0 (.cells #[] 121)
    have hs1 : w.heap.size + 2 ≤ (w0.alloc (.cells #[] 121)).heap.size := Nat.le_trans hs0 (by simp)
    refine hK.out _ _ ⟨(k1.cell (p := ⟨w.heap.size, 0, none⟩) (by simp)).trans X0.out, (k1.cell (p := ⟨w.heap.size, 1, none⟩) (by simp)).trans X1.out, (k1.cell (p := ⟨w.heap.size, 2, none⟩) (by simp)).trans X2.out, (k1.cell (p := ⟨w.heap.size, 3, none⟩) (by simp)).trans X3.out, (k1.cell (p := ⟨w.heap.size, 4, none⟩) (by simp)).trans X4.out⟩ (fun hS1 => ?_)
    clear hK K
    try simp only [Act.put, List.setIfInBounds_toArray, List.set_cons_zero, List.set_cons_succ]
    refine wpAnyH_ready (rs := [6]) (by kernel_rfl) (by simp) ?_
    refine AllReadyH.cons rfl (fun K hK => ?_) AllReadyH.nil
    go_simp
    have o1 := OwnI.empty (w0.alloc (.cells #[] 121)) (w.heap.size + 2) hs1
    try simp only [World.size_alloc] at o1
    have k2 := k1.alloc hs1 (.cells #[] 3)
    have hs2 : w.heap.size + 2 ≤ ((w0.alloc (.cells #[] 121)).alloc (.cells #[] 3)).heap.size := Nat.le_trans hs1 (by simp)
    have o2 := o2.below ((Below.refl _ _).alloc (Nat.le_refl _) (.cells #[] 3))
    refine hK.out _ _ ⟨(k2.cell (p := ⟨w.heap.size, 0, none⟩) (by simp)).trans X0.out, (k2.cell (p := ⟨w.heap.size, 1, none⟩) (by simp)).trans X1.out, (k2.cell (p := ⟨w.heap.size, 2, none⟩) (by simp)).trans X2.out, (k2.cell (p := ⟨w.heap.size, 3, none⟩) (by simp)).trans X3.out, (k2.cell (p := ⟨w.heap.size, 4, none⟩) (by simp)).trans X4.out⟩ (fun hS2 => ?_)
    clear hK K
    try simp only [Act.put, List.setIfInBounds_toArray, List.set_cons_zero, List.set_cons_succ]
    refine wpAnyH_ready (rs := [9]) (by kernel_rfl) (by simp) ?_
    refine AllReadyH.cons rfl (fun K hK => ?_) AllReadyH.nil
    obtain ⟨v9, wa, hr9, ho9, hg9, ha9⟩ := run_spreadI (ty := 22) (c := t.Lc) o1 (HI.out _ k2) (by simpa using hcapI) hs2
    refine step_run _ (by rfl) (.tmp 9) (.tmp 11) 22 (by rfl) _ _ (by rfl) (by rfl) hr9 ?_
    have ka := k2.grown hg9 hs2 (fun k hk => ownI_lows o1 k hk)
    have hsa : w.heap.size + 2 ≤ wa.heap.size := Nat.le_trans hs2 hg9.size
    rw [List.nil_append] at ho9
    have o2 : OwnP wa (w.heap.size + 2) _ [] := o2.blocks fun k hk => hg9.block k (o2.tops k hk) (fun e => by have h1 := Option.some.inj hk; have h2 := Option.some.inj e; simp at h1 h2; omega)
    refine hK.out _ _ ⟨(ka.cell (p := ⟨w.heap.size, 0, none⟩) (by simp)).trans X0.out, (ka.cell (p := ⟨w.heap.size, 1, none⟩) (by simp)).trans X1.out, (ka.cell (p := ⟨w.heap.size, 2, none⟩) (by simp)).trans X2.out, (ka.cell (p := ⟨w.heap.size, 3, none⟩) (by simp)).trans X3.out, (ka.cell (p := ⟨w.heap.size, 4, none⟩) (by simp)).trans X4.out⟩ (fun hS3 => ?_)
    clear hK K
    try simp only [Act.put, List.setIfInBounds_toArray, List.set_cons_zero, List.set_cons_succ]
    refine wpAnyH_ready (rs := [13]) (by kernel_rfl) (by simp) ?_
    refine AllReadyH.cons rfl (fun K hK => ?_) AllReadyH.nil
    obtain ⟨vp, wb, hrp, hop, hgp, hap⟩ := run_spreadP (ty := 28) (c := t.Pc) o2 (HP.out _ ka) (by simpa using hcapP) hsa
    refine step_run _ (by rfl) (.tmp 13) (.tmp 15) 28 (by rfl) _ _ (by rfl) (by rfl) hrp ?_
    have kb := ka.grown hgp hsa (fun k hk => o2.lows k hk)
    have hsb : w.heap.size + 2 ≤ wb.heap.size := Nat.le_trans hsa hgp.size
    rw [List.nil_append] at hop
    have ho9b : OwnI wb (w.heap.size + 2) v9 t.ls := ownI_blocks ho9 fun k hk => hgp.block k (ownI_tops ho9 k hk) (fun e => by rcases ha9 with q | q <;> (rw [q] at hk; have h1 := Option.some.inj hk; have h2 := Option.some.inj e; (try simp at h1); (try simp at h2); omega))
    have hapart : ∀ b, v9.ownBlock = some b → vp.ownBlock ≠ some b := fun b h1 h2 => by
      have h3 := ownI_tops ho9 b h1
      rcases hap with q | q
      · rw [q] at h2; rcases ha9 with q' | q' <;> (rw [q'] at h1; have h4 := Option.some.inj h1; have h5 := Option.some.inj h2; (try simp at h4); (try simp at h5); omega)
      · rw [q] at h2; have := Option.some.inj h2; omega
    refine hK.out _ _ ⟨(kb.cell (p := ⟨w.heap.size, 0, none⟩) (by simp)).trans X0.out, (kb.cell (p := ⟨w.heap.size, 1, none⟩) (by simp)).trans X1.out, (kb.cell (p := ⟨w.heap.size, 2, none⟩) (by simp)).trans X2.out, (kb.cell (p := ⟨w.heap.size, 3, none⟩) (by simp)).trans X3.out, (kb.cell (p := ⟨w.heap.size, 4, none⟩) (by simp)).trans X4.out⟩ (fun hS5 => ?_)
    clear hK K
    try simp only [Act.put, List.setIfInBounds_toArray, List.set_cons_zero, List.set_cons_succ]
    obtain ⟨LA', Ln', Lc', rfl, -⟩ := ho9b.ints
    obtain ⟨PA', Pn', Pc', rfl⟩ := ownP_shapeW hop
    refine takeY 17 (i := 14) (v := ?vt13) rfl rfl (by kernel_rfl) (by kernel_rfl) (by kernel_rfl) (fun _ _ _ h => h) (by kernel_rfl) ?yt13 hS5 ?_
    case yt13 =>
      intro w' hw'; (try dsimp only at hw'); obtain ⟨e0, e1, e2, e3, e4⟩ := hw'; go_simp; try with_reducible rfl
    simp only [Act.put, List.setIfInBounds_toArray, List.set_cons_zero, List.set_cons_succ]
    have hrow : wb.heap[w.heap.size + 1]? = some (.cells #[.int .i64 0, .int .i64 0, .int .i64 0, .slice none 0 0, .slice none 0 0] 30 (0, 0)) := (kb.block _ (by omega)).trans HZr.out
    have z0 : wb.cell? ⟨w.heap.size + 1, 0, none⟩ = some (.int .i64 0) := cell_of_row wb _ 0 _ _ (0, 0) hrow
    have z1 : wb.cell? ⟨w.heap.size + 1, 1, none⟩ = some (.int .i64 0) := cell_of_row wb _ 1 _ _ (0, 0) hrow
    have z2 : wb.cell? ⟨w.heap.size + 1, 2, none⟩ = some (.int .i64 0) := cell_of_row wb _ 2 _ _ (0, 0) hrow
    have z3 : wb.cell? ⟨w.heap.size + 1, 3, none⟩ = some (.slice none 0 0) := cell_of_row wb _ 3 _ _ (0, 0) hrow
    have z4 : wb.cell? ⟨w.heap.size + 1, 4, none⟩ = some (.slice none 0 0) := cell_of_row wb _ 4 _ _ (0, 0) hrow
    have f0 : wb.frozen? ⟨w.heap.size + 1, 0, none⟩ = false := frozen_of_row wb _ 0 _ _ hrow
    have f1 : wb.frozen? ⟨w.heap.size + 1, 1, none⟩ = false := frozen_of_row wb _ 1 _ _ hrow
    have f2 : wb.frozen? ⟨w.heap.size + 1, 2, none⟩ = false := frozen_of_row wb _ 2 _ _ hrow
    have f3 : wb.frozen? ⟨w.heap.size + 1, 3, none⟩ = false := frozen_of_row wb _ 3 _ _ hrow
    have f4 : wb.frozen? ⟨w.heap.size + 1, 4, none⟩ = false := frozen_of_row wb _ 4 _ _ hrow
    have HRow := Lib.hid hrow
    clear hrow
    refine wpAnyH_ready (rs := [15]) (by kernel_rfl) (by simp) ?_
    refine AllReadyH.cons rfl (fun K hK => ?_) AllReadyH.nil
    go_simp
    refine hK.out _ _ (by
      refine ⟨?_, ?_, ?_, ?_, ?_⟩
      · repeat rw [World.cell?_setCell_other _ _ _ _ (by simp)]
        exact (kb.cell (p := ⟨w.heap.size, 0, none⟩) (by simp)).trans X0.out
      · repeat rw [World.cell?_setCell_other _ _ _ _ (by simp)]
        exact (kb.cell (p := ⟨w.heap.size, 1, none⟩) (by simp)).trans X1.out
      · repeat rw [World.cell?_setCell_other _ _ _ _ (by simp)]
        exact (kb.cell (p := ⟨w.heap.size, 2, none⟩) (by simp)).trans X2.out
      · repeat rw [World.cell?_setCell_other _ _ _ _ (by simp)]
        exact (kb.cell (p := ⟨w.heap.size, 3, none⟩) (by simp)).trans X3.out
      · repeat rw [World.cell?_setCell_other _ _ _ _ (by simp)]
        exact (kb.cell (p := ⟨w.heap.size, 4, none⟩) (by simp)).trans X4.out) (fun hS9 => ?_)
    clear hK K
    refine wpAnyH_done (by kernel_rfl) ?_ _
    have HEnd := Lib.hid (And.intro ho9b (And.intro hop (And.intro hapart kb)))
    clear z0 z1 z2 z3 z4 f0 f1 f2 f3 f4
    go_wp2
    refine bodyPost_ret_by (results_cell_row rfl _ _ (w.heap.size + 1) 30 _ (0, 0) _ rfl (five_set HRow.out) Try.underlying30 rfl (by kernel_rfl)) rfl ?_
    exact wishcp_end HWf.out HEnd.out.1 HEnd.out.2.1 HEnd.out.2.2.1 (HB0.out.trans (HEnd.out.2.2.2.mono (by omega)))
end Go.Proofs.Ytmbchpdcgjlggaa.num
