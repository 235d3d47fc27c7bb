/-
  The laws' own copy and comparison of voters.
-/
import Derived.Test.YtceiocdemhkcdaaVotMem
import Derived.Test.YtceiocdemhkcdaaExpCopy
import Derived.Test.YtceiocdemhkcdaaExpLaw
namespace Go.Proofs.Ytceiocdemhkcdaa.num
set_option maxRecDepth 20000
open Go.RowKit
set_option linter.unusedVariables false
set_option linter.unusedSimpArgs false

/-- The blocks of the slice v and of its voters. -/
def hasV (v : Value) (gs : List Vo) (b : Nat) : Prop := v.ownBlock = some b ∨ ∃ x ∈ gs, hasN x.val x.ns b
/-- The voters lie one behind the other, each in blocks of its own. -/
structure Lined (w : World) (los : Nat → Nat) (gs : List Vo) : Prop where
  mono : ∀ i j, i ≤ j → los i ≤ los j
  at' : ∀ (k : Nat) (x : Vo), gs[k]? = some x → OwnN w (los k) x.val x.ns ∧ ∀ b, hasN x.val x.ns b → b < los (k + 1)
/-- The slice of voters v and all that it holds are the call's own. -/
structure OwnV (w : World) (B : Nat) (v : Value) (gs : List Vo) : Prop where
  r : OwnG 89 voC 1 w B v gs
  l : ∃ los : Nat → Nat, Lined w los gs ∧ B ≤ los 0 ∧ ∀ b, v.ownBlock = some b → b < los 0
theorem OwnV.has_in {w : World} {B : Nat} {v : Value} {gs : List Vo} (h : OwnV w B v gs) {b : Nat} (hb : hasV v gs b) : B ≤ b ∧ b < w.heap.size := by
  rcases hb with hb | ⟨x, hx, hb⟩
  · exact ⟨h.r.lows b hb, h.r.tops b hb⟩
  · obtain ⟨k, hk, rfl⟩ := List.getElem_of_mem hx
    obtain ⟨los, hl, h0, -⟩ := h.l
    have h1 := (hl.at' k _ (List.getElem?_eq_getElem hk)).1.has_in hb
    have h2 := hl.mono 0 k (Nat.zero_le _)
    omega
theorem Lined.blocks {w w' : World} {los : Nat → Nat} {gs : List Vo} (h : Lined w los gs) (hb : ∀ b, (∃ x ∈ gs, hasN x.val x.ns b) → w'.heap[b]? = w.heap[b]?) : Lined w' los gs :=
  ⟨h.mono, fun k x hk => ⟨(h.at' k x hk).1.blocks fun b k' => hb b ⟨x, List.mem_of_getElem? hk, k'⟩, (h.at' k x hk).2⟩⟩
theorem OwnV.blocks {w w' : World} {B : Nat} {v : Value} {gs : List Vo} (h : OwnV w B v gs) (hb : ∀ b, hasV v gs b → w'.heap[b]? = w.heap[b]?) : OwnV w' B v gs :=
  ⟨h.r.blocks fun k hk => hb k (.inl hk), by
    obtain ⟨los, hl, h0, h1⟩ := h.l
    exact ⟨los, hl.blocks fun b hb' => hb b (.inr hb'), h0, h1⟩⟩
theorem OwnV.below {w w' : World} {B : Nat} {v : Value} {gs : List Vo} (h : OwnV w B v gs) (hb : Below w.heap.size w w') : OwnV w' B v gs := h.blocks fun b k => hb.block b (h.has_in k).2
theorem OwnV.votes {w : World} {B : Nat} {A : Option Addr} {n c : Nat} {gs : List Vo} (h : OwnV w B (.slice A n c) gs) : Votes w w.heap.size A n gs :=
  ⟨h.r.read voC_len, fun x hx => by
    obtain ⟨k, hk, rfl⟩ := List.getElem_of_mem hx
    obtain ⟨los, hl, -, -⟩ := h.l
    exact (hl.at' k _ (List.getElem?_eq_getElem hk)).1.nodes⟩
/-- A copy of the voters gs at block lo. -/
structure CopyV (w : World) (lo n : Nat) (gs gs' : List Vo) : Prop where
  dat : gs'.map Vo.dat = gs.map Vo.dat
  short : ShortV gs'
  sum : sumV gs' = sumV gs
  caps : ∀ x ∈ gs', x.c = x.n
  own : OwnV w lo (.slice (some ⟨lo, 0, none⟩) n n) gs'
theorem CopyV.step {w w' : World} {lo n : Nat} {gs gs' : List Vo} (h : CopyV w lo n gs gs') (hb : Below w.heap.size w w') : CopyV w' lo n gs gs' := ⟨h.dat, h.short, h.sum, h.caps, h.own.below hb⟩
theorem CopyV.votes {w : World} {lo n : Nat} {gs gs' : List Vo} (h : CopyV w lo n gs gs') : Votes w w.heap.size (some ⟨lo, 0, none⟩) n gs' := h.own.votes
theorem CopyV.lt {w : World} {lo n : Nat} {gs gs' : List Vo} (h : CopyV w lo n gs gs') : lo < w.heap.size := h.own.r.tops lo rfl
def zV (_ : Nat) : Value := .slice none 0 0
def voCell (gs : List Vo) (j : Nat) : Value := cellG voC zV gs j
theorem info_voter : (Try.prog.info? 89).map (fun i => (i.zero, i.size, i.bytes)) = some (some (.slice none 0 0), 1, 24) := by kernel_rfl
theorem make_voters (n : Nat) (hn : n ≤ 1048576) (w : World) :
    (Instr.makeSlice 51 (.int .i64 (n : Int)) (.int .i64 (n : Int))).run Try.prog w = .ok (.slice (some ⟨w.heap.size, 0, none⟩) n n) (w.alloc (.cells (madeCells #[.slice none 0 0] n) 89)) := by
  obtain ⟨i, hi, hzz⟩ := Option.map_eq_some_iff.1 info_voter
  simp only [Prod.mk.injEq] at hzz
  obtain ⟨hz, hs, hb⟩ := hzz
  have hr := run_make (P := Try.prog) w _ _ i _ Try.underlying51 hi hz .i64 .i64 n n (by omega) (Int.le_refl _) (by rw [hb]; omega) (by omega)
  rw [hs] at hr
  simp only [Int.toNat_natCast, Nat.mul_one] at hr
  exact hr
theorem made_voters (w : World) (n : Nat) : (w.alloc (.cells (madeCells #[.slice none 0 0] n) 89)).rowIs w.heap.size 89 n (voCell []) :=
  ⟨_, heap_alloc_new w _, size_madeCells _ _, fun i hi => by
    have hi' : i < n := by omega
    simp [madeCells, hi', voCell, cellG, zV, Nat.mod_one]⟩
theorem voCell_snoc {gs : List Vo} {k : Nat} (h : gs.length = k) (x : Vo) (j : Nat) :
    (if j = k then .slice x.A x.n x.c else voCell gs j) = voCell (gs ++ [x]) j := by
  by_cases h0 : j = k
  · subst h0
    rw [if_pos rfl]
    have e := cellG_last voC_len zV h x (i := 0) (v := .slice x.A x.n x.c) rfl
    rw [Nat.mul_one, Nat.add_zero] at e
    exact e.symm
  · rw [if_neg h0]
    exact (cellG_more voC_len zV h x (by omega)).symm
theorem OwnG.of_vrow {w : World} {B bx n : Nat} {gs : List Vo} (hB : B ≤ bx) (hl : gs.length = n) (hn : n ≤ 1048576) (hr : w.rowIs bx 89 n (voCell gs)) : OwnG 89 voC 1 w B (.slice (some ⟨bx, 0, none⟩) n n) gs :=
  OwnG.of_row voC_len hB hl (Nat.le_refl _) (by unfold maxLen; omega) (by rw [Nat.mul_one]; exact hr) (fun j hj => cellG_own voC_len zV hl hj)
set_option maxRecDepth 20000 in
theorem toVotes_w (w : World) (B : Nat) (A : Option Addr) (n c : Nat) (gs : List Vo) (hi : Votes w B A n gs) (hB : B ≤ w.heap.size) (hn : n ≤ 1048576) (hN : ShortV gs) :
    Calls Try.prog 27 #[.slice A n c] w fun e w' => ∃ gs', e = .returned (.slice (some ⟨w.heap.size, 0, none⟩) n n) ∧ CopyV w' w.heap.size n gs gs' ∧ Below w.heap.size w w' := by
  have HX := Lib.hid hi
  have HN := Lib.hid hN
  have hmk := make_voters n hn
  clear hi hN
  go_enter Try.func27, Try.ntmps27
  go_wp2
  clear hmk
  go_loopw [4] (fun i wr => ∃ (k : Nat) (gs' : List Vo) (los : Nat → Nat), k ≤ n ∧ i = .int .i64 k ∧ gs'.length = k ∧ gs'.map Vo.dat = (gs.take k).map Vo.dat ∧ ShortV gs' ∧ (∀ x ∈ gs', x.c = x.n) ∧ sumV gs' = sumV (gs.take k) ∧ wr.rowIs w.heap.size 89 n (voCell gs') ∧ Lined wr los gs' ∧ w.heap.size < los 0 ∧ los k ≤ wr.heap.size ∧ Below w.heap.size w wr) (fun i _ => n - (intOf i).toNat)
  case atStart => exact ⟨0, [], fun _ => w.heap.size + 1, Nat.zero_le _, rfl, rfl, rfl, by simp [ShortV], by simp, rfl, made_voters w n, ⟨fun _ _ _ => Nat.le_refl _, by simp⟩, Nat.lt_succ_self _, by simp, (Below.refl _ _).alloc (Nat.le_refl _) _⟩
  case round =>
    obtain ⟨k, gs', los, hk, rfl, hlen, hdat, hsh, hcap, hsum, hrow, hli, hl0, hlk, hbel⟩ := hrel
    have HD := Lib.hid hdat
    have HL := Lib.hid hlen
    have HS := Lib.hid hsh
    have HSm := Lib.hid hsum
    have HCa := Lib.hid hcap
    have HR := Lib.hid hrow
    have HLi := Lib.hid hli
    have HB := Lib.hid hbel
    clear hdat hlen hsh hsum hcap hli
    by_cases hlt : k < n
    · obtain ⟨b, off, x, rfl, hb, hat, hns, g0⟩ := HX.out.at k hlt
      have HT := Lib.hid hat
      have g0 := (hbel.cell (p := ⟨b, off + k, none⟩) (Nat.lt_of_lt_of_le hb hB)).trans g0
      have hbs := hrow.lt
      have HC : Hid (Calls Try.prog 68 #[.slice x.A x.n x.c] wr fun e w' => ∃ ns', e = .returned (.slice (some ⟨wr.heap.size, 0, none⟩) x.n x.n) ∧ CopyN w' wr.heap.size x.n x.ns ns' ∧ Below wr.heap.size wr w') :=
        Lib.hid (toNodes_w wr B x.A x.n x.c x.ns (hns.below (hbel.mono hB)) (Nat.le_trans hB hbel.size) (HN.out x (List.mem_of_getElem? hat)).1 (HN.out x (List.mem_of_getElem? hat)).2)
      have HXn := Lib.hid (HN.out x (List.mem_of_getElem? hat)).1
      clear hat hbel hns hrow
      go_wp2_with fail
      refine HC.out.mono ?_
      rintro e w1 ⟨ns', rfl, hc, hb1⟩
      have hrow1 := World.rowIs.of_block HR.out (hb1.block _ hbs)
      have q0 : w1.cell? ⟨w.heap.size, k, none⟩ = some (.slice none 0 0) := by
        rw [World.rowIs.cell hrow1 (by omega)]
        congr 1
        show cellG voC zV gs' _ = _
        rw [cellG_none voC_len zV (by rw [HL.out]; omega)]
        rfl
      have p0 := World.rowIs.frozen hrow1 k
      have HR1 := Lib.hid hrow1
      have HB1 := Lib.hid hb1
      have HCp := Lib.hid hc
      have hbs1 : wr.heap.size ≤ w1.heap.size := hb1.size
      clear hrow1 hb1 hc g0 HC
      go_wp2
      go_roundw
      case rel =>
        have hoth : ∀ b, b ≠ w.heap.size → ∀ v, (w1.setCell ⟨w.heap.size, k, none⟩ v).heap[b]? = w1.heap[b]? := fun b hb v => heap_setCell_other _ _ _ _ (by simpa using hb)
        refine ⟨k + 1, gs' ++ [⟨some ⟨wr.heap.size, 0, none⟩, x.n, x.n, ns'⟩], fun j => if j ≤ k then los j else w1.heap.size, by omega, by go_num, by rw [List.length_append, HL.out]; rfl, ?_, ?_, ?_, ?_, ?_, ⟨fun i j hij => ?_, fun i y hy => ?_⟩, ?_, ?_, ?_⟩
        · rw [votake_at HT.out, List.map_append, List.map_append, HD.out, List.map_singleton, List.map_singleton]
          congr 2
          exact HCp.out.dat
        · intro y hy
          rcases List.mem_append.1 hy with h | h
          · exact HS.out y h
          · rw [List.mem_singleton.1 h]; exact ⟨HXn.out, HCp.out.short⟩
        · intro y hy
          rcases List.mem_append.1 hy with h | h
          · exact HCa.out y h
          · rw [List.mem_singleton.1 h]
        · rw [votake_at HT.out, sumV_snoc, sumV_snoc, HSm.out]
        · exact (World.rowIs.set HR1.out k _).congr (fun j _ => voCell_snoc HL.out ⟨some ⟨wr.heap.size, 0, none⟩, x.n, x.n, ns'⟩ j)
        · try dsimp only
          by_cases hj : j ≤ k
          · rw [if_pos hj, if_pos (by omega)]; exact HLi.out.mono i j hij
          · rw [if_neg hj]
            by_cases hi : i ≤ k
            · rw [if_pos hi]; exact Nat.le_trans (HLi.out.mono i k hi) (Nat.le_trans hlk hbs1)
            · rw [if_neg hi]; exact Nat.le_refl _
        · try dsimp only
          rcases get_snoc HL.out hy with ⟨hik, h⟩ | ⟨rfl, rfl⟩
          · obtain ⟨e1, e2⟩ := HLi.out.at' i y h
            rw [if_pos (by omega), if_pos (by omega)]
            refine ⟨e1.blocks fun b hb => (hoth b ?_ _).trans (HB1.out.block b (e1.has_in hb).2), e2⟩
            have h1 := (e1.has_in hb).1
            have h2 := HLi.out.mono 0 i (Nat.zero_le _)
            omega
          · rw [if_pos (Nat.le_refl _), if_neg (by omega)]
            have ho := HCp.out.own
            refine ⟨(ho.low hlk).blocks fun b hb => hoth b ?_ _, fun b hb => (ho.has_in hb).2⟩
            have h1 := (ho.has_in hb).1
            omega
        · try dsimp only
          rw [if_pos (Nat.zero_le _)]; exact hl0
        · try dsimp only
          rw [if_neg (by omega)]; simp [World.setCell]
        · exact (below_on HB.out HB1.out).setCell (Nat.le_refl _) _
      case measure => simp [intOf]; omega
    · obtain rfl : k = n := by omega
      clear hbel hrow
      go_wp2
      go_ret
      refine ⟨gs', rfl, ⟨?_, HS.out, ?_, HCa.out, OwnG.of_vrow (Nat.le_refl _) HL.out hn HR.out, los, HLi.out, Nat.le_of_lt hl0, fun b hb => ?_⟩, HB.out⟩
      · rw [HD.out, votake_all HX.out.len]
      · rw [HSm.out, votake_all HX.out.len]
      · have := Option.some.inj hb
        simp at this
        omega
set_option maxRecDepth 20000 in
theorem eqVotes_c (w : World) (B : Nat) (A A' : Option Addr) (n c c' : Nat) (xs ys : List Vo) (h1 : Votes w B A n xs) (h2 : Votes w B A' n ys) (hB : B ≤ w.heap.size) (hn : n ≤ 1048576) (hN : ShortV xs) (he : xs.map Vo.dat = ys.map Vo.dat) :
    Calls Try.prog 29 #[.slice A n c, .slice A' n c'] w fun e w' => e = .returned (.bool true) ∧ Below w.heap.size w w' := by
  have HX := Lib.hid h1
  have HY := Lib.hid h2
  have HN := Lib.hid hN
  have HE := Lib.hid he
  clear h1 h2 hN he
  go_enter Try.func29, Try.ntmps29
  go_wp2
  go_loopw [5] (fun i wr => ∃ k : Nat, k ≤ n ∧ i = .int .i64 k ∧ Below w.heap.size w wr) (fun i _ => n - (intOf i).toNat)
  case atStart => exact ⟨0, Nat.zero_le _, rfl, Below.refl _ _⟩
  case round =>
    obtain ⟨k, hk, rfl, hbel⟩ := hrel
    have HB := Lib.hid hbel
    by_cases hlt : k < n
    · obtain ⟨b1, off1, x, rfl, hb1, hat1, hn1, e0⟩ := HX.out.at k hlt
      obtain ⟨b2, off2, y, rfl, hb2, hat2, hn2, f0⟩ := HY.out.at k hlt
      have e0 := (hbel.cell (p := ⟨b1, off1 + k, none⟩) (Nat.lt_of_lt_of_le hb1 hB)).trans e0
      have f0 := (hbel.cell (p := ⟨b2, off2 + k, none⟩) (Nat.lt_of_lt_of_le hb2 hB)).trans f0
      have hlt' : (k : Int) < (n : Int) := by omega
      have hd : x.ns.map Nd.dat = y.ns.map Nd.dat := by
        have h := congrArg (·[k]?) HE.out
        simp only [List.getElem?_map, hat1, hat2, Option.map_some] at h
        exact Option.some.inj h
      have hs := HN.out x (List.mem_of_getElem? hat1)
      have HC : Hid (∀ w1, Below w.heap.size w w1 → Calls Try.prog 70 #[.slice x.A x.n x.c, .slice y.A y.n y.c] w1 fun e w' => e = .returned (.bool true) ∧ Below w1.heap.size w1 w') :=
        Lib.hid fun w1 hb => eqNodes_c w1 B x.A y.A x.n y.n x.c y.c x.ns y.ns (hn1.below (hb.mono hB)) (hn2.below (hb.mono hB)) (Nat.le_trans hB hb.size) hs.1 hs.2 true ⟨fun _ => hd, fun _ => rfl⟩
      clear hat1 hat2 hbel hn1 hn2 hd hs
      have HB' : Hid (Below w.heap.size w wr.drew) := Lib.hid HB.out.drew
      clear HB
      go_wp2
      go_still_tail 8, (by kernel_rfl)
      change wpList _ _ _ _ _ wr.drew
      generalize wr.drew = w2 at *
      clear e0 f0
      go_wp2_with fail
      refine (HC.out w2 HB'.out).mono ?_
      rintro e w3 ⟨rfl, hb3⟩
      have HB3 := Lib.hid (below_on HB'.out hb3)
      clear hb3 HC
      go_wp2
      go_roundw
      case rel => exact ⟨k + 1, by omega, by go_num, HB3.out⟩
      case measure => simp [intOf]; omega
    · obtain rfl : k = n := by omega
      clear hbel
      go_wp2
      go_ret
      exact ⟨rfl, HB.out⟩
theorem eqVotes_w (w : World) (lo lo' n : Nat) (gs xs ys : List Vo) (h1 : CopyV w lo n gs xs) (h2 : CopyV w lo' n gs ys) (hn : n ≤ 1048576) :
    Calls Try.prog 29 #[.slice (some ⟨lo, 0, none⟩) n n, .slice (some ⟨lo', 0, none⟩) n n] w fun e w' => e = .returned (.bool true) ∧ Below w.heap.size w w' :=
  eqVotes_c w w.heap.size _ _ n n n xs ys h1.votes h2.votes (Nat.le_refl _) hn h1.short (h1.dat.trans h2.dat.symm)
end Go.Proofs.Ytceiocdemhkcdaa.num
