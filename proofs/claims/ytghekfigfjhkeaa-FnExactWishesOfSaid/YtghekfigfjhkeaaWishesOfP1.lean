/- What the law FnExactWishesOf leans on, part 1: contracts of the functions that it calls. -/
import Derived.Test.YtghekfigfjhkeaaExpTree
import Derived.Test.YtghekfigfjhkeaaExpMath
import Derived.Test.YtghekfigfjhkeaaWishCp
import Derived.Test.YtghekfigfjhkeaaCopyN
namespace Go.Proofs.Ytghekfigfjhkeaa.num
open Go.RowKit Go.Maps
set_option linter.unusedVariables false
set_option linter.unusedSimpArgs false

def TreeOut (B lo : Nat) (nds : List ND) (e : Ending) (w' : World) : Prop :=
  (IsE nds ∧ ∃ t p, Post nds t ∧ e = .returned (.pointer (some ⟨p, 0, none⟩)) ∧ PartAt w' B lo t p) ∨ (¬ IsE nds ∧ e = .returned (.pointer none))
set_option maxRecDepth 20000 in
theorem iTreeOf (w : World) (B : Nat) (A : Option Addr) (n c : Nat) (ns : List Nd) (hi : Nodes w B A n ns) (hB : B ≤ w.heap.size) (hnc : n ≤ c) (hc : c ≤ 1048576) (hN : ShortN ns) :
    Calls Try.prog 40 #[.slice A n c] w fun e w' => TreeOut B w.heap.size (datN ns) e w' ∧ Below w.heap.size w w' := by
  have HL : Hid ((datN ns).length = n) := Lib.hid (by unfold datN; rw [List.length_map, hi.len])
  have HC := Lib.hid (iLast B A c hc n w ns hi hB hnc hN)
  clear hi hN
  by_cases h9 : n ≤ 9
  · go_enter Try.func40, Try.ntmps40
    go_wp2_with fail
    refine HC.out.mono ?_
    rintro e w1 ⟨hout, hb1⟩
    have HB := Lib.hid hb1
    clear hb1 HC
    rcases hout with ⟨t, k, p, hl, rfl, hpa⟩ | ⟨hl, rfl⟩
    · have HLp := Lib.hid hl
      have HP := Lib.hid hpa
      have hkn : k ≤ 1048576 := by have := hl.lt; rw [HL.out] at this; omega
      clear hl hpa
      by_cases hk : k = 0
      · subst hk
        go_wp2
        go_ret
        refine ⟨.inl ⟨(isE_last HLp.out).2 ⟨by rw [HL.out]; exact h9, rfl⟩, t, p, ?_, rfl, HP.out⟩, HB.out⟩
        have := HLp.out
        simpa [LastP] using this
      · have hk' : 0 < k := by omega
        have hd : decide ((k : Int) > 0) = true := by simp; omega
        go_wp2
        go_ret
        exact ⟨.inr ⟨fun h => by have := ((isE_last HLp.out).1 h).2; omega, rfl⟩, HB.out⟩
    · have HLp := Lib.hid hl
      clear hl
      go_wp2
      go_ret
      exact ⟨.inr ⟨isE_none HLp.out, rfl⟩, HB.out⟩
  · have hd : decide ((n : Int) > 9) = true := by simp; omega
    have hgt : (9 : Int) < (n : Int) := by omega
    go_enter Try.func40, Try.ntmps40
    go_wp2
    go_ret
    exact ⟨.inr ⟨fun h => by have := h.1; rw [HL.out] at this; omega, rfl⟩, Below.refl _ _⟩
set_option maxRecDepth 20000 in
theorem iIsE (w : World) (B : Nat) (A : Option Addr) (n c : Nat) (ns : List Nd) (hi : Nodes w B A n ns) (hB : B ≤ w.heap.size) (hnc : n ≤ c) (hc : c ≤ 1048576) (hN : ShortN ns) (b : Bool) (hb : b = true ↔ IsE (datN ns)) :
    Calls Try.prog 13 #[.slice A n c] w fun e w' => e = .returned (.bool b) ∧ Below w.heap.size w w' := by
  have HC := Lib.hid (iTreeOf w B A n c ns hi hB hnc hc hN)
  have HBo := Lib.hid hb
  clear hi hN hb
  go_enter Try.func13, Try.ntmps13
  go_wp2_with fail
  refine HC.out.mono ?_
  rintro e w1 ⟨hout, hb1⟩
  have HB := Lib.hid hb1
  clear hb1 HC
  rcases hout with ⟨hE, t, p, _, rfl, _⟩ | ⟨hE, rfl⟩
  · obtain rfl : b = true := HBo.out.2 hE
    go_wp2
    go_ret
    exact ⟨rfl, HB.out⟩
  · obtain rfl : b = false := by
      cases b
      · rfl
      · exact absurd (HBo.out.1 rfl) hE
    go_wp2
    go_ret
    exact ⟨rfl, HB.out⟩

theorem iRev (w : World) (x : Int) : Calls Try.prog 74 #[.int .i64 x] w fun e w' => e = .returned (.int .i64 (revC x)) ∧ w' = w := by
  unfold revC
  by_cases h1 : x = 1
  · subst h1
    go_enter Try.func74, Try.ntmps74
    go_wp2
    go_ret
    exact ⟨rfl, rfl⟩
  · rw [if_neg h1]
    by_cases h2 : x = -1
    · subst h2
      go_enter Try.func74, Try.ntmps74
      go_wp2
      go_ret
      exact ⟨rfl, rfl⟩
    · rw [if_neg h2]
      have f1 : (x == 1) = false := by simpa using h1
      have f2 : (x == -1) = false := by simpa using h2
      go_enter Try.func74, Try.ntmps74
      go_wp2
      go_ret
      exact ⟨rfl, rfl⟩
/-- Two codes that cannot both hold for a whole. -/
def apartC (a b : Int) : Bool := a == 2 || b == 2 || (a != 0 && a == revC b)
theorem iDis (w : World) (a b : Int) (ha : Code a) (hb : Code b) : Calls Try.prog 75 #[.int .i64 a, .int .i64 b] w fun e w' => e = .returned (.bool (apartC a b)) ∧ w' = w := by
  have HC : Hid (∀ w1, Calls Try.prog 74 #[.int .i64 b] w1 fun e w' => e = .returned (.int .i64 (revC b)) ∧ w' = w1) := Lib.hid fun w1 => iRev w1 b
  rcases ha with rfl | rfl | rfl | rfl <;> rcases hb with rfl | rfl | rfl | rfl <;>
    (go_enter Try.func75, Try.ntmps75
     first
     | (go_wp2
        go_ret
        exact ⟨by decide, rfl⟩)
     | (go_wp2
        go_ret
        exact ⟨rfl, rfl⟩)
     | (go_wp2_with fail
        refine (HC.out _).mono ?_
        rintro e w1 ⟨rfl, rfl⟩
        go_wp2
        go_ret
        exact ⟨rfl, rfl⟩))
theorem opC_pareto {a b : Int} (ha : Code a) (hb : Code b) : opC 1 a b = if apartC a b = true then 2 else if a ≠ 0 then a else b := by
  rcases ha with rfl | rfl | rfl | rfl <;> rcases hb with rfl | rfl | rfl | rfl <;> decide
end Go.Proofs.Ytghekfigfjhkeaa.num
namespace Go.Proofs.Ytghekfigfjhkeaa.num
set_option linter.unusedVariables false

/-- Two expressions and an operator behind them. -/
theorem joinE {a b : List ND} {nd : ND} (ha : IsE a) (hb : IsE b) (hw : NoW nd.w) : IsE (a ++ b ++ [nd]) ↔ Bin nd.op ∧ a.length + b.length < 9 := by
  obtain ⟨la, ta, pa⟩ := ha
  obtain ⟨lb, tb, pb⟩ := hb
  have hs : Stk (a ++ b) [tb, ta] := pb.stk (post_stk.1 pa)
  constructor
  · rintro ⟨h1, t, ht⟩
    have h2 := post_stk.1 ht
    refine ⟨?_, by simp at h1; omega⟩
    rcases h2.inv with ⟨_, _, s, k, e⟩ | ⟨_, _, x, s, k, e⟩ | ⟨h, _⟩
    · have := hs.one k
      subst this
      simp at e
    · have := hs.one k
      simp only [List.cons.injEq] at this
      obtain ⟨_, rfl⟩ := this
      simp at e
    · exact h
  · rintro ⟨h1, h2⟩
    exact ⟨by simp; omega, _, .bin h1 hw pa pb⟩
theorem joinE' {a b : List ND} {nd : ND} (ha : IsE a) (hb : IsE b) (hw : NoW nd.w) {q : Bool} (hq : q = true ↔ Bin nd.op ∧ a.length + b.length < 9) : q = true ↔ IsE (a ++ b ++ [nd]) := hq.trans (joinE ha hb hw).symm

/-- The wishes of a list of nodes, in their order. -/
def wishL (nds : List ND) : List WD := nds.filterMap fun nd => if nd.op = 0 then some nd.w else none
theorem wishL_snoc_base {nds : List ND} {nd : ND} (h : nd.op = 0) : wishL (nds ++ [nd]) = wishL nds ++ [nd.w] := by
  unfold wishL; rw [List.filterMap_append]; simp [h]
theorem wishL_snoc_op {nds : List ND} {nd : ND} (h : nd.op ≠ 0) : wishL (nds ++ [nd]) = wishL nds := by
  unfold wishL; rw [List.filterMap_append]; simp [h]
theorem wishL_len (nds : List ND) : (wishL nds).length ≤ nds.length := List.length_filterMap_le _ _
/-- What WishesOf answers. -/
def wishesE (q : Bool) (nds : List ND) : List WD := if q then wishL nds else []
end Go.Proofs.Ytghekfigfjhkeaa.num
namespace Go.Proofs.Ytghekfigfjhkeaa.num
open Go.RowKit
set_option linter.unusedVariables false
set_option linter.unusedSimpArgs false

theorem info_wish : (Try.prog.info? 67).map (fun i => (i.zero, i.size, i.bytes)) = some (some (.agg #[.int .i64 0, .int .i64 0, .int .i64 0, .slice none 0 0, .slice none 0 0]), 5, 72) := by kernel_rfl
theorem datWs_snoc (ts : List Wi) (t : Wi) : datWs (ts ++ [t]) = datWs ts ++ [t.dat] := by unfold datWs; rw [List.map_append, List.map_singleton]
theorem short_snoc {ts : List Wi} {t : Wi} (h : ShortWs ts) (ht : t.Short) : ShortWs (ts ++ [t]) := fun u hu => by
  rcases List.mem_append.1 hu with h' | h'
  · exact h u h'
  · rw [List.mem_singleton.1 h']; exact ht
set_option maxRecDepth 20000 in
set_option maxHeartbeats 1600000 in
theorem sWishesOf (w : World) (B : Nat) (A : Option Addr) (n c : Nat) (ns : List Nd) (hi : Nodes w B A n ns) (hB : B ≤ w.heap.size) (hn : n ≤ 1048576) (hN : ShortN ns) (q : Bool) (hq : q = true ↔ IsE (datN ns)) :
    Calls Try.prog 19 #[.slice A n c] w fun e w' => ∃ v ts, e = .returned v ∧ datWs ts = wishesE q (datN ns) ∧ ShortWs ts ∧ OwnWs w' w.heap.size v ts ∧ Below w.heap.size w w' := by
  have HX := Lib.hid hi
  have HN := Lib.hid hN
  have HC : Hid (∀ w1, Below w.heap.size w w1 → Calls Try.prog 14 #[.slice A n c] w1 fun e w' => e = .returned (.bool q) ∧ Below w1.heap.size w1 w') := Lib.hid fun w1 h => sIsE w1 B A n c ns (hi.below (h.mono hB)) (Nat.le_trans hB h.size) hn hN q hq
  have HE : Hid (OwnWs (w.alloc (.cells #[] 67)) w.heap.size (.slice (some ⟨w.heap.size, 0, none⟩) 0 0) []) := Lib.hid ⟨OwnG.empty w w.heap.size (Nat.le_refl _), by simp, by simp, by simp⟩
  have HBe : Hid (Below w.heap.size w (w.alloc (.cells #[] 67))) := Lib.hid ((Below.refl _ w).alloc (Nat.le_refl _) _)
  clear hi hN hq
  go_enter Try.func19, Try.ntmps19
  go_wp2
  go_loopw [3, 4] (fun v i wr => ∃ (k : Nat) (ts : List Wi) (V : Value), k ≤ n ∧ i = .int .i64 k ∧ V = v ∧ OwnWs wr w.heap.size V ts ∧ datWs ts = wishL (datN (ns.take k)) ∧ ShortWs ts ∧ Below w.heap.size w wr ∧ (q = false → k = 0)) (fun _ i _ => n - (intOf i).toNat)
  case atStart => exact ⟨0, [], _, Nat.zero_le _, rfl, rfl, HE.out, rfl, by simp [ShortWs], HBe.out, fun _ => rfl⟩
  case round =>
    obtain ⟨k, ts, v, hk, rfl, rfl, hown, hdat, hsh, hbel, hq0⟩ := hrel
    have HO := Lib.hid hown
    have HD := Lib.hid hdat
    have HS := Lib.hid hsh
    have HB := Lib.hid hbel
    have HQ0 := Lib.hid hq0
    clear hown hdat hsh
    by_cases hlt : k < n
    · obtain ⟨b1, off, ⟨op, t⟩, rfl, hb1, hat, hwf, g0, g1, g2, g3, g4, g5⟩ := HX.out.at k hlt
      dsimp only at g0 g1 g2 g3 g4 g5
      have HT := Lib.hid hat
      have HWi : Hid (∀ W, Below wr.heap.size wr W → WiIn W B t) := Lib.hid fun W h => hwf.2.below ((hbel.mono hB).trans (h.mono (Nat.le_trans hB hbel.size)))
      have HBr : Hid (B ≤ wr.heap.size) := Lib.hid (Nat.le_trans hB hbel.size)
      have HSh : Hid t.Short := Lib.hid (HN.out _ (List.mem_of_getElem? hat))
      have hbw : b1 < w.heap.size := Nat.lt_of_lt_of_le hb1 hB
      have HG := Lib.hid (And.intro g0 (And.intro g1 (And.intro g2 (And.intro g3 (And.intro g4 g5)))))
      clear hat hwf hbel hq0 g0 g1 g2 g3 g4 g5
      go_wp2_with fail
      refine (HC.out _ HB.out).mono ?_
      rintro e w1 ⟨rfl, hb2⟩
      have HB1 := Lib.hid (below_on HB.out hb2)
      have HW1 := Lib.hid hb2
      clear hb2
      cases q
      · obtain rfl : k = 0 := HQ0.out rfl
        go_wp2
        go_ret
        refine ⟨_, ts, rfl, ?_, HS.out, HO.out.below HW1.out, HB1.out⟩
        rw [HD.out]; rfl
      · obtain ⟨h0, h1, h2, h3, h4, h5⟩ := HG.out
        have g0 := (HB1.out.cell (p := ⟨b1, off + k * 6, none⟩) hbw).trans h0
        have g1 := (HB1.out.cell (p := ⟨b1, off + k * 6 + 1, none⟩) hbw).trans h1
        have g2 := (HB1.out.cell (p := ⟨b1, off + k * 6 + 2, none⟩) hbw).trans h2
        have g3 := (HB1.out.cell (p := ⟨b1, off + k * 6 + 3, none⟩) hbw).trans h3
        have g4 := (HB1.out.cell (p := ⟨b1, off + k * 6 + 4, none⟩) hbw).trans h4
        have g5 := (HB1.out.cell (p := ⟨b1, off + k * 6 + 5, none⟩) hbw).trans h5
        clear h0 h1 h2 h3 h4 h5
        by_cases e0 : op = 0
        · subst e0
          have HCp : Hid (∀ W, Below wr.heap.size wr W → Calls Try.prog 49 #[.agg #[.int .i64 t.kind, .int .i64 t.field, .int .i64 t.value, .slice t.LA t.Ln t.Lc, .slice t.PA t.Pn t.Pc]] W fun e w' => ∃ t' : Wi, e = .returned t'.val ∧ t'.dat = t.dat ∧ t'.Short ∧ WiO w' W.heap.size t' ∧ Below W.heap.size W w') := Lib.hid fun W h => sWish_c W B t (HWi.out W h) (Nat.le_trans HBr.out h.size) HSh.out
          go_wp2_with fail
          refine (HCp.out _ HW1.out).mono ?_
          rintro e w2 ⟨t', rfl, hd', hs', ho', hb3⟩
          have HW2 := Lib.hid (below_on HW1.out hb3)
          have HB2 := Lib.hid (below_on HB1.out hb3)
          have HO2 := Lib.hid (HO.out.below HW2.out)
          have HTo : Hid (WiO w2 w.heap.size t') := Lib.hid (ho'.low HB1.out.size)
          have HAp : Hid (∀ b, t'.has b → ¬ hasWs v ts b) := Lib.hid fun b h1 h2 => by
            have q1 := (ho'.has_in h1).1
            have q2 := (HO.out.has_in h2).2
            have q3 := HW1.out.size
            omega
          have HD2 := Lib.hid hd'
          have HS2 := Lib.hid hs'
          have hlen : (ts.length + 1) * 72 ≤ 140737488355328 := by
            have h1 := congrArg List.length HD.out
            have h2 := wishL_len (datN (ns.take k))
            unfold datWs at h1
            rw [List.length_map] at h1
            have h3 : (datN (ns.take k)).length ≤ k := by unfold datN; rw [List.length_map, List.length_take]; omega
            omega
          have HLn := Lib.hid hlen
          clear hb3 hd' hs' ho' g0 g1 g2 g3 g4 g5 hlen
          unfold Wi.val
          go_wp2_with (at_builtin; refine wp_appG wishCells_len wishCells_one (T := 67) (tS := 37) Try.underlying37 info_wish rfl (by decide) w2 (by rfl) (.tmp 22) (.tmp 29) (by rfl) w.heap.size v ts (by rfl) HO2.out.r _ t' (by rfl) 1 _ rfl (by rfl) HLn.out (by decide) HB2.out.size ?_)
          intro v' w3 hr hg hat
          have HO3 := Lib.hid (HO2.out.snoc hg hat hr HTo.out HAp.out)
          have HB3 := Lib.hid (HB2.out.grown hg HB2.out.size (fun k hk => HO2.out.r.lows k hk))
          clear hr hg hat
          go_wp2
          go_roundw
          case rel =>
            refine ⟨k + 1, ts ++ [t'], _, by omega, by go_num, rfl, HO3.out, ?_, short_snoc HS.out HS2.out, HB3.out, fun h => by cases h⟩
            rw [datWs_snoc, datN_at HT.out, wishL_snoc_base rfl, HD.out, HD2.out]
            rfl
          case measure => simp [intOf]; omega
        · have f0 : (op == 0) = false := by simpa using e0
          have HO1 := Lib.hid (HO.out.below HW1.out)
          go_wp2
          go_roundw
          case rel =>
            refine ⟨k + 1, ts, _, by omega, by go_num, rfl, HO1.out, ?_, HS.out, HB1.out, fun h => by cases h⟩
            rw [datN_at HT.out, wishL_snoc_op (show (Nd.dat ⟨op, t⟩).op ≠ 0 from e0), HD.out]
          case measure => simp [intOf]; omega
    · obtain rfl : k = n := by omega
      clear hbel hq0
      go_wp2
      go_ret
      refine ⟨_, ts, rfl, ?_, HS.out, HO.out, HB.out⟩
      rw [HD.out]
      cases q
      · obtain rfl : k = 0 := HQ0.out rfl
        rfl
      · have ht : ns.take k = ns := List.take_of_length_le (by rw [HX.out.len]; exact Nat.le_refl _)
        rw [ht]; rfl

set_option maxRecDepth 20000 in
set_option maxHeartbeats 1600000 in
theorem iWishesOf (w : World) (B : Nat) (A : Option Addr) (n c : Nat) (ns : List Nd) (hi : Nodes w B A n ns) (hB : B ≤ w.heap.size) (hnc : n ≤ c) (hc : c ≤ 1048576) (hN : ShortN ns) (q : Bool) (hq : q = true ↔ IsE (datN ns)) :
    Calls Try.prog 18 #[.slice A n c] w fun e w' => ∃ v ts, e = .returned v ∧ datWs ts = wishesE q (datN ns) ∧ ShortWs ts ∧ OwnWs w' w.heap.size v ts ∧ Below w.heap.size w w' := by
  have HC := Lib.hid (iIsE w B A n c ns hi hB hnc hc hN q hq)
  have HCp : Hid (∀ w1, Below w.heap.size w w1 → Calls Try.prog 48 #[.slice A n c] w1 fun e w' => ∃ v ns', e = .returned v ∧ datN ns' = datN ns ∧ ShortN ns' ∧ OwnN w' w1.heap.size v ns' ∧ Below w1.heap.size w1 w') := Lib.hid fun w1 h => copyNodes_c w1 B A n c ns (hi.below (h.mono hB)) (Nat.le_trans hB h.size) (Nat.le_trans hnc hc) hN
  have HLn : Hid (ns.length ≤ 1048576) := Lib.hid (by rw [hi.len]; omega)
  clear hi hN hq
  go_enter Try.func18, Try.ntmps18
  go_wp2_with fail
  refine HC.out.mono ?_
  rintro e w0 ⟨rfl, hb0⟩
  have HB0 := Lib.hid hb0
  clear hb0 HC
  cases q
  · go_wp2
    go_ret
    exact ⟨_, [], rfl, rfl, by simp [ShortWs], ⟨.nil _ _, by simp, by simp, by simp⟩, HB0.out⟩
  go_wp2_with fail
  refine (HCp.out _ HB0.out).mono ?_
  rintro e w1 ⟨v0, ns', rfl, hdn, hsn, ho0, hb1⟩
  obtain ⟨A0, c0, rfl, -, hc0⟩ := ho0.r.shape
  obtain ⟨m, hm⟩ : ∃ m, ns'.length = m := ⟨_, rfl⟩
  have hm' : m ≤ 1048576 := by
    have h1 := congrArg List.length hdn
    unfold datN at h1
    rw [List.length_map, List.length_map] at h1
    have := HLn.out
    omega
  rw [hm] at ho0 ⊢
  have HN0 := Lib.hid ho0
  have HNs := Lib.hid ho0.nodes
  have HDn := Lib.hid hdn
  have HSn := Lib.hid hsn
  have HB1 := Lib.hid (below_on HB0.out hb1)
  have HBs : Hid (w.heap.size ≤ w1.heap.size) := Lib.hid HB1.out.size
  have HLm := Lib.hid hm
  have HL0 : Hid (w.heap.size ≤ w0.heap.size) := Lib.hid HB0.out.size
  clear hdn hsn ho0 hb1 hc0 hm
  go_wp2
  go_loopw [3, 12] (fun v i wr => ∃ (k : Nat) (ts : List Wi) (V : Value), k ≤ m ∧ i = .int .i64 k ∧ V = v ∧ OwnWs wr w.heap.size V ts ∧ datWs ts = wishL (datN (ns'.take k)) ∧ ShortWs ts ∧ Below w1.heap.size w1 wr ∧ (∀ t ∈ ts, ∃ (i : Nat) (x : Nd), i < k ∧ ns'[i]? = some x ∧ x.t = t) ∧ ∀ b, V.ownBlock = some b → w1.heap.size ≤ b) (fun _ i _ => m - (intOf i).toNat)
  case atStart => exact ⟨0, [], _, Nat.zero_le _, rfl, rfl, ⟨.nil _ _, by simp, by simp, by simp⟩, rfl, by simp [ShortWs], Below.refl _ _, by simp, fun b h => by cases h⟩
  case round =>
    obtain ⟨k, ts, v, hk, rfl, rfl, hown, hdat, hsh, hbel, hfrom, hrow⟩ := hrel
    have HO := Lib.hid hown
    have HD := Lib.hid hdat
    have HS := Lib.hid hsh
    have HB := Lib.hid hbel
    have HF := Lib.hid hfrom
    have HR := Lib.hid hrow
    clear hown hdat hsh hfrom hrow
    by_cases hlt : k < m
    · obtain ⟨b1, off, ⟨op, t⟩, rfl, hb1, hat, hwf, g0, g1, g2, g3, g4, g5⟩ := HNs.out.at k hlt
      dsimp only at g0 g1 g2 g3 g4 g5
      have HT := Lib.hid hat
      have g0 := (hbel.cell (p := ⟨b1, off + k * 6, none⟩) hb1).trans g0
      have g1 := (hbel.cell (p := ⟨b1, off + k * 6 + 1, none⟩) hb1).trans g1
      have g2 := (hbel.cell (p := ⟨b1, off + k * 6 + 2, none⟩) hb1).trans g2
      have g3 := (hbel.cell (p := ⟨b1, off + k * 6 + 3, none⟩) hb1).trans g3
      have g4 := (hbel.cell (p := ⟨b1, off + k * 6 + 4, none⟩) hb1).trans g4
      have g5 := (hbel.cell (p := ⟨b1, off + k * 6 + 5, none⟩) hb1).trans g5
      obtain ⟨OB, hOB⟩ : ∃ OB : Obj, OB = .cells #[.int .i64 op, .int .i64 t.kind, .int .i64 t.field, .int .i64 t.value, .slice t.LA t.Ln t.Lc, .slice t.PA t.Pn t.Pc] 69 := ⟨_, rfl⟩
      have HW2 : Hid (Below wr.heap.size wr (wr.alloc (.cells #[.int .i64 op, .int .i64 t.kind, .int .i64 t.field, .int .i64 t.value, .slice t.LA t.Ln t.Lc, .slice t.PA t.Pn t.Pc] 69))) := Lib.hid ((Below.refl _ _).alloc (Nat.le_refl _) _)
      have HO2 := Lib.hid (HO.out.below HW2.out)
      have HB2 := Lib.hid (below_on HB.out HW2.out)
      have HTo : Hid (WiO (wr.alloc (.cells #[.int .i64 op, .int .i64 t.kind, .int .i64 t.field, .int .i64 t.value, .slice t.LA t.Ln t.Lc, .slice t.PA t.Pn t.Pc] 69)) w.heap.size t) := Lib.hid (((HN0.out.x k _ hat).2.low HL0.out).below HB2.out)
      have HAp : Hid (∀ b, t.has b → ¬ hasWs v ts b) := Lib.hid fun b h1 h2 => by
        have q1 := ((HN0.out.x k _ hat).2.has_in h1).2
        rcases h2 with h2 | ⟨u, hu, h2⟩
        · have := HR.out b h2; omega
        · obtain ⟨i, x, hik, hx, rfl⟩ := HF.out u hu
          exact HN0.out.d i k x _ b hik hx hat h2 h1
      have HSt : Hid t.Short := Lib.hid (HSn.out _ (List.mem_of_getElem? hat))
      have hlen : (ts.length + 1) * 72 ≤ 140737488355328 := by
        have h1 := congrArg List.length HD.out
        have h2 := wishL_len (datN (ns'.take k))
        unfold datWs at h1
        rw [List.length_map] at h1
        have h3 : (datN (ns'.take k)).length ≤ k := by unfold datN; rw [List.length_map, List.length_take]; omega
        omega
      have HLn2 := Lib.hid hlen
      clear hat hwf hbel hlen hOB OB
      by_cases e0 : op = 0
      · subst e0
        go_wp2_with (at_builtin; refine wp_appG wishCells_len wishCells_one (T := 67) (tS := 37) Try.underlying37 info_wish rfl (by decide) _ (by rfl) (.tmp 19) (.tmp 22) (by rfl) w.heap.size v ts (by rfl) HO2.out.r _ t (by rfl) 1 (wr.heap.size + 1) (by simp) (by rfl) HLn2.out (by decide) (Nat.le_trans HBs.out HB2.out.size) ?_)
        intro v' w3 hr hg hat
        have HO3 := Lib.hid (HO2.out.snoc hg (by simpa using hat) hr HTo.out HAp.out)
        have HB3 := Lib.hid (HB2.out.grown hg HB2.out.size (fun k hk => HR.out k hk))
        have HR3 : Hid (∀ b, v'.ownBlock = some b → w1.heap.size ≤ b) := Lib.hid fun b hb => by
          rcases hat with q | q
          · exact HR.out b (q ▸ hb)
          · rw [q] at hb
            have h1 := Option.some.inj hb
            have h2 := HB2.out.size
            simp at h2
            omega
        clear hr hg hat g0 g1 g2 g3 g4 g5
        go_wp2
        go_roundw
        case rel =>
          refine ⟨k + 1, ts ++ [t], _, by omega, by go_num, rfl, HO3.out, ?_, short_snoc HS.out HSt.out, HB3.out, fun u hu => ?_, HR3.out⟩
          · rw [datWs_snoc, datN_at HT.out, wishL_snoc_base rfl, HD.out]
            rfl
          · rcases List.mem_append.1 hu with h | h
            · obtain ⟨i, x, h1, h2, h3⟩ := HF.out u h
              exact ⟨i, x, by omega, h2, h3⟩
            · exact ⟨k, _, by omega, HT.out, (List.mem_singleton.1 h).symm⟩
        case measure => simp [intOf]; omega
      · have f0 : (op == 0) = false := by simpa using e0
        go_wp2
        go_roundw
        case rel =>
          refine ⟨k + 1, ts, _, by omega, by go_num, rfl, HO2.out, ?_, HS.out, HB2.out, fun u hu => ?_, HR.out⟩
          · rw [datN_at HT.out, wishL_snoc_op (show (Nd.dat ⟨op, t⟩).op ≠ 0 from e0), HD.out]
          · obtain ⟨i, x, h1, h2, h3⟩ := HF.out u hu
            exact ⟨i, x, by omega, h2, h3⟩
        case measure => simp [intOf]; omega
    · obtain rfl : k = m := by omega
      clear hbel
      go_wp2
      go_ret
      refine ⟨_, ts, rfl, ?_, HS.out, HO.out, HB1.out.trans (HB.out.mono HBs.out)⟩
      have ht : ns'.take k = ns' := List.take_of_length_le (by rw [HLm.out]; exact Nat.le_refl _)
      rw [HD.out, ht, HDn.out]
      rfl
end Go.Proofs.Ytghekfigfjhkeaa.num
