/- Contracts of functions that the laws of this chapter call, packed. -/
import Derived.Test.YtceiocdemhkcdaaGreatExpCopy
import Derived.Test.YtceiocdemhkcdaaGreatWishSpecB
import Derived.Test.YtceiocdemhkcdaaGreatExpOpen
import Derived.Test.YtceiocdemhkcdaaGreatVotMem
import Derived.Test.YtceiocdemhkcdaaGreatRowG
import Derived.Test.YtceiocdemhkcdaaGreatItemCopy
import Derived.Deep.OwnRows
import Derived.Maps.AppendAt
import Derived.Test.YtceiocdemhkcdaaGreatPairMarkI
import Derived.Test.YtceiocdemhkcdaaGreatPairMark
import Derived.Test.YtceiocdemhkcdaaGreatOnlySet
import Derived.Test.YtceiocdemhkcdaaGreatItemEq
import Derived.Test.YtceiocdemhkcdaaGreatRegion
import Derived.Test.YtceiocdemhkcdaaGreatPairEq
import Derived.Test.YtceiocdemhkcdaaGreatWishSpec
import Derived.Test.YtceiocdemhkcdaaGreatPairProg
import Derived.Test.YtceiocdemhkcdaaGreatWishVal
import Derived.Test.YtceiocdemhkcdaaGreatWishSpecC
import Derived.BigRegion
import Derived.Test.YtceiocdemhkcdaaGreatWishCmp
import Derived.Test.YtceiocdemhkcdaaGreatWishSpecD
import Derived.Test.YtceiocdemhkcdaaGreatWishLaw
import Derived.Test.YtceiocdemhkcdaaGreatItemImpl
import Derived.Test.YtceiocdemhkcdaaGreatOwnInt
import Derived.Laws.OwnMore
import Derived.Lib.SlFresh
import Derived.Test.YtceiocdemhkcdaaGreatItemIds
import Derived.Test.YtceiocdemhkcdaaGreatExpMath
namespace Go.Proofs.YtceiocdemhkcdaaGreat.num
set_option maxRecDepth 20000
open Go.RowKit
set_option linter.unusedVariables false
set_option linter.unusedSimpArgs false

set_option maxRecDepth 20000 in
theorem sNoWish (w : World) (t : Wi) (hl : t.ls.length = t.Ln) (hp : t.ps.length = t.Pn) (q : Bool) (hq : q = true ↔ NoW t.dat) :
    Calls Tryz.prog 97 #[t.val] w fun e w' => e = .returned (.bool q) ∧ Below w.heap.size w w' := by
  obtain ⟨k, f, v, LA, Ln, Lc, ls, PA, Pn, Pc, ps⟩ := t
  simp only at hl hp
  have HW1 : Hid (∀ o : Obj, Below w.heap.size w (w.alloc o)) := Lib.hid fun o => (Below.refl _ w).alloc (Nat.le_refl _) _
  have HNo : Hid (¬ (k = 0 ∧ f = 0 ∧ v = 0 ∧ Ln = 0 ∧ Pn = 0) → q = false) := Lib.hid fun h => by
    cases q
    · rfl
    · obtain ⟨h1, h2, h3, h4, h5⟩ := hq.1 rfl
      simp only [Wi.dat] at h1 h2 h3 h4 h5
      exact absurd ⟨h1, h2, h3, by rw [← hl, h4]; rfl, by rw [← hp, h5]; rfl⟩ h
  have HYes : Hid (k = 0 → f = 0 → v = 0 → Ln = 0 → Pn = 0 → q = true) := Lib.hid fun h1 h2 h3 h4 h5 => hq.2 ⟨h1, h2, h3, List.eq_nil_of_length_eq_zero (by show ls.length = 0; omega), List.eq_nil_of_length_eq_zero (by show ps.length = 0; omega)⟩
  unfold Wi.val
  clear hq hl hp
  by_cases e1 : k = 0
  · by_cases e2 : f = 0
    · by_cases e3 : v = 0
      · by_cases e4 : Ln = 0
        · by_cases e5 : Pn = 0
          · obtain rfl := HYes.out e1 e2 e3 e4 e5
            subst e1 e2 e3 e4 e5
            go_enter Tryz.func97, Tryz.ntmps97
            go_wp2
            go_ret
            exact ⟨rfl, HW1.out _⟩
          · obtain rfl := HNo.out fun h => e5 h.2.2.2.2
            subst e1 e2 e3 e4
            have hx : ((Pn : Int) == 0) = false := by simpa using e5
            go_enter Tryz.func97, Tryz.ntmps97
            go_wp2
            go_ret
            exact ⟨rfl, HW1.out _⟩
        · obtain rfl := HNo.out fun h => e4 h.2.2.2.1
          subst e1 e2 e3
          have hx : ((Ln : Int) == 0) = false := by simpa using e4
          go_enter Tryz.func97, Tryz.ntmps97
          go_wp2
          go_ret
          exact ⟨rfl, HW1.out _⟩
      · obtain rfl := HNo.out fun h => e3 h.2.2.1
        subst e1 e2
        have hx : (v == 0) = false := by simpa using e3
        go_enter Tryz.func97, Tryz.ntmps97
        go_wp2
        go_ret
        exact ⟨rfl, HW1.out _⟩
    · obtain rfl := HNo.out fun h => e2 h.2.1
      subst e1
      have hx : (f == 0) = false := by simpa using e2
      go_enter Tryz.func97, Tryz.ntmps97
      go_wp2
      go_ret
      exact ⟨rfl, HW1.out _⟩
  · obtain rfl := HNo.out fun h => e1 h.1
    have hx : (k == 0) = false := by simpa using e1
    go_enter Tryz.func97, Tryz.ntmps97
    go_wp2
    go_ret
    exact ⟨rfl, HW1.out _⟩

/-- The data of a slice of nodes. -/
def datN (ns : List Nd) : List ND := ns.map Nd.dat
theorem datN_at {ns : List Nd} {k : Nat} {x : Nd} (h : ns[k]? = some x) : datN (ns.take (k + 1)) = datN (ns.take k) ++ [x.dat] := by
  unfold datN; rw [ptake_at h, List.map_append, List.map_singleton]
theorem datN_split (ns : List Nd) (k : Nat) : datN ns = datN (ns.take k) ++ datN (ns.drop k) := by
  unfold datN; rw [← List.map_append, List.take_append_drop]
theorem noE_base {L : List ND} {nd : ND} {st : List Tr} (h0 : nd.op = 0) (hw : ¬ IsW nd.w) : ¬ ∃ s, Stk (L ++ [nd]) s := fun ⟨s, hs⟩ => by
  rcases hs.inv with ⟨_, h, _⟩ | ⟨h, _⟩ | ⟨h, _⟩
  · exact hw h
  · omega
  · exact (bin_ne h).1 h0
theorem noE_dual {L : List ND} {nd : ND} {st : List Tr} (hst : Stk L st) (h3 : nd.op = 3) (hw : st.length < 1 ∨ ¬ NoW nd.w) : ¬ ∃ s, Stk (L ++ [nd]) s := fun ⟨s, hs⟩ => by
  rcases hs.inv with ⟨h, _⟩ | ⟨_, h, a, s', k, _⟩ | ⟨h, _⟩
  · omega
  · rcases hw with hw | hw
    · rw [hst.one k] at hw; simp at hw
    · exact hw h
  · exact (bin_ne h).2 h3
theorem noE_bin {L : List ND} {nd : ND} {st : List Tr} (hst : Stk L st) (hb : Bin nd.op) (hw : st.length < 2 ∨ ¬ NoW nd.w) : ¬ ∃ s, Stk (L ++ [nd]) s := fun ⟨s, hs⟩ => by
  rcases hs.inv with ⟨h, _⟩ | ⟨h, _⟩ | ⟨_, h, a, b, s', k, _⟩
  · exact (bin_ne hb).1 h
  · exact (bin_ne hb).2 h
  · rcases hw with hw | hw
    · rw [hst.one k] at hw; simp at hw; omega
    · exact hw h
theorem noE_odd {L : List ND} {nd : ND} (h0 : nd.op ≠ 0) (h3 : nd.op ≠ 3) (hb : ¬ Bin nd.op) : ¬ ∃ s, Stk (L ++ [nd]) s := fun ⟨s, hs⟩ => by
  rcases hs.inv with ⟨h, _⟩ | ⟨h, _⟩ | ⟨h, _⟩
  · exact h0 h
  · exact h3 h
  · exact hb h

set_option maxRecDepth 20000 in
set_option maxHeartbeats 1600000 in
theorem sIsEW (w : World) (B : Nat) (A : Option Addr) (n c : Nat) (ns : List Nd) (hi : Nodes w B A n ns) (hB : B ≤ w.heap.size) (hn : n ≤ 1048577) (hN : ShortN ns) (b : Bool) (hb : b = true ↔ IsE (datN ns)) :
    Calls Tryz.prog 61 #[.slice A n c] w fun e w' => e = .returned (.bool b) ∧ Below w.heap.size w w' := by
  have HX := Lib.hid hi
  have HN := Lib.hid hN
  have HBo := Lib.hid hb
  have HNo : Hid (∀ k, (¬ ∃ s, Stk (datN (ns.take k)) s) → b = false) := Lib.hid fun k h => by
    cases b
    · rfl
    · have h1 := hb.1 rfl
      rw [datN_split ns k] at h1
      exact absurd h1 (isE_pre h)
  clear hi hN hb
  go_enter Tryz.func61, Tryz.ntmps61
  go_wp2
  go_loopw [3, 4] (fun d i wr => ∃ (k : Nat) (dv : Int) (st : List Tr), k ≤ n ∧ i = .int .i64 k ∧ d = .int .i64 dv ∧ dv = st.length ∧ dv ≤ k ∧ Stk (datN (ns.take k)) st ∧ Below w.heap.size w wr) (fun _ i _ => n - (intOf i).toNat)
  case atStart => exact ⟨0, 0, [], Nat.zero_le _, rfl, rfl, rfl, by omega, .nil, Below.refl _ _⟩
  case round =>
    obtain ⟨k, dv, st, hk, rfl, rfl, hdv, hdk, hst, hbel⟩ := hrel
    have HSt := Lib.hid hst
    have HDv := Lib.hid hdv
    have HB := Lib.hid hbel
    have hd0 : 0 ≤ dv := by omega
    clear hst hdv
    by_cases hlt : k < n
    · obtain ⟨b1, off, ⟨op, t⟩, rfl, hb1, hat, hwf, g0, g1, g2, g3, g4, g5⟩ := HX.out.at k hlt
      dsimp only at g0 g1 g2 g3 g4 g5
      have HT := Lib.hid hat
      have g0 := (hbel.cell (p := ⟨b1, off + k * 6, none⟩) (Nat.lt_of_lt_of_le hb1 hB)).trans g0
      have g1 := (hbel.cell (p := ⟨b1, off + k * 6 + 1, none⟩) (Nat.lt_of_lt_of_le hb1 hB)).trans g1
      have g2 := (hbel.cell (p := ⟨b1, off + k * 6 + 2, none⟩) (Nat.lt_of_lt_of_le hb1 hB)).trans g2
      have g3 := (hbel.cell (p := ⟨b1, off + k * 6 + 3, none⟩) (Nat.lt_of_lt_of_le hb1 hB)).trans g3
      have g4 := (hbel.cell (p := ⟨b1, off + k * 6 + 4, none⟩) (Nat.lt_of_lt_of_le hb1 hB)).trans g4
      have g5 := (hbel.cell (p := ⟨b1, off + k * 6 + 5, none⟩) (Nat.lt_of_lt_of_le hb1 hB)).trans g5
      have hlt' : (k : Int) < (n : Int) := by omega
      have HWi : Hid (WiIn wr B t) := Lib.hid (hwf.2.below (hbel.mono hB))
      have hBr : B ≤ wr.heap.size := Nat.le_trans hB hbel.size
      have HSh : Hid t.Short := Lib.hid (HN.out _ (List.mem_of_getElem? hat))
      have HE : Hid (datN (ns.take (k + 1)) = datN (ns.take k) ++ [⟨op, t.dat⟩]) := Lib.hid (datN_at hat)
      clear hat hwf hbel
      have hvw : t.val = .agg #[.int .i64 t.kind, .int .i64 t.field, .int .i64 t.value, .slice t.LA t.Ln t.Lc, .slice t.PA t.Pn t.Pc] := rfl
      by_cases e0 : op = 0
      · subst e0
        obtain ⟨q, hq⟩ := bool_of (IsW t.dat)
        have HC : Hid (Calls Tryz.prog 96 #[.agg #[.int .i64 t.kind, .int .i64 t.field, .int .i64 t.value, .slice t.LA t.Ln t.Lc, .slice t.PA t.Pn t.Pc]] wr fun e w' => e = .returned (.bool q) ∧ Below wr.heap.size wr w') := Lib.hid (by rw [← hvw]; exact sIsWish wr B t HWi.out hBr HSh.out q hq)
        have HQ := Lib.hid hq
        clear hq hvw
        go_wp2_with fail
        refine HC.out.mono ?_
        rintro e w1 ⟨rfl, hb2⟩
        have HB1 := Lib.hid (below_on HB.out hb2)
        clear hb2 HC
        cases q
        · obtain rfl := HNo.out (k + 1) (by rw [HE.out]; exact noE_base (st := st) rfl (fun h => by have := HQ.out.2 h; cases this))
          go_wp2
          go_ret
          exact ⟨rfl, HB1.out⟩
        · have HS1 : Hid (Stk (datN (ns.take (k + 1))) (.base t.dat :: st)) := Lib.hid (by rw [HE.out]; exact .base HSt.out rfl (HQ.out.1 rfl))
          go_wp2
          go_roundw
          case rel => exact ⟨k + 1, dv + 1, _, by omega, by go_num, by go_num, by rw [HDv.out]; rfl, by omega, HS1.out, HB1.out⟩
          case measure => simp [intOf]; omega
      · have f0 : (op == 0) = false := by simpa using e0
        by_cases e3 : op = 3
        · subst e3
          clear f0
          obtain ⟨q, hq⟩ := bool_of (NoW t.dat)
          have HC : Hid (Calls Tryz.prog 97 #[.agg #[.int .i64 t.kind, .int .i64 t.field, .int .i64 t.value, .slice t.LA t.Ln t.Lc, .slice t.PA t.Pn t.Pc]] wr fun e w' => e = .returned (.bool q) ∧ Below wr.heap.size wr w') := Lib.hid (by rw [← hvw]; exact sNoWish wr t HWi.out.l.1 HWi.out.p.1 q hq)
          have HQ := Lib.hid hq
          clear hq hvw
          by_cases h1 : dv < 1
          · obtain rfl := HNo.out (k + 1) (by rw [HE.out]; exact noE_dual HSt.out rfl (.inl (by have := HDv.out; omega)))
            go_wp2
            go_ret
            exact ⟨rfl, HB.out⟩
          · have hd : decide (dv < 1) = false := by simpa using h1
            have Hh1 := Lib.hid h1
            clear h1
            go_wp2_with fail
            refine HC.out.mono ?_
            rintro e w1 ⟨rfl, hb2⟩
            have HB1 := Lib.hid (below_on HB.out hb2)
            clear hb2 HC
            cases q
            · obtain rfl := HNo.out (k + 1) (by rw [HE.out]; exact noE_dual HSt.out rfl (.inr (fun h => by have := HQ.out.2 h; cases this)))
              go_wp2
              go_ret
              exact ⟨rfl, HB1.out⟩
            · have HS1 : Hid (∃ s, Stk (datN (ns.take (k + 1))) s ∧ dv = s.length) := Lib.hid (by
                match st, HSt, HDv, Hh1 with
                | [], _, h, h' => exact absurd h.out (by have := h'.out; simp; omega)
                | a :: s, h, h', _ => exact ⟨.dual a :: s, by rw [HE.out]; exact .dual h.out rfl (HQ.out.1 rfl), by rw [h'.out]; rfl⟩)
              go_wp2
              go_roundw
              case rel =>
                obtain ⟨s, h1, h2⟩ := HS1.out
                exact ⟨k + 1, dv, s, by omega, by go_num, rfl, h2, by omega, h1, HB1.out⟩
              case measure => simp [intOf]; omega
        · have f3 : (op == 3) = false := by simpa using e3
          obtain ⟨qb, hqb⟩ := bool_of (Bin op)
          have HQb := Lib.hid hqb
          clear hqb
          cases qb
          · have hnb : ¬ Bin op := fun h => by have := HQb.out.2 h; cases this
            obtain rfl := HNo.out (k + 1) (by rw [HE.out]; exact noE_odd e0 e3 hnb)
            have f1 : (op == 1) = false := by
              have : op ≠ 1 := fun h => hnb (.inl h)
              simpa using this
            have f2 : (op == 2) = false := by
              have : op ≠ 2 := fun h => hnb (.inr (.inl h))
              simpa using this
            have f4 : (op == 4) = false := by
              have : op ≠ 4 := fun h => hnb (.inr (.inr h))
              simpa using this
            clear hnb hvw e0 e3
            go_wp2
            go_ret
            exact ⟨rfl, HB.out⟩
          · obtain ⟨q, hq⟩ := bool_of (NoW t.dat)
            have HC : Hid (Calls Tryz.prog 97 #[.agg #[.int .i64 t.kind, .int .i64 t.field, .int .i64 t.value, .slice t.LA t.Ln t.Lc, .slice t.PA t.Pn t.Pc]] wr fun e w' => e = .returned (.bool q) ∧ Below wr.heap.size wr w') := Lib.hid (by rw [← hvw]; exact sNoWish wr t HWi.out.l.1 HWi.out.p.1 q hq)
            have HQ := Lib.hid hq
            have HBin : Hid (Bin op) := Lib.hid (HQb.out.1 rfl)
            have HOr : Hid (op = 1 ∨ op = 2 ∨ op = 4) := Lib.hid (HQb.out.1 rfl)
            clear hq hvw HQb e0 e3 f0 f3
            have HGo : Hid (dv < 1 ∨ True) := Lib.hid (.inr trivial)
            by_cases h1 : dv < 2
            · obtain rfl := HNo.out (k + 1) (by rw [HE.out]; exact noE_bin HSt.out HBin.out (.inl (by have := HDv.out; omega)))
              rcases HOr.out with rfl | rfl | rfl
              · go_wp2
                go_ret
                exact ⟨rfl, HB.out⟩
              · go_wp2
                go_ret
                exact ⟨rfl, HB.out⟩
              · go_wp2
                go_ret
                exact ⟨rfl, HB.out⟩
            · have hd : decide (dv < 2) = false := by simpa using h1
              have Hh1 := Lib.hid h1
              have HS1 : Hid (q = true → ∃ s, Stk (datN (ns.take (k + 1))) s ∧ dv - 1 = s.length) := Lib.hid (by
                intro hqt
                match st, HSt, HDv, Hh1 with
                | [], _, h, h' => exact absurd h.out (by have := h'.out; simp; omega)
                | [_], _, h, h' => exact absurd h.out (by have := h'.out; simp; omega)
                | y :: x :: s, h, h', _ => exact ⟨.bin op x y :: s, by rw [HE.out]; exact .bin h.out HBin.out (HQ.out.1 hqt), by rw [h'.out]; simp⟩)
              have HF : Hid (q = false → b = false) := Lib.hid fun hqf => HNo.out (k + 1) (by rw [HE.out]; exact noE_bin HSt.out HBin.out (.inr (fun h => by have := HQ.out.2 h; rw [hqf] at this; cases this)))
              clear h1
              have HB0 := Lib.hid HB.out
              rcases HOr.out with rfl | rfl | rfl
              · go_wp2_with fail
                refine HC.out.mono ?_
                rintro e w1 ⟨rfl, hb2⟩
                have HB1 := Lib.hid (below_on HB.out hb2)
                clear hb2 HC
                cases q
                · obtain rfl := HF.out rfl
                  go_wp2
                  go_ret
                  exact ⟨rfl, HB1.out⟩
                · go_wp2
                  go_roundw
                  case rel =>
                    obtain ⟨s, h1, h2⟩ := HS1.out (by first | rfl | trivial)
                    exact ⟨k + 1, dv - 1, s, by omega, by go_num, by go_num, h2, by omega, h1, HB1.out⟩
                  case measure => simp [intOf]; omega
              · go_wp2_with fail
                refine HC.out.mono ?_
                rintro e w1 ⟨rfl, hb2⟩
                have HB1 := Lib.hid (below_on HB.out hb2)
                clear hb2 HC
                cases q
                · obtain rfl := HF.out rfl
                  go_wp2
                  go_ret
                  exact ⟨rfl, HB1.out⟩
                · go_wp2
                  go_roundw
                  case rel =>
                    obtain ⟨s, h1, h2⟩ := HS1.out (by first | rfl | trivial)
                    exact ⟨k + 1, dv - 1, s, by omega, by go_num, by go_num, h2, by omega, h1, HB1.out⟩
                  case measure => simp [intOf]; omega
              · go_wp2_with fail
                refine HC.out.mono ?_
                rintro e w1 ⟨rfl, hb2⟩
                have HB1 := Lib.hid (below_on HB.out hb2)
                clear hb2 HC
                cases q
                · obtain rfl := HF.out rfl
                  go_wp2
                  go_ret
                  exact ⟨rfl, HB1.out⟩
                · go_wp2
                  go_roundw
                  case rel =>
                    obtain ⟨s, h1, h2⟩ := HS1.out (by first | rfl | trivial)
                    exact ⟨k + 1, dv - 1, s, by omega, by go_num, by go_num, h2, by omega, h1, HB1.out⟩
                  case measure => simp [intOf]; omega
    · obtain rfl : k = n := by omega
      have HF : Hid (b = true ↔ k ≤ 9 ∧ dv = 1) := Lib.hid (by
        rw [HBo.out]
        have h := HSt.out
        rw [ptake_all HX.out.len] at h
        rw [isE_stk h]
        have hl : (datN ns).length = k := by unfold datN; rw [List.length_map, HX.out.len]
        rw [hl]
        have := HDv.out
        omega)
      clear hbel
      by_cases h1 : dv = 1
      · subst h1
        by_cases h9 : k ≤ 9
        · obtain rfl : b = true := HF.out.2 ⟨h9, rfl⟩
          have hd : decide ((k : Int) ≤ 9) = true := by simp; omega
          go_wp2
          go_ret
          exact ⟨by simp <;> omega, HB.out⟩
        · obtain rfl : b = false := by
            cases b
            · rfl
            · exact absurd (HF.out.1 rfl).1 h9
          go_wp2
          go_ret
          exact ⟨by simp <;> omega, HB.out⟩
      · obtain rfl : b = false := by
          cases b
          · rfl
          · exact absurd (HF.out.1 rfl).2 h1
        have hd : (dv == 1) = false := by simpa using h1
        go_wp2
        go_ret
        exact ⟨rfl, HB.out⟩
theorem sIsE (w : World) (B : Nat) (A : Option Addr) (n c : Nat) (ns : List Nd) (hi : Nodes w B A n ns) (hB : B ≤ w.heap.size) (hn : n ≤ 1048576) (hN : ShortN ns) (b : Bool) (hb : b = true ↔ IsE (datN ns)) :
    Calls Tryz.prog 61 #[.slice A n c] w fun e w' => e = .returned (.bool b) ∧ Below w.heap.size w w' := sIsEW w B A n c ns hi hB (Nat.le_succ_of_le hn) hN b hb
end Go.Proofs.YtceiocdemhkcdaaGreat.num
namespace Go.Proofs.YtceiocdemhkcdaaGreat.num
set_option maxRecDepth 20000
open Go.RowKit
set_option linter.unusedVariables false

/-- A copy of the nodes ns at block lo. -/
structure CopyN (w : World) (lo n : Nat) (ns ns' : List Nd) : Prop where
  dat : datN ns' = datN ns
  short : ShortN ns'
  own : OwnN w lo (.slice (some ⟨lo, 0, none⟩) n n) ns'
theorem CopyN.step {w w' : World} {lo n : Nat} {ns ns' : List Nd} (h : CopyN w lo n ns ns') (hb : Below w.heap.size w w') : CopyN w' lo n ns ns' := ⟨h.dat, h.short, h.own.below hb⟩
theorem CopyN.nodes {w : World} {lo n : Nat} {ns ns' : List Nd} (h : CopyN w lo n ns ns') : Nodes w w.heap.size (some ⟨lo, 0, none⟩) n ns' := h.own.nodes
theorem CopyN.lt {w : World} {lo n : Nat} {ns ns' : List Nd} (h : CopyN w lo n ns ns') : lo < w.heap.size := h.own.r.tops lo rfl
theorem toNodes_w (w : World) (B : Nat) (A : Option Addr) (n c : Nat) (ns : List Nd) (hi : Nodes w B A n ns) (hB : B ≤ w.heap.size) (hn : n ≤ 1048576) (hN : ShortN ns) :
    Calls Tryz.prog 76 #[.slice A n c] w fun e w' => ∃ ns', e = .returned (.slice (some ⟨w.heap.size, 0, none⟩) n n) ∧ CopyN w' w.heap.size n ns ns' ∧ Below w.heap.size w w' :=
  (toNodes_c w B A n c ns hi hB hn hN).mono fun _ _ ⟨ns', h1, h2, h3, h4, h5⟩ => ⟨ns', h1, ⟨h2, h3, h4⟩, h5⟩
theorem eqNodes_w (w : World) (lo lo' n : Nat) (ns xs ys : List Nd) (h1 : CopyN w lo n ns xs) (h2 : CopyN w lo' n ns ys) (hn : n ≤ 1048576) :
    Calls Tryz.prog 78 #[.slice (some ⟨lo, 0, none⟩) n n, .slice (some ⟨lo', 0, none⟩) n n] w fun e w' => e = .returned (.bool true) ∧ Below w.heap.size w w' :=
  eqNodes_c w w.heap.size _ _ n n n n xs ys h1.nodes h2.nodes (Nat.le_refl _) hn h1.short true ⟨fun _ => by have := h1.dat.trans h2.dat.symm; exact this, fun _ => rfl⟩
end Go.Proofs.YtceiocdemhkcdaaGreat.num
namespace Go.Proofs.YtceiocdemhkcdaaGreat.num
set_option maxRecDepth 20000
open Go.RowKit
set_option linter.unusedVariables false
set_option linter.unusedSimpArgs false

/-- The blocks of the slice v and of its voters. -/
def hasV (v : Value) (gs : List Vo) (b : Nat) : Prop := v.ownBlock = some b ∨ ∃ x ∈ gs, hasN x.val x.ns b
/-- The voters lie one behind the other, each in blocks of its own. -/
structure Lined (w : World) (los : Nat → Nat) (gs : List Vo) : Prop where
  mono : ∀ i j, i ≤ j → los i ≤ los j
  at' : ∀ (k : Nat) (x : Vo), gs[k]? = some x → OwnN w (los k) x.val x.ns ∧ ∀ b, hasN x.val x.ns b → b < los (k + 1)
/-- The slice of voters v and all that it holds are the call's own. -/
structure OwnV (w : World) (B : Nat) (v : Value) (gs : List Vo) : Prop where
  r : OwnG 79 voC 1 w B v gs
  l : ∃ los : Nat → Nat, Lined w los gs ∧ B ≤ los 0 ∧ ∀ b, v.ownBlock = some b → b < los 0
theorem OwnV.has_in {w : World} {B : Nat} {v : Value} {gs : List Vo} (h : OwnV w B v gs) {b : Nat} (hb : hasV v gs b) : B ≤ b ∧ b < w.heap.size := by
  rcases hb with hb | ⟨x, hx, hb⟩
  · exact ⟨h.r.lows b hb, h.r.tops b hb⟩
  · obtain ⟨k, hk, rfl⟩ := List.getElem_of_mem hx
    obtain ⟨los, hl, h0, -⟩ := h.l
    have h1 := (hl.at' k _ (List.getElem?_eq_getElem hk)).1.has_in hb
    have h2 := hl.mono 0 k (Nat.zero_le _)
    omega
theorem Lined.blocks {w w' : World} {los : Nat → Nat} {gs : List Vo} (h : Lined w los gs) (hb : ∀ b, (∃ x ∈ gs, hasN x.val x.ns b) → w'.heap[b]? = w.heap[b]?) : Lined w' los gs :=
  ⟨h.mono, fun k x hk => ⟨(h.at' k x hk).1.blocks fun b k' => hb b ⟨x, List.mem_of_getElem? hk, k'⟩, (h.at' k x hk).2⟩⟩
theorem OwnV.blocks {w w' : World} {B : Nat} {v : Value} {gs : List Vo} (h : OwnV w B v gs) (hb : ∀ b, hasV v gs b → w'.heap[b]? = w.heap[b]?) : OwnV w' B v gs :=
  ⟨h.r.blocks fun k hk => hb k (.inl hk), by
    obtain ⟨los, hl, h0, h1⟩ := h.l
    exact ⟨los, hl.blocks fun b hb' => hb b (.inr hb'), h0, h1⟩⟩
theorem OwnV.below {w w' : World} {B : Nat} {v : Value} {gs : List Vo} (h : OwnV w B v gs) (hb : Below w.heap.size w w') : OwnV w' B v gs := h.blocks fun b k => hb.block b (h.has_in k).2
theorem OwnV.votes {w : World} {B : Nat} {A : Option Addr} {n c : Nat} {gs : List Vo} (h : OwnV w B (.slice A n c) gs) : Votes w w.heap.size A n gs :=
  ⟨h.r.read voC_len, fun x hx => by
    obtain ⟨k, hk, rfl⟩ := List.getElem_of_mem hx
    obtain ⟨los, hl, -, -⟩ := h.l
    exact (hl.at' k _ (List.getElem?_eq_getElem hk)).1.nodes⟩
/-- A copy of the voters gs at block lo. -/
structure CopyV (w : World) (lo n : Nat) (gs gs' : List Vo) : Prop where
  dat : gs'.map Vo.dat = gs.map Vo.dat
  short : ShortV gs'
  sum : sumV gs' = sumV gs
  caps : ∀ x ∈ gs', x.c = x.n
  own : OwnV w lo (.slice (some ⟨lo, 0, none⟩) n n) gs'
theorem CopyV.step {w w' : World} {lo n : Nat} {gs gs' : List Vo} (h : CopyV w lo n gs gs') (hb : Below w.heap.size w w') : CopyV w' lo n gs gs' := ⟨h.dat, h.short, h.sum, h.caps, h.own.below hb⟩
theorem CopyV.votes {w : World} {lo n : Nat} {gs gs' : List Vo} (h : CopyV w lo n gs gs') : Votes w w.heap.size (some ⟨lo, 0, none⟩) n gs' := h.own.votes
theorem CopyV.lt {w : World} {lo n : Nat} {gs gs' : List Vo} (h : CopyV w lo n gs gs') : lo < w.heap.size := h.own.r.tops lo rfl
def zV (_ : Nat) : Value := .slice none 0 0
def voCell (gs : List Vo) (j : Nat) : Value := cellG voC zV gs j
theorem info_voter : (Tryz.prog.info? 79).map (fun i => (i.zero, i.size, i.bytes)) = some (some (.slice none 0 0), 1, 24) := by kernel_rfl
theorem make_voters (n : Nat) (hn : n ≤ 1048576) (w : World) :
    (Instr.makeSlice 25 (.int .i64 (n : Int)) (.int .i64 (n : Int))).run Tryz.prog w = .ok (.slice (some ⟨w.heap.size, 0, none⟩) n n) (w.alloc (.cells (madeCells #[.slice none 0 0] n) 79)) := by
  obtain ⟨i, hi, hzz⟩ := Option.map_eq_some_iff.1 info_voter
  simp only [Prod.mk.injEq] at hzz
  obtain ⟨hz, hs, hb⟩ := hzz
  have hr := run_make (P := Tryz.prog) w _ _ i _ Tryz.underlying25 hi hz .i64 .i64 n n (by omega) (Int.le_refl _) (by rw [hb]; omega) (by omega)
  rw [hs] at hr
  simp only [Int.toNat_natCast, Nat.mul_one] at hr
  exact hr
theorem made_voters (w : World) (n : Nat) : (w.alloc (.cells (madeCells #[.slice none 0 0] n) 79)).rowIs w.heap.size 79 n (voCell []) :=
  ⟨_, heap_alloc_new w _, size_madeCells _ _, fun i hi => by
    have hi' : i < n := by omega
    simp [madeCells, hi', voCell, cellG, zV, Nat.mod_one]⟩
theorem voCell_snoc {gs : List Vo} {k : Nat} (h : gs.length = k) (x : Vo) (j : Nat) :
    (if j = k then .slice x.A x.n x.c else voCell gs j) = voCell (gs ++ [x]) j := by
  by_cases h0 : j = k
  · subst h0
    rw [if_pos rfl]
    have e := cellG_last voC_len zV h x (i := 0) (v := .slice x.A x.n x.c) rfl
    rw [Nat.mul_one, Nat.add_zero] at e
    exact e.symm
  · rw [if_neg h0]
    exact (cellG_more voC_len zV h x (by omega)).symm
theorem OwnG.of_vrow {w : World} {B bx n : Nat} {gs : List Vo} (hB : B ≤ bx) (hl : gs.length = n) (hn : n ≤ 1048576) (hr : w.rowIs bx 79 n (voCell gs)) : OwnG 79 voC 1 w B (.slice (some ⟨bx, 0, none⟩) n n) gs :=
  OwnG.of_row voC_len hB hl (Nat.le_refl _) (by unfold maxLen; omega) (by rw [Nat.mul_one]; exact hr) (fun j hj => cellG_own voC_len zV hl hj)
set_option maxRecDepth 20000 in
theorem toVotes_w (w : World) (B : Nat) (A : Option Addr) (n c : Nat) (gs : List Vo) (hi : Votes w B A n gs) (hB : B ≤ w.heap.size) (hn : n ≤ 1048576) (hN : ShortV gs) :
    Calls Tryz.prog 38 #[.slice A n c] w fun e w' => ∃ gs', e = .returned (.slice (some ⟨w.heap.size, 0, none⟩) n n) ∧ CopyV w' w.heap.size n gs gs' ∧ Below w.heap.size w w' := by
  have HX := Lib.hid hi
  have HN := Lib.hid hN
  have hmk := make_voters n hn
  clear hi hN
  go_enter Tryz.func38, Tryz.ntmps38
  go_wp2
  clear hmk
  go_loopw [4] (fun i wr => ∃ (k : Nat) (gs' : List Vo) (los : Nat → Nat), k ≤ n ∧ i = .int .i64 k ∧ gs'.length = k ∧ gs'.map Vo.dat = (gs.take k).map Vo.dat ∧ ShortV gs' ∧ (∀ x ∈ gs', x.c = x.n) ∧ sumV gs' = sumV (gs.take k) ∧ wr.rowIs w.heap.size 79 n (voCell gs') ∧ Lined wr los gs' ∧ w.heap.size < los 0 ∧ los k ≤ wr.heap.size ∧ Below w.heap.size w wr) (fun i _ => n - (intOf i).toNat)
  case atStart => exact ⟨0, [], fun _ => w.heap.size + 1, Nat.zero_le _, rfl, rfl, rfl, by simp [ShortV], by simp, rfl, made_voters w n, ⟨fun _ _ _ => Nat.le_refl _, by simp⟩, Nat.lt_succ_self _, by simp, (Below.refl _ _).alloc (Nat.le_refl _) _⟩
  case round =>
    obtain ⟨k, gs', los, hk, rfl, hlen, hdat, hsh, hcap, hsum, hrow, hli, hl0, hlk, hbel⟩ := hrel
    have HD := Lib.hid hdat
    have HL := Lib.hid hlen
    have HS := Lib.hid hsh
    have HSm := Lib.hid hsum
    have HCa := Lib.hid hcap
    have HR := Lib.hid hrow
    have HLi := Lib.hid hli
    have HB := Lib.hid hbel
    clear hdat hlen hsh hsum hcap hli
    by_cases hlt : k < n
    · obtain ⟨b, off, x, rfl, hb, hat, hns, g0⟩ := HX.out.at k hlt
      have HT := Lib.hid hat
      have g0 := (hbel.cell (p := ⟨b, off + k, none⟩) (Nat.lt_of_lt_of_le hb hB)).trans g0
      have hbs := hrow.lt
      have HC : Hid (Calls Tryz.prog 76 #[.slice x.A x.n x.c] wr fun e w' => ∃ ns', e = .returned (.slice (some ⟨wr.heap.size, 0, none⟩) x.n x.n) ∧ CopyN w' wr.heap.size x.n x.ns ns' ∧ Below wr.heap.size wr w') :=
        Lib.hid (toNodes_w wr B x.A x.n x.c x.ns (hns.below (hbel.mono hB)) (Nat.le_trans hB hbel.size) (HN.out x (List.mem_of_getElem? hat)).1 (HN.out x (List.mem_of_getElem? hat)).2)
      have HXn := Lib.hid (HN.out x (List.mem_of_getElem? hat)).1
      clear hat hbel hns hrow
      go_wp2_with fail
      refine HC.out.mono ?_
      rintro e w1 ⟨ns', rfl, hc, hb1⟩
      have hrow1 := World.rowIs.of_block HR.out (hb1.block _ hbs)
      have q0 : w1.cell? ⟨w.heap.size, k, none⟩ = some (.slice none 0 0) := by
        rw [World.rowIs.cell hrow1 (by omega)]
        congr 1
        show cellG voC zV gs' _ = _
        rw [cellG_none voC_len zV (by rw [HL.out]; omega)]
        rfl
      have p0 := World.rowIs.frozen hrow1 k
      have HR1 := Lib.hid hrow1
      have HB1 := Lib.hid hb1
      have HCp := Lib.hid hc
      have hbs1 : wr.heap.size ≤ w1.heap.size := hb1.size
      clear hrow1 hb1 hc g0 HC
      go_wp2
      go_roundw
      case rel =>
        have hoth : ∀ b, b ≠ w.heap.size → ∀ v, (w1.setCell ⟨w.heap.size, k, none⟩ v).heap[b]? = w1.heap[b]? := fun b hb v => heap_setCell_other _ _ _ _ (by simpa using hb)
        refine ⟨k + 1, gs' ++ [⟨some ⟨wr.heap.size, 0, none⟩, x.n, x.n, ns'⟩], fun j => if j ≤ k then los j else w1.heap.size, by omega, by go_num, by rw [List.length_append, HL.out]; rfl, ?_, ?_, ?_, ?_, ?_, ⟨fun i j hij => ?_, fun i y hy => ?_⟩, ?_, ?_, ?_⟩
        · rw [votake_at HT.out, List.map_append, List.map_append, HD.out, List.map_singleton, List.map_singleton]
          congr 2
          exact HCp.out.dat
        · intro y hy
          rcases List.mem_append.1 hy with h | h
          · exact HS.out y h
          · rw [List.mem_singleton.1 h]; exact ⟨HXn.out, HCp.out.short⟩
        · intro y hy
          rcases List.mem_append.1 hy with h | h
          · exact HCa.out y h
          · rw [List.mem_singleton.1 h]
        · rw [votake_at HT.out, sumV_snoc, sumV_snoc, HSm.out]
        · exact (World.rowIs.set HR1.out k _).congr (fun j _ => voCell_snoc HL.out ⟨some ⟨wr.heap.size, 0, none⟩, x.n, x.n, ns'⟩ j)
        · try dsimp only
          by_cases hj : j ≤ k
          · rw [if_pos hj, if_pos (by omega)]; exact HLi.out.mono i j hij
          · rw [if_neg hj]
            by_cases hi : i ≤ k
            · rw [if_pos hi]; exact Nat.le_trans (HLi.out.mono i k hi) (Nat.le_trans hlk hbs1)
            · rw [if_neg hi]; exact Nat.le_refl _
        · try dsimp only
          rcases get_snoc HL.out hy with ⟨hik, h⟩ | ⟨rfl, rfl⟩
          · obtain ⟨e1, e2⟩ := HLi.out.at' i y h
            rw [if_pos (by omega), if_pos (by omega)]
            refine ⟨e1.blocks fun b hb => (hoth b ?_ _).trans (HB1.out.block b (e1.has_in hb).2), e2⟩
            have h1 := (e1.has_in hb).1
            have h2 := HLi.out.mono 0 i (Nat.zero_le _)
            omega
          · rw [if_pos (Nat.le_refl _), if_neg (by omega)]
            have ho := HCp.out.own
            refine ⟨(ho.low hlk).blocks fun b hb => hoth b ?_ _, fun b hb => (ho.has_in hb).2⟩
            have h1 := (ho.has_in hb).1
            omega
        · try dsimp only
          rw [if_pos (Nat.zero_le _)]; exact hl0
        · try dsimp only
          rw [if_neg (by omega)]; simp [World.setCell]
        · exact (below_on HB.out HB1.out).setCell (Nat.le_refl _) _
      case measure => simp [intOf]; omega
    · obtain rfl : k = n := by omega
      clear hbel hrow
      go_wp2
      go_ret
      refine ⟨gs', rfl, ⟨?_, HS.out, ?_, HCa.out, OwnG.of_vrow (Nat.le_refl _) HL.out hn HR.out, los, HLi.out, Nat.le_of_lt hl0, fun b hb => ?_⟩, HB.out⟩
      · rw [HD.out, votake_all HX.out.len]
      · rw [HSm.out, votake_all HX.out.len]
      · have := Option.some.inj hb
        simp at this
        omega
set_option maxRecDepth 20000 in
theorem eqVotes_c (w : World) (B : Nat) (A A' : Option Addr) (n c c' : Nat) (xs ys : List Vo) (h1 : Votes w B A n xs) (h2 : Votes w B A' n ys) (hB : B ≤ w.heap.size) (hn : n ≤ 1048576) (hN : ShortV xs) (he : xs.map Vo.dat = ys.map Vo.dat) :
    Calls Tryz.prog 40 #[.slice A n c, .slice A' n c'] w fun e w' => e = .returned (.bool true) ∧ Below w.heap.size w w' := by
  have HX := Lib.hid h1
  have HY := Lib.hid h2
  have HN := Lib.hid hN
  have HE := Lib.hid he
  clear h1 h2 hN he
  go_enter Tryz.func40, Tryz.ntmps40
  go_wp2
  go_loopw [5] (fun i wr => ∃ k : Nat, k ≤ n ∧ i = .int .i64 k ∧ Below w.heap.size w wr) (fun i _ => n - (intOf i).toNat)
  case atStart => exact ⟨0, Nat.zero_le _, rfl, Below.refl _ _⟩
  case round =>
    obtain ⟨k, hk, rfl, hbel⟩ := hrel
    have HB := Lib.hid hbel
    by_cases hlt : k < n
    · obtain ⟨b1, off1, x, rfl, hb1, hat1, hn1, e0⟩ := HX.out.at k hlt
      obtain ⟨b2, off2, y, rfl, hb2, hat2, hn2, f0⟩ := HY.out.at k hlt
      have e0 := (hbel.cell (p := ⟨b1, off1 + k, none⟩) (Nat.lt_of_lt_of_le hb1 hB)).trans e0
      have f0 := (hbel.cell (p := ⟨b2, off2 + k, none⟩) (Nat.lt_of_lt_of_le hb2 hB)).trans f0
      have hlt' : (k : Int) < (n : Int) := by omega
      have hd : x.ns.map Nd.dat = y.ns.map Nd.dat := by
        have h := congrArg (·[k]?) HE.out
        simp only [List.getElem?_map, hat1, hat2, Option.map_some] at h
        exact Option.some.inj h
      have hs := HN.out x (List.mem_of_getElem? hat1)
      have HC : Hid (∀ w1, Below w.heap.size w w1 → Calls Tryz.prog 78 #[.slice x.A x.n x.c, .slice y.A y.n y.c] w1 fun e w' => e = .returned (.bool true) ∧ Below w1.heap.size w1 w') :=
        Lib.hid fun w1 hb => eqNodes_c w1 B x.A y.A x.n y.n x.c y.c x.ns y.ns (hn1.below (hb.mono hB)) (hn2.below (hb.mono hB)) (Nat.le_trans hB hb.size) hs.1 hs.2 true ⟨fun _ => hd, fun _ => rfl⟩
      clear hat1 hat2 hbel hn1 hn2 hd hs
      have HB' : Hid (Below w.heap.size w wr.drew) := Lib.hid HB.out.drew
      clear HB
      go_wp2
      go_still_tail 8, (by kernel_rfl)
      change wpList _ _ _ _ _ wr.drew
      generalize wr.drew = w2 at *
      clear e0 f0
      go_wp2_with fail
      refine (HC.out w2 HB'.out).mono ?_
      rintro e w3 ⟨rfl, hb3⟩
      have HB3 := Lib.hid (below_on HB'.out hb3)
      clear hb3 HC
      go_wp2
      go_roundw
      case rel => exact ⟨k + 1, by omega, by go_num, HB3.out⟩
      case measure => simp [intOf]; omega
    · obtain rfl : k = n := by omega
      clear hbel
      go_wp2
      go_ret
      exact ⟨rfl, HB.out⟩
theorem eqVotes_w (w : World) (lo lo' n : Nat) (gs xs ys : List Vo) (h1 : CopyV w lo n gs xs) (h2 : CopyV w lo' n gs ys) (hn : n ≤ 1048576) :
    Calls Tryz.prog 40 #[.slice (some ⟨lo, 0, none⟩) n n, .slice (some ⟨lo', 0, none⟩) n n] w fun e w' => e = .returned (.bool true) ∧ Below w.heap.size w w' :=
  eqVotes_c w w.heap.size _ _ n n n xs ys h1.votes h2.votes (Nat.le_refl _) hn h1.short (h1.dat.trans h2.dat.symm)
end Go.Proofs.YtceiocdemhkcdaaGreat.num
namespace Go.Proofs.YtceiocdemhkcdaaGreat.num
set_option maxRecDepth 20000
open Go.RowKit
set_option linter.unusedVariables false
set_option linter.unusedSimpArgs false

/-- append of one element to a slice of the call's own: the new slice lies in the old one's row or in a new block. -/
theorem wp_appG {α : Type} {f : α → List Value} {s : Nat} (hf : ∀ x, (f x).length = s) (h1 : ∀ x, ∀ u ∈ f x, u.oneCell' = true) {T tS : TypeId} {z : Value} {bytes : Nat} (ht : Tryz.prog.underlying tS = some (.slice T)) (hinf : (Tryz.prog.info? T).map (fun i => (i.zero, i.size, i.bytes)) = some (some z, s, bytes)) (hzs : z.cells.size = s) (hs0 : 0 < s)
    {ops : Array Oper} {rest : List Oper} {o : Oper} {a : Act} {Q : Exit → Act → World → Prop} (w : World) (hgd : o.guard = none) (sl x : Operand)
    (ho : o.op = .call { callee := .builtin .append, args := #[sl, x], argTypes := #[tS, tS] })
    (B : Nat) (v : Value) (l : List α) (hs : a.eval sl = v) (hown : OwnG T f s w B v l) (cs : Array Value) (y : α) (hcs : cs = (f y).toArray) (c : Nat)
    (N : Nat) (hNw : w.heap.size = N) (hx : a.eval x = .slice (some ⟨N, 0, none⟩) 1 c) (hlen : (l.length + 1) * bytes ≤ 140737488355328) (hbt : 0 < bytes) (hB : B ≤ w.heap.size)
    (h : ∀ v' w', OwnG T f s w' B v' (l ++ [y]) → w.grownBy w' v.ownBlock → (v'.ownBlock = v.ownBlock ∨ v'.ownBlock = some (w.heap.size + 1)) → wpList Tryz.prog ops Q rest (a.put o.dst v') w') :
    wpList Tryz.prog ops Q (o :: rest) a (w.alloc (.cells cs T)) := by
  obtain ⟨i0, hi, hz⟩ := Option.map_eq_some_iff.1 hinf
  simp only [Prod.mk.injEq] at hz
  obtain ⟨hz0, hz1, hz2⟩ := hz
  have hm : l.length + 1 ≤ 140737488355328 := Nat.le_trans (Nat.le_mul_of_pos_right _ hbt) hlen
  subst hcs hNw
  refine wpList_append_own_at _ hgd sl x tS ho B T i0 z s bytes ht hi hz0 hz1 hz2 hzs hs0 v l.length (l.flatMap f) hs (World.ownsRow.alloc hown _) ⟨w.heap.size, 0, none⟩ 1 c (f y) hx (by rw [hf, Nat.one_mul]) ?_ (h1 y) (by unfold maxLen; omega) hlen (by simp; omega) ?_
  · intro j u hj
    have e : (⟨w.heap.size, 0, none⟩ : Addr).add j = ⟨w.heap.size, j, none⟩ := by unfold Addr.add; split <;> simp_all
    rw [e, World.cell?_alloc_at _ _ _ _ rfl]
    simpa using hj
  · intro v' w' hown' hg _ hat
    refine h v' w' ?_ ⟨hg.os, hg.tape, hg.output, Nat.le_trans (by simp) hg.size, fun k hk hv => (hg.block k (by simp; omega) hv).trans (Below.heap_alloc _ _ _ hk)⟩ (by simpa using hat)
    unfold OwnG
    rw [List.length_append, List.length_singleton, List.flatMap_append, List.flatMap_singleton]
    exact hown'
end Go.Proofs.YtceiocdemhkcdaaGreat.num
namespace Go.Proofs.YtceiocdemhkcdaaGreat.num
set_option maxRecDepth 20000
open Go.RowKit
set_option linter.unusedVariables false
set_option linter.unusedSimpArgs false

def wishCells (x : Wi) : List Value := [.int .i64 x.kind, .int .i64 x.field, .int .i64 x.value, .slice x.LA x.Ln x.Lc, .slice x.PA x.Pn x.Pc]
theorem wishCells_len (x : Wi) : (wishCells x).length = 5 := rfl
theorem wishCells_one (x : Wi) : ∀ u ∈ wishCells x, u.oneCell' = true := by
  intro u hu
  simp only [wishCells, List.mem_cons, List.not_mem_nil, or_false] at hu
  rcases hu with rfl | rfl | rfl | rfl | rfl <;> rfl
/-- A slice of wishes that reads as ns, below block B. -/
structure Wishes (w : World) (B : Nat) (A : Option Addr) (n : Nat) (ns : List Wi) : Prop where
  r : ReadG wishCells 5 w B A n ns
  x : ∀ x ∈ ns, WiIn w B x
theorem Wishes.below {w w' : World} {B : Nat} {A : Option Addr} {n : Nat} {ns : List Wi} (h : Wishes w B A n ns) (hb : Below B w w') : Wishes w' B A n ns := ⟨h.r.below hb, fun x hx => (h.x x hx).below hb⟩
theorem Wishes.more {w : World} {B B' : Nat} {A : Option Addr} {n : Nat} {ns : List Wi} (h : Wishes w B A n ns) (hB : B ≤ B') : Wishes w B' A n ns := ⟨h.r.more hB, fun x hx => (h.x x hx).more hB⟩
theorem Wishes.step {w w' : World} {A : Option Addr} {n : Nat} {ns : List Wi} (h : Wishes w w.heap.size A n ns) (hb : Below w.heap.size w w') : Wishes w' w'.heap.size A n ns := (h.below hb).more hb.size
theorem Wishes.len {w : World} {B : Nat} {A : Option Addr} {n : Nat} {ns : List Wi} (h : Wishes w B A n ns) : ns.length = n := h.r.len
theorem Wishes.nil (w : World) (B : Nat) (A : Option Addr) : Wishes w B A 0 [] := ⟨.nil _ _ _, by simp⟩
theorem Wishes.at {w : World} {B : Nat} {A : Option Addr} {n : Nat} {ns : List Wi} (h : Wishes w B A n ns) (k : Nat) (hk : k < n) :
    ∃ (b off : Nat) (x : Wi), A = some ⟨b, off, none⟩ ∧ b < B ∧ ns[k]? = some x ∧ WiIn w B x ∧ w.cell? ⟨b, off + k * 5, none⟩ = some (.int .i64 x.kind) ∧ w.cell? ⟨b, off + k * 5 + 1, none⟩ = some (.int .i64 x.field) ∧
      w.cell? ⟨b, off + k * 5 + 2, none⟩ = some (.int .i64 x.value) ∧ w.cell? ⟨b, off + k * 5 + 3, none⟩ = some (.slice x.LA x.Ln x.Lc) ∧ w.cell? ⟨b, off + k * 5 + 4, none⟩ = some (.slice x.PA x.Pn x.Pc) := by
  obtain ⟨x, hx⟩ := h.r.get hk
  obtain ⟨b, off, h1, h2, h3⟩ := h.r.at' k x hx
  exact ⟨b, off, x, h1, h2, hx, h.x x (List.mem_of_getElem? hx), h3 0 _ rfl, h3 1 _ rfl, h3 2 _ rfl, h3 3 _ rfl, h3 4 _ rfl⟩
def ShortWs (ns : List Wi) : Prop := ∀ x ∈ ns, x.Short
def datWs (ns : List Wi) : List WD := ns.map Wi.dat

/-- The slice of wishes v and all that its wishes hold are the call's own, apart from one another. -/
structure OwnWs (w : World) (B : Nat) (v : Value) (ns : List Wi) : Prop where
  r : OwnG 109 wishCells 5 w B v ns
  x : ∀ (k : Nat) (x : Wi), ns[k]? = some x → WiO w B x
  a : ∀ (k : Nat) (x : Wi) (b : Nat), ns[k]? = some x → x.has b → v.ownBlock ≠ some b
  d : ∀ (i j : Nat) (x y : Wi) (b : Nat), i < j → ns[i]? = some x → ns[j]? = some y → x.has b → ¬ y.has b
/-- The blocks of the slice v and of its wishes. -/
def hasWs (v : Value) (ns : List Wi) (b : Nat) : Prop := v.ownBlock = some b ∨ ∃ x ∈ ns, x.has b
theorem OwnWs.has_in {w : World} {B : Nat} {v : Value} {ns : List Wi} (h : OwnWs w B v ns) {b : Nat} (hb : hasWs v ns b) : B ≤ b ∧ b < w.heap.size := by
  rcases hb with hb | ⟨x, hx, hb⟩
  · exact ⟨h.r.lows b hb, h.r.tops b hb⟩
  · obtain ⟨k, hk, rfl⟩ := List.getElem_of_mem hx
    exact (h.x k _ (List.getElem?_eq_getElem hk)).has_in hb
theorem OwnWs.blocks {w w' : World} {B : Nat} {v : Value} {ns : List Wi} (h : OwnWs w B v ns) (hb : ∀ b, hasWs v ns b → w'.heap[b]? = w.heap[b]?) : OwnWs w' B v ns :=
  ⟨h.r.blocks fun k hk => hb k (.inl hk), fun k x hk => (h.x k x hk).blocks fun b hb' => hb b (.inr ⟨x, List.mem_of_getElem? hk, hb'⟩), h.a, h.d⟩
theorem OwnWs.below {w w' : World} {B : Nat} {v : Value} {ns : List Wi} (h : OwnWs w B v ns) (hb : Below w.heap.size w w') : OwnWs w' B v ns := h.blocks fun b k => hb.block b (h.has_in k).2
theorem OwnWs.low {w : World} {B B' : Nat} {v : Value} {ns : List Wi} (h : OwnWs w B v ns) (hB : B' ≤ B) : OwnWs w B' v ns := ⟨h.r.low hB, fun k x hk => (h.x k x hk).low hB, h.a, h.d⟩
theorem OwnWs.wishes {w : World} {B : Nat} {A : Option Addr} {n c : Nat} {ns : List Wi} (h : OwnWs w B (.slice A n c) ns) : Wishes w w.heap.size A n ns :=
  ⟨h.r.read wishCells_len, fun x hx => by
    obtain ⟨k, hk, rfl⟩ := List.getElem_of_mem hx
    exact (h.x k _ (List.getElem?_eq_getElem hk)).wi⟩
theorem OwnWs.nil (w : World) (B : Nat) : OwnWs w B (.slice none 0 0) [] := ⟨.nil _ _, by simp, by simp, by simp⟩

theorem ne_wi {l l' : List Wi} {k : Nat} {t t' : Wi} (h1 : l[k]? = some t) (h2 : l'[k]? = some t') (h : t.dat ≠ t'.dat) : l.map Wi.dat ≠ l'.map Wi.dat := fun e => h (by
  have := congrArg (·[k]?) e
  simpa [h1, h2] using this)
theorem OwnWs.snoc {w w' : World} {B : Nat} {v v' : Value} {ns : List Wi} {x : Wi} (h : OwnWs w B v ns) (hg : w.grownBy w' v.ownBlock) (hat : v'.ownBlock = v.ownBlock ∨ v'.ownBlock = some (w.heap.size + 1)) (hr : OwnG 109 wishCells 5 w' B v' (ns ++ [x])) (hx : WiO w B x) (hap : ∀ b, x.has b → ¬ hasWs v ns b) : OwnWs w' B v' (ns ++ [x]) := by
  have hin : ∀ (i : Nat) (y : Wi) (b : Nat), ns[i]? = some y → y.has b → hasWs v ns b := fun i y b hy hb => .inr ⟨y, List.mem_of_getElem? hy, hb⟩
  have hnb : ∀ b, x.has b → some b ≠ v.ownBlock := fun b hb e => hap b hb (.inl e.symm)
  refine ⟨hr, ?_, ?_, ?_⟩
  · intro i y hy
    rcases get_snoc rfl hy with ⟨_, hy⟩ | ⟨_, rfl⟩
    · exact (h.x i y hy).blocks fun b hb => hg.block b ((h.x i y hy).has_in hb).2 fun e => h.a i y b hy hb e.symm
    · exact hx.blocks fun b hb => hg.block b (hx.has_in hb).2 (hnb b hb)
  · intro i y b hy hb e
    rcases get_snoc rfl hy with ⟨_, hy⟩ | ⟨_, rfl⟩
    · rcases hat with q | q
      · exact h.a i y b hy hb (q ▸ e)
      · have h2 := (h.has_in (hin i y b hy hb)).2
        rw [q] at e
        have := Option.some.inj e
        omega
    · rcases hat with q | q
      · exact hnb b hb (q ▸ e).symm
      · have h2 := (hx.has_in hb).2
        rw [q] at e
        have := Option.some.inj e
        omega
  · intro i j y z b hij hy hz hb hb'
    rcases get_snoc rfl hz with ⟨hj, hz⟩ | ⟨hj, rfl⟩
    · rcases get_snoc rfl hy with ⟨_, hy⟩ | ⟨hi, _⟩
      · exact h.d i j y z b hij hy hz hb hb'
      · omega
    · rcases get_snoc rfl hy with ⟨_, hy⟩ | ⟨hi, _⟩
      · exact hap b hb' (hin i y b hy hb)
      · omega
theorem OwnN.snoc {w w' : World} {B : Nat} {v v' : Value} {ns : List Nd} {x : Nd} (h : OwnN w B v ns) (hg : w.grownBy w' v.ownBlock) (hat : v'.ownBlock = v.ownBlock ∨ v'.ownBlock = some (w.heap.size + 1)) (hr : OwnG 111 nodeCells 6 w' B v' (ns ++ [x])) (hwf : (Lit.int .i64 x.op).wf = true) (hx : WiO w B x.t) (hap : ∀ b, x.t.has b → ¬ hasN v ns b) : OwnN w' B v' (ns ++ [x]) := by
  have hin : ∀ (i : Nat) (y : Nd) (b : Nat), ns[i]? = some y → y.t.has b → hasN v ns b := fun i y b hy hb => .inr ⟨y, List.mem_of_getElem? hy, hb⟩
  have hnb : ∀ b, x.t.has b → some b ≠ v.ownBlock := fun b hb e => hap b hb (.inl e.symm)
  refine ⟨hr, ?_, ?_, ?_⟩
  · intro i y hy
    rcases get_snoc rfl hy with ⟨_, hy⟩ | ⟨_, rfl⟩
    · exact ⟨(h.x i y hy).1, (h.x i y hy).2.blocks fun b hb => hg.block b ((h.x i y hy).2.has_in hb).2 fun e => h.a i y b hy hb e.symm⟩
    · exact ⟨hwf, hx.blocks fun b hb => hg.block b (hx.has_in hb).2 (hnb b hb)⟩
  · intro i y b hy hb e
    rcases get_snoc rfl hy with ⟨_, hy⟩ | ⟨_, rfl⟩
    · rcases hat with q | q
      · exact h.a i y b hy hb (q ▸ e)
      · have h2 := (h.has_in (hin i y b hy hb)).2
        rw [q] at e
        have := Option.some.inj e
        omega
    · rcases hat with q | q
      · exact hnb b hb (q ▸ e).symm
      · have h2 := (hx.has_in hb).2
        rw [q] at e
        have := Option.some.inj e
        omega
  · intro i j y z b hij hy hz hb hb'
    rcases get_snoc rfl hz with ⟨hj, hz⟩ | ⟨hj, rfl⟩
    · rcases get_snoc rfl hy with ⟨_, hy⟩ | ⟨hi, _⟩
      · exact h.d i j y z b hij hy hz hb hb'
      · omega
    · rcases get_snoc rfl hy with ⟨_, hy⟩ | ⟨hi, _⟩
      · exact hap b hb' (hin i y b hy hb)
      · omega
end Go.Proofs.YtceiocdemhkcdaaGreat.num
namespace Go.Proofs.YtceiocdemhkcdaaGreat.num
set_option maxRecDepth 20000
open Go.RowKit
set_option linter.unusedVariables false
set_option linter.unusedSimpArgs false

theorem fm_set {α : Type} {f : α → List Value} {s : Nat} (hf : ∀ x, (f x).length = s) (l : List α) (k : Nat) (y : α) (hk : k < l.length) (j : Nat) (hj : j < l.length * s) : ((l.set k y).flatMap f)[j]? = if j / s = k then (f y)[j % s]? else (l.flatMap f)[j]? := by
  have hs : 0 < s := by
    rcases Nat.eq_zero_or_pos s with e | e
    · subst e; simp at hj
    · exact e
  have hi : j / s < l.length := by rw [Nat.div_lt_iff_lt_mul hs]; exact hj
  have hm := Nat.mod_lt j hs
  have e : j / s * s + j % s = j := by rw [Nat.mul_comm]; exact Nat.div_add_mod j s
  by_cases h : j / s = k
  · rw [if_pos h]
    have h1 := fm_at hf (l.set k y) (j / s) (j % s) y (by rw [h, List.getElem?_set_self hk]) hm
    rwa [e] at h1
  · rw [if_neg h]
    have hg : l[j / s]? = some l[j / s] := List.getElem?_eq_getElem hi
    have h1 := fm_at hf (l.set k y) (j / s) (j % s) l[j / s] (by rw [List.getElem?_set_ne (fun e => h e.symm)]; exact hg) hm
    have h2 := fm_at hf l (j / s) (j % s) l[j / s] hg hm
    rw [e] at h1 h2
    rw [h1, h2]
end Go.Proofs.YtceiocdemhkcdaaGreat.num
namespace Go.Proofs.YtceiocdemhkcdaaGreat.num
set_option maxRecDepth 20000
open Go.RowKit
set_option linter.unusedVariables false
set_option linter.unusedSimpArgs false

def markNd (k : Nat) (x : Nd) : Nd := ⟨((k : Nat) : Int), ⟨((k + 1 : Nat) : Int), ((k + 2 : Nat) : Int), ((k + 3 : Nat) : Int), x.t.LA, x.t.Ln, x.t.Lc, marks (k + 4) x.t.ls.length, x.t.PA, x.t.Pn, x.t.Pc, pmarks (k + 4 + x.t.ls.length) x.t.ps.length⟩⟩
def cntNd (x : Nd) : Nat := 4 + x.t.ls.length + 2 * x.t.ps.length
def markN : Nat → List Nd → List Nd
  | _, [] => []
  | k, x :: r => markNd k x :: markN (k + cntNd x) r
def cntN : List Nd → Nat
  | [] => 0
  | x :: r => cntNd x + cntN r
theorem cntN_snoc (l : List Nd) (x : Nd) : cntN (l ++ [x]) = cntN l + cntNd x := by
  induction l with
  | nil => simp [cntN]
  | cons y r ih => simp only [List.cons_append, cntN, ih]; omega
theorem markN_snoc (l : List Nd) (x : Nd) : ∀ k, markN k (l ++ [x]) = markN k l ++ [markNd (k + cntN l) x] := by
  induction l with
  | nil => intro k; simp [markN, cntN]
  | cons y r ih => intro k; simp only [List.cons_append, markN, cntN, ih]; rw [Nat.add_assoc]
theorem markN_len (l : List Nd) : ∀ k, (markN k l).length = l.length := by
  induction l with
  | nil => intro k; rfl
  | cons y r ih => intro k; simp [markN, ih]
theorem markN_at (l : List Nd) : ∀ (k i : Nat) (x : Nd), l[i]? = some x → (markN k l)[i]? = some (markNd (k + cntN (l.take i)) x) := by
  induction l with
  | nil => intro k i x h; simp at h
  | cons y r ih =>
    intro k i x h
    cases i with
    | zero => simp at h; subst h; simp [markN, cntN]
    | succ i =>
      have h' : r[i]? = some x := by simpa using h
      simp only [markN, List.getElem?_cons_succ, List.take_succ_cons, cntN]
      rw [ih _ i x h', Nat.add_assoc]
/-- Each count of a short list is small. -/
theorem cntN_le {l : List Nd} (h : ∀ x ∈ l, x.t.ls.length ≤ 1048576 ∧ x.t.ps.length ≤ 1048576) : cntN l ≤ l.length * 3145732 := by
  induction l with
  | nil => simp [cntN]
  | cons y r ih =>
    have h1 := ih fun x hx => h x (List.mem_cons_of_mem _ hx)
    have h2 := h y (List.mem_cons_self ..)
    simp only [cntN, cntNd, List.length_cons]
    omega
/-- As far as k, the marks; the rest as it was. -/
theorem markN_step {l : List Nd} {k k0 : Nat} {x : Nd} (h : l[k]? = some x) : (markN k0 (l.take k) ++ l.drop k)[k]? = some x ∧ (markN k0 (l.take k) ++ l.drop k).set k (markNd (k0 + cntN (l.take k)) x) = markN k0 (l.take (k + 1)) ++ l.drop (k + 1) := by
  have hlt : k < l.length := by
    rcases Nat.lt_or_ge k l.length with g | g
    · exact g
    · rw [List.getElem?_eq_none g] at h; cases h
  have hl : (markN k0 (l.take k)).length = k := by rw [markN_len, List.length_take]; omega
  have hd : l.drop k = x :: l.drop (k + 1) := by
    rw [List.drop_eq_getElem_cons hlt]
    rw [List.getElem?_eq_getElem hlt] at h
    rw [Option.some.inj h]
  refine ⟨by rw [List.getElem?_append_right (by omega), hl, hd]; simp, ?_⟩
  rw [hd, List.set_append_right _ _ (by omega), hl, Nat.sub_self, List.set_cons_zero, ptake_at h, markN_snoc, List.append_assoc, List.singleton_append]

theorem OwnN.cells_at {w : World} {B g n c k : Nat} {l : List Nd} {x : Nd} (h : OwnN w B (.slice (some ⟨g, 0, none⟩) n c) l) (hk : l[k]? = some x) : (∀ (j : Nat) (v : Value), (nodeCells x)[j]? = some v → w.cell? ⟨g, k * 6 + j, none⟩ = some v) ∧ ∀ j, w.frozen? ⟨g, j, none⟩ = false := by
  refine ⟨fun j v hv => ?_, fun j => ?_⟩
  · obtain ⟨b, off, e, _, hc⟩ := (h.r.read nodeCells_len).at' k x hk
    injection e with e
    injection e with e1 e2
    subst e1 e2
    have := hc j v hv
    rwa [Nat.zero_add] at this
  · rcases h.r.row with ⟨e, _⟩ | ⟨g', cap, f, e, _, _, _, hrow, _⟩
    · cases e
    · injection e with e _ _
      injection e with e
      injection e with e
      subst e
      exact World.rowIs.frozen hrow j
set_option maxRecDepth 20000 in
/-- One element is marked. -/
theorem OwnN.mark1 {w w5 w6 : World} {B g n c : Nat} {l : List Nd} {k m : Nat} {x : Nd} {u0 : Int} {u1 : Int} {u2 : Int} {u3 : Int} (hu0 : u0 = ((m : Nat) : Int)) (hu1 : u1 = ((m + 1 : Nat) : Int)) (hu2 : u2 = ((m + 2 : Nat) : Int)) (hu3 : u3 = ((m + 3 : Nat) : Int)) (hm : m ≤ 4700000000000000000) (h : OwnN w B (.slice (some ⟨g, 0, none⟩) n c) l) (hk : l[k]? = some x)
    (h5 : OnlyV (.slice x.t.LA x.t.Ln x.t.Lc) (((((w.setCell ⟨g, k * 6, none⟩ (.int .i64 u0)).setCell ⟨g, k * 6 + 1, none⟩ (.int .i64 u1)).setCell ⟨g, k * 6 + 2, none⟩ (.int .i64 u2)).setCell ⟨g, k * 6 + 3, none⟩ (.int .i64 u3))) w5) (hl : OwnI w5 B (.slice x.t.LA x.t.Ln x.t.Lc) (marks (m + 4) x.t.ls.length)) (h6 : OnlyV (.slice x.t.PA x.t.Pn x.t.Pc) w5 w6) (hp : OwnP w6 B (.slice x.t.PA x.t.Pn x.t.Pc) (pmarks (m + 4 + x.t.ls.length) x.t.ps.length)) :
    OwnN w6 B (.slice (some ⟨g, 0, none⟩) n c) (l.set k (markNd m x)) ∧ OnlyS (hasN (.slice (some ⟨g, 0, none⟩) n c) l) w w6 ∧ ∀ b, hasN (.slice (some ⟨g, 0, none⟩) n c) (l.set k (markNd m x)) b → hasN (.slice (some ⟨g, 0, none⟩) n c) l b := by
  have hlt : k < l.length := by
    rcases Nat.lt_or_ge k l.length with q | q
    · exact q
    · rw [List.getElem?_eq_none q] at hk; cases hk
  obtain ⟨hwf, hx⟩ := (⟨trivial, (h.x k x hk).2⟩ : True ∧ WiO w B x.t)
  have hmem : x ∈ l := List.mem_of_getElem? hk
  have a1 : (Value.slice x.t.LA x.t.Ln x.t.Lc).ownBlock ≠ some g := fun e => h.a k x g hk (.inl e) rfl
  have a2 : (Value.slice x.t.PA x.t.Pn x.t.Pc).ownBlock ≠ some g := fun e => h.a k x g hk (.inr e) rfl
  have hoth : ∀ b, b ≠ g → ¬ x.t.has b → w6.heap[b]? = w.heap[b]? := fun b hb hn => by
    rw [h6.block b fun e => hn (.inr e), h5.block b fun e => hn (.inl e)]
    repeat rw [heap_setCell_other _ _ _ _ (by simpa using hb)]
  have hget : ∀ (i : Nat) (y : Nd), (l.set k (markNd m x))[i]? = some y → (i = k ∧ y = markNd m x) ∨ (i ≠ k ∧ l[i]? = some y) := fun i y hy => by
    by_cases e : i = k
    · subst e
      rw [List.getElem?_set_self hlt] at hy
      exact .inl ⟨rfl, (Option.some.inj hy).symm⟩
    · rw [List.getElem?_set_ne (fun e' => e e'.symm)] at hy
      exact .inr ⟨e, hy⟩
  have hhas : ∀ b, (markNd m x).t.has b → x.t.has b := fun b hb => hb
  refine ⟨⟨?_, ?_, ?_, ?_⟩, ?_, ?_⟩
  · rcases h.r.row with ⟨e, _⟩ | ⟨g', cap, f, e, hB, hle, hcap, hrow, hf⟩
    · cases e
    · injection e with e1 e2 e3
      injection e1 with e1
      injection e1 with e1
      subst e1 e2 e3
      have hr6 := World.rowIs.of_block (World.rowIs.of_block (World.rowIs.set (World.rowIs.set (World.rowIs.set (World.rowIs.set hrow (k * 6) (.int .i64 u0)) (k * 6 + 1) (.int .i64 u1)) (k * 6 + 2) (.int .i64 u2)) (k * 6 + 3) (.int .i64 u3)) (h5.block g a1)) (h6.block g a2)
      refine OwnG.of_row nodeCells_len hB (by simp) hle hcap hr6 fun j hj => ?_
      rw [fm_set nodeCells_len l k _ hlt j hj]
      by_cases e : j / 6 = k
      · obtain ⟨r, hr, rfl⟩ : ∃ r, r < 6 ∧ j = k * 6 + r := ⟨j % 6, Nat.mod_lt _ (by decide), by omega⟩
        rw [if_pos e, show (k * 6 + r) % 6 = r by omega]
        have hold := hf _ hj
        rw [fm_at nodeCells_len l k r x hk hr] at hold
        have hr' : r = 0 ∨ r = 1 ∨ r = 2 ∨ r = 3 ∨ r = 4 ∨ r = 5 := by omega
        rcases hr' with rfl | rfl | rfl | rfl | rfl | rfl
        · rw [if_neg (by omega), if_neg (by omega), if_neg (by omega), if_pos (by omega)]; exact (congrArg some (congrArg (Value.int .i64) hu0)).symm
        · rw [if_neg (by omega), if_neg (by omega), if_pos rfl]; exact (congrArg some (congrArg (Value.int .i64) hu1)).symm
        · rw [if_neg (by omega), if_pos rfl]; exact (congrArg some (congrArg (Value.int .i64) hu2)).symm
        · rw [if_pos rfl]; exact (congrArg some (congrArg (Value.int .i64) hu3)).symm
        · rw [if_neg (by omega), if_neg (by omega), if_neg (by omega), if_neg (by omega)]
          exact hold
        · rw [if_neg (by omega), if_neg (by omega), if_neg (by omega), if_neg (by omega)]
          exact hold
      · rw [if_neg e, hf j hj]
        congr 1
        have hj' : ¬ (k * 6 ≤ j ∧ j < k * 6 + 6) := by omega
        rw [if_neg (by omega), if_neg (by omega), if_neg (by omega), if_neg (by omega)]
  · intro i y hy
    rcases hget i y hy with ⟨rfl, rfl⟩ | ⟨hne, hy⟩
    · exact ⟨wf_small (by omega), ⟨wf_small (by omega), wf_small (by omega), wf_small (by omega), ownI_blocks hl (fun b hb => h6.block b (hx.a b hb)), hp, hx.a⟩⟩
    · obtain ⟨q1, q2⟩ := h.x i y hy
      refine ⟨q1, q2.blocks fun b hb => hoth b (fun e => h.a i y b hy hb (by rw [e]; rfl)) fun hb' => ?_⟩
      rcases Nat.lt_or_gt_of_ne hne with q | q
      · exact h.d i k y x b q hy hk hb hb'
      · exact h.d k i x y b q hk hy hb' hb
  · intro i y b hy hb
    rcases hget i y hy with ⟨rfl, rfl⟩ | ⟨hne, hy⟩
    · exact h.a i x b hk (hhas b hb)
    · exact h.a i y b hy hb
  · intro i j y z b hij hy hz hb hb'
    rcases hget i y hy with ⟨ei, rfl⟩ | ⟨_, hy2⟩ <;> rcases hget j z hz with ⟨ej, rfl⟩ | ⟨_, hz2⟩
    · omega
    · exact h.d i j x z b hij (by rw [ei]; exact hk) hz2 (hhas b hb) hb'
    · exact h.d i j y x b hij hy2 (by rw [ej]; exact hk) hb (hhas b hb')
    · exact h.d i j y z b hij hy2 hz2 hb hb'
  · have hs : ∀ b, x.t.has b → hasN (.slice (some ⟨g, 0, none⟩) n c) l b := fun b hb => .inr ⟨x, hmem, hb⟩
    exact ((((((OnlyS.refl _ w).set (.inl rfl) _ _).set (.inl rfl) _ _).set (.inl rfl) _ _).set (.inl rfl) _ _).trans (h5.s fun b hb => hs b (.inl hb))).trans (h6.s fun b hb => hs b (.inr hb))
  · intro b hb
    rcases hb with hb | ⟨y, hy, hb⟩
    · exact .inl hb
    · obtain ⟨i, hi, rfl⟩ := List.getElem_of_mem hy
      rcases hget i _ (List.getElem?_eq_getElem hi) with ⟨_, e⟩ | ⟨_, hy'⟩
      · rw [e] at hb
        exact .inr ⟨x, hmem, hhas b hb⟩
      · exact .inr ⟨_, List.mem_of_getElem? hy', hb⟩
set_option maxRecDepth 20000 in
set_option maxHeartbeats 1600000 in
theorem markNodeS_c (w : World) (B : Nat) (v : Value) (ns : List Nd) (h : OwnN w B v ns) (hn : ns.length ≤ 1048576) (hN : ∀ x ∈ ns, x.t.ls.length ≤ 1048576 ∧ x.t.ps.length ≤ 1048576) (k0 : Nat) (hk0 : k0 ≤ 1125899906842624) :
    Calls Tryz.prog 79 #[v, .int .i64 k0] w fun e w' => e = .returned (.int .i64 ((k0 + cntN ns : Nat) : Int)) ∧ OwnN w' B v (markN k0 ns) ∧ OnlyS (hasN v ns) w w' := by
  rcases h.r.row with ⟨rfl, rfl⟩ | ⟨g, cap, f, rfl, hB, hle, hcap, hrow, hf⟩
  · go_enter Tryz.func79, Tryz.ntmps79
    go_wp2
    go_loopw [1, 5] (fun m i wr => i = .int .i64 0 ∧ m = .int .i64 k0 ∧ wr = w) (fun _ _ _ => 0)
    case atStart => exact ⟨rfl, rfl, rfl⟩
    case round =>
      obtain ⟨rfl, rfl, rfl⟩ := hrel
      go_wp2
      go_ret
      exact ⟨rfl, h, OnlyS.refl _ _⟩
  · obtain ⟨n, hn'⟩ : ∃ n, n = ns.length := ⟨_, rfl⟩
    rw [← hn'] at hn hle ⊢
    rw [← hn'] at h
    have HX := Lib.hid h
    have HN := Lib.hid hN
    have HLen := Lib.hid hn'
    have hcap' : cap ≤ 9223372036854775807 := by unfold maxLen at hcap; omega
    clear h hrow hf hN hn' hcap
    go_enter Tryz.func79, Tryz.ntmps79
    go_wp2
    go_loopw [1, 5] (fun m i wr => ∃ k : Nat, k ≤ n ∧ i = .int .i64 k ∧ m = .int .i64 ((k0 + cntN (ns.take k) : Nat) : Int) ∧ OwnN wr B (.slice (some ⟨g, 0, none⟩) n cap) (markN k0 (ns.take k) ++ ns.drop k) ∧ OnlyS (hasN (.slice (some ⟨g, 0, none⟩) n cap) ns) w wr ∧ ∀ b, hasN (.slice (some ⟨g, 0, none⟩) n cap) (markN k0 (ns.take k) ++ ns.drop k) b → hasN (.slice (some ⟨g, 0, none⟩) n cap) ns b) (fun _ i _ => n - (intOf i).toNat)
    case atStart => exact ⟨0, Nat.zero_le _, rfl, rfl, by simpa [markN] using HX.out, OnlyS.refl _ _, by simp [markN]⟩
    case round =>
      obtain ⟨k, hk, rfl, rfl, hown, honly, hsub⟩ := hrel
      have HR := Lib.hid hown
      have HO := Lib.hid honly
      have HSub := Lib.hid hsub
      have hcnt : cntN (ns.take k) ≤ k * 3145732 := by
        have := cntN_le (l := ns.take k) fun x hx => HN.out x (List.mem_of_mem_take hx)
        rw [List.length_take] at this
        have h2 : min k ns.length * 3145732 ≤ k * 3145732 := Nat.mul_le_mul_right _ (Nat.min_le_left _ _)
        exact Nat.le_trans this h2
      by_cases hlt : k < n
      · obtain ⟨x, hat⟩ : ∃ x, ns[k]? = some x := ⟨_, List.getElem?_eq_getElem (by rw [← HLen.out]; exact hlt)⟩
        obtain ⟨hst1, hst2⟩ := markN_step (k0 := k0) hat
        obtain ⟨hc, hz⟩ := hown.cells_at hst1
        obtain ⟨hl, hp⟩ := HN.out x (List.mem_of_getElem? hat)
        have hwio : WiO wr B x.t := (hown.x k x hst1).2
        have e0 : wr.cell? ⟨g, k * 6, none⟩ = some (.int .i64 x.op) := hc 0 _ rfl
        have e1 := hc 1 _ rfl
        have e2 := hc 2 _ rfl
        have e3 := hc 3 _ rfl
        have e4 := hc 4 _ rfl
        have e5 := hc 5 _ rfl
        have f0 := hz (k * 6)
        have f1 := hz (k * 6 + 1)
        have f2 := hz (k * 6 + 2)
        have f3 := hz (k * 6 + 3)
        have HST1 := Lib.hid hst1
        have HST2 := Lib.hid hst2
        have HCnt : Hid (cntN (ns.take (k + 1)) = cntN (ns.take k) + cntNd x) := Lib.hid (by rw [ptake_at hat, cntN_snoc])
        have HA1 : Hid ((Value.slice x.t.LA x.t.Ln x.t.Lc).ownBlock ≠ some g) := Lib.hid fun e => hown.a k x g hst1 (.inl e) rfl
        have HA2 : Hid ((Value.slice x.t.PA x.t.Pn x.t.Pc).ownBlock ≠ some g) := Lib.hid fun e => hown.a k x g hst1 (.inr e) rfl
        have HWo := Lib.hid hwio
        have HLp := Lib.hid (And.intro hl hp)
        obtain ⟨m, hm⟩ : ∃ m : Nat, m = k0 + cntN (ns.take k) := ⟨_, rfl⟩
        rw [← hm]
        have hm1 : m ≤ 1200000000000000 := by omega
        have HM := Lib.hid hm
        clear hown honly hsub hm hst1 hst2 hc hz hl hp hwio hcnt hat
        go_wp2_with fail
        refine (markI' _ B _ x.t.ls (ownI_blocks HWo.out.l fun b hb => by
          have hne : b ≠ g := fun e => HA1.out (by rw [← e]; exact hb)
          repeat rw [heap_setCell_other _ _ _ _ (by simpa using hne)]) HLp.out.1 _ (m + 4) (by omega) (by omega)).mono ?_
        rintro e w5 ⟨rfl, hm5, h5⟩
        have HM5 := Lib.hid hm5
        have H5 := Lib.hid h5
        have e5 := (World.cell?_of_block (a := ⟨g, k * 6 + 5, none⟩) (h5.block g HA1.out)).trans (((World.cell?_setCell_other _ _ _ _ (by simp)).trans ((World.cell?_setCell_other _ _ _ _ (by simp)).trans ((World.cell?_setCell_other _ _ _ _ (by simp)).trans (World.cell?_setCell_other _ _ _ _ (by simp))))).trans e5)
        have HP5 : Hid (OwnP w5 B (.slice x.t.PA x.t.Pn x.t.Pc) x.t.ps) := Lib.hid (HWo.out.p.blocks fun b hb => by
          have hne : b ≠ g := fun e => HA2.out (by rw [← e]; exact hb)
          rw [h5.block b fun e => HWo.out.a b e hb]
          repeat rw [heap_setCell_other _ _ _ _ (by simpa using hne)])
        clear hm5 h5 e0 e1 e2 e3 e4 f0 f1 f2 f3
        go_wp2_with fail
        refine (markP w5 B _ x.t.ps HP5.out HLp.out.2 (m + 4 + x.t.ls.length) (by have := HLp.out.1; omega)).mono ?_
        rintro e w6 ⟨rfl, hm6, h6⟩
        have HS := Lib.hid (OwnN.mark1 (by omega) (by omega) (by omega) (by omega) (Nat.le_trans hm1 (by decide)) HR.out HST1.out H5.out HM5.out h6 hm6)
        clear hm6 h6 e5
        go_wp2
        go_roundw
        case rel =>
          obtain ⟨s1, s2, s3⟩ := HS.out
          have e1 := HM.out
          refine ⟨k + 1, by omega, by go_num, ?_, ?_, ?_, ?_⟩
          · rw [HCnt.out]; congr 2; unfold cntNd; omega
          · rw [← HST2.out, ← e1]; exact s1
          · exact HO.out.trans (s2.sub HSub.out)
          · rw [← HST2.out, ← e1]; exact fun b hb => HSub.out b (s3 b hb)
        case measure => simp [intOf]; omega
      · obtain rfl : k = n := by omega
        have ht : ns.take k = ns := List.take_of_length_le (by rw [← HLen.out]; exact Nat.le_refl _)
        have hd : ns.drop k = [] := List.drop_eq_nil_of_le (by rw [← HLen.out]; exact Nat.le_refl _)
        rw [ht]
        have HR2 : Hid (OwnN wr B (.slice (some ⟨g, 0, none⟩) k cap) (markN k0 ns)) := Lib.hid (by have := HR.out; rwa [ht, hd, List.append_nil] at this)
        clear hown honly hsub ht hd
        obtain ⟨m, hm⟩ : ∃ m : Nat, m = k0 + cntN ns := ⟨_, rfl⟩
        rw [← hm]
        have HM := Lib.hid hm
        clear hm hcnt
        go_wp2
        go_ret
        exact ⟨by show Ending.returned (.int .i64 (m : Int)) = _; rw [HM.out], HR2.out, HO.out⟩
end Go.Proofs.YtceiocdemhkcdaaGreat.num
namespace Go.Proofs.YtceiocdemhkcdaaGreat.num
set_option maxRecDepth 20000
open Go.RowKit
set_option linter.unusedVariables false
set_option linter.unusedSimpArgs false

def markWi (k : Nat) (x : Wi) : Wi := ⟨((k : Nat) : Int), ((k + 1 : Nat) : Int), ((k + 2 : Nat) : Int), x.LA, x.Ln, x.Lc, marks (k + 3) x.ls.length, x.PA, x.Pn, x.Pc, pmarks (k + 3 + x.ls.length) x.ps.length⟩
def cntWi (x : Wi) : Nat := 3 + x.ls.length + 2 * x.ps.length
def markWs : Nat → List Wi → List Wi
  | _, [] => []
  | k, x :: r => markWi k x :: markWs (k + cntWi x) r
def cntWs : List Wi → Nat
  | [] => 0
  | x :: r => cntWi x + cntWs r
theorem cntWs_snoc (l : List Wi) (x : Wi) : cntWs (l ++ [x]) = cntWs l + cntWi x := by
  induction l with
  | nil => simp [cntWs]
  | cons y r ih => simp only [List.cons_append, cntWs, ih]; omega
theorem markWs_snoc (l : List Wi) (x : Wi) : ∀ k, markWs k (l ++ [x]) = markWs k l ++ [markWi (k + cntWs l) x] := by
  induction l with
  | nil => intro k; simp [markWs, cntWs]
  | cons y r ih => intro k; simp only [List.cons_append, markWs, cntWs, ih]; rw [Nat.add_assoc]
theorem markWs_len (l : List Wi) : ∀ k, (markWs k l).length = l.length := by
  induction l with
  | nil => intro k; rfl
  | cons y r ih => intro k; simp [markWs, ih]
theorem markWs_at (l : List Wi) : ∀ (k i : Nat) (x : Wi), l[i]? = some x → (markWs k l)[i]? = some (markWi (k + cntWs (l.take i)) x) := by
  induction l with
  | nil => intro k i x h; simp at h
  | cons y r ih =>
    intro k i x h
    cases i with
    | zero => simp at h; subst h; simp [markWs, cntWs]
    | succ i =>
      have h' : r[i]? = some x := by simpa using h
      simp only [markWs, List.getElem?_cons_succ, List.take_succ_cons, cntWs]
      rw [ih _ i x h', Nat.add_assoc]
/-- Each count of a short list is small. -/
theorem cntWs_le {l : List Wi} (h : ∀ x ∈ l, x.ls.length ≤ 1048576 ∧ x.ps.length ≤ 1048576) : cntWs l ≤ l.length * 3145732 := by
  induction l with
  | nil => simp [cntWs]
  | cons y r ih =>
    have h1 := ih fun x hx => h x (List.mem_cons_of_mem _ hx)
    have h2 := h y (List.mem_cons_self ..)
    simp only [cntWs, cntWi, List.length_cons]
    omega
/-- As far as k, the marks; the rest as it was. -/
theorem markWs_step {l : List Wi} {k k0 : Nat} {x : Wi} (h : l[k]? = some x) : (markWs k0 (l.take k) ++ l.drop k)[k]? = some x ∧ (markWs k0 (l.take k) ++ l.drop k).set k (markWi (k0 + cntWs (l.take k)) x) = markWs k0 (l.take (k + 1)) ++ l.drop (k + 1) := by
  have hlt : k < l.length := by
    rcases Nat.lt_or_ge k l.length with g | g
    · exact g
    · rw [List.getElem?_eq_none g] at h; cases h
  have hl : (markWs k0 (l.take k)).length = k := by rw [markWs_len, List.length_take]; omega
  have hd : l.drop k = x :: l.drop (k + 1) := by
    rw [List.drop_eq_getElem_cons hlt]
    rw [List.getElem?_eq_getElem hlt] at h
    rw [Option.some.inj h]
  refine ⟨by rw [List.getElem?_append_right (by omega), hl, hd]; simp, ?_⟩
  rw [hd, List.set_append_right _ _ (by omega), hl, Nat.sub_self, List.set_cons_zero, ptake_at h, markWs_snoc, List.append_assoc, List.singleton_append]

theorem OwnWs.cells_at {w : World} {B g n c k : Nat} {l : List Wi} {x : Wi} (h : OwnWs w B (.slice (some ⟨g, 0, none⟩) n c) l) (hk : l[k]? = some x) : (∀ (j : Nat) (v : Value), (wishCells x)[j]? = some v → w.cell? ⟨g, k * 5 + j, none⟩ = some v) ∧ ∀ j, w.frozen? ⟨g, j, none⟩ = false := by
  refine ⟨fun j v hv => ?_, fun j => ?_⟩
  · obtain ⟨b, off, e, _, hc⟩ := (h.r.read wishCells_len).at' k x hk
    injection e with e
    injection e with e1 e2
    subst e1 e2
    have := hc j v hv
    rwa [Nat.zero_add] at this
  · rcases h.r.row with ⟨e, _⟩ | ⟨g', cap, f, e, _, _, _, hrow, _⟩
    · cases e
    · injection e with e _ _
      injection e with e
      injection e with e
      subst e
      exact World.rowIs.frozen hrow j
set_option maxRecDepth 20000 in
/-- One element is marked. -/
theorem OwnWs.mark1 {w w5 w6 : World} {B g n c : Nat} {l : List Wi} {k m : Nat} {x : Wi} {u0 : Int} {u1 : Int} {u2 : Int} (hu0 : u0 = ((m : Nat) : Int)) (hu1 : u1 = ((m + 1 : Nat) : Int)) (hu2 : u2 = ((m + 2 : Nat) : Int)) (hm : m ≤ 4700000000000000000) (h : OwnWs w B (.slice (some ⟨g, 0, none⟩) n c) l) (hk : l[k]? = some x)
    (h5 : OnlyV (.slice x.LA x.Ln x.Lc) ((((w.setCell ⟨g, k * 5, none⟩ (.int .i64 u0)).setCell ⟨g, k * 5 + 1, none⟩ (.int .i64 u1)).setCell ⟨g, k * 5 + 2, none⟩ (.int .i64 u2))) w5) (hl : OwnI w5 B (.slice x.LA x.Ln x.Lc) (marks (m + 3) x.ls.length)) (h6 : OnlyV (.slice x.PA x.Pn x.Pc) w5 w6) (hp : OwnP w6 B (.slice x.PA x.Pn x.Pc) (pmarks (m + 3 + x.ls.length) x.ps.length)) :
    OwnWs w6 B (.slice (some ⟨g, 0, none⟩) n c) (l.set k (markWi m x)) ∧ OnlyS (hasWs (.slice (some ⟨g, 0, none⟩) n c) l) w w6 ∧ ∀ b, hasWs (.slice (some ⟨g, 0, none⟩) n c) (l.set k (markWi m x)) b → hasWs (.slice (some ⟨g, 0, none⟩) n c) l b := by
  have hlt : k < l.length := by
    rcases Nat.lt_or_ge k l.length with q | q
    · exact q
    · rw [List.getElem?_eq_none q] at hk; cases hk
  obtain ⟨hwf, hx⟩ := (⟨trivial, h.x k x hk⟩ : True ∧ WiO w B x)
  have hmem : x ∈ l := List.mem_of_getElem? hk
  have a1 : (Value.slice x.LA x.Ln x.Lc).ownBlock ≠ some g := fun e => h.a k x g hk (.inl e) rfl
  have a2 : (Value.slice x.PA x.Pn x.Pc).ownBlock ≠ some g := fun e => h.a k x g hk (.inr e) rfl
  have hoth : ∀ b, b ≠ g → ¬ x.has b → w6.heap[b]? = w.heap[b]? := fun b hb hn => by
    rw [h6.block b fun e => hn (.inr e), h5.block b fun e => hn (.inl e)]
    repeat rw [heap_setCell_other _ _ _ _ (by simpa using hb)]
  have hget : ∀ (i : Nat) (y : Wi), (l.set k (markWi m x))[i]? = some y → (i = k ∧ y = markWi m x) ∨ (i ≠ k ∧ l[i]? = some y) := fun i y hy => by
    by_cases e : i = k
    · subst e
      rw [List.getElem?_set_self hlt] at hy
      exact .inl ⟨rfl, (Option.some.inj hy).symm⟩
    · rw [List.getElem?_set_ne (fun e' => e e'.symm)] at hy
      exact .inr ⟨e, hy⟩
  have hhas : ∀ b, (markWi m x).has b → x.has b := fun b hb => hb
  refine ⟨⟨?_, ?_, ?_, ?_⟩, ?_, ?_⟩
  · rcases h.r.row with ⟨e, _⟩ | ⟨g', cap, f, e, hB, hle, hcap, hrow, hf⟩
    · cases e
    · injection e with e1 e2 e3
      injection e1 with e1
      injection e1 with e1
      subst e1 e2 e3
      have hr6 := World.rowIs.of_block (World.rowIs.of_block (World.rowIs.set (World.rowIs.set (World.rowIs.set hrow (k * 5) (.int .i64 u0)) (k * 5 + 1) (.int .i64 u1)) (k * 5 + 2) (.int .i64 u2)) (h5.block g a1)) (h6.block g a2)
      refine OwnG.of_row wishCells_len hB (by simp) hle hcap hr6 fun j hj => ?_
      rw [fm_set wishCells_len l k _ hlt j hj]
      by_cases e : j / 5 = k
      · obtain ⟨r, hr, rfl⟩ : ∃ r, r < 5 ∧ j = k * 5 + r := ⟨j % 5, Nat.mod_lt _ (by decide), by omega⟩
        rw [if_pos e, show (k * 5 + r) % 5 = r by omega]
        have hold := hf _ hj
        rw [fm_at wishCells_len l k r x hk hr] at hold
        have hr' : r = 0 ∨ r = 1 ∨ r = 2 ∨ r = 3 ∨ r = 4 := by omega
        rcases hr' with rfl | rfl | rfl | rfl | rfl
        · rw [if_neg (by omega), if_neg (by omega), if_pos (by omega)]; exact (congrArg some (congrArg (Value.int .i64) hu0)).symm
        · rw [if_neg (by omega), if_pos rfl]; exact (congrArg some (congrArg (Value.int .i64) hu1)).symm
        · rw [if_pos rfl]; exact (congrArg some (congrArg (Value.int .i64) hu2)).symm
        · rw [if_neg (by omega), if_neg (by omega), if_neg (by omega)]
          exact hold
        · rw [if_neg (by omega), if_neg (by omega), if_neg (by omega)]
          exact hold
      · rw [if_neg e, hf j hj]
        congr 1
        have hj' : ¬ (k * 5 ≤ j ∧ j < k * 5 + 5) := by omega
        rw [if_neg (by omega), if_neg (by omega), if_neg (by omega)]
  · intro i y hy
    rcases hget i y hy with ⟨rfl, rfl⟩ | ⟨hne, hy⟩
    · exact ⟨wf_small (by omega), wf_small (by omega), wf_small (by omega), ownI_blocks hl (fun b hb => h6.block b (hx.a b hb)), hp, hx.a⟩
    · have q2 := h.x i y hy
      refine q2.blocks fun b hb => hoth b (fun e => h.a i y b hy hb (by rw [e]; rfl)) fun hb' => ?_
      rcases Nat.lt_or_gt_of_ne hne with q | q
      · exact h.d i k y x b q hy hk hb hb'
      · exact h.d k i x y b q hk hy hb' hb
  · intro i y b hy hb
    rcases hget i y hy with ⟨rfl, rfl⟩ | ⟨hne, hy⟩
    · exact h.a i x b hk (hhas b hb)
    · exact h.a i y b hy hb
  · intro i j y z b hij hy hz hb hb'
    rcases hget i y hy with ⟨ei, rfl⟩ | ⟨_, hy2⟩ <;> rcases hget j z hz with ⟨ej, rfl⟩ | ⟨_, hz2⟩
    · omega
    · exact h.d i j x z b hij (by rw [ei]; exact hk) hz2 (hhas b hb) hb'
    · exact h.d i j y x b hij hy2 (by rw [ej]; exact hk) hb (hhas b hb')
    · exact h.d i j y z b hij hy2 hz2 hb hb'
  · have hs : ∀ b, x.has b → hasWs (.slice (some ⟨g, 0, none⟩) n c) l b := fun b hb => .inr ⟨x, hmem, hb⟩
    exact (((((OnlyS.refl _ w).set (.inl rfl) _ _).set (.inl rfl) _ _).set (.inl rfl) _ _).trans (h5.s fun b hb => hs b (.inl hb))).trans (h6.s fun b hb => hs b (.inr hb))
  · intro b hb
    rcases hb with hb | ⟨y, hy, hb⟩
    · exact .inl hb
    · obtain ⟨i, hi, rfl⟩ := List.getElem_of_mem hy
      rcases hget i _ (List.getElem?_eq_getElem hi) with ⟨_, e⟩ | ⟨_, hy'⟩
      · rw [e] at hb
        exact .inr ⟨x, hmem, hhas b hb⟩
      · exact .inr ⟨_, List.mem_of_getElem? hy', hb⟩
end Go.Proofs.YtceiocdemhkcdaaGreat.num
namespace Go.Proofs.YtceiocdemhkcdaaGreat.num
set_option maxRecDepth 20000
open Go.RowKit
set_option linter.unusedVariables false

/-- A slice that a call handed back: it lies between the blocks lo and hi. -/
structure ResWs (w : World) (lo hi : Nat) (v : Value) (ts : List Wi) : Prop where
  own : OwnWs w lo v ts
  top : ∀ b, hasWs v ts b → b < hi
  le : hi ≤ w.heap.size
theorem ResWs.new {w : World} {lo : Nat} {v : Value} {ts : List Wi} (h : OwnWs w lo v ts) : ResWs w lo w.heap.size v ts := ⟨h, fun b hb => (h.has_in hb).2, Nat.le_refl _⟩
theorem ResWs.step {w w' : World} {lo hi : Nat} {v : Value} {ts : List Wi} (h : ResWs w lo hi v ts) (hb : Below w.heap.size w w') : ResWs w' lo hi v ts := ⟨h.own.below hb, h.top, Nat.le_trans h.le hb.size⟩
theorem ResWs.only {S : Nat → Prop} {w w' : World} {lo hi : Nat} {v : Value} {ts : List Wi} (h : ResWs w lo hi v ts) (ho : OnlyS S w w') (hs : ∀ b, S b → b < lo ∨ hi ≤ b) : ResWs w' lo hi v ts :=
  ⟨h.own.blocks fun b hb => ho.block b fun e => by
    have h1 := h.top b hb
    have h2 := (h.own.has_in hb).1
    rcases hs b e with q | q <;> omega, h.top, by rw [ho.size]; exact h.le⟩
theorem lensWs {w : World} {B : Nat} {v : Value} {ts : List Wi} (h : OwnWs w B v ts) (hs : ShortWs ts) : ∀ x ∈ ts, x.ls.length ≤ 1048576 ∧ x.ps.length ≤ 1048576 := fun x hx => by
  obtain ⟨k, hk, rfl⟩ := List.getElem_of_mem hx
  have h1 := (h.x k _ (List.getElem?_eq_getElem hk)).wi
  have h2 := hs _ hx
  exact ⟨by rw [h1.l.1]; exact h2.1, by rw [h1.p.1]; exact h2.2⟩
theorem markWs_has {v : Value} (ts : List Wi) : ∀ (k : Nat) (b : Nat), hasWs v (markWs k ts) b → hasWs v ts b := fun k b hb => by
  rcases hb with hb | ⟨y, hy, hb⟩
  · exact .inl hb
  · obtain ⟨i, hi, rfl⟩ := List.getElem_of_mem hy
    have hi' : i < ts.length := by rw [markWs_len] at hi; exact hi
    have h1 := markWs_at ts k i _ (List.getElem?_eq_getElem hi')
    rw [List.getElem?_eq_getElem hi] at h1
    rw [Option.some.inj h1] at hb
    exact .inr ⟨_, List.getElem_mem hi', hb⟩
/-- A slice that a call handed back: it lies between the blocks lo and hi. -/
structure ResN (w : World) (lo hi : Nat) (v : Value) (ts : List Nd) : Prop where
  own : OwnN w lo v ts
  top : ∀ b, hasN v ts b → b < hi
  le : hi ≤ w.heap.size
theorem ResN.new {w : World} {lo : Nat} {v : Value} {ts : List Nd} (h : OwnN w lo v ts) : ResN w lo w.heap.size v ts := ⟨h, fun b hb => (h.has_in hb).2, Nat.le_refl _⟩
theorem ResN.step {w w' : World} {lo hi : Nat} {v : Value} {ts : List Nd} (h : ResN w lo hi v ts) (hb : Below w.heap.size w w') : ResN w' lo hi v ts := ⟨h.own.below hb, h.top, Nat.le_trans h.le hb.size⟩
theorem ResN.only {S : Nat → Prop} {w w' : World} {lo hi : Nat} {v : Value} {ts : List Nd} (h : ResN w lo hi v ts) (ho : OnlyS S w w') (hs : ∀ b, S b → b < lo ∨ hi ≤ b) : ResN w' lo hi v ts :=
  ⟨h.own.blocks fun b hb => ho.block b fun e => by
    have h1 := h.top b hb
    have h2 := (h.own.has_in hb).1
    rcases hs b e with q | q <;> omega, h.top, by rw [ho.size]; exact h.le⟩
theorem lensN {w : World} {B : Nat} {v : Value} {ts : List Nd} (h : OwnN w B v ts) (hs : ShortN ts) : ∀ x ∈ ts, x.t.ls.length ≤ 1048576 ∧ x.t.ps.length ≤ 1048576 := fun x hx => by
  obtain ⟨k, hk, rfl⟩ := List.getElem_of_mem hx
  have h1 := (h.x k _ (List.getElem?_eq_getElem hk)).2.wi
  have h2 := hs _ hx
  exact ⟨by rw [h1.l.1]; exact h2.1, by rw [h1.p.1]; exact h2.2⟩
theorem ResN.eq {w : World} {lo hi lo' hi' : Nat} {A A' : Option Addr} {c c' : Nat} {ts ts' : List Nd} {D : List ND} (h1 : ResN w lo hi (.slice A ts.length c) ts) (h2 : ResN w lo' hi' (.slice A' ts'.length c') ts') (d1 : datN ts = D) (d2 : datN ts' = D) (hn : D.length ≤ 1048576) (hs : ShortN ts) :
    Calls Tryz.prog 78 #[.slice A ts.length c, .slice A' ts'.length c'] w fun e w' => e = .returned (.bool true) ∧ Below w.heap.size w w' :=
  eqNodes_c w w.heap.size _ _ _ _ _ _ ts ts' h1.own.nodes h2.own.nodes (Nat.le_refl _) (by rw [← d1] at hn; unfold datN at hn; rwa [List.length_map] at hn) hs true ⟨fun _ => d1.trans d2.symm, fun _ => rfl⟩
theorem markN_has {v : Value} (ts : List Nd) : ∀ (k : Nat) (b : Nat), hasN v (markN k ts) b → hasN v ts b := fun k b hb => by
  rcases hb with hb | ⟨y, hy, hb⟩
  · exact .inl hb
  · obtain ⟨i, hi, rfl⟩ := List.getElem_of_mem hy
    have hi' : i < ts.length := by rw [markN_len] at hi; exact hi
    have h1 := markN_at ts k i _ (List.getElem?_eq_getElem hi')
    rw [List.getElem?_eq_getElem hi] at h1
    rw [Option.some.inj h1] at hb
    exact .inr ⟨_, List.getElem_mem hi', hb⟩
theorem ResN.mark {w : World} {lo hi : Nat} {v : Value} {ts : List Nd} (h : ResN w lo hi v ts) (hn : ts.length ≤ 1048576) (hs : ShortN ts) (z : Int) (k0 : Nat) (hz : z = (k0 : Int)) (hk0 : k0 ≤ 1125899906842624) :
    Calls Tryz.prog 79 #[v, .int .i64 z] w fun e w' => e = .returned (.int .i64 ((k0 + cntN ts : Nat) : Int)) ∧ ResN w' lo hi v (markN k0 ts) ∧ OnlyS (fun b => lo ≤ b ∧ b < hi) w w' := by
  rw [hz]
  refine (markNodeS_c w lo v ts h.own hn (lensN h.own hs) k0 hk0).mono ?_
  rintro e w' ⟨rfl, h1, h2⟩
  refine ⟨rfl, ⟨h1, fun b hb => ?_, by rw [h2.size]; exact h.le⟩, h2.sub fun b hb => ⟨(h.own.has_in hb).1, h.top b hb⟩⟩
  exact h.top b (markN_has ts k0 b hb)
/-- A copy that the law made, as a slice that a call handed back. -/
theorem CopyN.res {w : World} {lo n : Nat} {ns ns' : List Nd} (h : CopyN w lo n ns ns') : ResN w lo w.heap.size (.slice (some ⟨lo, 0, none⟩) n n) ns' := .new h.own
theorem CopyN.len {w : World} {lo n : Nat} {ns ns' : List Nd} (h : CopyN w lo n ns ns') : ns'.length = n := h.own.nodes.len
end Go.Proofs.YtceiocdemhkcdaaGreat.num
namespace Go.Proofs.YtceiocdemhkcdaaGreat.num
set_option maxRecDepth 20000
open Go.RowKit
set_option linter.unusedVariables false
set_option linter.unusedSimpArgs false

/-- A copy of voters that lies in the blocks from lo to hi. -/
structure ResVo (w : World) (lo hi n : Nat) (gs : List Vo) : Prop where
  own : OwnV w lo (.slice (some ⟨lo, 0, none⟩) n n) gs
  top : ∀ b, hasV (.slice (some ⟨lo, 0, none⟩) n n) gs b → b < hi
  le : hi ≤ w.heap.size
theorem CopyV.res {w : World} {lo n : Nat} {gs gs' : List Vo} (h : CopyV w lo n gs gs') : ResVo w lo w.heap.size n gs' := ⟨h.own, fun b hb => (h.own.has_in hb).2, Nat.le_refl _⟩
theorem ResVo.step {w w' : World} {lo hi n : Nat} {gs : List Vo} (h : ResVo w lo hi n gs) (hb : Below w.heap.size w w') : ResVo w' lo hi n gs := ⟨h.own.below hb, h.top, Nat.le_trans h.le hb.size⟩
theorem ResVo.only {S : Nat → Prop} {w w' : World} {lo hi n : Nat} {gs : List Vo} (h : ResVo w lo hi n gs) (ho : OnlyS S w w') (hs : ∀ b, S b → b < lo ∨ hi ≤ b) : ResVo w' lo hi n gs :=
  ⟨h.own.blocks fun b hb => ho.block b fun e => by
    have h1 := h.top b hb
    have h2 := (h.own.has_in hb).1
    rcases hs b e with q | q <;> omega, h.top, by rw [ho.size]; exact h.le⟩
theorem sumV_take_le (gs : List Vo) (k : Nat) : sumV (gs.take k) ≤ sumV gs := by
  induction gs generalizing k with
  | nil => simp [sumV]
  | cons x r ih =>
    cases k with
    | zero => simp [sumV]
    | succ k => simp only [List.take_succ_cons, sumV]; have := ih k; omega
set_option maxRecDepth 20000 in
theorem ResVo.mark {w : World} {lo hi n : Nat} {gs : List Vo} (h : ResVo w lo hi n gs) (hn : n ≤ 1048576) (hs : ShortV gs) (hsum : sumV gs ≤ 1048576) (z : Int) (k0 : Nat) (hz : z = (k0 : Int)) (hk0 : k0 ≤ 562949953421312) :
    Calls Tryz.prog 43 #[.slice (some ⟨lo, 0, none⟩) n n, .int .i64 z] w fun e w' => (∃ M : Nat, e = .returned (.int .i64 M) ∧ M ≤ k0 + 3298539143168) ∧ OnlyS (fun b => lo ≤ b ∧ b < hi) w w' := by
  subst hz
  have HX := Lib.hid h.own.votes
  obtain ⟨los, hli, hl0, hlv⟩ := h.own.l
  have HLi := Lib.hid hli
  have HT : Hid (∀ (k : Nat) (x : Vo), gs[k]? = some x → ∀ b, hasN x.val x.ns b → lo ≤ b ∧ b < hi) := Lib.hid fun k x hk b hb => ⟨(h.own.has_in (.inr ⟨x, List.mem_of_getElem? hk, hb⟩)).1, h.top b (.inr ⟨x, List.mem_of_getElem? hk, hb⟩)⟩
  have hlo : lo < los 0 := hlv lo rfl
  have hlos : lo < w.heap.size := h.own.r.tops lo rfl
  have HS := Lib.hid hs
  clear h hli hlv hs
  go_enter Tryz.func43, Tryz.ntmps43
  go_wp2
  go_loopw [1, 5] (fun m i wr => ∃ k r : Nat, k ≤ n ∧ i = .int .i64 k ∧ m = .int .i64 r ∧ r ≤ k0 + sumV (gs.take k) * 3145732 ∧ (∀ b, b < los 0 ∨ los k ≤ b → wr.heap[b]? = w.heap[b]?) ∧ OnlyS (fun b => lo ≤ b ∧ b < hi) w wr) (fun _ i _ => n - (intOf i).toNat)
  case atStart => exact ⟨0, k0, Nat.zero_le _, rfl, rfl, by simp [sumV], fun _ _ => rfl, OnlyS.refl _ _⟩
  case round =>
    obtain ⟨k, r, hk, rfl, rfl, hr, hbl, hon⟩ := hrel
    have HBl := Lib.hid hbl
    have HO := Lib.hid hon
    have hsl := sumV_take_le gs k
    have hrb : r ≤ 1125899906842624 := by
      have h1 := Nat.mul_le_mul_right 3145732 (Nat.le_trans hsl hsum)
      omega
    by_cases hlt : k < n
    · obtain ⟨b, off, x, hA, hb, hat, -, g0⟩ := HX.out.at k hlt
      injection hA with hA
      injection hA with e1 e2
      subst e1 e2
      have g0 : wr.cell? ⟨lo, 0 + k, none⟩ = some (.slice x.A x.n x.c) := (World.cell?_of_block (a := ⟨lo, 0 + k, none⟩) (hbl lo (.inl hlo))).trans g0
      rw [Nat.zero_add] at g0
      have hlt' : (k : Int) < (n : Int) := by omega
      obtain ⟨ho, htp⟩ := HLi.out.at' k x hat
      have hxs := HS.out x (List.mem_of_getElem? hat)
      have ho1 : OwnN wr (los k) x.val x.ns := ho.blocks fun b hb => hbl b (.inr (ho.has_in hb).1)
      have hxl : x.ns.length = x.n := ho.nodes.len
      have hsum1 : sumV (gs.take (k + 1)) = sumV (gs.take k) + x.n := by rw [votake_at hat, sumV_snoc]
      have hcn : cntN x.ns ≤ x.n * 3145732 := by rw [← hxl]; exact cntN_le (lensN ho hxs.2)
      have HC : Hid (Calls Tryz.prog 79 #[.slice x.A x.n x.c, .int .i64 (r : Int)] wr fun e w' => e = .returned (.int .i64 ((r + cntN x.ns : Nat) : Int)) ∧ OnlyS (hasN x.val x.ns) wr w') :=
        Lib.hid ((markNodeS_c wr (los k) x.val x.ns ho1 (by omega) (lensN ho1 hxs.2) r hrb).mono fun _ _ ⟨q1, _, q3⟩ => ⟨q1, q3⟩)
      have HIn := Lib.hid (HT.out k x hat)
      have HLo := Lib.hid fun b (hb : hasN x.val x.ns b) => And.intro (ho.has_in hb).1 (htp b hb)
      obtain ⟨M, hM⟩ : ∃ M, r + cntN x.ns = M := ⟨_, rfl⟩
      rw [hM] at HC
      have HMb : Hid (M ≤ k0 + sumV (gs.take (k + 1)) * 3145732) := Lib.hid (by rw [hsum1, Nat.add_mul]; omega)
      have hmono := HLi.out.mono k (k + 1) (Nat.le_succ _)
      have hmono0 := HLi.out.mono 0 k (Nat.zero_le _)
      clear hat ho ho1 htp hxs hxl hsum1 hcn hbl hon hM hr
      go_wp2_with fail
      refine HC.out.mono ?_
      rintro e w1 ⟨rfl, hon⟩
      have HO1 := Lib.hid hon
      clear hon HC g0
      go_wp2
      go_roundw
      case rel =>
        refine ⟨k + 1, M, by omega, by go_num, rfl, HMb.out, fun b hb => ?_, HO.out.trans (HO1.out.sub HIn.out)⟩
        rw [HO1.out.block b (fun e => by have h1 := HLo.out b e; rcases hb with hb | hb <;> omega)]
        exact HBl.out b (by rcases hb with hb | hb <;> omega)
      case measure => simp [intOf]; omega
    · obtain rfl : k = n := by omega
      clear hbl hon
      have hrM : r ≤ k0 + 3298539143168 := by
        have h1 := Nat.mul_le_mul_right 3145732 (Nat.le_trans hsl hsum)
        omega
      go_wp2
      go_ret
      exact ⟨⟨r, rfl, hrM⟩, HO.out⟩
end Go.Proofs.YtceiocdemhkcdaaGreat.num
namespace Go.Proofs.YtceiocdemhkcdaaGreat.num
set_option maxRecDepth 20000
open Go.RowKit
set_option linter.unusedSimpArgs false

theorem slEqual (w : World) (B : Nat) (A A' : Option Addr) (n n' c c' : Nat) (xs ys : List Int) (hx : Ints w B A n xs) (hy : Ints w B A' n' ys) (hn : n ≤ 1048576) (b : Bool) (hb : b = true ↔ xs = ys) :
    Calls Tryz.prog 183 #[.slice A n c, .slice A' n' c'] w fun e w' => e = .returned (.bool b) ∧ ∃ m, w' = w.drewN m := by
  have HX := Lib.hid hx
  have HY := Lib.hid hy
  by_cases hl : n = n'
  · subst hl
    have HB := Lib.hid hb
    clear hx hy hb
    go_enter Tryz.func183, Tryz.ntmps183
    go_wp2
    go_loopw [13] (fun i wr => ∃ k : Nat, k ≤ n ∧ i = .int .i64 k ∧ xs.take k = ys.take k ∧ ∃ m, wr = w.drewN m) (fun i _ => n - (intOf i).toNat)
    case atStart => exact ⟨0, Nat.zero_le _, rfl, rfl, 0, rfl⟩
    case round =>
      obtain ⟨k, hk, rfl, htake, m, rfl⟩ := hrel
      have HT := Lib.hid htake
      clear htake
      by_cases hlt : k < n
      · obtain ⟨b1, off1, rfl, hb1, hc1⟩ := HX.out.2 k hlt
        obtain ⟨b2, off2, rfl, hb2, hc2⟩ := HY.out.2 k hlt
        generalize hv1 : xs.getD k 0 = v1 at *
        generalize hv2 : ys.getD k 0 = v2 at *
        have HV1 := Lib.hid hv1
        have HV2 := Lib.hid hv2
        clear hv1 hv2
        have hlt' : (k : Int) < (n : Int) := by omega
        by_cases he : v1 = v2
        · subst he
          go_wp2
          go_quiet (fail)
          go_wp2
          go_roundw
          case rel => exact ⟨k + 1, by omega, by go_num, by rw [take_snoc_getD HX.out.1 hlt, take_snoc_getD HY.out.1 hlt, HT.out, HV1.out, HV2.out], _, rfl⟩
          case measure => simp [intOf]; omega
        · have hne : (v1 != v2) = true := by simpa using he
          have hxy : xs ≠ ys := ne_at (k := k) (by rw [HV1.out, HV2.out]; exact he)
          obtain rfl : b = false := by
            cases b
            · rfl
            · exact absurd (HB.out.1 rfl) hxy
          have HE := Lib.hid he
          clear he hxy
          go_wp2
          go_quiet (fail)
          go_wp2
          go_ret
          exact ⟨rfl, _, World.drewN_drewN _ _ _⟩
      · obtain rfl : k = n := by omega
        obtain rfl : b = true := HB.out.2 (by
          have h1 := HT.out
          rwa [List.take_of_length_le (by rw [HX.out.1]; exact Nat.le_refl _), List.take_of_length_le (by rw [HY.out.1]; exact Nat.le_refl _)] at h1)
        go_wp2
        go_ret
        exact ⟨rfl, _, rfl⟩
  · obtain rfl : b = false := by
      cases b
      · rfl
      · exact absurd (by rw [← hx.1, hb.1 rfl, hy.1]) hl
    clear hx hy hb
    go_enter Tryz.func183, Tryz.ntmps183
    go_wp2
    go_ret
    exact ⟨rfl, 0, rfl⟩

end Go.Proofs.YtceiocdemhkcdaaGreat.num
namespace Go.Proofs.YtceiocdemhkcdaaGreat.num
set_option maxRecDepth 20000
open Go.RowKit
set_option linter.unusedVariables false
set_option linter.unusedSimpArgs false

set_option maxRecDepth 20000 in
theorem pair_neq (w : World) (x1 y1 x2 y2 : Int) : (binOp .neq 181 (.agg #[.int .i64 x1, .int .i64 y1]) (.agg #[.int .i64 x2, .int .i64 y2])).run Tryz.prog w = .ok (.bool (!(x1 == x2 && y1 == y2))) w := by
  have hu := Tryz.underlying181
  by_cases h1 : x1 = x2
  · go_simp
    by_cases h2 : y1 = y2 <;> simp [h1, h2]
  · go_simp

set_option maxRecDepth 20000 in
theorem slEqualP (w : World) (B : Nat) (A A' : Option Addr) (n n' c c' : Nat) (ps qs : List (Int × Int)) (h1 : Pairs w B A n ps) (h2 : Pairs w B A' n' qs) (hn : n ≤ 1048576) (b : Bool) (hb : b = true ↔ ps = qs) :
    Calls Tryz.prog 184 #[.slice A n c, .slice A' n' c'] w fun e w' => e = .returned (.bool b) ∧ ∃ m, w' = w.drewN m := by
  have HX := Lib.hid h1
  have HY := Lib.hid h2
  by_cases hl : n = n'
  · subst hl
    have HBo := Lib.hid hb
    clear h1 h2 hb
    go_enter Tryz.func184, Tryz.ntmps184
    go_wp2
    go_loopw [13] (fun i wr => ∃ k : Nat, k ≤ n ∧ i = .int .i64 k ∧ ps.take k = qs.take k ∧ ∃ m, wr = w.drewN m) (fun i _ => n - (intOf i).toNat)
    case atStart => exact ⟨0, Nat.zero_le _, rfl, rfl, 0, rfl⟩
    case round =>
      obtain ⟨k, hk, rfl, htake, m, rfl⟩ := hrel
      have HT := Lib.hid htake
      clear htake
      by_cases hlt : k < n
      · obtain ⟨b1, off1, x1, y1, rfl, hb1, hat1, hc1, hd1⟩ := HX.out.at k hlt
        obtain ⟨b2, off2, x2, y2, rfl, hb2, hat2, hc2, hd2⟩ := HY.out.at k hlt
        have HA1 := Lib.hid hat1
        have HA2 := Lib.hid hat2
        have hlt' : (k : Int) < (n : Int) := by omega
        obtain ⟨q, hq⟩ : ∃ q : Bool, q = true ↔ (x1, y1) = (x2, y2) := bool_of _
        have HQ := Lib.hid hq
        have hne : ∀ w1, (binOp .neq 181 (.agg #[.int .i64 x1, .int .i64 y1]) (.agg #[.int .i64 x2, .int .i64 y2])).run Tryz.prog w1 = .ok (.bool (!q)) w1 := fun w1 => by
          rw [pair_neq]
          congr 2
          cases q
          · have : (x1 == x2 && y1 == y2) = false := by
              cases h : (x1 == x2 && y1 == y2)
              · rfl
              · simp at h; exact absurd (HQ.out.2 (by rw [h.1, h.2])) (by simp)
            rw [this]
          · have h := Prod.mk.inj (HQ.out.1 rfl)
            rw [h.1, h.2]; simp
        clear hat1 hat2 hq
        cases q
        · have HF := Lib.hid (ne_atP HA1.out HA2.out (fun e => by have := HQ.out.2 e; cases this))
          obtain rfl : b = false := by
            cases b
            · rfl
            · exact absurd (HBo.out.1 rfl) HF.out
          go_wp2
          go_quiet (fail)
          go_wp2
          go_ret
          exact ⟨rfl, _, World.drewN_drewN _ _ _⟩
        · have HD := Lib.hid (HQ.out.1 rfl)
          go_wp2
          go_quiet (fail)
          go_wp2
          go_roundw
          case rel => exact ⟨k + 1, by omega, by go_num, by rw [ptake_at HA1.out, ptake_at HA2.out, HT.out, HD.out], _, rfl⟩
          case measure => simp [intOf]; omega
      · obtain rfl : k = n := by omega
        obtain rfl : b = true := HBo.out.2 (by have := HT.out; rwa [ptake_all HX.out.1, ptake_all HY.out.1] at this)
        go_wp2
        go_ret
        exact ⟨rfl, _, rfl⟩
  · obtain rfl : b = false := by
      cases b
      · rfl
      · exact absurd (by rw [← h1.1, hb.1 rfl, h2.1]) hl
    clear h1 h2 hb
    go_enter Tryz.func184, Tryz.ntmps184
    go_wp2
    go_ret
    exact ⟨rfl, 0, rfl⟩

set_option maxRecDepth 20000 in
theorem iSameWish (w : World) (B : Nat) (t t' : Wi) (h1 : WiIn w B t) (h2 : WiIn w B t') (hB : B ≤ w.heap.size) (hn : t.Short) (b : Bool) (hb : b = true ↔ t.dat = t'.dat) :
    Calls Tryz.prog 147 #[t.val, t'.val] w fun e w' => e = .returned (.bool b) ∧ Below w.heap.size w w' := by
  obtain ⟨k, f, v, LA, Ln, Lc, ls, PA, Pn, Pc, ps⟩ := t
  obtain ⟨k', f', v', LA', Ln', Lc', ls', PA', Pn', Pc', ps'⟩ := t'
  obtain ⟨-, -, -, hl, hp⟩ := h1
  obtain ⟨-, -, -, hl', hp'⟩ := h2
  unfold Wi.val
  simp only [Wi.dat, WD.mk.injEq, Wi.Short] at hl hp hl' hp' hn hb ⊢
  have HB2 : Hid (∀ o1 o2 : Obj, Below B w ((w.alloc o1).alloc o2)) := Lib.hid fun o1 o2 => ((Below.refl B w).alloc hB _).alloc (by simp; omega) _
  have HW2 : Hid (∀ o1 o2 : Obj, Below w.heap.size w ((w.alloc o1).alloc o2)) := Lib.hid fun o1 o2 => ((Below.refl _ w).alloc (Nat.le_refl _) _).alloc (by simp) _
  obtain ⟨q1, hq1⟩ := bool_of (ls = ls')
  obtain ⟨q2, hq2⟩ := bool_of (ps = ps')
  have HI : Hid (∀ w1, Below B w w1 → Calls Tryz.prog 183 #[.slice LA Ln Lc, .slice LA' Ln' Lc'] w1 fun e w' => e = .returned (.bool q1) ∧ ∃ m, w' = w1.drewN m) := Lib.hid fun w1 h => slEqual w1 B LA LA' Ln Ln' Lc Lc' ls ls' (hl.below h) (hl'.below h) hn.1 q1 hq1
  have HP : Hid (∀ w1, Below B w w1 → Calls Tryz.prog 184 #[.slice PA Pn Pc, .slice PA' Pn' Pc'] w1 fun e w' => e = .returned (.bool q2) ∧ ∃ m, w' = w1.drewN m) := Lib.hid fun w1 h => slEqualP w1 B PA PA' Pn Pn' Pc Pc' ps ps' (hp.below h) (hp'.below h) hn.2 q2 hq2
  have HNo : Hid (¬ (k = k' ∧ f = f' ∧ v = v' ∧ q1 = true ∧ q2 = true) → b = false) := Lib.hid fun h => by
    cases b
    · rfl
    · obtain ⟨e1, e2, e3, e4, e5⟩ := hb.1 rfl
      exact absurd ⟨e1, e2, e3, hq1.2 e4, hq2.2 e5⟩ h
  have HYes : Hid (k = k' → f = f' → v = v' → q1 = true → q2 = true → b = true) := Lib.hid fun e1 e2 e3 e4 e5 => hb.2 ⟨e1, e2, e3, hq1.1 e4, hq2.1 e5⟩
  clear hl hp hl' hp' hb hq1 hq2 hn
  by_cases e1 : k = k'
  · by_cases e2 : f = f'
    · by_cases e3 : v = v'
      · cases q1
        · obtain rfl := HNo.out fun h => by have := h.2.2.2.1; cases this
          subst e1 e2 e3
          go_enter Tryz.func147, Tryz.ntmps147
          go_wp2_with fail
          refine (HI.out _ (HB2.out _ _)).mono ?_
          rintro e w1 ⟨rfl, m1, rfl⟩
          go_wp2
          go_ret
          exact ⟨rfl, below_drewN (HW2.out _ _) _⟩
        · have HR : Hid (b = q2) := Lib.hid (by
            cases q2
            · exact HNo.out fun h => by have := h.2.2.2.2; cases this
            · exact HYes.out e1 e2 e3 rfl rfl)
          obtain rfl := HR.out
          subst e1 e2 e3
          go_enter Tryz.func147, Tryz.ntmps147
          go_wp2_with fail
          refine (HI.out _ (HB2.out _ _)).mono ?_
          rintro e w1 ⟨rfl, m1, rfl⟩
          go_wp2_with fail
          refine (HP.out _ (below_drewN (HB2.out _ _) _)).mono ?_
          rintro e w1 ⟨rfl, m2, rfl⟩
          go_wp2
          go_ret
          exact ⟨rfl, below_drewN (HW2.out _ _) _⟩
      · obtain rfl := HNo.out fun h => e3 h.2.2.1
        subst e1 e2
        have hne : (v == v') = false := by simpa using e3
        go_enter Tryz.func147, Tryz.ntmps147
        go_wp2
        go_ret
        exact ⟨rfl, HW2.out _ _⟩
    · obtain rfl := HNo.out fun h => e2 h.2.1
      subst e1
      have hne : (f == f') = false := by simpa using e2
      go_enter Tryz.func147, Tryz.ntmps147
      go_wp2
      go_ret
      exact ⟨rfl, HW2.out _ _⟩
  · obtain rfl := HNo.out fun h => e1 h.1
    have hne : (k == k') = false := by simpa using e1
    go_enter Tryz.func147, Tryz.ntmps147
    go_wp2
    go_ret
    exact ⟨rfl, HW2.out _ _⟩

end Go.Proofs.YtceiocdemhkcdaaGreat.num
namespace Go.Proofs.YtceiocdemhkcdaaGreat.num
set_option maxRecDepth 20000
open Go.RowKit Go.Maps
set_option linter.unusedVariables false

/-- A field of an item. -/
def InF (v : Int) : Prop := 0 ≤ v ∧ v ≤ 2
/-- Numbers that are all as P asks, in strictly ascending order. -/
def UpP (P : Int → Prop) (l : List Int) : Prop := (∀ v ∈ l, P v) ∧ ∀ i x y, l[i]? = some x → l[i + 1]? = some y → x < y
def AscP (P : Int → Prop) (l : List Int) : Prop := l ≠ [] ∧ UpP P l
theorem UpP.nil (P : Int → Prop) : UpP P [] := ⟨by simp, by simp⟩
theorem upP_snoc {P : Int → Prop} {l : List Int} {k : Nat} {v : Int} (h : UpP P (l.take k)) (hv : l[k]? = some v) (hr : P v) (ho : ∀ j u, k = j + 1 → l[j]? = some u → u < v) : UpP P (l.take (k + 1)) := by
  rw [ptake_at hv]
  have hk : k < l.length := (List.getElem?_eq_some_iff.1 hv).1
  have hlen : (l.take k).length = k := by rw [List.length_take]; omega
  refine ⟨fun x hx => ?_, fun i x y hx hy => ?_⟩
  · rcases List.mem_append.1 hx with hx | hx
    · exact h.1 x hx
    · rw [List.mem_singleton.1 hx]; exact hr
  · rcases Nat.lt_trichotomy (i + 1) k with h1 | h1 | h1
    · rw [List.getElem?_append_left (by omega)] at hx hy
      exact h.2 i x y hx hy
    · subst h1
      rw [List.getElem?_append_left (by omega), List.getElem?_take, if_pos (by omega)] at hx
      rw [List.getElem?_append_right (by omega), hlen] at hy
      simp at hy
      subst hy
      exact ho i x rfl hx
    · rw [List.getElem?_append_right (by omega), hlen, List.getElem?_eq_none (by simp; omega)] at hy
      cases hy
theorem upP_bad {P : Int → Prop} {l : List Int} {k : Nat} {v u : Int} (hv : l[k + 1]? = some v) (hu : l[k]? = some u) (h : v ≤ u) : ¬ UpP P l := fun ha => by
  have := ha.2 k u v hu hv
  omega
theorem isField_of (v : Int) (q : Bool) (hq : q = true ↔ InF v) (w : World) :
    Calls Tryz.prog 178 #[.int .i64 v] w fun e w' => e = .returned (.bool q) ∧ w = w' := by
  obtain rfl : q = (decide (0 ≤ v) && decide (v < 3)) := by rw [Bool.eq_iff_iff, hq]; simp [InF]; omega
  clear hq
  by_cases h1 : 0 ≤ v
  · go_enter Tryz.func178, Tryz.ntmps178
    go_wp2
    go_ret
    exact ⟨by simp [h1], rfl⟩
  · go_enter Tryz.func178, Tryz.ntmps178
    go_wp2
    go_ret
    exact ⟨by simp; omega, rfl⟩
theorem field_same (v : Int) (q : Bool) (hq : q = true ↔ InF v) (w : World) :
    Calls Tryz.prog 178 #[.int .i64 v] w fun e w' => e = .returned (.bool q) ∧ w' = w :=
  (isField_of v q hq w).mono fun _ _ h => ⟨h.1, h.2.symm⟩

set_option maxRecDepth 20000 in
theorem iAscV (w : World) (B : Nat) (A : Option Addr) (n c : Nat) (xs : List Int) (hi : Ints w B A n xs) (hn : n ≤ 1048576) (b : Bool) (hb : b = true ↔ AscP InR xs) :
    Calls Tryz.prog 181 #[.slice A n c, .func (.func 180) #[] #[]] w fun e w' => e = .returned (.bool b) ∧ w' = w := by
  have HX := Lib.hid hi
  have HB := Lib.hid hb
  clear hi hb
  have HNo : Hid (¬ UpP InR xs → b = false) := Lib.hid fun h => by
    cases b
    · rfl
    · exact absurd (HB.out.1 rfl).2 h
  go_enter Tryz.func181, Tryz.ntmps181
  go_wp2
  go_loopw [9] (fun i wr => ∃ k : Nat, k ≤ n ∧ i = .int .i64 k ∧ UpP InR (xs.take k) ∧ wr = w) (fun i _ => n - (intOf i).toNat)
  case atStart => exact ⟨0, Nat.zero_le _, rfl, by rw [List.take_zero]; exact UpP.nil _, rfl⟩
  case round =>
    obtain ⟨k, hk, rfl, hasc, rfl⟩ := hrel
    have HA := Lib.hid hasc
    clear hasc
    by_cases hlt : k < n
    · obtain ⟨b1, off, x, hA1, hb1, hat, hc⟩ := HX.out.at k hlt
      have HT := Lib.hid hat
      have hlt' : (k : Int) < (n : Int) := by omega
      obtain ⟨q, hq⟩ := bool_of (InR x)
      have HQ := Lib.hid hq
      clear hat hq
      cases q
      · obtain rfl : b = false := HNo.out fun h => by have := HQ.out.2 (h.1 x (List.mem_of_getElem? HT.out)); cases this
        subst hA1
        go_wp2_with fail
        refine (isValue_of x false HQ.out _).mono ?_
        rintro e w1 ⟨rfl, rfl⟩
        go_wp2
        go_ret
        exact ⟨rfl, rfl⟩
      · have HD := Lib.hid (HQ.out.1 rfl)
        rcases Nat.eq_zero_or_pos k with h0 | h0
        · have HK := Lib.hid h0
          subst hA1
          clear h0
          have hk0 : decide (0 < k) = false := decide_eq_false (by have := HK.out; omega)
          go_wp2_with fail
          refine (isValue_of x true ⟨fun _ => HD.out, fun _ => rfl⟩ _).mono ?_
          rintro e w1 ⟨rfl, rfl⟩
          go_wp2
          clear hk0
          go_roundw
          case rel => exact ⟨k + 1, by omega, by go_num, upP_snoc HA.out HT.out HD.out (fun j u hj _ => by have := HK.out; omega), by first | rfl | trivial⟩
          case measure => simp [intOf]; omega
        · obtain ⟨j, hj⟩ : ∃ j, j + 1 = k := ⟨k - 1, by omega⟩
          obtain ⟨b2, off2, y, hA2, hb2, hat2, hc2⟩ := HX.out.at j (by omega)
          obtain ⟨rfl, rfl⟩ : b1 = b2 ∧ off = off2 := by rw [hA1] at hA2; injection hA2 with h; injection h with h1 h2; exact ⟨h1, h2⟩
          have HT0 := Lib.hid hat2
          have HJ := Lib.hid hj
          have HK0 : Hid ((0 : Int) < (k : Int)) := by show _ < _; omega
          have hkj : (k : Int) - 1 = (j : Int) := by omega
          have hkw : IntKind.i64.wrap ((k : Int) - 1) = (j : Int) := by rw [hkj]; exact IntWalk.i64_in _ ⟨by omega, by omega⟩
          have hjw : IntKind.i64.wrap (j : Int) = (j : Int) := IntWalk.i64_in _ ⟨by omega, by omega⟩
          have hjn : (j : Int) < (n : Int) := by omega
          have hjn' : j < n := by omega
          have hk0 : decide (0 < k) = true := decide_eq_true (by have := HK0.out; omega)
          subst hA1
          clear h0 hj hat2 hA2
          by_cases hle : x ≤ y
          · obtain rfl : b = false := HNo.out (upP_bad (by rw [HJ.out]; exact HT.out) HT0.out hle)
            go_wp2_with fail
            refine (isValue_of x true ⟨fun _ => HD.out, fun _ => rfl⟩ _).mono ?_
            rintro e w1 ⟨rfl, rfl⟩
            go_wp2
            go_ret
            exact ⟨rfl, rfl⟩
          · have HLe : Hid (y < x) := by show _ < _; omega
            go_wp2_with fail
            refine (isValue_of x true ⟨fun _ => HD.out, fun _ => rfl⟩ _).mono ?_
            rintro e w1 ⟨rfl, rfl⟩
            go_wp2
            clear hk0
            go_roundw
            case rel => exact ⟨k + 1, by omega, by go_num, upP_snoc HA.out HT.out HD.out (asc_next HJ.out HT0.out HLe.out), by first | rfl | trivial⟩
            case measure => simp [intOf]; omega
    · obtain rfl : k = n := by omega
      have h := HA.out
      rw [ptake_all HX.out.1] at h
      have HH := Lib.hid h
      clear h
      by_cases h0 : (0 : Int) < (k : Int)
      · have hd : decide (0 < k) = true := by simp; omega
        obtain rfl : b = true := HB.out.2 ⟨fun e => by have := HX.out.1; rw [e] at this; simp at this; omega, HH.out⟩
        go_wp2
        go_ret
        exact ⟨by simp, rfl⟩
      · obtain rfl : b = false := by
          cases b
          · rfl
          · exact absurd (List.length_eq_zero_iff.1 (by rw [HX.out.1]; omega)) (HB.out.1 rfl).1
        go_wp2
        go_ret
        exact ⟨by simp; omega, rfl⟩

set_option maxRecDepth 20000 in
theorem iAscF (w : World) (B : Nat) (A : Option Addr) (n c : Nat) (xs : List Int) (hi : Ints w B A n xs) (hn : n ≤ 1048576) (b : Bool) (hb : b = true ↔ AscP InF xs) :
    Calls Tryz.prog 181 #[.slice A n c, .func (.func 178) #[] #[]] w fun e w' => e = .returned (.bool b) ∧ w' = w := by
  have HX := Lib.hid hi
  have HB := Lib.hid hb
  clear hi hb
  have HNo : Hid (¬ UpP InF xs → b = false) := Lib.hid fun h => by
    cases b
    · rfl
    · exact absurd (HB.out.1 rfl).2 h
  go_enter Tryz.func181, Tryz.ntmps181
  go_wp2
  go_loopw [9] (fun i wr => ∃ k : Nat, k ≤ n ∧ i = .int .i64 k ∧ UpP InF (xs.take k) ∧ wr = w) (fun i _ => n - (intOf i).toNat)
  case atStart => exact ⟨0, Nat.zero_le _, rfl, by rw [List.take_zero]; exact UpP.nil _, rfl⟩
  case round =>
    obtain ⟨k, hk, rfl, hasc, rfl⟩ := hrel
    have HA := Lib.hid hasc
    clear hasc
    by_cases hlt : k < n
    · obtain ⟨b1, off, x, hA1, hb1, hat, hc⟩ := HX.out.at k hlt
      have HT := Lib.hid hat
      have hlt' : (k : Int) < (n : Int) := by omega
      obtain ⟨q, hq⟩ := bool_of (InF x)
      have HQ := Lib.hid hq
      clear hat hq
      cases q
      · obtain rfl : b = false := HNo.out fun h => by have := HQ.out.2 (h.1 x (List.mem_of_getElem? HT.out)); cases this
        subst hA1
        go_wp2_with fail
        refine (isField_of x false HQ.out _).mono ?_
        rintro e w1 ⟨rfl, rfl⟩
        go_wp2
        go_ret
        exact ⟨rfl, rfl⟩
      · have HD := Lib.hid (HQ.out.1 rfl)
        rcases Nat.eq_zero_or_pos k with h0 | h0
        · have HK := Lib.hid h0
          subst hA1
          clear h0
          have hk0 : decide (0 < k) = false := decide_eq_false (by have := HK.out; omega)
          go_wp2_with fail
          refine (isField_of x true ⟨fun _ => HD.out, fun _ => rfl⟩ _).mono ?_
          rintro e w1 ⟨rfl, rfl⟩
          go_wp2
          clear hk0
          go_roundw
          case rel => exact ⟨k + 1, by omega, by go_num, upP_snoc HA.out HT.out HD.out (fun j u hj _ => by have := HK.out; omega), by first | rfl | trivial⟩
          case measure => simp [intOf]; omega
        · obtain ⟨j, hj⟩ : ∃ j, j + 1 = k := ⟨k - 1, by omega⟩
          obtain ⟨b2, off2, y, hA2, hb2, hat2, hc2⟩ := HX.out.at j (by omega)
          obtain ⟨rfl, rfl⟩ : b1 = b2 ∧ off = off2 := by rw [hA1] at hA2; injection hA2 with h; injection h with h1 h2; exact ⟨h1, h2⟩
          have HT0 := Lib.hid hat2
          have HJ := Lib.hid hj
          have HK0 : Hid ((0 : Int) < (k : Int)) := by show _ < _; omega
          have hkj : (k : Int) - 1 = (j : Int) := by omega
          have hkw : IntKind.i64.wrap ((k : Int) - 1) = (j : Int) := by rw [hkj]; exact IntWalk.i64_in _ ⟨by omega, by omega⟩
          have hjw : IntKind.i64.wrap (j : Int) = (j : Int) := IntWalk.i64_in _ ⟨by omega, by omega⟩
          have hjn : (j : Int) < (n : Int) := by omega
          have hjn' : j < n := by omega
          have hk0 : decide (0 < k) = true := decide_eq_true (by have := HK0.out; omega)
          subst hA1
          clear h0 hj hat2 hA2
          by_cases hle : x ≤ y
          · obtain rfl : b = false := HNo.out (upP_bad (by rw [HJ.out]; exact HT.out) HT0.out hle)
            go_wp2_with fail
            refine (isField_of x true ⟨fun _ => HD.out, fun _ => rfl⟩ _).mono ?_
            rintro e w1 ⟨rfl, rfl⟩
            go_wp2
            go_ret
            exact ⟨rfl, rfl⟩
          · have HLe : Hid (y < x) := by show _ < _; omega
            go_wp2_with fail
            refine (isField_of x true ⟨fun _ => HD.out, fun _ => rfl⟩ _).mono ?_
            rintro e w1 ⟨rfl, rfl⟩
            go_wp2
            clear hk0
            go_roundw
            case rel => exact ⟨k + 1, by omega, by go_num, upP_snoc HA.out HT.out HD.out (asc_next HJ.out HT0.out HLe.out), by first | rfl | trivial⟩
            case measure => simp [intOf]; omega
    · obtain rfl : k = n := by omega
      have h := HA.out
      rw [ptake_all HX.out.1] at h
      have HH := Lib.hid h
      clear h
      by_cases h0 : (0 : Int) < (k : Int)
      · have hd : decide (0 < k) = true := by simp; omega
        obtain rfl : b = true := HB.out.2 ⟨fun e => by have := HX.out.1; rw [e] at this; simp at this; omega, HH.out⟩
        go_wp2
        go_ret
        exact ⟨by simp, rfl⟩
      · obtain rfl : b = false := by
          cases b
          · rfl
          · exact absurd (List.length_eq_zero_iff.1 (by rw [HX.out.1]; omega)) (HB.out.1 rfl).1
        go_wp2
        go_ret
        exact ⟨by simp; omega, rfl⟩

end Go.Proofs.YtceiocdemhkcdaaGreat.num
namespace Go.Proofs.YtceiocdemhkcdaaGreat.num
set_option maxRecDepth 20000
open Go.RowKit Go.Maps
set_option linter.unusedVariables false


theorem iList (w : World) (B : Nat) (A : Option Addr) (n c : Nat) (xs : List Int) (hi : Ints w B A n xs) (hn : n ≤ 1048576) (b : Bool) (hb : b = true ↔ Asc xs) :
    Calls Tryz.prog 181 #[.slice A n c, .func (.func 180) #[] #[]] w fun e w' => e = .returned (.bool b) ∧ w' = w :=
  iAscV w B A n c xs hi hn b hb

set_option maxRecDepth 20000 in
theorem iOther (w : World) (t : Wi) (hl : t.Ln ≤ 1048576) (hp : t.Pn ≤ 1048576) (q : Bool) (hq : q = true ↔ (t.kind ≠ 2 ∧ t.value ≠ 0) ∨ (t.kind ≠ 3 ∧ t.Ln ≠ 0) ∨ (t.kind ≠ 4 ∧ t.Pn ≠ 0)) :
    Calls Tryz.prog 179 #[t.val] w fun e w' => e = .returned (.bool q) ∧ Below w.heap.size w w' := by
  obtain ⟨k, f, v, LA, Ln, Lc, ls, PA, Pn, Pc, ps⟩ := t
  unfold Wi.val
  simp only [] at hl hp hq ⊢
  have HW1 : Hid (∀ o : Obj, Below w.heap.size w (w.alloc o)) := Lib.hid fun o => (Below.refl _ w).alloc (Nat.le_refl _) _
  by_cases k2 : k = 2
  · subst k2
    by_cases hL : Ln = 0
    · have hL' : decide (0 < Ln) = false := by simp [hL]
      have hL2 : ¬ ((0 : Int) < (Ln : Int)) := by omega
      by_cases hP : Pn = 0
      · have hP' : decide (0 < Pn) = false := by simp [hP]
        have hP2 : ¬ ((0 : Int) < (Pn : Int)) := by omega
        obtain rfl : q = false := by
          cases q
          · rfl
          · exact absurd (hq.1 rfl) (by omega)
        clear hq hL hP
        go_enter Tryz.func179, Tryz.ntmps179
        go_wp2
        go_ret
        exact ⟨by first | rfl | simp, HW1.out _⟩
      · have hP' : decide (0 < Pn) = true := by simp; omega
        have hP2 : (0 : Int) < (Pn : Int) := by omega
        obtain rfl : q = true := hq.2 (by omega)
        clear hq hL hP
        go_enter Tryz.func179, Tryz.ntmps179
        go_wp2
        go_ret
        exact ⟨by first | rfl | simp, HW1.out _⟩
    · have hL' : decide (0 < Ln) = true := by simp; omega
      have hL2 : (0 : Int) < (Ln : Int) := by omega
      obtain rfl : q = true := hq.2 (by omega)
      clear hq hL
      go_enter Tryz.func179, Tryz.ntmps179
      go_wp2
      go_ret
      exact ⟨by first | rfl | simp, HW1.out _⟩
  · by_cases k3 : k = 3
    · subst k3
      clear k2
      by_cases hv : v = 0
      · have hv' : (v != 0) = false := by simp [hv]
        by_cases hP : Pn = 0
        · have hP' : decide (0 < Pn) = false := by simp [hP]
          have hP2 : ¬ ((0 : Int) < (Pn : Int)) := by omega
          obtain rfl : q = false := by
            cases q
            · rfl
            · exact absurd (hq.1 rfl) (by omega)
          clear hq hv hP
          go_enter Tryz.func179, Tryz.ntmps179
          go_wp2
          go_ret
          exact ⟨by first | rfl | simp, HW1.out _⟩
        · have hP' : decide (0 < Pn) = true := by simp; omega
          have hP2 : (0 : Int) < (Pn : Int) := by omega
          obtain rfl : q = true := hq.2 (by omega)
          clear hq hv hP
          go_enter Tryz.func179, Tryz.ntmps179
          go_wp2
          go_ret
          exact ⟨by first | rfl | simp, HW1.out _⟩
      · have hv' : (v != 0) = true := by simp [hv]
        obtain rfl : q = true := hq.2 (by omega)
        clear hq hv
        go_enter Tryz.func179, Tryz.ntmps179
        go_wp2
        go_ret
        exact ⟨by first | rfl | simp, HW1.out _⟩
    · by_cases k4 : k = 4
      · subst k4
        clear k2 k3
        by_cases hv : v = 0
        · have hv' : (v != 0) = false := by simp [hv]
          by_cases hL : Ln = 0
          · have hL' : decide (0 < Ln) = false := by simp [hL]
            have hL2 : ¬ ((0 : Int) < (Ln : Int)) := by omega
            obtain rfl : q = false := by
              cases q
              · rfl
              · exact absurd (hq.1 rfl) (by omega)
            clear hq hv hL
            go_enter Tryz.func179, Tryz.ntmps179
            go_wp2
            go_ret
            exact ⟨by first | rfl | simp, HW1.out _⟩
          · have hL' : decide (0 < Ln) = true := by simp; omega
            have hL2 : (0 : Int) < (Ln : Int) := by omega
            obtain rfl : q = true := hq.2 (by omega)
            clear hq hv hL
            go_enter Tryz.func179, Tryz.ntmps179
            go_wp2
            go_ret
            exact ⟨by first | rfl | simp, HW1.out _⟩
        · have hv' : (v != 0) = true := by simp [hv]
          obtain rfl : q = true := hq.2 (by omega)
          clear hq hv
          go_enter Tryz.func179, Tryz.ntmps179
          go_wp2
          go_ret
          exact ⟨by first | rfl | simp, HW1.out _⟩
      · have f2 : (k != 2) = true := by simpa using k2
        have f3 : (k != 3) = true := by simpa using k3
        have f4 : (k != 4) = true := by simpa using k4
        by_cases hv : v = 0
        · have hv' : (v != 0) = false := by simp [hv]
          by_cases hL : Ln = 0
          · have hL' : decide (0 < Ln) = false := by simp [hL]
            have hL2 : ¬ ((0 : Int) < (Ln : Int)) := by omega
            by_cases hP : Pn = 0
            · have hP' : decide (0 < Pn) = false := by simp [hP]
              have hP2 : ¬ ((0 : Int) < (Pn : Int)) := by omega
              obtain rfl : q = false := by
                cases q
                · rfl
                · exact absurd (hq.1 rfl) (by omega)
              clear hq k2 k3 k4 hv hL hP
              go_enter Tryz.func179, Tryz.ntmps179
              go_wp2
              go_ret
              exact ⟨by first | rfl | simp, HW1.out _⟩
            · have hP' : decide (0 < Pn) = true := by simp; omega
              have hP2 : (0 : Int) < (Pn : Int) := by omega
              obtain rfl : q = true := hq.2 (by omega)
              clear hq k2 k3 k4 hv hL hP
              go_enter Tryz.func179, Tryz.ntmps179
              go_wp2
              go_ret
              exact ⟨by first | rfl | simp, HW1.out _⟩
          · have hL' : decide (0 < Ln) = true := by simp; omega
            have hL2 : (0 : Int) < (Ln : Int) := by omega
            obtain rfl : q = true := hq.2 (by omega)
            clear hq k2 k3 k4 hv hL
            go_enter Tryz.func179, Tryz.ntmps179
            go_wp2
            go_ret
            exact ⟨by first | rfl | simp, HW1.out _⟩
        · have hv' : (v != 0) = true := by simp [hv]
          obtain rfl : q = true := hq.2 (by omega)
          clear hq k2 k3 k4 hv
          go_enter Tryz.func179, Tryz.ntmps179
          go_wp2
          go_ret
          exact ⟨by first | rfl | simp, HW1.out _⟩
end Go.Proofs.YtceiocdemhkcdaaGreat.num
namespace Go.Proofs.YtceiocdemhkcdaaGreat.num
set_option maxRecDepth 20000
open Go.RowKit Go.Maps
set_option linter.unusedVariables false

/-- v is the taste of the valid wish t. -/
def TasteAt (w : World) (t : Wi) (v : Value) : Prop :=
  (t.kind ≠ 4 ∧ ∃ b, InR b ∧ v = nearI b ∧ ∀ x, InR x → rankW t.dat x = if x < b then b - x else x - b) ∨
  (t.kind ≠ 4 ∧ v = amongI t.LA t.Ln t.Lc ∧ ∀ x, rankW t.dat x = if x ∈ t.ls then 0 else 1) ∨
  (t.kind = 4 ∧ ∃ o B, v = orderI o ∧ AboveP t.ps B true o w)
theorem TasteAt.below {w w' : World} {t : Wi} {v : Value} (h : TasteAt w t v) (hb : Below w.heap.size w w') : TasteAt w' t v := by
  rcases h with h | h | ⟨h, o, B, e, a⟩
  · exact .inl h
  · exact .inr (.inl h)
  · exact .inr (.inr ⟨h, o, B, e, a.below hb⟩)
theorem value_same (v : Int) (q : Bool) (hq : q = true ↔ InR v) (w : World) :
    Calls Tryz.prog 180 #[.int .i64 v] w fun e w' => e = .returned (.bool q) ∧ w' = w :=
  (isValue_of v q hq w).mono fun _ _ h => ⟨h.1, h.2.symm⟩

/-- .. and what it holds lies from block lo on. -/
def TasteFrom (w : World) (lo : Nat) (t : Wi) (v : Value) : Prop :=
  (t.kind ≠ 4 ∧ ∃ b, InR b ∧ v = nearI b ∧ ∀ x, InR x → rankW t.dat x = if x < b then b - x else x - b) ∨
  (t.kind ≠ 4 ∧ v = amongI t.LA t.Ln t.Lc ∧ ∀ x, rankW t.dat x = if x ∈ t.ls then 0 else 1) ∨
  (t.kind = 4 ∧ ∃ o B, lo ≤ B ∧ v = orderI o ∧ AboveP t.ps B true o w)
theorem TasteFrom.at' {w : World} {lo : Nat} {t : Wi} {v : Value} (h : TasteFrom w lo t v) : TasteAt w t v := by
  rcases h with h | h | ⟨h, o, B, _, e, a⟩
  · exact .inl h
  · exact .inr (.inl h)
  · exact .inr (.inr ⟨h, o, B, e, a⟩)
theorem TasteFrom.low {w : World} {lo lo' : Nat} {t : Wi} {v : Value} (h : TasteFrom w lo t v) (hl : lo' ≤ lo) : TasteFrom w lo' t v := by
  rcases h with h | h | ⟨h, o, B, hB, e, a⟩
  · exact .inl h
  · exact .inr (.inl h)
  · exact .inr (.inr ⟨h, o, B, Nat.le_trans hl hB, e, a⟩)
theorem AboveP.kept {ps : List (Int × Int)} {B : Nat} {q : Bool} {o : Option Nat} {w w' : World} (h : AboveP ps B q o w) (hb : ∀ k, B ≤ k → k < w.heap.size → w'.heap[k]? = w.heap[k]?) : AboveP ps B q o w' :=
  ⟨h.1, fun hq => by
    obtain ⟨b, n, M, h1, h2, h3⟩ := h.2 hq
    exact ⟨b, n, M, h1, h2, MapAt.block h3.out (hb _ h3.low (MapAt.lt h3.out)), h3.low, h3.has, h3.rng, fun v x hx => by
      obtain ⟨g1, g2, g3⟩ := h3.sets v x hx
      exact ⟨g1, g2, MapAt.block g3 (hb _ g1 (MapAt.lt g3))⟩, h3.inj⟩⟩
theorem TasteFrom.kept {w w' : World} {lo : Nat} {t : Wi} {v : Value} (h : TasteFrom w lo t v) (hb : ∀ k, lo ≤ k → k < w.heap.size → w'.heap[k]? = w.heap[k]?) : TasteFrom w' lo t v := by
  rcases h with h | h | ⟨h, o, B, hB, e, a⟩
  · exact .inl h
  · exact .inr (.inl h)
  · exact .inr (.inr ⟨h, o, B, hB, e, a.kept fun k hk => hb k (Nat.le_trans hB hk)⟩)
/-- An interface's value. -/
def IfV (v : Value) : Prop := v = .nilIface ∨ ∃ T x, v = .iface T x
set_option maxRecDepth 20000 in
set_option maxHeartbeats 1600000 in
theorem taste_ofV (w : World) (B : Nat) (t : Wi) (hi : WiIn w B t) (hB : B ≤ w.heap.size) (hn : t.Short) (q : Bool) (hq : q = true ↔ IsW t.dat) :
    Calls Tryz.prog 146 #[t.val] w fun e w' => (∃ v, e = .returned (.tuple #[v, .bool q]) ∧ (q = true → TasteFrom w' w.heap.size t v) ∧ IfV v) ∧ Below w.heap.size w w' := by
  have HO : Hid (∀ (w1 : World) (p : Bool), (p = true ↔ (t.kind ≠ 2 ∧ t.value ≠ 0) ∨ (t.kind ≠ 3 ∧ t.Ln ≠ 0) ∨ (t.kind ≠ 4 ∧ t.Pn ≠ 0)) → Calls Tryz.prog 179 #[t.val] w1 fun e w' => e = .returned (.bool p) ∧ Below w1.heap.size w1 w') := Lib.hid fun w1 p hp => iOther w1 t hn.1 hn.2 p hp
  obtain ⟨k, f, v, LA, Ln, Lc, ls, PA, Pn, Pc, ps⟩ := t
  obtain ⟨-, -, -, hl, hp⟩ := hi
  unfold Wi.val at HO ⊢
  simp only [Wi.dat, Wi.Short] at hl hp hn hq HO ⊢
  have HL := Lib.hid hl
  have HP := Lib.hid hp
  have HQ := Lib.hid hq
  have HN := Lib.hid hn
  have HB1 : Hid (∀ o : Obj, Below B w (w.alloc o)) := Lib.hid fun o => (Below.refl B w).alloc hB _
  have HW1 : Hid (∀ o : Obj, Below w.heap.size w (w.alloc o)) := Lib.hid fun o => (Below.refl _ w).alloc (Nat.le_refl _) _
  have HLn : Hid (ls = [] ↔ Ln = 0) := by
    show _ ↔ _
    rw [← hl.1, List.length_eq_zero_iff]
  have HPn : Hid (ps = [] ↔ Pn = 0) := by
    show _ ↔ _
    rw [← hp.1, List.length_eq_zero_iff]
  clear hl hp hq hn
  have HNo : Hid (¬ IsW ⟨k, f, v, ls, ps⟩ → q = false) := Lib.hid fun h => by
    cases q
    · rfl
    · exact absurd (HQ.out.1 rfl) h
  by_cases hf : InF f
  case neg =>
    obtain rfl := HNo.out fun h => hf h.f
    have HFn : Hid (¬ InF f) := Lib.hid hf
    go_enter Tryz.func146, Tryz.ntmps146
    go_wp2_with fail
    refine (field_same f false ⟨fun h => (by cases h), fun h => absurd h HFn.out⟩ _).mono ?_
    rintro e w1 ⟨rfl, rfl⟩
    go_wp2
    go_ret2
    first | exact ⟨⟨_, rfl, fun h => (by cases h), .inl rfl⟩, HW1.out _⟩ | exact ⟨⟨_, rfl, .inl rfl⟩, HW1.out _⟩
  have HF : Hid (0 ≤ f ∧ f ≤ 2) := Lib.hid hf
  clear hf
  obtain ⟨p, hp⟩ := bool_of ((k ≠ 2 ∧ v ≠ 0) ∨ (k ≠ 3 ∧ Ln ≠ 0) ∨ (k ≠ 4 ∧ Pn ≠ 0))
  have HPp := Lib.hid hp
  clear hp
  cases p
  · have HK2 : Hid (k ≠ 2 → v = 0) := Lib.hid fun h => by
      by_cases hv : v = 0
      · exact hv
      · have := HPp.out.2 (.inl ⟨h, hv⟩); cases this
    have HK3 : Hid (k ≠ 3 → ls = []) := Lib.hid fun h => by
      by_cases hv : Ln = 0
      · exact HLn.out.2 hv
      · have := HPp.out.2 (.inr (.inl ⟨h, hv⟩)); cases this
    have HK4 : Hid (k ≠ 4 → ps = []) := Lib.hid fun h => by
      by_cases hv : Pn = 0
      · exact HPn.out.2 hv
      · have := HPp.out.2 (.inr (.inr ⟨h, hv⟩)); cases this
    by_cases k0 : k = 0
    · subst k0
      obtain rfl := HQ.out.2 ((isW01 (.inl rfl) HF.out).2 ⟨HK2.out (by decide), HK3.out (by decide), HK4.out (by decide)⟩)
      have HT : Hid (∀ w', TasteFrom w' w.heap.size ⟨0, f, v, LA, Ln, Lc, ls, PA, Pn, Pc, ps⟩ (nearI 0)) := Lib.hid fun w' => .inl ⟨by show (0 : Int) ≠ 4; decide, 0, ⟨by decide, by decide⟩, rfl, fun x hx => by
        have h0 := hx.1
        have h9 := hx.2
        have e : rankW (Wi.dat ⟨0, f, v, LA, Ln, Lc, ls, PA, Pn, Pc, ps⟩) x = x := rfl
        rw [e]
        split <;> omega⟩
      go_enter Tryz.func146, Tryz.ntmps146
      go_wp2_with fail
      refine (field_same f true ⟨fun _ => HF.out, fun _ => rfl⟩ _).mono ?_
      rintro e w1 ⟨rfl, rfl⟩
      go_wp2_with fail
      refine (HO.out _ false HPp.out).mono ?_
      rintro e w1 ⟨rfl, hb1⟩
      obtain ⟨c0, c1, c2, c3, c4, hg⟩ := box5 hb1
      have HBB := Lib.hid (And.intro ((HW1.out _).trans (hb1.mono (by simp))) ((HB1.out _).trans (hb1.mono (by simp; omega))))
      clear hb1
      go_wp2
      go_ret2
      exact ⟨⟨_, rfl, fun _ => HT.out _, by first | exact .inl rfl | exact .inr ⟨_, _, rfl⟩⟩, HBB.out.1⟩
    · by_cases k1 : k = 1
      · subst k1
        clear k0
        obtain rfl := HQ.out.2 ((isW01 (.inr rfl) HF.out).2 ⟨HK2.out (by decide), HK3.out (by decide), HK4.out (by decide)⟩)
        have HT : Hid (∀ w', TasteFrom w' w.heap.size ⟨1, f, v, LA, Ln, Lc, ls, PA, Pn, Pc, ps⟩ (nearI 9)) := Lib.hid fun w' => .inl ⟨by show (1 : Int) ≠ 4; decide, 9, ⟨by decide, by decide⟩, rfl, fun x hx => by
          have h0 := hx.1
          have h9 := hx.2
          have e : rankW (Wi.dat ⟨1, f, v, LA, Ln, Lc, ls, PA, Pn, Pc, ps⟩) x = 9 - x := rfl
          rw [e]
          split <;> omega⟩
        go_enter Tryz.func146, Tryz.ntmps146
        go_wp2_with fail
        refine (field_same f true ⟨fun _ => HF.out, fun _ => rfl⟩ _).mono ?_
        rintro e w1 ⟨rfl, rfl⟩
        go_wp2_with fail
        refine (HO.out _ false HPp.out).mono ?_
        rintro e w1 ⟨rfl, hb1⟩
        obtain ⟨c0, c1, c2, c3, c4, hg⟩ := box5 hb1
        have HBB := Lib.hid (And.intro ((HW1.out _).trans (hb1.mono (by simp))) ((HB1.out _).trans (hb1.mono (by simp; omega))))
        clear hb1
        go_wp2
        go_ret2
        exact ⟨⟨_, rfl, fun _ => HT.out _, by first | exact .inl rfl | exact .inr ⟨_, _, rfl⟩⟩, HBB.out.1⟩
      · by_cases k2 : k = 2
        · subst k2
          clear k0 k1
          obtain ⟨qv, hqv⟩ := bool_of (InR v)
          obtain rfl : qv = q := by
            rw [Bool.eq_iff_iff, HQ.out, hqv, isW2 HF.out]
            exact ⟨fun h => ⟨h, HK3.out (by decide), HK4.out (by decide)⟩, fun h => h.1⟩
          have HV := Lib.hid hqv
          clear hqv
          go_enter Tryz.func146, Tryz.ntmps146
          go_wp2_with fail
          refine (field_same f true ⟨fun _ => HF.out, fun _ => rfl⟩ _).mono ?_
          rintro e w1 ⟨rfl, rfl⟩
          go_wp2_with fail
          refine (HO.out _ false HPp.out).mono ?_
          rintro e w1 ⟨rfl, hb1⟩
          obtain ⟨c0, c1, c2, c3, c4, hg⟩ := box5 hb1
          have HBB := Lib.hid (And.intro ((HW1.out _).trans (hb1.mono (by simp))) ((HB1.out _).trans (hb1.mono (by simp; omega))))
          clear hb1
          go_wp2
          go_quiet ((go_at_call 180; refine Calls.quiet_of_same (value_same v qv HV.out _)))
          go_wp2
          go_ret2
          refine ⟨⟨_, rfl, fun h => .inl ⟨by show (2 : Int) ≠ 4; decide, v, HV.out.1 (by first | exact h | trivial), rfl, fun x hx => rfl⟩, by first | exact .inl rfl | exact .inr ⟨_, _, rfl⟩⟩, below_drewN HBB.out.1 _⟩
        · by_cases k3 : k = 3
          · subst k3
            clear k0 k1 k2
            obtain ⟨ql, hql⟩ := bool_of (Asc ls)
            obtain rfl : ql = q := by
              rw [Bool.eq_iff_iff, HQ.out, hql, isW3 HF.out]
              exact ⟨fun h => ⟨HK2.out (by decide), h, HK4.out (by decide)⟩, fun h => h.2.1⟩
            have HV := Lib.hid hql
            clear hql
            go_enter Tryz.func146, Tryz.ntmps146
            go_wp2_with fail
            refine (field_same f true ⟨fun _ => HF.out, fun _ => rfl⟩ _).mono ?_
            rintro e w1 ⟨rfl, rfl⟩
            go_wp2_with fail
            refine (HO.out _ false HPp.out).mono ?_
            rintro e w1 ⟨rfl, hb1⟩
            obtain ⟨c0, c1, c2, c3, c4, hg⟩ := box5 hb1
            have HBB := Lib.hid (And.intro ((HW1.out _).trans (hb1.mono (by simp))) ((HB1.out _).trans (hb1.mono (by simp; omega))))
            clear hb1
            go_wp2
            go_quiet ((go_at_call 181; refine Calls.quiet_of_same (iList _ B LA Ln Lc ls (HL.out.below (below_drewN HBB.out.2 _)) HN.out.1 ql HV.out)))
            go_wp2
            go_ret2
            exact ⟨⟨_, rfl, fun h => .inr (.inl ⟨by show (3 : Int) ≠ 4; decide, rfl, fun x => rfl⟩), by first | exact .inl rfl | exact .inr ⟨_, _, rfl⟩⟩, below_drewN HBB.out.1 _⟩
          · by_cases k4 : k = 4
            · subst k4
              clear k0 k1 k2 k3
              have HV : Hid (q = true ↔ OkP ps) := Lib.hid (by
                rw [HQ.out, isW4 HF.out]
                exact ⟨fun h => h.2.2, fun h => ⟨HK2.out (by decide), HK3.out (by decide), h⟩⟩)
              go_enter Tryz.func146, Tryz.ntmps146
              go_wp2_with fail
              refine (field_same f true ⟨fun _ => HF.out, fun _ => rfl⟩ _).mono ?_
              rintro e w1 ⟨rfl, rfl⟩
              go_wp2_with fail
              refine (HO.out _ false HPp.out).mono ?_
              rintro e w1 ⟨rfl, hb1⟩
              obtain ⟨c0, c1, c2, c3, c4, hg⟩ := box5 hb1
              have HBB := Lib.hid (And.intro ((HW1.out _).trans (hb1.mono (by simp))) ((HB1.out _).trans (hb1.mono (by simp; omega))))
              clear hb1
              go_wp2_with fail
              refine (above_of _ B PA Pn Pc ps (HP.out.below HBB.out.2) (by omega) HN.out.2 q HV.out).mono ?_
              rintro e w2 ⟨⟨o, rfl, hab⟩, hb2⟩
              have HAB := Lib.hid hab
              have HSz := Lib.hid HBB.out.1.size
              have HBC := Lib.hid (HBB.out.1.trans (hb2.mono HBB.out.1.size))
              clear hb2 hab c0 c1 c2 c3 c4
              go_wp2
              go_ret2
              exact ⟨⟨_, rfl, fun h => .inr (.inr ⟨rfl, o, _, HSz.out, rfl, h ▸ HAB.out⟩), by first | exact .inl rfl | exact .inr ⟨_, _, rfl⟩⟩, HBC.out⟩
            · have f0 : (k == 0) = false := by simpa using k0
              have f1 : (k == 1) = false := by simpa using k1
              have f2 : (k == 2) = false := by simpa using k2
              have f3 : (k == 3) = false := by simpa using k3
              have f4 : (k == 4) = false := by simpa using k4
              obtain rfl := HNo.out fun h => by have := h.k; dsimp only at this; omega
              clear k0 k1 k2 k3 k4
              go_enter Tryz.func146, Tryz.ntmps146
              go_wp2_with fail
              refine (field_same f true ⟨fun _ => HF.out, fun _ => rfl⟩ _).mono ?_
              rintro e w1 ⟨rfl, rfl⟩
              go_wp2_with fail
              refine (HO.out _ false HPp.out).mono ?_
              rintro e w1 ⟨rfl, hb1⟩
              obtain ⟨c0, c1, c2, c3, c4, hg⟩ := box5 hb1
              have HBB := Lib.hid (And.intro ((HW1.out _).trans (hb1.mono (by simp))) ((HB1.out _).trans (hb1.mono (by simp; omega))))
              clear hb1
              go_wp2
              go_ret2
              first | exact ⟨⟨_, rfl, fun h => (by cases h), .inl rfl⟩, HBB.out.1⟩ | exact ⟨⟨_, rfl, .inl rfl⟩, HBB.out.1⟩
  · obtain rfl := HNo.out fun h => by
      have hv := h.v
      have hl := h.l
      have hp := h.p
      dsimp only at hv hl hp
      rcases HPp.out.1 rfl with ⟨h1, h2⟩ | ⟨h1, h2⟩ | ⟨h1, h2⟩
      · rw [if_neg h1] at hv; exact h2 hv
      · rw [if_neg h1] at hl; exact h2 (HLn.out.1 hl)
      · rw [if_neg h1] at hp; exact h2 (HPn.out.1 hp)
    have HPt := Lib.hid (HPp.out.1 rfl)
    clear HPp
    go_enter Tryz.func146, Tryz.ntmps146
    go_wp2_with fail
    refine (field_same f true ⟨fun _ => HF.out, fun _ => rfl⟩ _).mono ?_
    rintro e w1 ⟨rfl, rfl⟩
    go_wp2_with fail
    refine (HO.out _ true ⟨fun _ => HPt.out, fun _ => rfl⟩).mono ?_
    rintro e w1 ⟨rfl, hb1⟩
    have HBB := Lib.hid ((HW1.out _).trans (hb1.mono (by simp)))
    clear hb1
    go_wp2
    go_ret2
    first | exact ⟨⟨_, rfl, fun h => (by cases h), .inl rfl⟩, HBB.out⟩ | exact ⟨⟨_, rfl, .inl rfl⟩, HBB.out⟩
theorem taste_of (w : World) (B : Nat) (t : Wi) (hi : WiIn w B t) (hB : B ≤ w.heap.size) (hn : t.Short) (q : Bool) (hq : q = true ↔ IsW t.dat) :
    Calls Tryz.prog 146 #[t.val] w fun e w' => (∃ v, e = .returned (.tuple #[v, .bool q]) ∧ (q = true → TasteAt w' t v)) ∧ Below w.heap.size w w' :=
  (taste_ofV w B t hi hB hn q hq).mono fun _ _ ⟨⟨v, h1, h2, _⟩, h3⟩ => ⟨⟨v, h1, fun h => (h2 h).at'⟩, h3⟩
end Go.Proofs.YtceiocdemhkcdaaGreat.num
namespace Go.Proofs.YtceiocdemhkcdaaGreat.num
set_option maxRecDepth 20000
open Go.RowKit Go.Maps
set_option linter.unusedVariables false
set_option linter.unusedSimpArgs false

/-- A part's row: its node, its taste, its operands. -/
def partRow (op : Int) (t : Wi) (v6 v7 v8 : Value) : Obj := .cells #[.int .i64 op, .int .i64 t.kind, .int .i64 t.field, .int .i64 t.value, .slice t.LA t.Ln t.Lc, .slice t.PA t.Pn t.Pc, v6, v7, v8] 115 (0, 0)
theorem part0 {w : World} {p : Nat} {op : Int} {t : Wi} {v6 v7 v8 : Value} (h : w.heap[p]? = some (partRow op t v6 v7 v8)) : w.cell? ⟨p, 0, none⟩ = some (.int .i64 op) := cell_of_row w _ 0 _ _ (0, 0) h
theorem part2 {w : World} {p : Nat} {op : Int} {t : Wi} {v6 v7 v8 : Value} (h : w.heap[p]? = some (partRow op t v6 v7 v8)) : w.cell? ⟨p, 2, none⟩ = some (.int .i64 t.field) := cell_of_row w _ 2 _ _ (0, 0) h
theorem part6 {w : World} {p : Nat} {op : Int} {t : Wi} {v6 v7 v8 : Value} (h : w.heap[p]? = some (partRow op t v6 v7 v8)) : w.cell? ⟨p, 6, none⟩ = some v6 := cell_of_row w _ 6 _ _ (0, 0) h
theorem part7 {w : World} {p : Nat} {op : Int} {t : Wi} {v6 v7 v8 : Value} (h : w.heap[p]? = some (partRow op t v6 v7 v8)) : w.cell? ⟨p, 7, none⟩ = some v7 := cell_of_row w _ 7 _ _ (0, 0) h
theorem part8 {w : World} {p : Nat} {op : Int} {t : Wi} {v6 v7 v8 : Value} (h : w.heap[p]? = some (partRow op t v6 v7 v8)) : w.cell? ⟨p, 8, none⟩ = some v8 := cell_of_row w _ 8 _ _ (0, 0) h
/-- The tree t lies at block p, all its own memory from block lo on; its wishes' slices below block B. -/
def PartAt (w : World) (B lo : Nat) : Tr → Nat → Prop
  | .base d, p => lo ≤ p ∧ p < w.heap.size ∧ ∃ (t : Wi) (v : Value), w.heap[p]? = some (partRow 0 t v (.pointer none) (.pointer none)) ∧ t.dat = d ∧ t.Short ∧ WiIn w B t ∧ IsW d ∧ TasteFrom w lo t v
  | .dual a, p => lo ≤ p ∧ p < w.heap.size ∧ ∃ (t : Wi) (q : Nat), w.heap[p]? = some (partRow 3 t .nilIface (.pointer (some ⟨q, 0, none⟩)) (.pointer none)) ∧ NoW t.dat ∧ t.Short ∧ WiIn w B t ∧ PartAt w B lo a q
  | .bin op a b, p => lo ≤ p ∧ p < w.heap.size ∧ Bin op ∧ ∃ (t : Wi) (q r : Nat), w.heap[p]? = some (partRow op t .nilIface (.pointer (some ⟨q, 0, none⟩)) (.pointer (some ⟨r, 0, none⟩))) ∧ NoW t.dat ∧ t.Short ∧ WiIn w B t ∧ PartAt w B lo a q ∧ PartAt w B lo b r
theorem WiIn.blocks {w w' : World} {B : Nat} {t : Wi} (h : WiIn w B t) (hb : ∀ k, k < B → w'.heap[k]? = w.heap[k]?) : WiIn w' B t :=
  ⟨h.k, h.f, h.v, ⟨h.l.1, fun k hk => by
    obtain ⟨b, off, ha, hB, hc⟩ := h.l.2 k hk
    exact ⟨b, off, ha, hB, (World.cell?_of_block (a := ⟨b, off + k, none⟩) (hb b hB)).trans hc⟩⟩, ⟨h.p.1, fun k p hk => by
    obtain ⟨b, off, ha, hB, h1, h2⟩ := h.p.2 k p hk
    exact ⟨b, off, ha, hB, (World.cell?_of_block (a := ⟨b, off + k * 2, none⟩) (hb b hB)).trans h1, (World.cell?_of_block (a := ⟨b, off + k * 2 + 1, none⟩) (hb b hB)).trans h2⟩⟩⟩
theorem PartAt.kept {w w' : World} {B lo : Nat} (hsz : w.heap.size ≤ w'.heap.size) (hb : ∀ k, k < B ∨ (lo ≤ k ∧ k < w.heap.size) → w'.heap[k]? = w.heap[k]?) : ∀ {t : Tr} {p : Nat}, PartAt w B lo t p → PartAt w' B lo t p
  | .base d, p, ⟨h0, h1, t, v, h2, h3, h4, h5, h6, h7⟩ => ⟨h0, Nat.lt_of_lt_of_le h1 hsz, t, v, (hb p (.inr ⟨h0, h1⟩)).trans h2, h3, h4, h5.blocks fun k hk => hb k (.inl hk), h6, h7.kept fun k h1 h2 => hb k (.inr ⟨h1, h2⟩)⟩
  | .dual a, p, ⟨h0, h1, t, q, h2, h3, h4, h5, h6⟩ => ⟨h0, Nat.lt_of_lt_of_le h1 hsz, t, q, (hb p (.inr ⟨h0, h1⟩)).trans h2, h3, h4, h5.blocks fun k hk => hb k (.inl hk), PartAt.kept hsz hb h6⟩
  | .bin op a b, p, ⟨h0, h1, h', t, q, r, h2, h3, h4, h5, h6, h7⟩ => ⟨h0, Nat.lt_of_lt_of_le h1 hsz, h', t, q, r, (hb p (.inr ⟨h0, h1⟩)).trans h2, h3, h4, h5.blocks fun k hk => hb k (.inl hk), PartAt.kept hsz hb h6, PartAt.kept hsz hb h7⟩
theorem PartAt.below {w w' : World} {B lo : Nat} (hB : B ≤ w.heap.size) (hb : Below w.heap.size w w') {t : Tr} {p : Nat} (h : PartAt w B lo t p) : PartAt w' B lo t p :=
  h.kept hb.size fun k hk => hb.block k (by rcases hk with hk | hk <;> omega)
theorem PartAt.low {w : World} {B lo lo' : Nat} (hl : lo' ≤ lo) : ∀ {t : Tr} {p : Nat}, PartAt w B lo t p → PartAt w B lo' t p
  | .base d, p, ⟨h0, h1, t, v, h2, h3, h4, h5, h6, h7⟩ => ⟨Nat.le_trans hl h0, h1, t, v, h2, h3, h4, h5, h6, h7.low hl⟩
  | .dual a, p, ⟨h0, h1, t, q, h2, h3, h4, h5, h6⟩ => ⟨Nat.le_trans hl h0, h1, t, q, h2, h3, h4, h5, PartAt.low hl h6⟩
  | .bin op a b, p, ⟨h0, h1, h', t, q, r, h2, h3, h4, h5, h6, h7⟩ => ⟨Nat.le_trans hl h0, h1, h', t, q, r, h2, h3, h4, h5, PartAt.low hl h6, PartAt.low hl h7⟩
theorem PartAt.set {w : World} {B lo : Nat} {t : Tr} {p g j : Nat} {v : Value} (h : PartAt w B lo t p) (h1 : B ≤ g) (h2 : g < lo) : PartAt (w.setCell ⟨g, j, none⟩ v) B lo t p :=
  h.kept (by simp) fun k hk => heap_setCell_other _ _ _ _ (by show k ≠ g; rcases hk with hk | hk <;> omega)
/-- What lastPart hands back of the slice (A, cap c) that holds nds. -/
def LastOut (B lo : Nat) (nds : List ND) (A : Option Addr) (c : Nat) (e : Ending) (w' : World) : Prop :=
  (∃ (t : Tr) (k p : Nat), LastP nds (some (t, k)) ∧ e = .returned (.tuple #[.pointer (some ⟨p, 0, none⟩), .slice A k c]) ∧ PartAt w' B lo t p) ∨ (LastP nds none ∧ e = .returned (.tuple #[.pointer none, .slice none 0 0]))
def zeroW : Wi := ⟨0, 0, 0, none, 0, 0, [], none, 0, 0, []⟩
theorem zeroW_in (w : World) (B : Nat) : WiIn w B zeroW := ⟨rfl, rfl, rfl, ⟨rfl, fun k hk => by cases hk⟩, ⟨rfl, fun k p hk => by simp [zeroW] at hk⟩⟩
theorem now_zero (t : Wi) : NoW t.dat ↔ t.dat = zeroW.dat := by
  constructor
  · intro ⟨h1, h2, h3, h4, h5⟩
    unfold Wi.dat zeroW at *
    simp only at h1 h2 h3 h4 h5
    rw [h1, h2, h3, h4, h5]
  · intro h
    rw [h]
    exact ⟨rfl, rfl, rfl, rfl, rfl⟩
theorem heap_set7 {w : World} {g : Nat} {T : TypeId} {v0 v1 v2 v3 v4 v5 v6 v7 v8 : Value} (h : w.heap[g]? = some (.cells #[v0, v1, v2, v3, v4, v5, v6, v7, v8] T (0, 0))) (u : Value) : (w.setCell ⟨g, 7, none⟩ u).heap[g]? = some (.cells #[v0, v1, v2, v3, v4, v5, v6, u, v8] T (0, 0)) := by
  have := heap_setCell_same w g 7 _ _ u h
  simpa using this
theorem heap_set8 {w : World} {g : Nat} {T : TypeId} {v0 v1 v2 v3 v4 v5 v6 v7 v8 : Value} (h : w.heap[g]? = some (.cells #[v0, v1, v2, v3, v4, v5, v6, v7, v8] T (0, 0))) (u : Value) : (w.setCell ⟨g, 8, none⟩ u).heap[g]? = some (.cells #[v0, v1, v2, v3, v4, v5, v6, v7, u] T (0, 0)) := by
  have := heap_setCell_same w g 8 _ _ u h
  simpa using this
theorem heap_set6 {w : World} {g : Nat} {T : TypeId} {v0 v1 v2 v3 v4 v5 v6 v7 v8 : Value} (h : w.heap[g]? = some (.cells #[v0, v1, v2, v3, v4, v5, v6, v7, v8] T (0, 0))) (u : Value) : (w.setCell ⟨g, 6, none⟩ u).heap[g]? = some (.cells #[v0, v1, v2, v3, v4, v5, u, v7, v8] T (0, 0)) := by
  have := heap_setCell_same w g 6 _ _ u h
  simpa using this

theorem iLast0 (B lo : Nat) (A : Option Addr) (c c' : Nat) (A' : Option Addr) (w : World) :
    Calls Tryz.prog 122 #[.slice A 0 c] w fun e w' => e = .returned (.tuple #[.pointer none, .slice none 0 0]) ∧ w' = w := by
  go_enter Tryz.func122, Tryz.ntmps122
  go_wp2
  go_ret2
  exact ⟨rfl, rfl⟩
set_option maxRecDepth 20000 in
set_option maxHeartbeats 3200000 in
theorem iLast (B : Nat) (A : Option Addr) (c : Nat) (hc : c ≤ 9223372036854775807) : ∀ (n : Nat) (w : World) (ns : List Nd), Nodes w B A n ns → B ≤ w.heap.size → n ≤ c → ShortN ns →
    Calls Tryz.prog 122 #[.slice A n c] w fun e w' => LastOut B w.heap.size (datN ns) A c e w' ∧ Below w.heap.size w w' := by
  intro n
  induction n using Nat.strongRecOn with
  | _ n ih =>
    intro w ns hi hB hnc hN
    rcases Nat.eq_zero_or_pos n with h0 | h0
    · subst h0
      obtain rfl : ns = [] := List.eq_nil_of_length_eq_zero hi.len
      clear ih hi
      go_enter Tryz.func122, Tryz.ntmps122
      go_wp2
      go_ret2
      exact ⟨.inr ⟨lastP_nil, rfl⟩, Below.refl _ _⟩
    · obtain ⟨m, rfl⟩ : ∃ m, n = m + 1 := ⟨n - 1, by omega⟩
      obtain ⟨b, off, ⟨op, t⟩, rfl, hb, hat, hwf, g0, g1, g2, g3, g4, g5⟩ := hi.at m (by omega)
      have HIH : Hid (∀ (k : Nat) (w : World) (ns : List Nd), k ≤ m → Nodes w B (some ⟨b, off, none⟩) k ns → B ≤ w.heap.size → ShortN ns → Calls Tryz.prog 122 #[.slice (some ⟨b, off, none⟩) k c] w fun e w' => LastOut B w.heap.size (datN ns) (some ⟨b, off, none⟩) c e w' ∧ Below w.heap.size w w') := Lib.hid fun k w ns h1 h2 h3 h4 => ih k (by omega) w ns h2 h3 (by omega) h4
      have HM : Hid (Nodes w B (some ⟨b, off, none⟩) m (ns.take m)) := Lib.hid (hi.take (by omega))
      have HN : Hid (ShortN (ns.take m)) := Lib.hid fun x hx => hN x (List.mem_of_mem_take hx)
      have HWi := Lib.hid hwf.2
      have hE : datN ns = datN (ns.take m) ++ [⟨op, t.dat⟩] := by
        have h := datN_at hat
        rwa [ptake_all hi.len] at h
      have hL : (datN (ns.take m)).length = m := by unfold datN; rw [List.length_map, List.length_take, hi.len]; omega
      have HE := Lib.hid hE
      have HL := Lib.hid hL
      have HSh : Hid t.Short := Lib.hid (hN _ (List.mem_of_getElem? hat))
      dsimp only at g0 g1 g2 g3 g4 g5
      have hx1 : (m : Int) + 1 - 1 = (m : Int) := by omega
      have hx3 : ((m : Int) + 1 == 0) = false := by simp; omega
      have hm1 : (m : Int) < (m : Int) + 1 := by omega
      have hm2 : (m : Int) ≤ (c : Int) := by omega
      clear ih hi hN hwf hE hL hat
      have HW1 : Hid (∀ o : Obj, Below w.heap.size w (w.alloc o).drew) := Lib.hid fun o => ((Below.refl _ w).alloc (Nat.le_refl _) _).drew
      have hvw : t.val = .agg #[.int .i64 t.kind, .int .i64 t.field, .int .i64 t.value, .slice t.LA t.Ln t.Lc, .slice t.PA t.Pn t.Pc] := rfl
      by_cases e0 : op = 0
      · subst e0
        obtain ⟨q, hq⟩ := bool_of (IsW t.dat)
        have HC : Hid (∀ w1, Below w.heap.size w w1 → w.heap.size + 1 ≤ w1.heap.size → Calls Tryz.prog 146 #[.agg #[.int .i64 t.kind, .int .i64 t.field, .int .i64 t.value, .slice t.LA t.Ln t.Lc, .slice t.PA t.Pn t.Pc]] w1 fun e w' => (∃ v, e = .returned (.tuple #[v, .bool q]) ∧ (q = true → TasteFrom w' (w.heap.size + 1) t v) ∧ IfV v) ∧ Below w1.heap.size w1 w') := Lib.hid fun w1 h h' => by
          rw [← hvw]
          exact (taste_ofV w1 B t (HWi.out.below (h.mono hB)) (Nat.le_trans hB h.size) HSh.out q hq).mono fun _ _ ⟨⟨v, h1, h2, h3⟩, h4⟩ => ⟨⟨v, h1, fun h => (h2 h).low h', h3⟩, h4⟩
        have HQ := Lib.hid hq
        clear hq hvw
        go_enter Tryz.func122, Tryz.ntmps122
        go_wp2
        go_region
        go_wp2_with fail
        refine (HC.out _ (HW1.out _) (by simp)).mono ?_
        rintro e w1 ⟨⟨v, rfl, hv, hif⟩, hb1⟩
        have hp : w1.heap[w.heap.size]? = some (.cells #[.int .i64 0, .int .i64 t.kind, .int .i64 t.field, .int .i64 t.value, .slice t.LA t.Ln t.Lc, .slice t.PA t.Pn t.Pc, .nilIface, .pointer none, .pointer none] 115 (0, 0)) := (hb1.block _ (by simp)).trans (heap_alloc_new w _)
        have HP := Lib.hid hp
        have HB := Lib.hid (below_on (HW1.out _) hb1)
        have HS := Lib.hid (Nat.lt_of_lt_of_le (by simp) hb1.size : w.heap.size < w1.heap.size)
        have HV := Lib.hid hv
        have c6 : w1.cell? ⟨w.heap.size, 6, none⟩ = some (.nilIface) := cell_of_row w1 _ 6 _ _ (0, 0) hp
        have z6 : w1.frozen? ⟨w.heap.size, 6, none⟩ = false := frozen_of_row w1 _ 6 _ _ hp
        clear hp hb1 hv HC
        cases q
        · have HLp : Hid (LastP (datN ns) none) := Lib.hid (by rw [HE.out]; exact (lastP_base rfl).2 fun h => by have := HQ.out.2 h; cases this)
          have HBB : Hid (∀ u, Below w.heap.size w (w1.setCell ⟨w.heap.size, 6, none⟩ u)) := Lib.hid fun u => HB.out.setCell (Nat.le_refl _) u
          rcases hif with rfl | ⟨T, x, rfl⟩
          · go_wp2
            go_ret2
            exact ⟨.inr ⟨HLp.out, rfl⟩, HBB.out _⟩
          · go_wp2
            go_ret2
            exact ⟨.inr ⟨HLp.out, rfl⟩, HBB.out _⟩
        · have HW := Lib.hid (HQ.out.1 rfl)
          have HLp : Hid (LastP (datN ns) (some (.base t.dat, m))) := Lib.hid (by rw [HE.out]; have h := (lastP_base (l := datN (ns.take m)) (nd := ⟨0, t.dat⟩) rfl).1 HW.out; rwa [HL.out] at h)
          have HBB : Hid (∀ u, Below w.heap.size w (w1.setCell ⟨w.heap.size, 6, none⟩ u)) := Lib.hid fun u => HB.out.setCell (Nat.le_refl _) u
          have HF : Hid (PartAt (w1.setCell ⟨w.heap.size, 6, none⟩ v) B w.heap.size (.base t.dat) w.heap.size) := Lib.hid (by
            have hp := heap_set6 HP.out v
            refine ⟨Nat.le_refl _, by have := HS.out; simpa using this, t, v, hp, rfl, HSh.out, HWi.out.below ((HBB.out v).mono hB), HW.out, ?_⟩
            rcases HV.out rfl with h | h | ⟨h, o, X, hX, e, a⟩
            · exact .inl h
            · exact .inr (.inl h)
            · refine .inr (.inr ⟨h, o, X, by omega, e, a.kept fun k h1 h2 => heap_setCell_other _ _ _ _ ?_⟩)
              show k ≠ w.heap.size
              omega)
          rcases hif with rfl | ⟨T, x, rfl⟩
          · go_wp2
            go_ret2
            exact ⟨.inl ⟨_, _, _, HLp.out, rfl, HF.out⟩, HBB.out _⟩
          · go_wp2
            go_ret2
            exact ⟨.inl ⟨_, _, _, HLp.out, rfl, HF.out⟩, HBB.out _⟩
      · by_cases e3 : op = 3
        · subst e3
          clear e0
          have hzw : zeroW.val = .agg #[.int .i64 0, .int .i64 0, .int .i64 0, .slice none 0 0, .slice none 0 0] := rfl
          obtain ⟨q, hq⟩ := bool_of (NoW t.dat)
          have HC : Hid (∀ w1, Below w.heap.size w w1 → Calls Tryz.prog 147 #[.agg #[.int .i64 t.kind, .int .i64 t.field, .int .i64 t.value, .slice t.LA t.Ln t.Lc, .slice t.PA t.Pn t.Pc], .agg #[.int .i64 0, .int .i64 0, .int .i64 0, .slice none 0 0, .slice none 0 0]] w1 fun e w' => e = .returned (.bool q) ∧ Below w1.heap.size w1 w') := Lib.hid fun w1 h => by
            rw [← hvw, ← hzw]
            exact iSameWish w1 B t zeroW (HWi.out.below (h.mono hB)) (zeroW_in _ _) (Nat.le_trans hB h.size) HSh.out q (by rw [hq, now_zero])
          have HQ := Lib.hid hq
          clear hq hvw hzw
          go_enter Tryz.func122, Tryz.ntmps122
          go_wp2
          go_region
          go_wp2_with fail
          refine (HIH.out m _ (ns.take m) (Nat.le_refl _) (HM.out.below ((HW1.out _).mono hB)) (Nat.le_trans hB (HW1.out _).size) HN.out).mono ?_
          rintro e w1 ⟨hout, hb1⟩
          have HPr : Hid (w1.heap[w.heap.size]? = some (.cells #[.int .i64 3, .int .i64 t.kind, .int .i64 t.field, .int .i64 t.value, .slice t.LA t.Ln t.Lc, .slice t.PA t.Pn t.Pc, .nilIface, .pointer none, .pointer none] 115 (0, 0))) := Lib.hid ((hb1.block _ (by simp)).trans (heap_alloc_new w _))
          have HBr := Lib.hid (below_on (HW1.out _) hb1)
          clear hb1
          rcases hout with ⟨ta, k, s, hl, rfl, hpa⟩ | ⟨hl, rfl⟩
          · have HLa := Lib.hid hl
            have HPa := Lib.hid hpa
            clear hl hpa
            have c0 : w1.cell? ⟨w.heap.size, 0, none⟩ = some (.int .i64 3) := cell_of_row w1 _ 0 _ _ (0, 0) HPr.out
            have c1 : w1.cell? ⟨w.heap.size, 1, none⟩ = some (.int .i64 t.kind) := cell_of_row w1 _ 1 _ _ (0, 0) HPr.out
            have c2 : w1.cell? ⟨w.heap.size, 2, none⟩ = some (.int .i64 t.field) := cell_of_row w1 _ 2 _ _ (0, 0) HPr.out
            have c3 : w1.cell? ⟨w.heap.size, 3, none⟩ = some (.int .i64 t.value) := cell_of_row w1 _ 3 _ _ (0, 0) HPr.out
            have c4 : w1.cell? ⟨w.heap.size, 4, none⟩ = some (.slice t.LA t.Ln t.Lc) := cell_of_row w1 _ 4 _ _ (0, 0) HPr.out
            have c5 : w1.cell? ⟨w.heap.size, 5, none⟩ = some (.slice t.PA t.Pn t.Pc) := cell_of_row w1 _ 5 _ _ (0, 0) HPr.out
            have c7 : w1.cell? ⟨w.heap.size, 7, none⟩ = some (.pointer none) := cell_of_row w1 _ 7 _ _ (0, 0) HPr.out
            have z7 : w1.frozen? ⟨w.heap.size, 7, none⟩ = false := frozen_of_row w1 _ 7 _ _ HPr.out
            have HB7 : Hid (∀ u, Below w.heap.size w (w1.setCell ⟨w.heap.size, 7, none⟩ u)) := Lib.hid fun u => HBr.out.setCell (Nat.le_refl _) u
            go_wp2_with fail
            refine (HC.out _ (HB7.out _)).mono ?_
            rintro e w9 ⟨rfl, hb9⟩
            have HB9 := Lib.hid (below_on (HB7.out _) hb9)
            have HD9 := Lib.hid hb9
            clear c0 c1 c2 c3 c4 c5 c7 z7
            clear hb9 HC
            cases q
            · have HLp : Hid (LastP (datN ns) none) := Lib.hid (by rw [HE.out]; exact lastP_now_no (by show (3 : Int) ≠ 0; decide) fun h => by have := HQ.out.2 h; cases this)
              go_wp2
              go_ret2
              exact ⟨.inr ⟨HLp.out, rfl⟩, HB9.out⟩
            · have HW := Lib.hid (HQ.out.1 rfl)
              have HLp : Hid (LastP (datN ns) (some (.dual ta, k))) := Lib.hid (by rw [HE.out]; exact lastP_dual rfl HW.out HLa.out)
              have HF : Hid (PartAt w9 B w.heap.size (.dual ta) w.heap.size) := Lib.hid (by
                have hp := heap_set7 HPr.out (.pointer (some ⟨s, 0, none⟩))
                have hlt := lt_of_block hp
                refine ⟨Nat.le_refl _, Nat.lt_of_lt_of_le hlt HD9.out.size, t, s, (HD9.out.block _ hlt).trans hp, HW.out, HSh.out, HWi.out.below (HB9.out.mono hB), ?_⟩
                exact ((HPa.out.set hB (by simp)).below (Nat.le_trans hB (HB7.out _).size) HD9.out).low (by simp))
              go_wp2
              go_ret2
              exact ⟨.inl ⟨_, _, _, HLp.out, rfl, HF.out⟩, HB9.out⟩
          · have HLa := Lib.hid hl
            clear hl
            have c7 : w1.cell? ⟨w.heap.size, 7, none⟩ = some (.pointer none) := cell_of_row w1 _ 7 _ _ (0, 0) HPr.out
            have z7 : w1.frozen? ⟨w.heap.size, 7, none⟩ = false := frozen_of_row w1 _ 7 _ _ HPr.out
            have HLp : Hid (LastP (datN ns) none) := Lib.hid (by rw [HE.out]; exact lastP_dual_no rfl HLa.out)
            have HB7 : Hid (∀ u, Below w.heap.size w (w1.setCell ⟨w.heap.size, 7, none⟩ u)) := Lib.hid fun u => HBr.out.setCell (Nat.le_refl _) u
            go_wp2
            go_ret2
            exact ⟨.inr ⟨HLp.out, rfl⟩, HB7.out _⟩
        · by_cases eb : op = 1 ∨ op = 2 ∨ op = 4
          · have HBin : Hid (Bin op) := Lib.hid eb
            rcases eb with rfl | rfl | rfl
            · have hzw : zeroW.val = .agg #[.int .i64 0, .int .i64 0, .int .i64 0, .slice none 0 0, .slice none 0 0] := rfl
              obtain ⟨q, hq⟩ := bool_of (NoW t.dat)
              have HC : Hid (∀ w1, Below w.heap.size w w1 → Calls Tryz.prog 147 #[.agg #[.int .i64 t.kind, .int .i64 t.field, .int .i64 t.value, .slice t.LA t.Ln t.Lc, .slice t.PA t.Pn t.Pc], .agg #[.int .i64 0, .int .i64 0, .int .i64 0, .slice none 0 0, .slice none 0 0]] w1 fun e w' => e = .returned (.bool q) ∧ Below w1.heap.size w1 w') := Lib.hid fun w1 h => by
                rw [← hvw, ← hzw]
                exact iSameWish w1 B t zeroW (HWi.out.below (h.mono hB)) (zeroW_in _ _) (Nat.le_trans hB h.size) HSh.out q (by rw [hq, now_zero])
              have HQ := Lib.hid hq
              clear hq hvw hzw
              go_enter Tryz.func122, Tryz.ntmps122
              go_wp2
              go_region
              go_wp2_with fail
              refine (HIH.out m _ (ns.take m) (Nat.le_refl _) (HM.out.below ((HW1.out _).mono hB)) (Nat.le_trans hB (HW1.out _).size) HN.out).mono ?_
              rintro e w1 ⟨hout, hb1⟩
              have HPr : Hid (w1.heap[w.heap.size]? = some (.cells #[.int .i64 1, .int .i64 t.kind, .int .i64 t.field, .int .i64 t.value, .slice t.LA t.Ln t.Lc, .slice t.PA t.Pn t.Pc, .nilIface, .pointer none, .pointer none] 115 (0, 0))) := Lib.hid ((hb1.block _ (by simp)).trans (heap_alloc_new w _))
              have HBr := Lib.hid (below_on (HW1.out _) hb1)
              clear hb1
              rcases hout with ⟨tb, k2, r, hl, rfl, hpb⟩ | ⟨hl, rfl⟩
              · have HLb := Lib.hid hl
                have HPb := Lib.hid hpb
                have hk2 : k2 ≤ m := by have := hl.lt; rw [HL.out] at this; omega
                clear hl hpb
                have c8 : w1.cell? ⟨w.heap.size, 8, none⟩ = some (.pointer none) := cell_of_row w1 _ 8 _ _ (0, 0) HPr.out
                have z8 : w1.frozen? ⟨w.heap.size, 8, none⟩ = false := frozen_of_row w1 _ 8 _ _ HPr.out
                have HP8 := Lib.hid (heap_set8 HPr.out (.pointer (some ⟨r, 0, none⟩)))
                have HB8 : Hid (∀ u, Below w.heap.size w (w1.setCell ⟨w.heap.size, 8, none⟩ u)) := Lib.hid fun u => HBr.out.setCell (Nat.le_refl _) u
                have HPb8 : Hid (∀ u, PartAt (w1.setCell ⟨w.heap.size, 8, none⟩ u) B (w.heap.size + 1) tb r) := Lib.hid fun u => by have := HPb.out.set (g := w.heap.size) (j := 8) (v := u) hB (by simp); simpa using this
                clear HPr HBr HPb
                go_wp2_with fail
                refine (HIH.out k2 _ ((ns.take m).take k2) hk2 ((HM.out.take hk2).below ((HB8.out _).mono hB)) (Nat.le_trans hB (HB8.out _).size) (fun x hx => HN.out x (List.mem_of_mem_take hx))).mono ?_
                rintro e w2 ⟨hout, hb2⟩
                have HPr : Hid (w2.heap[w.heap.size]? = some (.cells #[.int .i64 1, .int .i64 t.kind, .int .i64 t.field, .int .i64 t.value, .slice t.LA t.Ln t.Lc, .slice t.PA t.Pn t.Pc, .nilIface, .pointer none, .pointer (some ⟨r, 0, none⟩)] 115 (0, 0))) := Lib.hid ((hb2.block _ (lt_of_block HP8.out)).trans HP8.out)
                have HBr := Lib.hid (below_on (HB8.out _) hb2)
                have HPb2 : Hid (PartAt w2 B (w.heap.size + 1) tb r) := Lib.hid ((HPb8.out _).below (Nat.le_trans hB (HB8.out _).size) hb2)
                have hlo : w.heap.size + 1 ≤ (w1.setCell ⟨w.heap.size, 8, none⟩ (.pointer (some ⟨r, 0, none⟩))).heap.size := lt_of_block HP8.out
                have HLo := Lib.hid hlo
                have HTk : Hid (datN ((ns.take m).take k2) = (datN (ns.take m)).take k2) := Lib.hid (by unfold datN; rw [List.map_take])
                clear hb2 hlo HP8 HB8 HPb8
                clear c8 z8
                rcases hout with ⟨ta, k, s, hl, rfl, hpa⟩ | ⟨hl, rfl⟩
                · have HLa := Lib.hid hl
                  have HPa := Lib.hid (hpa.low HLo.out)
                  clear hl hpa
                  have c0 : w2.cell? ⟨w.heap.size, 0, none⟩ = some (.int .i64 1) := cell_of_row w2 _ 0 _ _ (0, 0) HPr.out
                  have c1 : w2.cell? ⟨w.heap.size, 1, none⟩ = some (.int .i64 t.kind) := cell_of_row w2 _ 1 _ _ (0, 0) HPr.out
                  have c2 : w2.cell? ⟨w.heap.size, 2, none⟩ = some (.int .i64 t.field) := cell_of_row w2 _ 2 _ _ (0, 0) HPr.out
                  have c3 : w2.cell? ⟨w.heap.size, 3, none⟩ = some (.int .i64 t.value) := cell_of_row w2 _ 3 _ _ (0, 0) HPr.out
                  have c4 : w2.cell? ⟨w.heap.size, 4, none⟩ = some (.slice t.LA t.Ln t.Lc) := cell_of_row w2 _ 4 _ _ (0, 0) HPr.out
                  have c5 : w2.cell? ⟨w.heap.size, 5, none⟩ = some (.slice t.PA t.Pn t.Pc) := cell_of_row w2 _ 5 _ _ (0, 0) HPr.out
                  have c7 : w2.cell? ⟨w.heap.size, 7, none⟩ = some (.pointer none) := cell_of_row w2 _ 7 _ _ (0, 0) HPr.out
                  have z7 : w2.frozen? ⟨w.heap.size, 7, none⟩ = false := frozen_of_row w2 _ 7 _ _ HPr.out
                  have HB7 : Hid (∀ u, Below w.heap.size w (w2.setCell ⟨w.heap.size, 7, none⟩ u)) := Lib.hid fun u => HBr.out.setCell (Nat.le_refl _) u
                  go_wp2_with fail
                  refine (HC.out _ (HB7.out _)).mono ?_
                  rintro e w9 ⟨rfl, hb9⟩
                  have HB9 := Lib.hid (below_on (HB7.out _) hb9)
                  have HD9 := Lib.hid hb9
                  clear c0 c1 c2 c3 c4 c5 c7 z7
                  clear hb9 HC
                  cases q
                  · have HLp : Hid (LastP (datN ns) none) := Lib.hid (by rw [HE.out]; exact lastP_now_no (by show (1 : Int) ≠ 0; decide) fun h => by have := HQ.out.2 h; cases this)
                    go_wp2
                    go_ret2
                    exact ⟨.inr ⟨HLp.out, rfl⟩, HB9.out⟩
                  · have HW := Lib.hid (HQ.out.1 rfl)
                    have HLp : Hid (LastP (datN ns) (some (.bin 1 ta tb, k))) := Lib.hid (by rw [HE.out]; exact lastP_bin HBin.out HW.out HLb.out (HTk.out ▸ HLa.out))
                    have HF : Hid (PartAt w9 B w.heap.size (.bin 1 ta tb) w.heap.size) := Lib.hid (by
                      have hp := heap_set7 HPr.out (.pointer (some ⟨s, 0, none⟩))
                      have hlt := lt_of_block hp
                      refine ⟨Nat.le_refl _, Nat.lt_of_lt_of_le hlt HD9.out.size, HBin.out, t, s, r, (HD9.out.block _ hlt).trans hp, HW.out, HSh.out, HWi.out.below (HB9.out.mono hB), ?_, ?_⟩
                      · exact ((HPa.out.set hB (by omega)).below (Nat.le_trans hB (HB7.out _).size) HD9.out).low (by omega)
                      · exact ((HPb2.out.set hB (by omega)).below (Nat.le_trans hB (HB7.out _).size) HD9.out).low (by omega))
                    go_wp2
                    go_ret2
                    exact ⟨.inl ⟨_, _, _, HLp.out, rfl, HF.out⟩, HB9.out⟩
                · have HLa := Lib.hid hl
                  clear hl
                  have c7 : w2.cell? ⟨w.heap.size, 7, none⟩ = some (.pointer none) := cell_of_row w2 _ 7 _ _ (0, 0) HPr.out
                  have z7 : w2.frozen? ⟨w.heap.size, 7, none⟩ = false := frozen_of_row w2 _ 7 _ _ HPr.out
                  have HLp : Hid (LastP (datN ns) none) := Lib.hid (by rw [HE.out]; exact lastP_bin_no1 HBin.out HLb.out (HTk.out ▸ HLa.out))
                  have HB7 : Hid (∀ u, Below w.heap.size w (w2.setCell ⟨w.heap.size, 7, none⟩ u)) := Lib.hid fun u => HBr.out.setCell (Nat.le_refl _) u
                  go_wp2
                  go_ret2
                  exact ⟨.inr ⟨HLp.out, rfl⟩, HB7.out _⟩
              · have HLa := Lib.hid hl
                clear hl
                have c8 : w1.cell? ⟨w.heap.size, 8, none⟩ = some (.pointer none) := cell_of_row w1 _ 8 _ _ (0, 0) HPr.out
                have z8 : w1.frozen? ⟨w.heap.size, 8, none⟩ = false := frozen_of_row w1 _ 8 _ _ HPr.out
                have HP8 := Lib.hid (heap_set8 HPr.out (.pointer none))
                have HB8 : Hid (∀ u, Below w.heap.size w (w1.setCell ⟨w.heap.size, 8, none⟩ u)) := Lib.hid fun u => HBr.out.setCell (Nat.le_refl _) u
                clear HPr HBr
                go_wp2_with fail
                refine (iLast0 B 0 none 0 0 none _).mono ?_
                rintro e w2 ⟨rfl, hw2⟩
                have HPr : Hid (w2.heap[w.heap.size]? = some (.cells #[.int .i64 1, .int .i64 t.kind, .int .i64 t.field, .int .i64 t.value, .slice t.LA t.Ln t.Lc, .slice t.PA t.Pn t.Pc, .nilIface, .pointer none, .pointer none] 115 (0, 0))) := Lib.hid (by rw [hw2]; exact HP8.out)
                have HBr : Hid (Below w.heap.size w w2) := Lib.hid (by rw [hw2]; exact HB8.out _)
                clear hw2 HP8 HB8
                clear c8 z8
                have c7 : w2.cell? ⟨w.heap.size, 7, none⟩ = some (.pointer none) := cell_of_row w2 _ 7 _ _ (0, 0) HPr.out
                have z7 : w2.frozen? ⟨w.heap.size, 7, none⟩ = false := frozen_of_row w2 _ 7 _ _ HPr.out
                have HLp : Hid (LastP (datN ns) none) := Lib.hid (by rw [HE.out]; exact lastP_bin_no2 HBin.out HLa.out)
                have HB7 : Hid (∀ u, Below w.heap.size w (w2.setCell ⟨w.heap.size, 7, none⟩ u)) := Lib.hid fun u => HBr.out.setCell (Nat.le_refl _) u
                go_wp2
                go_ret2
                exact ⟨.inr ⟨HLp.out, rfl⟩, HB7.out _⟩
            · have hzw : zeroW.val = .agg #[.int .i64 0, .int .i64 0, .int .i64 0, .slice none 0 0, .slice none 0 0] := rfl
              obtain ⟨q, hq⟩ := bool_of (NoW t.dat)
              have HC : Hid (∀ w1, Below w.heap.size w w1 → Calls Tryz.prog 147 #[.agg #[.int .i64 t.kind, .int .i64 t.field, .int .i64 t.value, .slice t.LA t.Ln t.Lc, .slice t.PA t.Pn t.Pc], .agg #[.int .i64 0, .int .i64 0, .int .i64 0, .slice none 0 0, .slice none 0 0]] w1 fun e w' => e = .returned (.bool q) ∧ Below w1.heap.size w1 w') := Lib.hid fun w1 h => by
                rw [← hvw, ← hzw]
                exact iSameWish w1 B t zeroW (HWi.out.below (h.mono hB)) (zeroW_in _ _) (Nat.le_trans hB h.size) HSh.out q (by rw [hq, now_zero])
              have HQ := Lib.hid hq
              clear hq hvw hzw
              go_enter Tryz.func122, Tryz.ntmps122
              go_wp2
              go_region
              go_wp2_with fail
              refine (HIH.out m _ (ns.take m) (Nat.le_refl _) (HM.out.below ((HW1.out _).mono hB)) (Nat.le_trans hB (HW1.out _).size) HN.out).mono ?_
              rintro e w1 ⟨hout, hb1⟩
              have HPr : Hid (w1.heap[w.heap.size]? = some (.cells #[.int .i64 2, .int .i64 t.kind, .int .i64 t.field, .int .i64 t.value, .slice t.LA t.Ln t.Lc, .slice t.PA t.Pn t.Pc, .nilIface, .pointer none, .pointer none] 115 (0, 0))) := Lib.hid ((hb1.block _ (by simp)).trans (heap_alloc_new w _))
              have HBr := Lib.hid (below_on (HW1.out _) hb1)
              clear hb1
              rcases hout with ⟨tb, k2, r, hl, rfl, hpb⟩ | ⟨hl, rfl⟩
              · have HLb := Lib.hid hl
                have HPb := Lib.hid hpb
                have hk2 : k2 ≤ m := by have := hl.lt; rw [HL.out] at this; omega
                clear hl hpb
                have c8 : w1.cell? ⟨w.heap.size, 8, none⟩ = some (.pointer none) := cell_of_row w1 _ 8 _ _ (0, 0) HPr.out
                have z8 : w1.frozen? ⟨w.heap.size, 8, none⟩ = false := frozen_of_row w1 _ 8 _ _ HPr.out
                have HP8 := Lib.hid (heap_set8 HPr.out (.pointer (some ⟨r, 0, none⟩)))
                have HB8 : Hid (∀ u, Below w.heap.size w (w1.setCell ⟨w.heap.size, 8, none⟩ u)) := Lib.hid fun u => HBr.out.setCell (Nat.le_refl _) u
                have HPb8 : Hid (∀ u, PartAt (w1.setCell ⟨w.heap.size, 8, none⟩ u) B (w.heap.size + 1) tb r) := Lib.hid fun u => by have := HPb.out.set (g := w.heap.size) (j := 8) (v := u) hB (by simp); simpa using this
                clear HPr HBr HPb
                go_wp2_with fail
                refine (HIH.out k2 _ ((ns.take m).take k2) hk2 ((HM.out.take hk2).below ((HB8.out _).mono hB)) (Nat.le_trans hB (HB8.out _).size) (fun x hx => HN.out x (List.mem_of_mem_take hx))).mono ?_
                rintro e w2 ⟨hout, hb2⟩
                have HPr : Hid (w2.heap[w.heap.size]? = some (.cells #[.int .i64 2, .int .i64 t.kind, .int .i64 t.field, .int .i64 t.value, .slice t.LA t.Ln t.Lc, .slice t.PA t.Pn t.Pc, .nilIface, .pointer none, .pointer (some ⟨r, 0, none⟩)] 115 (0, 0))) := Lib.hid ((hb2.block _ (lt_of_block HP8.out)).trans HP8.out)
                have HBr := Lib.hid (below_on (HB8.out _) hb2)
                have HPb2 : Hid (PartAt w2 B (w.heap.size + 1) tb r) := Lib.hid ((HPb8.out _).below (Nat.le_trans hB (HB8.out _).size) hb2)
                have hlo : w.heap.size + 1 ≤ (w1.setCell ⟨w.heap.size, 8, none⟩ (.pointer (some ⟨r, 0, none⟩))).heap.size := lt_of_block HP8.out
                have HLo := Lib.hid hlo
                have HTk : Hid (datN ((ns.take m).take k2) = (datN (ns.take m)).take k2) := Lib.hid (by unfold datN; rw [List.map_take])
                clear hb2 hlo HP8 HB8 HPb8
                clear c8 z8
                rcases hout with ⟨ta, k, s, hl, rfl, hpa⟩ | ⟨hl, rfl⟩
                · have HLa := Lib.hid hl
                  have HPa := Lib.hid (hpa.low HLo.out)
                  clear hl hpa
                  have c0 : w2.cell? ⟨w.heap.size, 0, none⟩ = some (.int .i64 2) := cell_of_row w2 _ 0 _ _ (0, 0) HPr.out
                  have c1 : w2.cell? ⟨w.heap.size, 1, none⟩ = some (.int .i64 t.kind) := cell_of_row w2 _ 1 _ _ (0, 0) HPr.out
                  have c2 : w2.cell? ⟨w.heap.size, 2, none⟩ = some (.int .i64 t.field) := cell_of_row w2 _ 2 _ _ (0, 0) HPr.out
                  have c3 : w2.cell? ⟨w.heap.size, 3, none⟩ = some (.int .i64 t.value) := cell_of_row w2 _ 3 _ _ (0, 0) HPr.out
                  have c4 : w2.cell? ⟨w.heap.size, 4, none⟩ = some (.slice t.LA t.Ln t.Lc) := cell_of_row w2 _ 4 _ _ (0, 0) HPr.out
                  have c5 : w2.cell? ⟨w.heap.size, 5, none⟩ = some (.slice t.PA t.Pn t.Pc) := cell_of_row w2 _ 5 _ _ (0, 0) HPr.out
                  have c7 : w2.cell? ⟨w.heap.size, 7, none⟩ = some (.pointer none) := cell_of_row w2 _ 7 _ _ (0, 0) HPr.out
                  have z7 : w2.frozen? ⟨w.heap.size, 7, none⟩ = false := frozen_of_row w2 _ 7 _ _ HPr.out
                  have HB7 : Hid (∀ u, Below w.heap.size w (w2.setCell ⟨w.heap.size, 7, none⟩ u)) := Lib.hid fun u => HBr.out.setCell (Nat.le_refl _) u
                  go_wp2_with fail
                  refine (HC.out _ (HB7.out _)).mono ?_
                  rintro e w9 ⟨rfl, hb9⟩
                  have HB9 := Lib.hid (below_on (HB7.out _) hb9)
                  have HD9 := Lib.hid hb9
                  clear c0 c1 c2 c3 c4 c5 c7 z7
                  clear hb9 HC
                  cases q
                  · have HLp : Hid (LastP (datN ns) none) := Lib.hid (by rw [HE.out]; exact lastP_now_no (by show (2 : Int) ≠ 0; decide) fun h => by have := HQ.out.2 h; cases this)
                    go_wp2
                    go_ret2
                    exact ⟨.inr ⟨HLp.out, rfl⟩, HB9.out⟩
                  · have HW := Lib.hid (HQ.out.1 rfl)
                    have HLp : Hid (LastP (datN ns) (some (.bin 2 ta tb, k))) := Lib.hid (by rw [HE.out]; exact lastP_bin HBin.out HW.out HLb.out (HTk.out ▸ HLa.out))
                    have HF : Hid (PartAt w9 B w.heap.size (.bin 2 ta tb) w.heap.size) := Lib.hid (by
                      have hp := heap_set7 HPr.out (.pointer (some ⟨s, 0, none⟩))
                      have hlt := lt_of_block hp
                      refine ⟨Nat.le_refl _, Nat.lt_of_lt_of_le hlt HD9.out.size, HBin.out, t, s, r, (HD9.out.block _ hlt).trans hp, HW.out, HSh.out, HWi.out.below (HB9.out.mono hB), ?_, ?_⟩
                      · exact ((HPa.out.set hB (by omega)).below (Nat.le_trans hB (HB7.out _).size) HD9.out).low (by omega)
                      · exact ((HPb2.out.set hB (by omega)).below (Nat.le_trans hB (HB7.out _).size) HD9.out).low (by omega))
                    go_wp2
                    go_ret2
                    exact ⟨.inl ⟨_, _, _, HLp.out, rfl, HF.out⟩, HB9.out⟩
                · have HLa := Lib.hid hl
                  clear hl
                  have c7 : w2.cell? ⟨w.heap.size, 7, none⟩ = some (.pointer none) := cell_of_row w2 _ 7 _ _ (0, 0) HPr.out
                  have z7 : w2.frozen? ⟨w.heap.size, 7, none⟩ = false := frozen_of_row w2 _ 7 _ _ HPr.out
                  have HLp : Hid (LastP (datN ns) none) := Lib.hid (by rw [HE.out]; exact lastP_bin_no1 HBin.out HLb.out (HTk.out ▸ HLa.out))
                  have HB7 : Hid (∀ u, Below w.heap.size w (w2.setCell ⟨w.heap.size, 7, none⟩ u)) := Lib.hid fun u => HBr.out.setCell (Nat.le_refl _) u
                  go_wp2
                  go_ret2
                  exact ⟨.inr ⟨HLp.out, rfl⟩, HB7.out _⟩
              · have HLa := Lib.hid hl
                clear hl
                have c8 : w1.cell? ⟨w.heap.size, 8, none⟩ = some (.pointer none) := cell_of_row w1 _ 8 _ _ (0, 0) HPr.out
                have z8 : w1.frozen? ⟨w.heap.size, 8, none⟩ = false := frozen_of_row w1 _ 8 _ _ HPr.out
                have HP8 := Lib.hid (heap_set8 HPr.out (.pointer none))
                have HB8 : Hid (∀ u, Below w.heap.size w (w1.setCell ⟨w.heap.size, 8, none⟩ u)) := Lib.hid fun u => HBr.out.setCell (Nat.le_refl _) u
                clear HPr HBr
                go_wp2_with fail
                refine (iLast0 B 0 none 0 0 none _).mono ?_
                rintro e w2 ⟨rfl, hw2⟩
                have HPr : Hid (w2.heap[w.heap.size]? = some (.cells #[.int .i64 2, .int .i64 t.kind, .int .i64 t.field, .int .i64 t.value, .slice t.LA t.Ln t.Lc, .slice t.PA t.Pn t.Pc, .nilIface, .pointer none, .pointer none] 115 (0, 0))) := Lib.hid (by rw [hw2]; exact HP8.out)
                have HBr : Hid (Below w.heap.size w w2) := Lib.hid (by rw [hw2]; exact HB8.out _)
                clear hw2 HP8 HB8
                clear c8 z8
                have c7 : w2.cell? ⟨w.heap.size, 7, none⟩ = some (.pointer none) := cell_of_row w2 _ 7 _ _ (0, 0) HPr.out
                have z7 : w2.frozen? ⟨w.heap.size, 7, none⟩ = false := frozen_of_row w2 _ 7 _ _ HPr.out
                have HLp : Hid (LastP (datN ns) none) := Lib.hid (by rw [HE.out]; exact lastP_bin_no2 HBin.out HLa.out)
                have HB7 : Hid (∀ u, Below w.heap.size w (w2.setCell ⟨w.heap.size, 7, none⟩ u)) := Lib.hid fun u => HBr.out.setCell (Nat.le_refl _) u
                go_wp2
                go_ret2
                exact ⟨.inr ⟨HLp.out, rfl⟩, HB7.out _⟩
            · have hzw : zeroW.val = .agg #[.int .i64 0, .int .i64 0, .int .i64 0, .slice none 0 0, .slice none 0 0] := rfl
              obtain ⟨q, hq⟩ := bool_of (NoW t.dat)
              have HC : Hid (∀ w1, Below w.heap.size w w1 → Calls Tryz.prog 147 #[.agg #[.int .i64 t.kind, .int .i64 t.field, .int .i64 t.value, .slice t.LA t.Ln t.Lc, .slice t.PA t.Pn t.Pc], .agg #[.int .i64 0, .int .i64 0, .int .i64 0, .slice none 0 0, .slice none 0 0]] w1 fun e w' => e = .returned (.bool q) ∧ Below w1.heap.size w1 w') := Lib.hid fun w1 h => by
                rw [← hvw, ← hzw]
                exact iSameWish w1 B t zeroW (HWi.out.below (h.mono hB)) (zeroW_in _ _) (Nat.le_trans hB h.size) HSh.out q (by rw [hq, now_zero])
              have HQ := Lib.hid hq
              clear hq hvw hzw
              go_enter Tryz.func122, Tryz.ntmps122
              go_wp2
              go_region
              go_wp2_with fail
              refine (HIH.out m _ (ns.take m) (Nat.le_refl _) (HM.out.below ((HW1.out _).mono hB)) (Nat.le_trans hB (HW1.out _).size) HN.out).mono ?_
              rintro e w1 ⟨hout, hb1⟩
              have HPr : Hid (w1.heap[w.heap.size]? = some (.cells #[.int .i64 4, .int .i64 t.kind, .int .i64 t.field, .int .i64 t.value, .slice t.LA t.Ln t.Lc, .slice t.PA t.Pn t.Pc, .nilIface, .pointer none, .pointer none] 115 (0, 0))) := Lib.hid ((hb1.block _ (by simp)).trans (heap_alloc_new w _))
              have HBr := Lib.hid (below_on (HW1.out _) hb1)
              clear hb1
              rcases hout with ⟨tb, k2, r, hl, rfl, hpb⟩ | ⟨hl, rfl⟩
              · have HLb := Lib.hid hl
                have HPb := Lib.hid hpb
                have hk2 : k2 ≤ m := by have := hl.lt; rw [HL.out] at this; omega
                clear hl hpb
                have c8 : w1.cell? ⟨w.heap.size, 8, none⟩ = some (.pointer none) := cell_of_row w1 _ 8 _ _ (0, 0) HPr.out
                have z8 : w1.frozen? ⟨w.heap.size, 8, none⟩ = false := frozen_of_row w1 _ 8 _ _ HPr.out
                have HP8 := Lib.hid (heap_set8 HPr.out (.pointer (some ⟨r, 0, none⟩)))
                have HB8 : Hid (∀ u, Below w.heap.size w (w1.setCell ⟨w.heap.size, 8, none⟩ u)) := Lib.hid fun u => HBr.out.setCell (Nat.le_refl _) u
                have HPb8 : Hid (∀ u, PartAt (w1.setCell ⟨w.heap.size, 8, none⟩ u) B (w.heap.size + 1) tb r) := Lib.hid fun u => by have := HPb.out.set (g := w.heap.size) (j := 8) (v := u) hB (by simp); simpa using this
                clear HPr HBr HPb
                go_wp2_with fail
                refine (HIH.out k2 _ ((ns.take m).take k2) hk2 ((HM.out.take hk2).below ((HB8.out _).mono hB)) (Nat.le_trans hB (HB8.out _).size) (fun x hx => HN.out x (List.mem_of_mem_take hx))).mono ?_
                rintro e w2 ⟨hout, hb2⟩
                have HPr : Hid (w2.heap[w.heap.size]? = some (.cells #[.int .i64 4, .int .i64 t.kind, .int .i64 t.field, .int .i64 t.value, .slice t.LA t.Ln t.Lc, .slice t.PA t.Pn t.Pc, .nilIface, .pointer none, .pointer (some ⟨r, 0, none⟩)] 115 (0, 0))) := Lib.hid ((hb2.block _ (lt_of_block HP8.out)).trans HP8.out)
                have HBr := Lib.hid (below_on (HB8.out _) hb2)
                have HPb2 : Hid (PartAt w2 B (w.heap.size + 1) tb r) := Lib.hid ((HPb8.out _).below (Nat.le_trans hB (HB8.out _).size) hb2)
                have hlo : w.heap.size + 1 ≤ (w1.setCell ⟨w.heap.size, 8, none⟩ (.pointer (some ⟨r, 0, none⟩))).heap.size := lt_of_block HP8.out
                have HLo := Lib.hid hlo
                have HTk : Hid (datN ((ns.take m).take k2) = (datN (ns.take m)).take k2) := Lib.hid (by unfold datN; rw [List.map_take])
                clear hb2 hlo HP8 HB8 HPb8
                clear c8 z8
                rcases hout with ⟨ta, k, s, hl, rfl, hpa⟩ | ⟨hl, rfl⟩
                · have HLa := Lib.hid hl
                  have HPa := Lib.hid (hpa.low HLo.out)
                  clear hl hpa
                  have c0 : w2.cell? ⟨w.heap.size, 0, none⟩ = some (.int .i64 4) := cell_of_row w2 _ 0 _ _ (0, 0) HPr.out
                  have c1 : w2.cell? ⟨w.heap.size, 1, none⟩ = some (.int .i64 t.kind) := cell_of_row w2 _ 1 _ _ (0, 0) HPr.out
                  have c2 : w2.cell? ⟨w.heap.size, 2, none⟩ = some (.int .i64 t.field) := cell_of_row w2 _ 2 _ _ (0, 0) HPr.out
                  have c3 : w2.cell? ⟨w.heap.size, 3, none⟩ = some (.int .i64 t.value) := cell_of_row w2 _ 3 _ _ (0, 0) HPr.out
                  have c4 : w2.cell? ⟨w.heap.size, 4, none⟩ = some (.slice t.LA t.Ln t.Lc) := cell_of_row w2 _ 4 _ _ (0, 0) HPr.out
                  have c5 : w2.cell? ⟨w.heap.size, 5, none⟩ = some (.slice t.PA t.Pn t.Pc) := cell_of_row w2 _ 5 _ _ (0, 0) HPr.out
                  have c7 : w2.cell? ⟨w.heap.size, 7, none⟩ = some (.pointer none) := cell_of_row w2 _ 7 _ _ (0, 0) HPr.out
                  have z7 : w2.frozen? ⟨w.heap.size, 7, none⟩ = false := frozen_of_row w2 _ 7 _ _ HPr.out
                  have HB7 : Hid (∀ u, Below w.heap.size w (w2.setCell ⟨w.heap.size, 7, none⟩ u)) := Lib.hid fun u => HBr.out.setCell (Nat.le_refl _) u
                  go_wp2_with fail
                  refine (HC.out _ (HB7.out _)).mono ?_
                  rintro e w9 ⟨rfl, hb9⟩
                  have HB9 := Lib.hid (below_on (HB7.out _) hb9)
                  have HD9 := Lib.hid hb9
                  clear c0 c1 c2 c3 c4 c5 c7 z7
                  clear hb9 HC
                  cases q
                  · have HLp : Hid (LastP (datN ns) none) := Lib.hid (by rw [HE.out]; exact lastP_now_no (by show (4 : Int) ≠ 0; decide) fun h => by have := HQ.out.2 h; cases this)
                    go_wp2
                    go_ret2
                    exact ⟨.inr ⟨HLp.out, rfl⟩, HB9.out⟩
                  · have HW := Lib.hid (HQ.out.1 rfl)
                    have HLp : Hid (LastP (datN ns) (some (.bin 4 ta tb, k))) := Lib.hid (by rw [HE.out]; exact lastP_bin HBin.out HW.out HLb.out (HTk.out ▸ HLa.out))
                    have HF : Hid (PartAt w9 B w.heap.size (.bin 4 ta tb) w.heap.size) := Lib.hid (by
                      have hp := heap_set7 HPr.out (.pointer (some ⟨s, 0, none⟩))
                      have hlt := lt_of_block hp
                      refine ⟨Nat.le_refl _, Nat.lt_of_lt_of_le hlt HD9.out.size, HBin.out, t, s, r, (HD9.out.block _ hlt).trans hp, HW.out, HSh.out, HWi.out.below (HB9.out.mono hB), ?_, ?_⟩
                      · exact ((HPa.out.set hB (by omega)).below (Nat.le_trans hB (HB7.out _).size) HD9.out).low (by omega)
                      · exact ((HPb2.out.set hB (by omega)).below (Nat.le_trans hB (HB7.out _).size) HD9.out).low (by omega))
                    go_wp2
                    go_ret2
                    exact ⟨.inl ⟨_, _, _, HLp.out, rfl, HF.out⟩, HB9.out⟩
                · have HLa := Lib.hid hl
                  clear hl
                  have c7 : w2.cell? ⟨w.heap.size, 7, none⟩ = some (.pointer none) := cell_of_row w2 _ 7 _ _ (0, 0) HPr.out
                  have z7 : w2.frozen? ⟨w.heap.size, 7, none⟩ = false := frozen_of_row w2 _ 7 _ _ HPr.out
                  have HLp : Hid (LastP (datN ns) none) := Lib.hid (by rw [HE.out]; exact lastP_bin_no1 HBin.out HLb.out (HTk.out ▸ HLa.out))
                  have HB7 : Hid (∀ u, Below w.heap.size w (w2.setCell ⟨w.heap.size, 7, none⟩ u)) := Lib.hid fun u => HBr.out.setCell (Nat.le_refl _) u
                  go_wp2
                  go_ret2
                  exact ⟨.inr ⟨HLp.out, rfl⟩, HB7.out _⟩
              · have HLa := Lib.hid hl
                clear hl
                have c8 : w1.cell? ⟨w.heap.size, 8, none⟩ = some (.pointer none) := cell_of_row w1 _ 8 _ _ (0, 0) HPr.out
                have z8 : w1.frozen? ⟨w.heap.size, 8, none⟩ = false := frozen_of_row w1 _ 8 _ _ HPr.out
                have HP8 := Lib.hid (heap_set8 HPr.out (.pointer none))
                have HB8 : Hid (∀ u, Below w.heap.size w (w1.setCell ⟨w.heap.size, 8, none⟩ u)) := Lib.hid fun u => HBr.out.setCell (Nat.le_refl _) u
                clear HPr HBr
                go_wp2_with fail
                refine (iLast0 B 0 none 0 0 none _).mono ?_
                rintro e w2 ⟨rfl, hw2⟩
                have HPr : Hid (w2.heap[w.heap.size]? = some (.cells #[.int .i64 4, .int .i64 t.kind, .int .i64 t.field, .int .i64 t.value, .slice t.LA t.Ln t.Lc, .slice t.PA t.Pn t.Pc, .nilIface, .pointer none, .pointer none] 115 (0, 0))) := Lib.hid (by rw [hw2]; exact HP8.out)
                have HBr : Hid (Below w.heap.size w w2) := Lib.hid (by rw [hw2]; exact HB8.out _)
                clear hw2 HP8 HB8
                clear c8 z8
                have c7 : w2.cell? ⟨w.heap.size, 7, none⟩ = some (.pointer none) := cell_of_row w2 _ 7 _ _ (0, 0) HPr.out
                have z7 : w2.frozen? ⟨w.heap.size, 7, none⟩ = false := frozen_of_row w2 _ 7 _ _ HPr.out
                have HLp : Hid (LastP (datN ns) none) := Lib.hid (by rw [HE.out]; exact lastP_bin_no2 HBin.out HLa.out)
                have HB7 : Hid (∀ u, Below w.heap.size w (w2.setCell ⟨w.heap.size, 7, none⟩ u)) := Lib.hid fun u => HBr.out.setCell (Nat.le_refl _) u
                go_wp2
                go_ret2
                exact ⟨.inr ⟨HLp.out, rfl⟩, HB7.out _⟩
          · have hnb : ¬ Bin op := eb
            have f0 : (op == 0) = false := by simpa using e0
            have f3 : (op == 3) = false := by simpa using e3
            have f1 : (op == 1) = false := by
              have : op ≠ 1 := fun h => eb (.inl h)
              simpa using this
            have f2 : (op == 2) = false := by
              have : op ≠ 2 := fun h => eb (.inr (.inl h))
              simpa using this
            have f4 : (op == 4) = false := by
              have : op ≠ 4 := fun h => eb (.inr (.inr h))
              simpa using this
            have HLp : Hid (LastP (datN ns) none) := Lib.hid (by rw [HE.out]; exact lastP_odd e0 e3 hnb)
            clear hnb e0 e3 eb hvw
            go_enter Tryz.func122, Tryz.ntmps122
            go_wp2
            go_region
            go_wp2
            go_ret2
            exact ⟨.inr ⟨HLp.out, rfl⟩, HW1.out _⟩
end Go.Proofs.YtceiocdemhkcdaaGreat.num
namespace Go.Proofs.YtceiocdemhkcdaaGreat.num
set_option maxRecDepth 20000
open Go.RowKit Go.Maps
set_option linter.unusedVariables false
set_option linter.unusedSimpArgs false

def TreeOut (B lo : Nat) (nds : List ND) (e : Ending) (w' : World) : Prop :=
  (IsE nds ∧ ∃ t p, Post nds t ∧ e = .returned (.pointer (some ⟨p, 0, none⟩)) ∧ PartAt w' B lo t p) ∨ (¬ IsE nds ∧ e = .returned (.pointer none))
set_option maxRecDepth 20000 in
theorem iTreeOfW (w : World) (B : Nat) (A : Option Addr) (n c : Nat) (ns : List Nd) (hi : Nodes w B A n ns) (hB : B ≤ w.heap.size) (hnc : n ≤ c) (hc : c ≤ 9223372036854775807) (hN : ShortN ns) :
    Calls Tryz.prog 84 #[.slice A n c] w fun e w' => TreeOut B w.heap.size (datN ns) e w' ∧ Below w.heap.size w w' := by
  have HL : Hid ((datN ns).length = n) := Lib.hid (by unfold datN; rw [List.length_map, hi.len])
  have HC := Lib.hid (iLast B A c hc n w ns hi hB hnc hN)
  clear hi hN
  by_cases h9 : n ≤ 9
  · go_enter Tryz.func84, Tryz.ntmps84
    go_wp2_with fail
    refine HC.out.mono ?_
    rintro e w1 ⟨hout, hb1⟩
    have HB := Lib.hid hb1
    clear hb1 HC
    rcases hout with ⟨t, k, p, hl, rfl, hpa⟩ | ⟨hl, rfl⟩
    · have HLp := Lib.hid hl
      have HP := Lib.hid hpa
      have hkn : k ≤ 9223372036854775807 := by have := hl.lt; rw [HL.out] at this; omega
      clear hl hpa
      by_cases hk : k = 0
      · subst hk
        go_wp2
        go_ret
        refine ⟨.inl ⟨(isE_last HLp.out).2 ⟨by rw [HL.out]; exact h9, rfl⟩, t, p, ?_, rfl, HP.out⟩, HB.out⟩
        have := HLp.out
        simpa [LastP] using this
      · have hk' : 0 < k := by omega
        have hd : decide ((k : Int) > 0) = true := by simp; omega
        go_wp2
        go_ret
        exact ⟨.inr ⟨fun h => by have := ((isE_last HLp.out).1 h).2; omega, rfl⟩, HB.out⟩
    · have HLp := Lib.hid hl
      clear hl
      go_wp2
      go_ret
      exact ⟨.inr ⟨isE_none HLp.out, rfl⟩, HB.out⟩
  · have hd : decide ((n : Int) > 9) = true := by simp; omega
    have hgt : (9 : Int) < (n : Int) := by omega
    go_enter Tryz.func84, Tryz.ntmps84
    go_wp2
    go_ret
    exact ⟨.inr ⟨fun h => by have := h.1; rw [HL.out] at this; omega, rfl⟩, Below.refl _ _⟩
theorem iTreeOf (w : World) (B : Nat) (A : Option Addr) (n c : Nat) (ns : List Nd) (hi : Nodes w B A n ns) (hB : B ≤ w.heap.size) (hnc : n ≤ c) (hc : c ≤ 1048576) (hN : ShortN ns) :
    Calls Tryz.prog 84 #[.slice A n c] w fun e w' => TreeOut B w.heap.size (datN ns) e w' ∧ Below w.heap.size w w' := iTreeOfW w B A n c ns hi hB hnc (Nat.le_trans hc (by decide)) hN
set_option maxRecDepth 20000 in
theorem iIsEW (w : World) (B : Nat) (A : Option Addr) (n c : Nat) (ns : List Nd) (hi : Nodes w B A n ns) (hB : B ≤ w.heap.size) (hnc : n ≤ c) (hc : c ≤ 9223372036854775807) (hN : ShortN ns) (b : Bool) (hb : b = true ↔ IsE (datN ns)) :
    Calls Tryz.prog 60 #[.slice A n c] w fun e w' => e = .returned (.bool b) ∧ Below w.heap.size w w' := by
  have HC := Lib.hid (iTreeOfW w B A n c ns hi hB hnc hc hN)
  have HBo := Lib.hid hb
  clear hi hN hb
  go_enter Tryz.func60, Tryz.ntmps60
  go_wp2_with fail
  refine HC.out.mono ?_
  rintro e w1 ⟨hout, hb1⟩
  have HB := Lib.hid hb1
  clear hb1 HC
  rcases hout with ⟨hE, t, p, _, rfl, _⟩ | ⟨hE, rfl⟩
  · obtain rfl : b = true := HBo.out.2 hE
    go_wp2
    go_ret
    exact ⟨rfl, HB.out⟩
  · obtain rfl : b = false := by
      cases b
      · rfl
      · exact absurd (HBo.out.1 rfl) hE
    go_wp2
    go_ret
    exact ⟨rfl, HB.out⟩
theorem iIsE (w : World) (B : Nat) (A : Option Addr) (n c : Nat) (ns : List Nd) (hi : Nodes w B A n ns) (hB : B ≤ w.heap.size) (hnc : n ≤ c) (hc : c ≤ 1048576) (hN : ShortN ns) (b : Bool) (hb : b = true ↔ IsE (datN ns)) :
    Calls Tryz.prog 60 #[.slice A n c] w fun e w' => e = .returned (.bool b) ∧ Below w.heap.size w w' := iIsEW w B A n c ns hi hB hnc (Nat.le_trans hc (by decide)) hN b hb

theorem iRev (w : World) (x : Int) : Calls Tryz.prog 171 #[.int .i64 x] w fun e w' => e = .returned (.int .i64 (revC x)) ∧ w' = w := by
  unfold revC
  by_cases h1 : x = 1
  · subst h1
    go_enter Tryz.func171, Tryz.ntmps171
    go_wp2
    go_ret
    exact ⟨rfl, rfl⟩
  · rw [if_neg h1]
    by_cases h2 : x = -1
    · subst h2
      go_enter Tryz.func171, Tryz.ntmps171
      go_wp2
      go_ret
      exact ⟨rfl, rfl⟩
    · rw [if_neg h2]
      have f1 : (x == 1) = false := by simpa using h1
      have f2 : (x == -1) = false := by simpa using h2
      go_enter Tryz.func171, Tryz.ntmps171
      go_wp2
      go_ret
      exact ⟨rfl, rfl⟩
/-- Two codes that cannot both hold for a whole. -/
def apartC (a b : Int) : Bool := a == 2 || b == 2 || (a != 0 && a == revC b)
theorem iDis (w : World) (a b : Int) (ha : Code a) (hb : Code b) : Calls Tryz.prog 172 #[.int .i64 a, .int .i64 b] w fun e w' => e = .returned (.bool (apartC a b)) ∧ w' = w := by
  have HC : Hid (∀ w1, Calls Tryz.prog 171 #[.int .i64 b] w1 fun e w' => e = .returned (.int .i64 (revC b)) ∧ w' = w1) := Lib.hid fun w1 => iRev w1 b
  rcases ha with rfl | rfl | rfl | rfl <;> rcases hb with rfl | rfl | rfl | rfl <;>
    (go_enter Tryz.func172, Tryz.ntmps172
     first
     | (go_wp2
        go_ret
        exact ⟨by decide, rfl⟩)
     | (go_wp2
        go_ret
        exact ⟨rfl, rfl⟩)
     | (go_wp2_with fail
        refine (HC.out _).mono ?_
        rintro e w1 ⟨rfl, rfl⟩
        go_wp2
        go_ret
        exact ⟨rfl, rfl⟩))
theorem opC_pareto {a b : Int} (ha : Code a) (hb : Code b) : opC 1 a b = if apartC a b = true then 2 else if a ≠ 0 then a else b := by
  rcases ha with rfl | rfl | rfl | rfl <;> rcases hb with rfl | rfl | rfl | rfl <;> decide
end Go.Proofs.YtceiocdemhkcdaaGreat.num
namespace Go.Proofs.YtceiocdemhkcdaaGreat.num
set_option maxRecDepth 20000
open Go.RowKit Go.Maps
set_option linter.unusedVariables false

end Go.Proofs.YtceiocdemhkcdaaGreat.num
namespace Go.Proofs.YtceiocdemhkcdaaGreat.num
set_option maxRecDepth 20000
open Go.RowKit Go.Maps
set_option linter.unusedVariables false

end Go.Proofs.YtceiocdemhkcdaaGreat.num
namespace Go.Proofs.YtceiocdemhkcdaaGreat.num
set_option maxRecDepth 20000
open Go.RowKit Go.Maps
set_option linter.unusedVariables false

/-- The value of an item's field. -/
def fval (t : It) (f : Int) : Int := t.xs.getD f.toNat 0
theorem fval_in {t : It} (h : IsP t.dat) {f : Int} (hf : 0 ≤ f ∧ f ≤ 2) : InR (fval t f) := by
  obtain ⟨h1, _, h3⟩ := h
  have hl : t.xs.length = 3 := h3
  unfold fval
  rw [List.getD_eq_getElem?_getD, List.getElem?_eq_getElem (by omega)]
  exact h1 _ (List.getElem_mem _)
theorem fval_dat {t t' : It} (h : t'.dat = t.dat) (f : Int) : fval t' f = fval t f := by unfold fval; rw [show t'.xs = t.xs from congrArg Prod.snd h]
theorem cmpV_dat {t t' : Wi} {x x' y y' : It} {q : Bool} (h : t'.dat = t.dat) (hx : x'.dat = x.dat) (hy : y'.dat = y.dat) : cmpV t'.dat q (fval x' t'.field) (fval y' t'.field) = cmpV t.dat q (fval x t.field) (fval y t.field) := by
  rw [h, fval_dat hx, fval_dat hy, show t'.field = t.field from congrArg WD.field h]
/-- The cell of an item's field. -/
theorem fval_cell {w : World} {B : Nat} {t : It} (hi : Ints w B t.A t.n t.xs) (h : IsP t.dat) {f : Int} (hf : 0 ≤ f ∧ f ≤ 2) : ∃ b off : Nat, t.A = some ⟨b, off, none⟩ ∧ b < B ∧ (f.toNat : Int) = f ∧ f < (t.n : Int) ∧ w.cell? ⟨b, off + f.toNat, none⟩ = some (.int .i64 (fval t f)) := by
  have hl : t.xs.length = 3 := h.2.2
  have hn : t.n = 3 := hi.1.symm.trans hl
  obtain ⟨b, off, h1, h2, h3⟩ := hi.2 f.toNat (by omega)
  exact ⟨b, off, h1, h2, by omega, by omega, h3⟩

end Go.Proofs.YtceiocdemhkcdaaGreat.num
namespace Go.Proofs.YtceiocdemhkcdaaGreat.num
set_option maxRecDepth 20000
open Go.RowKit Go.Maps
set_option linter.unusedVariables false
set_option linter.unusedSimpArgs false

/-- What each wish says of two items. -/
def wishF (x y : It) (d : WD) : Int := cmpW d (fval x d.field) (fval y d.field)
theorem cmpW_code (d : WD) (a b : Int) : Code (cmpW d a b) := by
  unfold cmpW Code
  split
  · split
    · omega
    · split
      · omega
      · split <;> omega
  · split
    · omega
    · split <;> omega
theorem wishF_code (x y : It) (d : WD) : Code (wishF x y d) := cmpW_code _ _ _
theorem wishF_dat {x x' y y' : It} (hx : x'.dat = x.dat) (hy : y'.dat = y.dat) : wishF x' y' = wishF x y := by
  funext d
  unfold wishF
  rw [fval_dat hx, fval_dat hy]
/-- The taste's comparison, whatever it is. -/
def TasteCalls (w : World) (T : TypeId) (g : FuncId) (v : Value) (a b z : Int) : Prop :=
  ∃ x, v = .iface T x ∧ (∀ w1, (method 363 T x "loop.example/g01987/impl.compare").run Tryz.prog w1 = .ok (g, x) w1) ∧ (∀ w1, (nilAhead 363 T x "loop.example/g01987/impl.compare").run Tryz.prog w1 = .ok (some false) w1) ∧
    ∀ w1, Below w.heap.size w w1 → Calls Tryz.prog g #[x, .int .i64 a, .int .i64 b] w1 fun e w' => e = .returned (.int .i64 z) ∧ Below w1.heap.size w1 w'
theorem tasteCalls {w : World} {B : Nat} {t : Wi} {v : Value} (hB : B ≤ w.heap.size) (h : TasteAt w t v) (hi : WiIn w B t) (hn : t.Short) {a b : Int} (ha : InR a) (hb : InR b) : TasteCalls w 214 222 v a b (cmpW t.dat a b) ∨ TasteCalls w 216 227 v a b (cmpW t.dat a b) ∨ TasteCalls w 222 230 v a b (cmpW t.dat a b) := by
  rcases h with ⟨h4, c, hc, rfl, hr⟩ | ⟨h4, rfl, hr⟩ | ⟨h4, o, B2, rfl, hab⟩
  · refine .inl ⟨_, rfl, near_cmp_m c, near_cmp_n c, fun w1 h1 => ?_⟩
    rw [show cmpW t.dat a b = (if (if a < c then c - a else a - c) < (if b < c then c - b else b - c) then 1 else if (if b < c then c - b else b - c) < (if a < c then c - a else a - c) then -1 else 0) by unfold cmpW; rw [if_neg (show ¬ t.dat.kind = 4 from h4), hr _ ha, hr _ hb]]
    exact nearCmp w1 c a b hc ha hb
  · refine .inr (.inl ⟨_, rfl, among_cmp_m _ _ _, among_cmp_n _ _ _, fun w1 h1 => ?_⟩)
    rw [show cmpW t.dat a b = (if (if a ∈ t.ls then (0 : Int) else 1) < (if b ∈ t.ls then (0 : Int) else 1) then 1 else if (if b ∈ t.ls then (0 : Int) else 1) < (if a ∈ t.ls then (0 : Int) else 1) then -1 else 0) by unfold cmpW; rw [if_neg (show ¬ t.dat.kind = 4 from h4), hr, hr]]
    exact amongCmp w1 B t.LA t.Ln t.Lc t.ls a b (hi.l.below (h1.mono hB)) (Nat.le_trans hB h1.size) hn.1
  · refine .inr (.inr ⟨_, rfl, order_cmp_m o, order_cmp_n o, fun w1 h1 => ?_⟩)
    rw [show cmpW t.dat a b = (if a = b then 0 else if rb t.ps a b = true then 1 else if rb t.ps b a = true then -1 else 2) by unfold cmpW; rw [if_pos (show t.dat.kind = 4 from h4)]; rfl]
    exact orderCmp w1 B2 o t.ps (hab.below h1) a b ha hb

set_option maxRecDepth 20000 in
set_option maxHeartbeats 3200000 in
theorem iCompare (B lo : Nat) (x y : It) (hpx : IsP x.dat) (hpy : IsP y.dat) : ∀ (t : Tr) (p : Nat) (w : World), PartAt w B lo t p → B ≤ w.heap.size → Ints w B x.A x.n x.xs → Ints w B y.A y.n y.xs →
    Calls Tryz.prog 130 #[.pointer (some ⟨p, 0, none⟩), x.val, y.val] w fun e w' => e = .returned (.int .i64 (cmpT (wishF x y) t)) ∧ Below w.heap.size w w' := by
  have hvx : x.val = .agg #[.int .i64 x.id, .slice x.A x.n x.c] := rfl
  have hvy : y.val = .agg #[.int .i64 y.id, .slice y.A y.n y.c] := rfl
  intro t
  induction t with
  | base d =>
    intro p w hp hB hix hiy
    rw [hvx, hvy]
    clear hvx hvy
    obtain ⟨_, hpl, t, v, hrow, rfl, hsh, hwi, hw, hta⟩ := hp
    have c0 := part0 hrow
    have c2 := part2 hrow
    have c6 := part6 hrow
    clear hrow
    have hf : 0 ≤ t.field ∧ t.field ≤ 2 := hw.f
    have HZ : Hid (cmpT (wishF x y) (.base t.dat) = cmpW t.dat (fval x t.field) (fval y t.field)) := Lib.hid rfl
    rw [HZ.out]
    rcases tasteCalls hB hta.at' hwi hsh (fval_in hpx hf) (fval_in hpy hf) with ⟨tx, rfl, hm, hm2, hcall⟩ | ⟨tx, rfl, hm, hm2, hcall⟩ | ⟨tx, rfl, hm, hm2, hcall⟩
    all_goals
      obtain ⟨bx, ox, hxA, hbx, hfn, hfx, cx0⟩ := fval_cell hix hpx hf
      obtain ⟨by', oy, hyA, hby, -, hfy, cy0⟩ := fval_cell hiy hpy hf
      generalize cmpW t.dat (fval x t.field) (fval y t.field) = z at *
      have HC := Lib.hid hcall
      have HW2 : Hid (Below w.heap.size w ((w.alloc (.cells #[.int .i64 x.id, .slice x.A x.n x.c] 36)).alloc (.cells #[.int .i64 y.id, .slice y.A y.n y.c] 36))) := Lib.hid (((Below.refl _ w).alloc (Nat.le_refl _) _).alloc (by simp) _)
      have hbx3 : bx < w.heap.size := by omega
      have hby3 : by' < w.heap.size := by omega
      have hfw : IntKind.i64.wrap t.field = t.field := IntWalk.i64_in _ ⟨by omega, by omega⟩
      have hf0 := hf.1
      clear hcall hix hiy hwi hw hta hsh hpx hpy hf HZ
      generalize fval x t.field = vx at *
      generalize fval y t.field = vy at *
      obtain ⟨xi, xA, xn, xc, xxs⟩ := x
      obtain ⟨yi, yA, yn, yc, yxs⟩ := y
      dsimp only at *
      subst hxA hyA
      have d2 := (HW2.out.cell (p := ⟨p, 2, none⟩) hpl).trans c2
      have d6 := (HW2.out.cell (p := ⟨p, 6, none⟩) hpl).trans c6
      have dx := (HW2.out.cell (p := ⟨bx, ox + t.field.toNat, none⟩) hbx3).trans cx0
      have dy := (HW2.out.cell (p := ⟨by', oy + t.field.toNat, none⟩) hby3).trans cy0
      have Xx := Lib.hid ((Box2.new w ⟨xi, some ⟨bx, ox, none⟩, xn, xc, []⟩ 36).alloc (.cells #[.int .i64 yi, .slice (some ⟨by', oy, none⟩) yn yc] 36))
      have Xy := Lib.hid (Box2.new (w.alloc (.cells #[.int .i64 xi, .slice (some ⟨bx, ox, none⟩) xn xc] 36)) ⟨yi, some ⟨by', oy, none⟩, yn, yc, []⟩ 36)
      obtain ⟨-, x_0, x_1⟩ := Xx.out
      obtain ⟨-, y_0, y_1⟩ := Xy.out
      rw [World.size_alloc] at y_0 y_1
      clear Xx Xy
      go_enter Tryz.func130, Tryz.ntmps130
      go_wp2
      generalize ((w.alloc (.cells #[.int .i64 xi, .slice (some ⟨bx, ox, none⟩) xn xc] 36)).alloc (.cells #[.int .i64 yi, .slice (some ⟨by', oy, none⟩) yn yc] 36)) = w0 at *
      clear c0 c2 c6 cx0 cy0
      go_still_tail 26, (by kernel_rfl)
      change wpList _ _ _ _ _ w0.drew
      generalize hw1 : w0.drew = w1 at *
      have HB1 : Hid (Below w.heap.size w w1) := Lib.hid (hw1 ▸ HW2.out.drew)
      clear d2 d6 dx dy x_0 x_1 y_0 y_1 hw1
      go_wp2_with fail
      refine (HC.out _ HB1.out).mono ?_
      rintro e w2 ⟨rfl, hb2⟩
      have HB2 := Lib.hid (below_on HB1.out hb2)
      clear hb2
      go_wp2
      go_ret
      exact ⟨rfl, HB2.out⟩
  | dual a ih =>
    intro p w hp hB hix hiy
    rw [hvx, hvy] at ih ⊢
    obtain ⟨_, hpl, t, q, hrow, -, -, -, hpa⟩ := hp
    have c0 := part0 hrow
    have c7 := part7 hrow
    clear hrow
    have HIH : Hid (∀ w1, Below w.heap.size w w1 → Calls Tryz.prog 130 #[.pointer (some ⟨q, 0, none⟩), .agg #[.int .i64 x.id, .slice x.A x.n x.c], .agg #[.int .i64 y.id, .slice y.A y.n y.c]] w1 fun e w' => e = .returned (.int .i64 (cmpT (wishF x y) a)) ∧ Below w1.heap.size w1 w') := Lib.hid fun w1 h => ih q w1 (hpa.below hB h) (Nat.le_trans hB h.size) (hix.below (h.mono hB)) (hiy.below (h.mono hB))
    have HZ : Hid (cmpT (wishF x y) (.dual a) = revC (cmpT (wishF x y) a)) := Lib.hid rfl
    rw [HZ.out]
    generalize cmpT (wishF x y) a = z at *
    clear HZ ih hix hiy hpa hvx hvy
    have HW2 : Hid (Below w.heap.size w ((w.alloc (.cells #[.int .i64 x.id, .slice x.A x.n x.c] 36)).alloc (.cells #[.int .i64 y.id, .slice y.A y.n y.c] 36))) := Lib.hid (((Below.refl _ w).alloc (Nat.le_refl _) _).alloc (by simp) _)
    have HP0 : Hid (w.cell? ⟨p, 0, none⟩ = some (.int .i64 3)) := Lib.hid c0
    have d7 := (HW2.out.cell (p := ⟨p, 7, none⟩) hpl).trans c7
    have Xx := Lib.hid ((Box2.new w x 36).alloc (.cells #[.int .i64 y.id, .slice y.A y.n y.c] 36))
    have Xy := Lib.hid (Box2.new (w.alloc (.cells #[.int .i64 x.id, .slice x.A x.n x.c] 36)) y 36)
    obtain ⟨-, x_0, x_1⟩ := Xx.out
    obtain ⟨-, y_0, y_1⟩ := Xy.out
    rw [World.size_alloc] at y_0 y_1
    clear Xx Xy
    go_enter Tryz.func130, Tryz.ntmps130
    go_wp2
    generalize ((w.alloc (.cells #[.int .i64 x.id, .slice x.A x.n x.c] 36)).alloc (.cells #[.int .i64 y.id, .slice y.A y.n y.c] 36)) = w0 at *
    clear c0 c7
    go_still_tail 6, (by kernel_rfl)
    change wpList _ _ _ _ _ w0.drew
    generalize hw1 : w0.drew = w1 at *
    have HB1 : Hid (Below w.heap.size w w1) := Lib.hid (hw1 ▸ HW2.out.drew)
    clear d7 x_0 x_1 y_0 y_1 hw1
    go_wp2_with fail
    refine (HIH.out _ HB1.out).mono ?_
    rintro e w2 ⟨rfl, hb2⟩
    have HB2 := Lib.hid (below_on HB1.out hb2)
    have c0 := (HB2.out.cell (p := ⟨p, 0, none⟩) hpl).trans HP0.out
    clear hb2
    go_wp2_with fail
    refine (iRev w2 z).mono ?_
    rintro e w3 ⟨rfl, rfl⟩
    go_wp2
    go_ret
    exact ⟨rfl, HB2.out⟩
  | bin op a b iha ihb =>
    intro p w hp hB hix hiy
    rw [hvx, hvy] at iha ihb ⊢
    obtain ⟨_, hpl, hop, t, q, r, hrow, -, -, -, hpa, hpb⟩ := hp
    have c0 := part0 hrow
    have c7 := part7 hrow
    have c8 := part8 hrow
    clear hrow
    have HIA : Hid (∀ w1, Below w.heap.size w w1 → Calls Tryz.prog 130 #[.pointer (some ⟨q, 0, none⟩), .agg #[.int .i64 x.id, .slice x.A x.n x.c], .agg #[.int .i64 y.id, .slice y.A y.n y.c]] w1 fun e w' => e = .returned (.int .i64 (cmpT (wishF x y) a)) ∧ Below w1.heap.size w1 w') := Lib.hid fun w1 h => iha q w1 (hpa.below hB h) (Nat.le_trans hB h.size) (hix.below (h.mono hB)) (hiy.below (h.mono hB))
    have HIB : Hid (∀ w1, Below w.heap.size w w1 → Calls Tryz.prog 130 #[.pointer (some ⟨r, 0, none⟩), .agg #[.int .i64 x.id, .slice x.A x.n x.c], .agg #[.int .i64 y.id, .slice y.A y.n y.c]] w1 fun e w' => e = .returned (.int .i64 (cmpT (wishF x y) b)) ∧ Below w1.heap.size w1 w') := Lib.hid fun w1 h => ihb r w1 (hpb.below hB h) (Nat.le_trans hB h.size) (hix.below (h.mono hB)) (hiy.below (h.mono hB))
    have HZ : Hid (cmpT (wishF x y) (.bin op a b) = opC op (cmpT (wishF x y) a) (cmpT (wishF x y) b)) := Lib.hid rfl
    have HCa := Lib.hid (cmpT_code (wishF_code x y) a)
    have HCb := Lib.hid (cmpT_code (wishF_code x y) b)
    rw [HZ.out]
    generalize cmpT (wishF x y) a = za at *
    generalize cmpT (wishF x y) b = zb at *
    obtain ⟨zz, hzz⟩ : ∃ zz, opC op za zb = zz := ⟨_, rfl⟩
    rw [hzz]
    have HV := Lib.hid hzz
    clear hzz
    clear HZ iha ihb hix hiy hpa hpb hvx hvy
    have HW2 : Hid (Below w.heap.size w ((w.alloc (.cells #[.int .i64 x.id, .slice x.A x.n x.c] 36)).alloc (.cells #[.int .i64 y.id, .slice y.A y.n y.c] 36))) := Lib.hid (((Below.refl _ w).alloc (Nat.le_refl _) _).alloc (by simp) _)
    have HP0 : Hid (w.cell? ⟨p, 0, none⟩ = some (.int .i64 op)) := Lib.hid c0
    have HP8 : Hid (w.cell? ⟨p, 8, none⟩ = some (.pointer (some ⟨r, 0, none⟩))) := Lib.hid c8
    have d7 := (HW2.out.cell (p := ⟨p, 7, none⟩) hpl).trans c7
    have f0 : (op == 0) = false := by have := (bin_ne hop).1; simpa using this
    have f3 : (op == 3) = false := by have := (bin_ne hop).2; simpa using this
    have HOp : Hid (op = 1 ∨ op = 2 ∨ op = 4) := Lib.hid hop
    clear hop
    have Xx := Lib.hid ((Box2.new w x 36).alloc (.cells #[.int .i64 y.id, .slice y.A y.n y.c] 36))
    have Xy := Lib.hid (Box2.new (w.alloc (.cells #[.int .i64 x.id, .slice x.A x.n x.c] 36)) y 36)
    obtain ⟨-, x_0, x_1⟩ := Xx.out
    obtain ⟨-, y_0, y_1⟩ := Xy.out
    rw [World.size_alloc] at y_0 y_1
    clear Xx Xy
    have HXB := Lib.hid (And.intro x_0 (And.intro x_1 (And.intro y_0 y_1)))
    go_enter Tryz.func130, Tryz.ntmps130
    go_wp2
    generalize hw0 : ((w.alloc (.cells #[.int .i64 x.id, .slice x.A x.n x.c] 36)).alloc (.cells #[.int .i64 y.id, .slice y.A y.n y.c] 36)) = w0 at *
    clear c0 c7 c8
    go_still_tail 6, (by kernel_rfl)
    change wpList _ _ _ _ _ w0.drew
    have HX0 : Hid (w.heap.size < w0.heap.size ∧ w.heap.size + 1 < w0.heap.size) := Lib.hid (by rw [← hw0]; simp; omega)
    generalize hw1 : w0.drew = w1 at *
    have HB1 : Hid (Below w.heap.size w w1) := Lib.hid (hw1 ▸ HW2.out.drew)
    have HB01 : Hid (Below w0.heap.size w0 w1) := Lib.hid (hw1 ▸ (Below.refl _ _).drew)
    clear d7 x_0 x_1 y_0 y_1 hw1 hw0
    go_wp2_with fail
    refine (HIA.out _ HB1.out).mono ?_
    rintro e w2 ⟨rfl, hb2⟩
    have HB2 := Lib.hid (below_on HB1.out hb2)
    have HB02 := Lib.hid (below_on HB01.out hb2)
    have c0 := (HB2.out.cell (p := ⟨p, 0, none⟩) hpl).trans HP0.out
    have c8 := (HB2.out.cell (p := ⟨p, 8, none⟩) hpl).trans HP8.out
    obtain ⟨x_0, x_1, y_0, y_1⟩ := HXB.out
    obtain ⟨hx0, hy0⟩ := HX0.out
    replace x_0 := (HB02.out.cell (p := ⟨w.heap.size, 0, none⟩) hx0).trans x_0
    replace x_1 := (HB02.out.cell (p := ⟨w.heap.size, 1, none⟩) hx0).trans x_1
    replace y_0 := (HB02.out.cell (p := ⟨w.heap.size + 1, 0, none⟩) hy0).trans y_0
    replace y_1 := (HB02.out.cell (p := ⟨w.heap.size + 1, 1, none⟩) hy0).trans y_1
    clear hb2
    go_wp2
    go_still_tail 6, (by kernel_rfl)
    change wpList _ _ _ _ _ w2.drew
    generalize hw3 : w2.drew = w3 at *
    have HB3 : Hid (Below w.heap.size w w3) := Lib.hid (hw3 ▸ HB2.out.drew)
    clear c0 c8 x_0 x_1 y_0 y_1 hx0 hy0 hw3
    go_wp2_with fail
    refine (HIB.out _ HB3.out).mono ?_
    rintro e w4 ⟨rfl, hb4⟩
    have HB4 := Lib.hid (below_on HB3.out hb4)
    have c0 := (HB4.out.cell (p := ⟨p, 0, none⟩) hpl).trans HP0.out
    clear hb4
    rcases HOp.out with rfl | rfl | rfl
    · have HR : Hid (zz = if apartC za zb = true then 2 else if za ≠ 0 then za else zb) := Lib.hid (by rw [← HV.out]; exact opC_pareto HCa.out HCb.out)
      clear HV
      go_wp2_with fail
      refine (iDis w4 za zb HCa.out HCb.out).mono ?_
      rintro e w5 ⟨rfl, rfl⟩
      generalize apartC za zb = qa at *
      cases qa
      · by_cases h : za = 0
        · subst h
          obtain rfl : zz = zb := by rw [HR.out]; simp
          go_wp2
          go_ret
          exact ⟨rfl, HB4.out⟩
        · obtain rfl : zz = za := by rw [HR.out, if_neg (by simp), if_pos h]
          have hne : (zz != 0) = true := by simpa using h
          go_wp2
          go_ret
          exact ⟨rfl, HB4.out⟩
      · obtain rfl : zz = 2 := by rw [HR.out, if_pos rfl]
        go_wp2
        go_ret
        exact ⟨rfl, HB4.out⟩
    · have HR : Hid (zz = if za ≠ 0 then za else zb) := Lib.hid (by rw [← HV.out]; rfl)
      clear HV
      by_cases h : za = 0
      · subst h
        obtain rfl : zz = zb := by rw [HR.out]; simp
        go_wp2
        go_ret
        exact ⟨rfl, HB4.out⟩
      · obtain rfl : zz = za := by rw [HR.out, if_pos h]
        have hne : (zz != 0) = true := by simpa using h
        go_wp2
        go_ret
        exact ⟨rfl, HB4.out⟩
    · have HR : Hid (zz = if za = zb then za else 2) := Lib.hid (by rw [← HV.out]; rfl)
      clear HV
      by_cases h : za = zb
      · subst h
        obtain rfl : zz = za := by rw [HR.out, if_pos rfl]
        have hne2 : (zz != zz) = false := by simp
        by_cases h : zz = 0
        · subst h
          go_wp2
          go_ret
          exact ⟨rfl, HB4.out⟩
        · have hne : (zz != 0) = true := by simpa using h
          go_wp2
          go_ret
          exact ⟨rfl, HB4.out⟩
      · obtain rfl : zz = 2 := by rw [HR.out, if_neg h]
        have hne : (za != zb) = true := by simpa using h
        go_wp2
        go_ret
        exact ⟨rfl, HB4.out⟩
end Go.Proofs.YtceiocdemhkcdaaGreat.num
namespace Go.Proofs.YtceiocdemhkcdaaGreat.num
set_option maxRecDepth 20000
open Go.RowKit
set_option linter.unusedVariables false

theorem run_app_none {P : Program} {w : World} {B : Nat} {T tS ty : TypeId} {z : Value} {s bytes : Nat} (ht : P.underlying tS = some (.slice T)) (hinf : (P.info? T).map (fun i => (i.zero, i.size, i.bytes)) = some (some z, s, bytes)) {v : Value} {n c : Nat} {xs : List Value} (hown : w.ownsRow B T s v n xs) :
    ∃ v' w', (Builtin.append_ #[tS, tS] ty #[v, .slice none 0 c]).run P w = .ok v' w' ∧ w'.ownsRow B T s v' (n + 0) (xs ++ []) ∧ w.grownBy w' v.ownBlock ∧ (v'.ownBlock = v.ownBlock ∨ v'.ownBlock = some w.heap.size) := by
  obtain ⟨i, hi, hz⟩ := Option.map_eq_some_iff.1 hinf
  refine ⟨v, w, ?_, by simpa using hown, ⟨rfl, rfl, rfl, Nat.le_refl _, fun _ _ _ => rfl⟩, .inl rfl⟩
  rcases hown.2 with ⟨rfl, rfl⟩ | ⟨g, cap, cur, rfl, _, _, hnc, _⟩
  · simp [Builtin.append_, run_underlying ht, sizeOf, typeInfo, hi, Builtin.lenOf, Builtin.firstCells]
  · simp [Builtin.append_, run_underlying ht, sizeOf, typeInfo, hi, Builtin.lenOf, Builtin.firstCells, hnc, storeCells]
theorem run_app_some {P : Program} {w : World} {B : Nat} {T tS ty : TypeId} {z : Value} {s bytes : Nat} (ht : P.underlying tS = some (.slice T)) (hinf : (P.info? T).map (fun i => (i.zero, i.size, i.bytes)) = some (some z, s, bytes)) (hzs : z.cells.size = s) (hs0 : 0 < s) (hbt : 0 < bytes) {v : Value} {n : Nat} {xs : List Value} (hown : w.ownsRow B T s v n xs)
    (a : Addr) {m c : Nat} {news : List Value} (hl : news.length = m * s) (hnews : ∀ j u, news[j]? = some u → w.cell? (a.add j) = some u) (h1 : ∀ u ∈ news, u.oneCell' = true) (hbytes : (n + m) * bytes ≤ 140737488355328) (hB : B ≤ w.heap.size) :
    ∃ v' w', (Builtin.append_ #[tS, tS] ty #[v, .slice (some a) m c]).run P w = .ok v' w' ∧ w'.ownsRow B T s v' (n + m) (xs ++ news) ∧ w.grownBy w' v.ownBlock ∧ (v'.ownBlock = v.ownBlock ∨ v'.ownBlock = some w.heap.size) := by
  obtain ⟨i, hi, hz⟩ := Option.map_eq_some_iff.1 hinf
  simp only [Prod.mk.injEq] at hz
  obtain ⟨hz0, hz1, hz2⟩ := hz
  have hm : n + m ≤ 140737488355328 := Nat.le_trans (Nat.le_mul_of_pos_right _ hbt) hbytes
  obtain ⟨v', w', h1, h2, h3, _, h5⟩ := run_append_own_at (P := P) w B tS ty T i z s bytes ht hi hz0 hz1 hz2 hzs hs0 v n xs hown a m c news hl hnews h1 (by unfold maxLen; omega) hbytes hB
  exact ⟨v', w', h1, h2, h3, h5⟩
theorem addr_add (b off j : Nat) : (⟨b, off, none⟩ : Addr).add j = ⟨b, off + j, none⟩ := by unfold Addr.add; split <;> simp_all
theorem run_spreadI {w : World} {B B' : Nat} {v : Value} {l ys : List Int} {A : Option Addr} {n c : Nat} {ty : TypeId} (h : OwnI w B v l) (hr : Ints w B' A n ys) (hlen : (l.length + n) * 8 ≤ 140737488355328) (hB : B ≤ w.heap.size) :
    ∃ v' w', (Builtin.append_ #[29, 29] ty #[v, .slice A n c]).run Tryz.prog w = .ok v' w' ∧ OwnI w' B v' (l ++ ys) ∧ w.grownBy w' v.ownBlock ∧ (v'.ownBlock = v.ownBlock ∨ v'.ownBlock = some w.heap.size) := by
  obtain ⟨hl, hc⟩ := hr
  have e : (l ++ ys).length = l.length + n := by rw [List.length_append, hl]
  unfold OwnI
  rw [e, List.map_append]
  cases A with
  | none =>
    obtain rfl : n = 0 := by
      rcases Nat.eq_zero_or_pos n with e | e
      · exact e
      · obtain ⟨_, _, h, _⟩ := hc 0 e; cases h
    obtain rfl : ys = [] := List.eq_nil_of_length_eq_zero hl
    exact run_app_none Tryz.underlying29 info_int h
  | some a =>
    refine run_app_some Tryz.underlying29 info_int rfl (by decide) (by decide) h a (by simp [hl]) (fun j u hj => ?_) (fun u hu => ?_) hlen hB
    · have hjl : j < ys.length := by
        rcases Nat.lt_or_ge j ys.length with q | q
        · exact q
        · rw [List.getElem?_eq_none (by simpa using q)] at hj; cases hj
      obtain ⟨b, off, e, _, hcell⟩ := hc j (by omega)
      cases e
      rw [addr_add, hcell]
      rw [List.getElem?_map, List.getElem?_eq_getElem hjl] at hj
      rw [List.getD_eq_getElem?_getD, List.getElem?_eq_getElem hjl]
      exact hj
    · obtain ⟨x, _, rfl⟩ := List.mem_map.1 hu
      rfl
theorem run_spreadG {α : Type} {f : α → List Value} {s : Nat} (hf : ∀ x, (f x).length = s) (h1 : ∀ x, ∀ u ∈ f x, u.oneCell' = true) {T tS ty : TypeId} {z : Value} {bytes : Nat} (ht : Tryz.prog.underlying tS = some (.slice T)) (hinf : (Tryz.prog.info? T).map (fun i => (i.zero, i.size, i.bytes)) = some (some z, s, bytes)) (hzs : z.cells.size = s) (hs0 : 0 < s) (hbt : 0 < bytes)
    {w : World} {B B' : Nat} {v : Value} {l ys : List α} {A : Option Addr} {n c : Nat} (h : OwnG T f s w B v l) (hr : ReadG f s w B' A n ys) (hlen : (l.length + n) * bytes ≤ 140737488355328) (hB : B ≤ w.heap.size) :
    ∃ v' w', (Builtin.append_ #[tS, tS] ty #[v, .slice A n c]).run Tryz.prog w = .ok v' w' ∧ OwnG T f s w' B v' (l ++ ys) ∧ w.grownBy w' v.ownBlock ∧ (v'.ownBlock = v.ownBlock ∨ v'.ownBlock = some w.heap.size) := by
  have hl := hr.len
  have e : (l ++ ys).length = l.length + n := by rw [List.length_append, hl]
  unfold OwnG
  rw [e, List.flatMap_append]
  cases A with
  | none =>
    obtain rfl : n = 0 := by
      rcases Nat.eq_zero_or_pos n with e | e
      · exact e
      · obtain ⟨_, _, h, _⟩ := hr.cells hf e; cases h
    obtain rfl : ys = [] := List.eq_nil_of_length_eq_zero hl
    exact run_app_none ht hinf h
  | some a =>
    refine run_app_some ht hinf hzs hs0 hbt h a (by rw [fm_len hf, hl]) (fun j u hj => ?_) (fm_one h1 ys) hlen hB
    have hn : 0 < n := by
      rcases Nat.eq_zero_or_pos n with e | e
      · subst e
        obtain rfl : ys = [] := List.eq_nil_of_length_eq_zero hl
        simp at hj
      · exact e
    obtain ⟨b, off, e, _, hcell⟩ := hr.cells hf hn
    cases e
    rw [addr_add]
    exact hcell j u hj
/-- An append whose run is known, as a step of a region that draws. -/
theorem step_run {P : Program} {ops : Array Oper} {o : Oper} {a : Act} {K : Act → World → Prop} {Q : Exit → Act → World → Prop} {E : Prop} (w : World) (hgd : o.guard = none) (s x : Operand) (t : TypeId)
    (ho : o.op = .call { callee := .builtin .append, args := #[s, x], argTypes := #[t, t] }) (v u : Value) (hs : a.eval s = v) (hx : a.eval x = u) {v' : Value} {w' : World}
    (hr : (Builtin.append_ #[t, t] o.type #[v, u]).run P w = .ok v' w') (h : K (a.put o.dst v') w') : if Region.wanted o (yielded ops a.tmps) = true then Oper.wp P o a w K Q else E := by
  have hw : Region.wanted o (yielded ops a.tmps) = true := by simp [Region.wanted, hgd]
  rw [if_pos hw]
  exact Go.Lib.wp_append_run_sl w s x t ho v u hs hx hr h
theorem stepI {ops : Array Oper} {o : Oper} {a : Act} {K : Act → World → Prop} {Q : Exit → Act → World → Prop} {E : Prop} (w : World) (hgd : o.guard = none) (s x : Operand)
    (ho : o.op = .call { callee := .builtin .append, args := #[s, x], argTypes := #[29, 29] })
    (B : Nat) (v : Value) (l : List Int) (hs : a.eval s = v) (hown : OwnI w B v l) (cs : Array Value) (new : List Int) (hcs : cs = (new.map (Value.int .i64)).toArray) (n c : Nat) (hn : n = new.length)
    (hx : a.eval x = .slice (some ⟨w.heap.size, 0, none⟩) n c) (hlen : (l.length + new.length) * 8 ≤ 140737488355328) (hB : B ≤ w.heap.size)
    (h : ∀ v' w', OwnI w' B v' (l ++ new) → Below B w w' → K (a.put o.dst v') w') :
    if Region.wanted o (yielded ops a.tmps) = true then Oper.wp Tryz.prog o a (w.alloc (.cells cs 3)) K Q else E := by
  have hw : Region.wanted o (yielded ops a.tmps) = true := by simp [Region.wanted, hgd]
  rw [if_pos hw]
  obtain ⟨i0, hi, hz0, hz1, hz2⟩ := info_parts info_int
  subst hcs hn
  refine wp_append_own _ s x 29 ho B 3 i0 (.int .i64 0) 1 8 Tryz.underlying29 hi hz0 hz1 hz2 rfl (by decide) v l.length (l.map (Value.int .i64)) hs (World.ownsRow.alloc hown _) ⟨w.heap.size, 0, none⟩ new.length c (new.map (Value.int .i64)) hx (by simp) ?_ ?_ (by unfold maxLen; omega) (by omega) (by simp; omega) ?_
  · intro j u hj
    have e : (⟨w.heap.size, 0, none⟩ : Addr).add j = ⟨w.heap.size, j, none⟩ := by unfold Addr.add; split <;> simp_all
    rw [e, World.cell?_alloc_at _ _ _ _ rfl]
    simpa using hj
  · intro u hu
    obtain ⟨b, _, rfl⟩ := List.mem_map.1 hu
    rfl
  · intro v' w' hown' hg _
    refine h v' w' ?_ (((Below.refl B w).alloc hB _).grown hg (by simp; omega) (fun k hk => ?_))
    · have e : (l ++ new).length = l.length + new.length := by simp
      unfold OwnI
      rw [e, List.map_append]
      exact hown'
    · exact (World.ownsRow.lt hown k hk).1

end Go.Proofs.YtceiocdemhkcdaaGreat.num
namespace Go.Proofs.YtceiocdemhkcdaaGreat.num
set_option maxRecDepth 20000
open Go.RowKit
set_option linter.unusedVariables false
set_option linter.unusedSimpArgs false

theorem ownI_take {w : World} {B : Nat} {A : Option Addr} {n c k : Nat} {l : List Int} (h : OwnI w B (.slice A n c) l) (hk : k ≤ n) : OwnI w B (.slice A k c) (l.take k) := by
  rcases h.2 with ⟨e, hl⟩ | ⟨g, cap, cur, e, hB, hg, h1, h2, h3, h4⟩
  · injection e with e1 e2 e3
    subst e1 e2 e3
    obtain rfl : k = 0 := by omega
    exact ⟨by simp, .inl ⟨rfl, by simp⟩⟩
  · injection e with e1 e2 e3
    subst e1 e2 e3
    have hlen : (l.take k).length = k := by rw [List.length_take]; omega
    refine ⟨by simp, .inr ⟨g, c, cur, by rw [hlen], hB, hg, by omega, h2, h3, ?_⟩⟩
    rw [List.map_take, ← h4, List.take_take, hlen]
    congr 1
    omega
theorem ownI_cells {w : World} {B : Nat} {A : Option Addr} {n c : Nat} {l : List Int} (h : OwnI w B (.slice A n c) l) (hn : 0 < n) : l.length = n ∧ n ≤ c ∧ c ≤ maxLen ∧ ∃ g, A = some ⟨g, 0, none⟩ ∧ B ≤ g ∧ g < w.heap.size ∧ ∀ (j : Nat) (x : Int), l[j]? = some x → w.cell? ⟨g, j, none⟩ = some (.int .i64 x) ∧ w.frozen? ⟨g, j, none⟩ = false := by
  rcases ownI_row h with ⟨e, _⟩ | ⟨g, cap, f, e, hB, h1, h2, h3, h4⟩
  · injection e with e1 e2 e3; omega
  · injection e with e1 e2 e3
    subst e1 e2 e3
    refine ⟨rfl, h1, h2, g, rfl, hB, h3.lt, fun j x hj => ?_⟩
    have hlt : j < l.length := by
      rcases Nat.lt_or_ge j l.length with q | q
      · exact q
      · rw [List.getElem?_eq_none q] at hj; cases hj
    have h5 := h4 j hlt
    rw [List.getElem?_map, hj] at h5
    exact ⟨by rw [World.rowIs.cell h3 (by omega)]; exact h5.symm, World.rowIs.frozen h3 j⟩
theorem ownI_setlast {w : World} {B g n c : Nat} {M : List Int} {x : Int} (h : OwnI w B (.slice (some ⟨g, 0, none⟩) n c) (M ++ [x])) (y : Int) : OwnI (w.setCell ⟨g, M.length, none⟩ (.int .i64 y)) B (.slice (some ⟨g, 0, none⟩) n c) (M ++ [y]) := by
  rcases ownI_row h with ⟨e, _⟩ | ⟨g', cap, f, e, hB, h1, h2, h3, h4⟩
  · cases e
  · injection e with e1 e2 e3
    injection e1 with e1
    injection e1 with e1
    subst e1 e2 e3
    refine ownI_of_row hB (by simp) h1 h2 (World.rowIs.set h3 M.length (.int .i64 y)) fun j hj => ?_
    have h5 := h4 j hj
    by_cases e : j = M.length
    · subst e
      rw [if_pos rfl]
      simp
    · rw [if_neg e, ← h5]
      have hlt : j < M.length := by simp at hj; omega
      simp only [List.map_append]
      rw [List.getElem?_append_left (by simpa using hlt), List.getElem?_append_left (by simpa using hlt)]
theorem snoc_of {α : Type} {l : List α} {k : Nat} (h : l.length = k + 1) : ∃ m x, l = m ++ [x] ∧ m.length = k := by
  rcases List.eq_nil_or_concat l with rfl | ⟨m, x, rfl⟩
  · simp at h
  · exact ⟨m, x, by rw [List.concat_eq_append], by simpa using h⟩

theorem sMeet (w : World) (a b : Int) : Calls Tryz.prog 140 #[.int .i64 a, .int .i64 b] w fun e w' => e = .returned (.int .i64 (if a = b then a else 2)) ∧ w' = w := by
  by_cases h : a = b
  · subst h
    rw [if_pos rfl]
    have hx : (a == a) = true := by simp
    go_enter Tryz.func140, Tryz.ntmps140
    go_wp2
    go_ret
    exact ⟨rfl, rfl⟩
  · rw [if_neg h]
    have hx : (a == b) = false := by simpa using h
    go_enter Tryz.func140, Tryz.ntmps140
    go_wp2
    go_ret
    exact ⟨rfl, rfl⟩
theorem sPareto (w : World) (a b : Int) (ha : Code a) (hb : Code b) : Calls Tryz.prog 139 #[.int .i64 a, .int .i64 b] w fun e w' => e = .returned (.int .i64 (opC 1 a b)) ∧ w' = w := by
  rcases ha with rfl | rfl | rfl | rfl <;> rcases hb with rfl | rfl | rfl | rfl <;>
    (go_enter Tryz.func139, Tryz.ntmps139
     go_wp2
     go_ret
     exact ⟨by first | rfl | decide, rfl⟩)
theorem sOp (w : World) (op a b : Int) (ho : Bin op) (ha : Code a) (hb : Code b) : Calls Tryz.prog 109 #[.int .i64 op, .int .i64 a, .int .i64 b] w fun e w' => e = .returned (.int .i64 (opC op a b)) ∧ w' = w := by
  have HP : Hid (∀ w1, Calls Tryz.prog 139 #[.int .i64 a, .int .i64 b] w1 fun e w' => e = .returned (.int .i64 (opC 1 a b)) ∧ w' = w1) := Lib.hid fun w1 => sPareto w1 a b ha hb
  clear ha hb
  obtain ⟨z, hz⟩ : ∃ z, opC op a b = z := ⟨_, rfl⟩
  rw [hz]
  have HZ := Lib.hid hz
  clear hz
  rcases ho with rfl | rfl | rfl
  · go_enter Tryz.func109, Tryz.ntmps109
    go_wp2_with fail
    refine (HP.out _).mono ?_
    rintro e w1 ⟨rfl, rfl⟩
    rw [HZ.out]
    go_wp2
    go_ret
    exact ⟨rfl, rfl⟩
  · by_cases h : a = 0
    · subst h
      obtain rfl : z = b := by rw [← HZ.out]; rfl
      go_enter Tryz.func109, Tryz.ntmps109
      go_wp2
      go_ret
      exact ⟨rfl, rfl⟩
    · obtain rfl : z = a := by rw [← HZ.out]; unfold opC; rw [if_neg (by decide), if_pos rfl, if_pos h]
      have hne : (z != 0) = true := by simpa using h
      go_enter Tryz.func109, Tryz.ntmps109
      go_wp2
      go_ret
      exact ⟨rfl, rfl⟩
  · go_enter Tryz.func109, Tryz.ntmps109
    go_wp2_with fail
    refine (sMeet _ a b).mono ?_
    rintro e w1 ⟨rfl, rfl⟩
    have hv : (if a = b then a else 2) = z := by rw [← HZ.out]; rfl
    rw [hv]
    go_wp2
    go_ret
    exact ⟨rfl, rfl⟩

/-- The codes on the stack, the last one on top. -/
def codes (f : WD → Int) (st : List Tr) : List Int := st.reverse.map (cmpT f)
theorem codes_cons (f : WD → Int) (t : Tr) (st : List Tr) : codes f (t :: st) = codes f st ++ [cmpT f t] := by unfold codes; rw [List.reverse_cons, List.map_append, List.map_singleton]
theorem codes_len (f : WD → Int) (st : List Tr) : (codes f st).length = st.length := by unfold codes; simp
theorem stk_next {l : List ND} {nd : ND} {st : List Tr} (h : Stk l st) (h' : ∃ s, Stk (l ++ [nd]) s) :
    (nd.op = 0 ∧ IsW nd.w) ∨ (nd.op = 3 ∧ NoW nd.w ∧ ∃ a s, st = a :: s) ∨ (Bin nd.op ∧ NoW nd.w ∧ ∃ a b s, st = b :: a :: s) := by
  obtain ⟨s, hs⟩ := h'
  rcases hs.inv with ⟨h1, h2, _⟩ | ⟨h1, h2, a, s', k, _⟩ | ⟨h1, h2, a, b, s', k, _⟩
  · exact .inl ⟨h1, h2⟩
  · exact .inr (.inl ⟨h1, h2, a, s', h.one k⟩)
  · exact .inr (.inr ⟨h1, h2, a, b, s', h.one k⟩)

set_option maxRecDepth 20000 in
set_option maxHeartbeats 6400000 in
theorem sCompare (w : World) (B : Nat) (A : Option Addr) (n c : Nat) (ns : List Nd) (x y : It) (hi : Nodes w B A n ns) (hix : Ints w B x.A x.n x.xs) (hiy : Ints w B y.A y.n y.xs) (hB : B ≤ w.heap.size) (hN : ShortN ns) (hpx : IsP x.dat) (hpy : IsP y.dat) (t : Tr) (hp : Post (datN ns) t) (h9 : n ≤ 9) :
    Calls Tryz.prog 72 #[.slice A n c, x.val, y.val] w fun e w' => e = .returned (.int .i64 (cmpT (wishF x y) t)) ∧ Below w.heap.size w w' := by
  have HX := Lib.hid hi
  have HN := Lib.hid hN
  have HIx := Lib.hid hix
  have HIy := Lib.hid hiy
  have HPx := Lib.hid hpx
  have HPy := Lib.hid hpy
  have HPo := Lib.hid (post_stk.1 hp)
  have HPre : Hid (∀ k, ∃ s, Stk (datN (ns.take k)) s) := Lib.hid fun k => by
    have h := post_stk.1 hp
    rw [datN_split ns k] at h
    exact h.pre
  have hvx : x.val = .agg #[.int .i64 x.id, .slice x.A x.n x.c] := rfl
  have hvy : y.val = .agg #[.int .i64 y.id, .slice y.A y.n y.c] := rfl
  rw [hvx, hvy]
  clear hi hN hix hiy hpx hpy hp hvx hvy
  have hB1 : Below w.heap.size w (((w.alloc (.cells #[.int .i64 x.id, .slice x.A x.n x.c] 36)).alloc (.cells #[.int .i64 y.id, .slice y.A y.n y.c] 36)).alloc (.cells #[] 3)) := (((Below.refl _ w).alloc (Nat.le_refl _) _).alloc (by simp) _).alloc (by simp; omega) _
  have HB1 := Lib.hid hB1
  have Xx := Lib.hid (((Box2.new w x 36).alloc (.cells #[.int .i64 y.id, .slice y.A y.n y.c] 36)).alloc (.cells #[] 3))
  have Xy := Lib.hid ((Box2.new (w.alloc (.cells #[.int .i64 x.id, .slice x.A x.n x.c] 36)) y 36).alloc (.cells #[] 3))
  have HO : Hid (OwnI (((w.alloc (.cells #[.int .i64 x.id, .slice x.A x.n x.c] 36)).alloc (.cells #[.int .i64 y.id, .slice y.A y.n y.c] 36)).alloc (.cells #[] 3)) (w.heap.size + 2) (.slice (some ⟨((w.alloc (.cells #[.int .i64 x.id, .slice x.A x.n x.c] 36)).alloc (.cells #[.int .i64 y.id, .slice y.A y.n y.c] 36)).heap.size, 0, none⟩) 0 0) []) := Lib.hid (OwnI.empty _ _ (by simp))
  clear hB1
  go_enter Tryz.func72, Tryz.ntmps72
  go_wp2
  go_loopw [7, 8] (fun s i wr => ∃ (k m : Nat) (cc : Nat) (SA : Option Addr) (st : List Tr), k ≤ n ∧ i = .int .i64 k ∧ s = .slice SA m cc ∧ m ≤ k ∧ Stk (datN (ns.take k)) st ∧ st.length = m ∧ OwnI wr (w.heap.size + 2) (.slice SA m cc) (codes (wishF x y) st) ∧ Below w.heap.size w wr ∧ w.heap.size + 2 ≤ wr.heap.size ∧
    (wr.cell? ⟨w.heap.size, 0, none⟩ = some (.int .i64 x.id) ∧ wr.cell? ⟨w.heap.size, 1, none⟩ = some (.slice x.A x.n x.c) ∧ wr.cell? ⟨w.heap.size + 1, 0, none⟩ = some (.int .i64 y.id) ∧ wr.cell? ⟨w.heap.size + 1, 1, none⟩ = some (.slice y.A y.n y.c))) (fun _ i _ => n - (intOf i).toNat)
  case atStart =>
    obtain ⟨-, x_0, x_1⟩ := Xx.out
    obtain ⟨-, y_0, y_1⟩ := Xy.out
    rw [World.size_alloc] at y_0 y_1
    refine ⟨0, 0, 0, _, [], Nat.zero_le _, rfl, rfl, Nat.le_refl _, .nil, rfl, ?_, HB1.out, by simp, x_0, x_1, y_0, y_1⟩
    have h := HO.out
    have e : codes (wishF x y) [] = [] := rfl
    rw [e]
    simpa using h
  case round =>
    clear Xx Xy HO HB1
    obtain ⟨k, m, cc, SA, st, hk, rfl, rfl, hmk, hst, hlen, hown, hbel, hs2, hbox⟩ := hrel
    have HSt := Lib.hid hst
    have HLen := Lib.hid hlen
    have HO := Lib.hid hown
    have HB := Lib.hid hbel
    have HS2 := Lib.hid hs2
    have HBox := Lib.hid hbox
    clear hst hlen hown hs2
    by_cases hlt : k < n
    · obtain ⟨b1, off, ⟨op, t⟩, rfl, hb1, hat, hwf, g0, g1, g2, g3, g4, g5⟩ := HX.out.at k hlt
      dsimp only at g0 g1 g2 g3 g4 g5
      have tr : ∀ {bb oo : Nat} {v : Value}, bb < B → w.cell? ⟨bb, oo, none⟩ = some v → wr.cell? ⟨bb, oo, none⟩ = some v := fun {bb oo v} hb h => (hbel.cell (p := ⟨bb, oo, none⟩) (Nat.lt_of_lt_of_le hb hB)).trans h
      have g0 := tr hb1 g0
      have g1 := tr hb1 g1
      have g2 := tr hb1 g2
      have g3 := tr hb1 g3
      have g4 := tr hb1 g4
      have g5 := tr hb1 g5
      have hlt' : (k : Int) < (n : Int) := by omega
      have HWi : Hid (WiIn wr B t) := Lib.hid (hwf.2.below (hbel.mono hB))
      have hBr : B ≤ wr.heap.size := Nat.le_trans hB hbel.size
      have HSh : Hid t.Short := Lib.hid (HN.out _ (List.mem_of_getElem? hat))
      have HE : Hid (datN (ns.take (k + 1)) = datN (ns.take k) ++ [⟨op, t.dat⟩]) := Lib.hid (datN_at hat)
      have hnext := stk_next HSt.out (HE.out ▸ HPre.out (k + 1))
      have HIx1 := Lib.hid (HIx.out.below (hbel.mono hB))
      have HIy1 := Lib.hid (HIy.out.below (hbel.mono hB))
      clear hat hwf hbel tr
      dsimp only at hnext
      rcases hnext with ⟨rfl, hw⟩ | ⟨rfl, hnw, a, s, rfl⟩ | ⟨hbin, hnw, a, b, s, rfl⟩
      · have hf : 0 ≤ t.field ∧ t.field ≤ 2 := hw.f
        obtain ⟨bx, ox, hxA, hbx, hfn, hfx, cx0⟩ := fval_cell HIx1.out HPx.out hf
        obtain ⟨by', oy, hyA, hby, -, hfy, cy0⟩ := fval_cell HIy1.out HPy.out hf
        have HC : Hid (∀ w1, Below wr.heap.size wr w1 → Calls Tryz.prog 108 #[.agg #[.int .i64 t.kind, .int .i64 t.field, .int .i64 t.value, .slice t.LA t.Ln t.Lc, .slice t.PA t.Pn t.Pc], .int .i64 (fval x t.field), .int .i64 (fval y t.field)] w1 fun e w' => e = .returned (.int .i64 (cmpW t.dat (fval x t.field) (fval y t.field))) ∧ Below w1.heap.size w1 w') := Lib.hid fun w1 h => sCmp w1 B t (HWi.out.below (h.mono hBr)) (Nat.le_trans hBr h.size) HSh.out hw _ _ (fval_in HPx.out hf) (fval_in HPy.out hf)
        have HS1 : Hid (Stk (datN (ns.take (k + 1))) (.base t.dat :: st)) := Lib.hid (by rw [HE.out]; exact .base HSt.out rfl hw)
        have HZ : Hid (codes (wishF x y) (.base t.dat :: st) = codes (wishF x y) st ++ [cmpW t.dat (fval x t.field) (fval y t.field)]) := Lib.hid (codes_cons _ _ _)
        generalize cmpW t.dat (fval x t.field) (fval y t.field) = z at *
        generalize fval x t.field = vx at *
        generalize fval y t.field = vy at *
        have hbx3 : bx < wr.heap.size := by omega
        have hby3 : by' < wr.heap.size := by omega
        have hfw : IntKind.i64.wrap t.field = t.field := IntWalk.i64_in _ ⟨by omega, by omega⟩
        have hf0 := hf.1
        obtain ⟨x_0, x_1, y_0, y_1⟩ := hbox
        rw [hxA] at x_1
        rw [hyA] at y_1
        clear hxA hyA
        have HCap : Hid (((codes (wishF x y) st).length + [z].length) * 8 ≤ 140737488355328) := Lib.hid (by rw [codes_len, HLen.out]; simp; omega)
        clear hf hw
        go_wp2
        have hws0 : w.heap.size < w.heap.size + 2 := by omega
        have hws1 : w.heap.size + 1 < w.heap.size + 2 := by omega
        have hb1r : b1 < w.heap.size + 2 := by omega
        have hbxr : bx < w.heap.size + 2 := by omega
        have hbyr : by' < w.heap.size + 2 := by omega
        have hs0 : (fun w' => Below (w.heap.size + 2) wr w' ∧ w'.cell? ⟨w.heap.size, 0, none⟩ = some (.int .i64 x.id) ∧ w'.cell? ⟨w.heap.size, 1, none⟩ = some (.slice (some ⟨bx, ox, none⟩) x.n x.c) ∧ w'.cell? ⟨w.heap.size + 1, 0, none⟩ = some (.int .i64 y.id) ∧ w'.cell? ⟨w.heap.size + 1, 1, none⟩ = some (.slice (some ⟨by', oy, none⟩) y.n y.c) ∧ w'.cell? ⟨b1, off + k * 6, none⟩ = some (.int .i64 0) ∧ w'.cell? ⟨b1, off + k * 6 + 1, none⟩ = some (.int .i64 t.kind) ∧ w'.cell? ⟨b1, off + k * 6 + 2, none⟩ = some (.int .i64 t.field) ∧ w'.cell? ⟨b1, off + k * 6 + 3, none⟩ = some (.int .i64 t.value) ∧ w'.cell? ⟨b1, off + k * 6 + 4, none⟩ = some (.slice t.LA t.Ln t.Lc) ∧ w'.cell? ⟨b1, off + k * 6 + 5, none⟩ = some (.slice t.PA t.Pn t.Pc) ∧ w'.cell? ⟨bx, ox + t.field.toNat, none⟩ = some (.int .i64 vx) ∧ w'.cell? ⟨by', oy + t.field.toNat, none⟩ = some (.int .i64 vy)) wr.drew := ⟨(Below.refl _ _).drew, x_0, x_1, y_0, y_1, g0, g1, g2, g3, g4, g5, cx0, cy0⟩
        refine wp_region_held (S := fun w' => Below (w.heap.size + 2) wr w' ∧ w'.cell? ⟨w.heap.size, 0, none⟩ = some (.int .i64 x.id) ∧ w'.cell? ⟨w.heap.size, 1, none⟩ = some (.slice (some ⟨bx, ox, none⟩) x.n x.c) ∧ w'.cell? ⟨w.heap.size + 1, 0, none⟩ = some (.int .i64 y.id) ∧ w'.cell? ⟨w.heap.size + 1, 1, none⟩ = some (.slice (some ⟨by', oy, none⟩) y.n y.c) ∧ w'.cell? ⟨b1, off + k * 6, none⟩ = some (.int .i64 0) ∧ w'.cell? ⟨b1, off + k * 6 + 1, none⟩ = some (.int .i64 t.kind) ∧ w'.cell? ⟨b1, off + k * 6 + 2, none⟩ = some (.int .i64 t.field) ∧ w'.cell? ⟨b1, off + k * 6 + 3, none⟩ = some (.int .i64 t.value) ∧ w'.cell? ⟨b1, off + k * 6 + 4, none⟩ = some (.slice t.LA t.Ln t.Lc) ∧ w'.cell? ⟨b1, off + k * 6 + 5, none⟩ = some (.slice t.PA t.Pn t.Pc) ∧ w'.cell? ⟨bx, ox + t.field.toNat, none⟩ = some (.int .i64 vx) ∧ w'.cell? ⟨by', oy + t.field.toNat, none⟩ = some (.int .i64 vy)) (by kernel_rfl) ?_
        change wpAnyH _ _ _ _ _ _ _ _ (World.drew _)
        refine takeY 58 (i := 0) (v := ?v0a) rfl rfl (by kernel_rfl) (by kernel_rfl) (by kernel_rfl) (fun _ _ _ h => h) (by kernel_rfl) ?y0a hs0 ?_
        case y0a =>
          intro w' hw'; (try dsimp only at hw'); obtain ⟨e0, e1, e2, e3, e4, e5, e6, e7, e8, e9, e10, e11, e12⟩ := hw'; go_simp; try with_reducible rfl
        simp only [Act.put, List.setIfInBounds_toArray, List.set_cons_zero, List.set_cons_succ]
        refine takeY 59 (i := 1) (v := ?v1a) rfl rfl (by kernel_rfl) (by kernel_rfl) (by kernel_rfl) (fun _ _ _ h => h) (by kernel_rfl) ?y1a hs0 ?_
        case y1a =>
          intro w' hw'; (try dsimp only at hw'); obtain ⟨e0, e1, e2, e3, e4, e5, e6, e7, e8, e9, e10, e11, e12⟩ := hw'; go_simp; try with_reducible rfl
        simp only [Act.put, List.setIfInBounds_toArray, List.set_cons_zero, List.set_cons_succ]
        refine takeY 60 (i := 2) (v := ?v2a) rfl rfl (by kernel_rfl) (by kernel_rfl) (by kernel_rfl) (fun _ _ _ h => h) (by kernel_rfl) ?y2a hs0 ?_
        case y2a =>
          intro w' hw'; (try dsimp only at hw'); obtain ⟨e0, e1, e2, e3, e4, e5, e6, e7, e8, e9, e10, e11, e12⟩ := hw'; go_simp; try with_reducible rfl
        simp only [Act.put, List.setIfInBounds_toArray, List.set_cons_zero, List.set_cons_succ]
        refine takeY 61 (i := 3) (v := ?v3a) rfl rfl (by kernel_rfl) (by kernel_rfl) (by kernel_rfl) (fun _ _ _ h => h) (by kernel_rfl) ?y3a hs0 ?_
        case y3a =>
          intro w' hw'; (try dsimp only at hw'); obtain ⟨e0, e1, e2, e3, e4, e5, e6, e7, e8, e9, e10, e11, e12⟩ := hw'; go_simp; try with_reducible rfl
        simp only [Act.put, List.setIfInBounds_toArray, List.set_cons_zero, List.set_cons_succ]
        refine takeY 62 (i := 4) (v := ?v4a) rfl rfl (by kernel_rfl) (by kernel_rfl) (by kernel_rfl) (fun _ _ _ h => h) (by kernel_rfl) ?y4a hs0 ?_
        case y4a =>
          intro w' hw'; (try dsimp only at hw'); obtain ⟨e0, e1, e2, e3, e4, e5, e6, e7, e8, e9, e10, e11, e12⟩ := hw'; go_simp; try with_reducible rfl
        simp only [Act.put, List.setIfInBounds_toArray, List.set_cons_zero, List.set_cons_succ]
        refine takeY 63 (i := 5) (v := ?v5a) rfl rfl (by kernel_rfl) (by kernel_rfl) (by kernel_rfl) (fun _ _ _ h => h) (by kernel_rfl) ?y5a hs0 ?_
        case y5a =>
          intro w' hw'; (try dsimp only at hw'); obtain ⟨e0, e1, e2, e3, e4, e5, e6, e7, e8, e9, e10, e11, e12⟩ := hw'; go_simp; try with_reducible rfl
        simp only [Act.put, List.setIfInBounds_toArray, List.set_cons_zero, List.set_cons_succ]
        refine takeY 64 (i := 6) (v := ?v6a) rfl rfl (by kernel_rfl) (by kernel_rfl) (by kernel_rfl) (fun _ _ _ h => h) (by kernel_rfl) ?y6a hs0 ?_
        case y6a =>
          intro w' hw'; (try dsimp only at hw'); obtain ⟨e0, e1, e2, e3, e4, e5, e6, e7, e8, e9, e10, e11, e12⟩ := hw'; go_simp; try with_reducible rfl
        simp only [Act.put, List.setIfInBounds_toArray, List.set_cons_zero, List.set_cons_succ]
        refine takeY 65 (i := 7) (v := ?v7a) rfl rfl (by kernel_rfl) (by kernel_rfl) (by kernel_rfl) (fun _ _ _ h => h) (by kernel_rfl) ?y7a hs0 ?_
        case y7a =>
          intro w' hw'; (try dsimp only at hw'); obtain ⟨e0, e1, e2, e3, e4, e5, e6, e7, e8, e9, e10, e11, e12⟩ := hw'; go_simp; try with_reducible rfl
        simp only [Act.put, List.setIfInBounds_toArray, List.set_cons_zero, List.set_cons_succ]
        refine takeY 66 (i := 8) (v := ?v8a) rfl rfl (by kernel_rfl) (by kernel_rfl) (by kernel_rfl) (fun _ _ _ h => h) (by kernel_rfl) ?y8a hs0 ?_
        case y8a =>
          intro w' hw'; (try dsimp only at hw'); obtain ⟨e0, e1, e2, e3, e4, e5, e6, e7, e8, e9, e10, e11, e12⟩ := hw'; go_simp; try with_reducible rfl
        simp only [Act.put, List.setIfInBounds_toArray, List.set_cons_zero, List.set_cons_succ]
        refine takeY 67 (i := 9) (v := ?v9a) rfl rfl (by kernel_rfl) (by kernel_rfl) (by kernel_rfl) (fun _ _ _ h => h) (by kernel_rfl) ?y9a hs0 ?_
        case y9a =>
          intro w' hw'; (try dsimp only at hw'); obtain ⟨e0, e1, e2, e3, e4, e5, e6, e7, e8, e9, e10, e11, e12⟩ := hw'; go_simp; try with_reducible rfl
        simp only [Act.put, List.setIfInBounds_toArray, List.set_cons_zero, List.set_cons_succ]
        refine takeY 68 (i := 10) (v := ?v10a) rfl rfl (by kernel_rfl) (by kernel_rfl) (by kernel_rfl) (fun _ _ _ h => h) (by kernel_rfl) ?y10a hs0 ?_
        case y10a =>
          intro w' hw'; (try dsimp only at hw'); obtain ⟨e0, e1, e2, e3, e4, e5, e6, e7, e8, e9, e10, e11, e12⟩ := hw'; go_simp; try with_reducible rfl
        simp only [Act.put, List.setIfInBounds_toArray, List.set_cons_zero, List.set_cons_succ]
        refine takeY 69 (i := 11) (v := ?v11a) rfl rfl (by kernel_rfl) (by kernel_rfl) (by kernel_rfl) (fun _ _ _ h => h) (by kernel_rfl) ?y11a hs0 ?_
        case y11a =>
          intro w' hw'; (try dsimp only at hw'); obtain ⟨e0, e1, e2, e3, e4, e5, e6, e7, e8, e9, e10, e11, e12⟩ := hw'; go_simp; try with_reducible rfl
        simp only [Act.put, List.setIfInBounds_toArray, List.set_cons_zero, List.set_cons_succ]
        refine takeY 70 (i := 12) (v := ?v12a) rfl rfl (by kernel_rfl) (by kernel_rfl) (by kernel_rfl) (fun _ _ _ h => h) (by kernel_rfl) ?y12a hs0 ?_
        case y12a =>
          intro w' hw'; (try dsimp only at hw'); obtain ⟨e0, e1, e2, e3, e4, e5, e6, e7, e8, e9, e10, e11, e12⟩ := hw'; go_simp; try with_reducible rfl
        simp only [Act.put, List.setIfInBounds_toArray, List.set_cons_zero, List.set_cons_succ]
        refine takeY 71 (i := 13) (v := ?v13a) rfl rfl (by kernel_rfl) (by kernel_rfl) (by kernel_rfl) (fun _ _ _ h => h) (by kernel_rfl) ?y13a hs0 ?_
        case y13a =>
          intro w' hw'; (try dsimp only at hw'); obtain ⟨e0, e1, e2, e3, e4, e5, e6, e7, e8, e9, e10, e11, e12⟩ := hw'; go_simp; try with_reducible rfl
        simp only [Act.put, List.setIfInBounds_toArray, List.set_cons_zero, List.set_cons_succ]
        refine takeY 72 (i := 14) (v := ?v14a) rfl rfl (by kernel_rfl) (by kernel_rfl) (by kernel_rfl) (fun _ _ _ h => h) (by kernel_rfl) ?y14a hs0 ?_
        case y14a =>
          intro w' hw'; (try dsimp only at hw'); obtain ⟨e0, e1, e2, e3, e4, e5, e6, e7, e8, e9, e10, e11, e12⟩ := hw'; go_simp; try with_reducible rfl
        simp only [Act.put, List.setIfInBounds_toArray, List.set_cons_zero, List.set_cons_succ]
        refine takeY 73 (i := 15) (v := ?v15a) rfl rfl (by kernel_rfl) (by kernel_rfl) (by kernel_rfl) (fun _ _ _ h => h) (by kernel_rfl) ?y15a hs0 ?_
        case y15a =>
          intro w' hw'; (try dsimp only at hw'); obtain ⟨e0, e1, e2, e3, e4, e5, e6, e7, e8, e9, e10, e11, e12⟩ := hw'; go_simp; try with_reducible rfl
        simp only [Act.put, List.setIfInBounds_toArray, List.set_cons_zero, List.set_cons_succ]
        refine wpAnyH_ready (rs := [16]) (by kernel_rfl) (by simp) ?_
        refine AllReadyH.cons rfl (fun K hK => ?_) AllReadyH.nil
        go_simp; go_at_call 108; refine (HC.out _ (Below.refl _ _).drew).mono ?_; rintro e w2 ⟨rfl, hb2⟩; have hb2' : Below wr.heap.size wr w2 := below_on (Below.refl wr.heap.size wr).drew hb2; have HB2 := Lib.hid hb2'; have HO2 := Lib.hid (ownI_below HO.out hb2'); have hs2 : w.heap.size + 2 ≤ w2.heap.size := Nat.le_trans HS2.out hb2'.size; have hb2m : Below (w.heap.size + 2) wr w2 := hb2'.mono HS2.out; clear hb2
        refine hK.out _ _ ⟨hb2m, (hb2m.cell (p := ⟨w.heap.size, 0, none⟩) hws0).trans x_0, (hb2m.cell (p := ⟨w.heap.size, 1, none⟩) hws0).trans x_1, (hb2m.cell (p := ⟨w.heap.size + 1, 0, none⟩) hws1).trans y_0, (hb2m.cell (p := ⟨w.heap.size + 1, 1, none⟩) hws1).trans y_1, (hb2m.cell (p := ⟨b1, off + k * 6, none⟩) hb1r).trans g0, (hb2m.cell (p := ⟨b1, off + k * 6 + 1, none⟩) hb1r).trans g1, (hb2m.cell (p := ⟨b1, off + k * 6 + 2, none⟩) hb1r).trans g2, (hb2m.cell (p := ⟨b1, off + k * 6 + 3, none⟩) hb1r).trans g3, (hb2m.cell (p := ⟨b1, off + k * 6 + 4, none⟩) hb1r).trans g4, (hb2m.cell (p := ⟨b1, off + k * 6 + 5, none⟩) hb1r).trans g5, (hb2m.cell (p := ⟨bx, ox + t.field.toNat, none⟩) hbxr).trans cx0, (hb2m.cell (p := ⟨by', oy + t.field.toNat, none⟩) hbyr).trans cy0⟩ (fun hS1 => ?_)
        clear hK K
        try simp only [Act.put, List.setIfInBounds_toArray, List.set_cons_zero, List.set_cons_succ]
        refine wpAnyH_ready (rs := [17]) (by kernel_rfl) (by simp) ?_
        refine AllReadyH.cons rfl (fun K hK => ?_) AllReadyH.nil
        go_simp; have hb2a : Below (w.heap.size + 2) wr (w2.alloc (.cells #[.int .i64 z] 3)) := hb2m.alloc hs2 _
        refine hK.out _ _ ⟨hb2a, (hb2a.cell (p := ⟨w.heap.size, 0, none⟩) hws0).trans x_0, (hb2a.cell (p := ⟨w.heap.size, 1, none⟩) hws0).trans x_1, (hb2a.cell (p := ⟨w.heap.size + 1, 0, none⟩) hws1).trans y_0, (hb2a.cell (p := ⟨w.heap.size + 1, 1, none⟩) hws1).trans y_1, (hb2a.cell (p := ⟨b1, off + k * 6, none⟩) hb1r).trans g0, (hb2a.cell (p := ⟨b1, off + k * 6 + 1, none⟩) hb1r).trans g1, (hb2a.cell (p := ⟨b1, off + k * 6 + 2, none⟩) hb1r).trans g2, (hb2a.cell (p := ⟨b1, off + k * 6 + 3, none⟩) hb1r).trans g3, (hb2a.cell (p := ⟨b1, off + k * 6 + 4, none⟩) hb1r).trans g4, (hb2a.cell (p := ⟨b1, off + k * 6 + 5, none⟩) hb1r).trans g5, (hb2a.cell (p := ⟨bx, ox + t.field.toNat, none⟩) hbxr).trans cx0, (hb2a.cell (p := ⟨by', oy + t.field.toNat, none⟩) hbyr).trans cy0⟩ (fun hS2 => ?_)
        clear hK K
        try simp only [Act.put, List.setIfInBounds_toArray, List.set_cons_zero, List.set_cons_succ]
        refine wpAnyH_ready (rs := [18]) (by kernel_rfl) (by simp) ?_
        refine AllReadyH.cons rfl (fun K hK => ?_) AllReadyH.nil
        refine stepI w2 (by rfl) (.tmp 58) (.tmp 75) (by rfl) (w.heap.size + 2) _ _ (by rfl) HO2.out _ [z] (by rfl) 1 1 rfl (by rfl) HCap.out hs2 ?_; intro v1 w3 hown3 hb3; have hb3m := hb2m.trans hb3
        refine hK.out _ _ ⟨hb3m, (hb3m.cell (p := ⟨w.heap.size, 0, none⟩) hws0).trans x_0, (hb3m.cell (p := ⟨w.heap.size, 1, none⟩) hws0).trans x_1, (hb3m.cell (p := ⟨w.heap.size + 1, 0, none⟩) hws1).trans y_0, (hb3m.cell (p := ⟨w.heap.size + 1, 1, none⟩) hws1).trans y_1, (hb3m.cell (p := ⟨b1, off + k * 6, none⟩) hb1r).trans g0, (hb3m.cell (p := ⟨b1, off + k * 6 + 1, none⟩) hb1r).trans g1, (hb3m.cell (p := ⟨b1, off + k * 6 + 2, none⟩) hb1r).trans g2, (hb3m.cell (p := ⟨b1, off + k * 6 + 3, none⟩) hb1r).trans g3, (hb3m.cell (p := ⟨b1, off + k * 6 + 4, none⟩) hb1r).trans g4, (hb3m.cell (p := ⟨b1, off + k * 6 + 5, none⟩) hb1r).trans g5, (hb3m.cell (p := ⟨bx, ox + t.field.toNat, none⟩) hbxr).trans cx0, (hb3m.cell (p := ⟨by', oy + t.field.toNat, none⟩) hbyr).trans cy0⟩ (fun hS3 => ?_)
        clear hK K
        try simp only [Act.put, List.setIfInBounds_toArray, List.set_cons_zero, List.set_cons_succ]
        refine takeY 7 (i := 19) (v := ?v19a) rfl rfl (by kernel_rfl) (by kernel_rfl) (by kernel_rfl) (fun _ _ _ h => h) (by kernel_rfl) ?y19a hS3 ?_
        case y19a =>
          intro w' hw'; (try dsimp only at hw'); obtain ⟨e0, e1, e2, e3, e4, e5, e6, e7, e8, e9, e10, e11, e12⟩ := hw'; go_simp; try with_reducible rfl
        simp only [Act.put, List.setIfInBounds_toArray, List.set_cons_zero, List.set_cons_succ]
        refine wpAnyH_done (by kernel_rfl) ?_ _
        clear hs0 hS1 hS2 hS3 hb2a hb2m hb3m hb2' x_0 x_1 y_0 y_1 cx0 cy0 g0 g1 g2 g3 g4 g5
        obtain ⟨LA', Ln', Lc', rfl, hin⟩ := hown3.ints
        have hlen3 : Ln' = m + 1 := by have := hin.1; rw [List.length_append, codes_len, HLen.out] at this; simp at this; omega
        have HO3 := Lib.hid hown3
        have HB3 := Lib.hid (HB2.out.mono HB.out.size)
        have HB4 := Lib.hid (HB.out.trans (HB3.out.trans (hb3.mono (by omega))))
        have HBox3 : Hid (w3.cell? ⟨w.heap.size, 0, none⟩ = some (.int .i64 x.id) ∧ w3.cell? ⟨w.heap.size, 1, none⟩ = some (.slice x.A x.n x.c) ∧ w3.cell? ⟨w.heap.size + 1, 0, none⟩ = some (.int .i64 y.id) ∧ w3.cell? ⟨w.heap.size + 1, 1, none⟩ = some (.slice y.A y.n y.c)) := Lib.hid (by
          have k : ∀ (bb oo : Nat), bb < w.heap.size + 2 → w3.cell? ⟨bb, oo, none⟩ = wr.cell? ⟨bb, oo, none⟩ := fun bb oo h => (hb3.cell (p := ⟨bb, oo, none⟩) h).trans (HB2.out.cell (p := ⟨bb, oo, none⟩) (Nat.lt_of_lt_of_le h HS2.out))
          have := HBox.out
          rw [k _ _ (by omega), k _ _ (by omega), k _ _ (by omega), k _ _ (by omega)]
          exact this)
        have HS3 := Lib.hid (Nat.le_trans hs2 hb3.size)
        clear hown3 hb3 hin
        go_wp2
        go_roundw
        case rel => exact ⟨k + 1, Ln', Lc', LA', .base t.dat :: st, by omega, by go_num, by first | rfl | rw [hlen3], by omega, HS1.out, by simp [HLen.out, hlen3], by rw [HZ.out]; exact HO3.out, HB4.out, HS3.out, HBox3.out⟩
        case measure => simp [intOf]; omega
      · have HS1 : Hid (Stk (datN (ns.take (k + 1))) (.dual a :: s)) := Lib.hid (by rw [HE.out]; exact .dual HSt.out rfl hnw)
        have HCo := Lib.hid (cmpT_code (wishF_code x y) a)
        have HZ : Hid (codes (wishF x y) (.dual a :: s) = codes (wishF x y) s ++ [revC (cmpT (wishF x y) a)]) := Lib.hid (codes_cons _ _ _)
        have hO := HO.out
        rw [codes_cons] at hO
        obtain ⟨j, rfl⟩ : ∃ j, m = j + 1 := ⟨s.length, by have := HLen.out; simp at this; omega⟩
        have hj : (codes (wishF x y) s).length = j := by rw [codes_len]; have := HLen.out; simp at this; omega
        obtain ⟨_, hcc, hcm, g, rfl, hgl, hgs, hcell⟩ := ownI_cells hO (by omega)
        obtain ⟨c1, c2⟩ := hcell j (cmpT (wishF x y) a) (by rw [List.getElem?_append_right (by omega), hj]; simp)
        have HOn := Lib.hid hO
        have HJ := Lib.hid hj
        have HG : Hid (w.heap.size + 2 ≤ g) := Lib.hid hgl
        have hx1 : (j : Int) + 1 - 1 = (j : Int) := by omega
        have hj1 : (j : Int) < (j : Int) + 1 := by omega
        have hj2 : j ≤ 9 := by omega
        clear hO hj hcell hnw hbox hcm
        generalize cmpT (wishF x y) a = z at *
        rcases HCo.out with rfl | rfl | rfl | rfl
        · have HO3 : Hid (OwnI (wr.setCell ⟨g, j, none⟩ (.int .i64 (1))) (w.heap.size + 2) (.slice (some ⟨g, 0, none⟩) (j + 1) cc) (codes (wishF x y) (.dual a :: s))) := Lib.hid (by
            rw [HZ.out, ← HJ.out]
            have h := ownI_setlast HOn.out (1)
            rw [HJ.out] at h ⊢
            exact h)
          go_wp2
          go_roundw
          case rel => exact ⟨k + 1, j + 1, cc, _, .dual a :: s, by omega, by go_num, rfl, by omega, HS1.out, by have := HLen.out; simpa using this, HO3.out, HB.out.setCell (by show w.heap.size ≤ g; omega) _, by simpa using HS2.out, by
            have h := HBox.out
            refine ⟨?_, ?_, ?_, ?_⟩
            · rw [World.cell?_setCell_other _ _ _ _ (fun e => by injection e; omega)]; exact h.1
            · rw [World.cell?_setCell_other _ _ _ _ (fun e => by injection e; omega)]; exact h.2.1
            · rw [World.cell?_setCell_other _ _ _ _ (fun e => by injection e; omega)]; exact h.2.2.1
            · rw [World.cell?_setCell_other _ _ _ _ (fun e => by injection e; omega)]; exact h.2.2.2⟩
          case measure => simp [intOf]; omega
        · have HO3 : Hid (OwnI (wr.setCell ⟨g, j, none⟩ (.int .i64 (0))) (w.heap.size + 2) (.slice (some ⟨g, 0, none⟩) (j + 1) cc) (codes (wishF x y) (.dual a :: s))) := Lib.hid (by
            rw [HZ.out, ← HJ.out]
            have h := ownI_setlast HOn.out (0)
            rw [HJ.out] at h ⊢
            exact h)
          go_wp2
          go_roundw
          case rel => exact ⟨k + 1, j + 1, cc, _, .dual a :: s, by omega, by go_num, rfl, by omega, HS1.out, by have := HLen.out; simpa using this, HO3.out, HB.out.setCell (by show w.heap.size ≤ g; omega) _, by simpa using HS2.out, by
            have h := HBox.out
            refine ⟨?_, ?_, ?_, ?_⟩
            · rw [World.cell?_setCell_other _ _ _ _ (fun e => by injection e; omega)]; exact h.1
            · rw [World.cell?_setCell_other _ _ _ _ (fun e => by injection e; omega)]; exact h.2.1
            · rw [World.cell?_setCell_other _ _ _ _ (fun e => by injection e; omega)]; exact h.2.2.1
            · rw [World.cell?_setCell_other _ _ _ _ (fun e => by injection e; omega)]; exact h.2.2.2⟩
          case measure => simp [intOf]; omega
        · have HO3 : Hid (OwnI (wr.setCell ⟨g, j, none⟩ (.int .i64 (-1))) (w.heap.size + 2) (.slice (some ⟨g, 0, none⟩) (j + 1) cc) (codes (wishF x y) (.dual a :: s))) := Lib.hid (by
            rw [HZ.out, ← HJ.out]
            have h := ownI_setlast HOn.out (-1)
            rw [HJ.out] at h ⊢
            exact h)
          go_wp2
          go_roundw
          case rel => exact ⟨k + 1, j + 1, cc, _, .dual a :: s, by omega, by go_num, rfl, by omega, HS1.out, by have := HLen.out; simpa using this, HO3.out, HB.out.setCell (by show w.heap.size ≤ g; omega) _, by simpa using HS2.out, by
            have h := HBox.out
            refine ⟨?_, ?_, ?_, ?_⟩
            · rw [World.cell?_setCell_other _ _ _ _ (fun e => by injection e; omega)]; exact h.1
            · rw [World.cell?_setCell_other _ _ _ _ (fun e => by injection e; omega)]; exact h.2.1
            · rw [World.cell?_setCell_other _ _ _ _ (fun e => by injection e; omega)]; exact h.2.2.1
            · rw [World.cell?_setCell_other _ _ _ _ (fun e => by injection e; omega)]; exact h.2.2.2⟩
          case measure => simp [intOf]; omega
        · have HO3 : Hid (OwnI wr (w.heap.size + 2) (.slice (some ⟨g, 0, none⟩) (j + 1) cc) (codes (wishF x y) (.dual a :: s))) := Lib.hid (by rw [HZ.out]; exact HOn.out)
          go_wp2
          go_roundw
          case rel => exact ⟨k + 1, j + 1, cc, _, .dual a :: s, by omega, by go_num, rfl, by omega, HS1.out, by have := HLen.out; simpa using this, HO3.out, HB.out, HS2.out, HBox.out⟩
          case measure => simp [intOf]; omega
      · have HS1 : Hid (Stk (datN (ns.take (k + 1))) (.bin op a b :: s)) := Lib.hid (by rw [HE.out]; exact .bin HSt.out hbin hnw)
        have HCa := Lib.hid (cmpT_code (wishF_code x y) a)
        have HCb := Lib.hid (cmpT_code (wishF_code x y) b)
        have HBin := Lib.hid hbin
        have HZ : Hid (codes (wishF x y) (.bin op a b :: s) = codes (wishF x y) s ++ [opC op (cmpT (wishF x y) a) (cmpT (wishF x y) b)]) := Lib.hid (codes_cons _ _ _)
        have hO := HO.out
        rw [codes_cons, codes_cons, List.append_assoc] at hO
        obtain ⟨j, rfl⟩ : ∃ j, m = j + 2 := ⟨s.length, by have := HLen.out; simp at this; omega⟩
        have hj : (codes (wishF x y) s).length = j := by rw [codes_len]; have := HLen.out; simp at this; omega
        obtain ⟨_, hcc, hcm, g, rfl, hgl, hgs, hcell⟩ := ownI_cells hO (by omega)
        obtain ⟨c1, -⟩ := hcell j (cmpT (wishF x y) a) (by rw [List.getElem?_append_right (by omega), hj]; simp)
        obtain ⟨c2, -⟩ := hcell (j + 1) (cmpT (wishF x y) b) (by rw [List.getElem?_append_right (by omega), hj, show j + 1 - j = 1 by omega]; rfl)
        have HTk : Hid (OwnI wr (w.heap.size + 2) (.slice (some ⟨g, 0, none⟩) j cc) (codes (wishF x y) s)) := Lib.hid (by
          have h := ownI_take hO (k := j) (by omega)
          rwa [List.take_left' hj] at h)
        have HJ := Lib.hid hj
        have HG : Hid (w.heap.size + 2 ≤ g) := Lib.hid hgl
        have hx1 : (j : Int) + 2 - 1 = (j : Int) + 1 := by omega
        have hx2 : (j : Int) + 2 - 2 = (j : Int) := by omega
        have hj1 : (j : Int) < (j : Int) + 2 := by omega
        have hj3 : (j : Int) + 1 < (j : Int) + 2 := by omega
        have hj4 : (j : Int) ≤ (cc : Int) := by omega
        have hj5 : (0 : Int) ≤ (j : Int) + 1 := by omega
        have hj6 : ((j : Int) + 1).toNat = j + 1 := by omega
        have hj7 : ¬ ((j : Int) + 1 < 0) := by omega
        have hj2 : j ≤ 9 := by omega
        have hwj : IntKind.i64.wrap (j : Int) = (j : Int) := IntWalk.i64_in _ ⟨by omega, by omega⟩
        have hwj1 : IntKind.i64.wrap ((j : Int) + 1) = (j : Int) + 1 := IntWalk.i64_in _ ⟨by omega, by omega⟩
        have hc9 : cc ≤ 9223372036854775807 := by unfold maxLen at hcm; omega
        have f0 : (op == 0) = false := by have := (bin_ne hbin).1; simpa using this
        have f3 : (op == 3) = false := by have := (bin_ne hbin).2; simpa using this
        clear hO hj hcell hnw hbox hcm hbin
        generalize cmpT (wishF x y) a = za at *
        generalize cmpT (wishF x y) b = zb at *
        have HCl : Hid (∀ w1, Calls Tryz.prog 109 #[.int .i64 op, .int .i64 za, .int .i64 zb] w1 fun e w' => e = .returned (.int .i64 (opC op za zb)) ∧ w' = w1) := Lib.hid fun w1 => sOp w1 op za zb HBin.out HCa.out HCb.out
        generalize opC op za zb = z at *
        have HCap : Hid (((codes (wishF x y) s).length + [z].length) * 8 ≤ 140737488355328) := Lib.hid (by rw [HJ.out]; simp; omega)
        go_wp2
        go_still_tail 15, (by kernel_rfl)
        change wpList _ _ _ _ _ wr.drew
        generalize hw1 : wr.drew = w1 at *
        have HB1 : Hid (Below wr.heap.size wr w1) := Lib.hid (hw1 ▸ (Below.refl _ _).drew)
        clear c1 c2 g0 g1 g2 g3 g4 g5 hw1
        go_wp2_with fail
        refine (HCl.out _).mono ?_
        rintro e w2 ⟨rfl, rfl⟩
        have HO2 := Lib.hid (ownI_below HTk.out HB1.out)
        have hs2 : w.heap.size + 2 ≤ w2.heap.size := Nat.le_trans HS2.out HB1.out.size
        go_wp2_with (at_builtin; refine wp_appI _ (by rfl) (.tmp 46) (.tmp 48) (by rfl) (w.heap.size + 2) _ _ (by rfl) HO2.out _ [z] (by rfl) 1 1 rfl (by rfl) HCap.out hs2 ?_)
        intro v1 w3 hown3 hb3
        obtain ⟨LA', Ln', Lc', rfl, hin⟩ := hown3.ints
        have hlen3 : Ln' = j + 1 := by have := hin.1; rw [List.length_append, HJ.out] at this; simp at this; omega
        have HO3 := Lib.hid hown3
        have HB3 := Lib.hid (HB1.out.mono HB.out.size)
        have HB4 := Lib.hid (HB.out.trans (HB3.out.trans (hb3.mono (by omega))))
        have HBox3 : Hid (w3.cell? ⟨w.heap.size, 0, none⟩ = some (.int .i64 x.id) ∧ w3.cell? ⟨w.heap.size, 1, none⟩ = some (.slice x.A x.n x.c) ∧ w3.cell? ⟨w.heap.size + 1, 0, none⟩ = some (.int .i64 y.id) ∧ w3.cell? ⟨w.heap.size + 1, 1, none⟩ = some (.slice y.A y.n y.c)) := Lib.hid (by
          have k : ∀ (bb oo : Nat), bb < w.heap.size + 2 → w3.cell? ⟨bb, oo, none⟩ = wr.cell? ⟨bb, oo, none⟩ := fun bb oo h => (hb3.cell (p := ⟨bb, oo, none⟩) h).trans (HB1.out.cell (p := ⟨bb, oo, none⟩) (Nat.lt_of_lt_of_le h HS2.out))
          have := HBox.out
          rw [k _ _ (by omega), k _ _ (by omega), k _ _ (by omega), k _ _ (by omega)]
          exact this)
        have HS3 := Lib.hid (Nat.le_trans hs2 hb3.size)
        clear hown3 hb3 hin
        go_wp2
        go_roundw
        case rel => exact ⟨k + 1, Ln', Lc', LA', .bin op a b :: s, by omega, by go_num, by first | rfl | rw [hlen3], by omega, HS1.out, by have := HLen.out; simp at this ⊢; omega, by rw [HZ.out]; exact HO3.out, HB4.out, HS3.out, HBox3.out⟩
        case measure => simp [intOf]; omega
    · obtain rfl : k = n := by omega
      have hst := HSt.out
      rw [ptake_all HX.out.len] at hst
      obtain rfl : st = [t] := hst.one HPo.out
      have hO := HO.out
      rw [codes_cons] at hO
      obtain rfl : m = 1 := by have := HLen.out; simp at this; omega
      obtain ⟨_, hcc, hcm, g, rfl, hgl, hgs, hcell⟩ := ownI_cells hO (by omega)
      obtain ⟨c1, -⟩ := hcell 0 (cmpT (wishF x y) t) rfl
      clear hO hst hcell hbel hbox
      go_wp2
      go_ret
      exact ⟨rfl, HB.out⟩
end Go.Proofs.YtceiocdemhkcdaaGreat.num
namespace Go.Proofs.YtceiocdemhkcdaaGreat.num
set_option maxRecDepth 20000
open Go.RowKit
set_option linter.unusedVariables false
set_option linter.unusedSimpArgs false

/-- What CompareBy answers. -/
def CmpE (nds : List ND) (x y : It) (z : Int) : Prop := (∃ t, IsE nds ∧ Post nds t ∧ IsP x.dat ∧ IsP y.dat ∧ z = cmpT (wishF x y) t) ∨ (¬ (IsE nds ∧ IsP x.dat ∧ IsP y.dat) ∧ z = 2)
theorem CmpE.some (nds : List ND) (x y : It) : ∃ z, CmpE nds x y z := by
  by_cases h : IsE nds ∧ IsP x.dat ∧ IsP y.dat
  · obtain ⟨h1, h2, h3⟩ := h
    obtain ⟨_, t, ht⟩ := id h1
    exact ⟨_, .inl ⟨t, h1, ht, h2, h3, rfl⟩⟩
  · exact ⟨2, .inr ⟨h, rfl⟩⟩
theorem CmpE.to {nds nds' : List ND} {x y x' y' : It} {z : Int} (h : CmpE nds x y z) (hn : nds' = nds) (hx : x'.dat = x.dat) (hy : y'.dat = y.dat) : CmpE nds' x' y' z := by
  subst hn
  unfold CmpE at *
  rw [wishF_dat hx hy, hx, hy]
  exact h
theorem CmpE.code {nds : List ND} {x y : It} {z : Int} (h : CmpE nds x y z) : Code z := by
  rcases h with ⟨t, _, _, _, _, rfl⟩ | ⟨_, rfl⟩
  · exact cmpT_code (wishF_code x y) t
  · exact .inr (.inr (.inr rfl))

/-- The pointer to an expression's tree, nil if the expression is not valid. -/
def TreeV (w : World) (B lo : Nat) (nds : List ND) (v : Value) : Prop :=
  (IsE nds ∧ ∃ t p, Post nds t ∧ v = .pointer (some ⟨p, 0, none⟩) ∧ PartAt w B lo t p) ∨ (¬ IsE nds ∧ v = .pointer none)
theorem TreeV.below {w w' : World} {B lo : Nat} {nds : List ND} {v : Value} (h : TreeV w B lo nds v) (hB : B ≤ w.heap.size) (hb : Below w.heap.size w w') : TreeV w' B lo nds v := by
  rcases h with ⟨h, t, p, h1, h2, h3⟩ | h
  · exact .inl ⟨h, t, p, h1, h2, h3.below hB hb⟩
  · exact .inr h
theorem TreeOut.v {w : World} {B lo : Nat} {nds : List ND} {e : Ending} (h : TreeOut B lo nds e w) : ∃ v, e = .returned v ∧ TreeV w B lo nds v := by
  rcases h with ⟨h, t, p, h1, rfl, h3⟩ | ⟨h, rfl⟩
  · exact ⟨_, rfl, .inl ⟨h, t, p, h1, rfl, h3⟩⟩
  · exact ⟨_, rfl, .inr ⟨h, rfl⟩⟩
end Go.Proofs.YtceiocdemhkcdaaGreat.num
namespace Go.Proofs.YtceiocdemhkcdaaGreat.num
set_option maxRecDepth 20000
set_option linter.unusedVariables false

/-- Two expressions and an operator behind them. -/
theorem joinE {a b : List ND} {nd : ND} (ha : IsE a) (hb : IsE b) (hw : NoW nd.w) : IsE (a ++ b ++ [nd]) ↔ Bin nd.op ∧ a.length + b.length < 9 := by
  obtain ⟨la, ta, pa⟩ := ha
  obtain ⟨lb, tb, pb⟩ := hb
  have hs : Stk (a ++ b) [tb, ta] := pb.stk (post_stk.1 pa)
  constructor
  · rintro ⟨h1, t, ht⟩
    have h2 := post_stk.1 ht
    refine ⟨?_, by simp at h1; omega⟩
    rcases h2.inv with ⟨_, _, s, k, e⟩ | ⟨_, _, x, s, k, e⟩ | ⟨h, _⟩
    · have := hs.one k
      subst this
      simp at e
    · have := hs.one k
      simp only [List.cons.injEq] at this
      obtain ⟨_, rfl⟩ := this
      simp at e
    · exact h
  · rintro ⟨h1, h2⟩
    exact ⟨by simp; omega, _, .bin h1 hw pa pb⟩
theorem joinE' {a b : List ND} {nd : ND} (ha : IsE a) (hb : IsE b) (hw : NoW nd.w) {q : Bool} (hq : q = true ↔ Bin nd.op ∧ a.length + b.length < 9) : q = true ↔ IsE (a ++ b ++ [nd]) := hq.trans (joinE ha hb hw).symm

/-- The wishes of a list of nodes, in their order. -/
def wishL (nds : List ND) : List WD := nds.filterMap fun nd => if nd.op = 0 then some nd.w else none
theorem wishL_snoc_base {nds : List ND} {nd : ND} (h : nd.op = 0) : wishL (nds ++ [nd]) = wishL nds ++ [nd.w] := by
  unfold wishL; rw [List.filterMap_append]; simp [h]
theorem wishL_snoc_op {nds : List ND} {nd : ND} (h : nd.op ≠ 0) : wishL (nds ++ [nd]) = wishL nds := by
  unfold wishL; rw [List.filterMap_append]; simp [h]
theorem wishL_len (nds : List ND) : (wishL nds).length ≤ nds.length := List.length_filterMap_le _ _
/-- What WishesOf answers. -/
def wishesE (q : Bool) (nds : List ND) : List WD := if q then wishL nds else []
end Go.Proofs.YtceiocdemhkcdaaGreat.num
namespace Go.Proofs.YtceiocdemhkcdaaGreat.num
set_option maxRecDepth 20000
set_option linter.unusedVariables false
set_option linter.unusedSimpArgs false

theorem okp_of {d : WD} (hw : IsW d) (h4 : d.kind = 4) : OkP d.ps := by
  have hp := hw.p
  rwa [if_pos h4] at hp
theorem rb_not {d : WD} (hw : IsW d) (h4 : d.kind = 4) {x y : Int} (h : rb d.ps x y = true) : rb d.ps y x = false := by
  rcases h2 : rb d.ps y x with _ | _
  · rfl
  · exact ((okp_of hw h4).1.acy x (((rb_iff _ _ _).1 h).trans ((rb_iff _ _ _).1 h2))).elim
theorem rb_self {d : WD} (hw : IsW d) (h4 : d.kind = 4) (x : Int) : rb d.ps x x = false := (okp_of hw h4).1.rb_self x
theorem rb_tr {ps : List (Int × Int)} {x y z : Int} (h : rb ps x y = true) (h' : rb ps y z = true) : rb ps x z = true := (rb_iff _ _ _).2 (((rb_iff _ _ _).1 h).trans ((rb_iff _ _ _).1 h'))
theorem cmpW_turn {d : WD} (hw : IsW d) (x y : Int) : cmpW d y x = revC (cmpW d x y) := by
  unfold cmpW revC
  by_cases h4 : d.kind = 4
  · rw [if_pos h4, if_pos h4]
    by_cases hxy : x = y
    · subst hxy; simp
    · have hyx : ¬ y = x := fun h => hxy h.symm
      rcases h1 : rb d.ps x y with _ | _
      · rcases h2 : rb d.ps y x with _ | _ <;> simp [hxy, hyx]
      · have h2 := rb_not hw h4 h1
        simp [hxy, hyx, h2]
  · rw [if_neg h4, if_neg h4]
    by_cases h1 : rankW d x < rankW d y
    · have h2 : ¬ rankW d y < rankW d x := by omega
      simp [h1, h2]
    · by_cases h2 : rankW d y < rankW d x
      · simp [h1, h2]
      · simp [h1, h2]
theorem cmpW_self (d : WD) (x : Int) : cmpW d x x = 0 := by
  unfold cmpW
  split
  · simp
  · simp
/-- The codes of three comparisons fit. -/
def Tr3 (c d r : Int) : Prop := ((c = 0 ∨ c = 1) → (d = 0 ∨ d = 1) → r = max c d) ∧ ((c = 0 ∨ c = -1) → (d = 0 ∨ d = -1) → r = min c d)
theorem cmpW_tr {d : WD} (hw : IsW d) (x y z : Int) : Tr3 (cmpW d x y) (cmpW d y z) (cmpW d x z) := by
  by_cases h4 : d.kind = 4
  · have e : ∀ a b, cmpW d a b = if a = b then 0 else if rb d.ps a b = true then 1 else if rb d.ps b a = true then -1 else 2 := fun a b => by unfold cmpW; rw [if_pos h4]
    rw [e, e, e]
    by_cases hxy : x = y
    · subst hxy
      unfold Tr3
      rw [if_pos rfl]
      constructor <;> (intro _ h; omega)
    · by_cases hyz : y = z
      · subst hyz
        unfold Tr3
        rw [if_pos rfl]
        constructor <;> (intro h _; omega)
      · rw [if_neg hxy, if_neg hyz]
        unfold Tr3
        rcases h1 : rb d.ps x y with _ | _
        · rcases h2 : rb d.ps y x with _ | _
          · exact ⟨fun h => by simp at h, fun h => by simp at h⟩
          · refine ⟨fun h => by simp at h, fun _ => ?_⟩
            rcases k1 : rb d.ps y z with _ | _
            · rcases k2 : rb d.ps z y with _ | _
              · exact fun h => by simp at h
              · intro _
                have hzx := rb_tr k2 h2
                have hxz := rb_not hw h4 hzx
                have hne : ¬ x = z := fun e => by subst e; rw [rb_self hw h4] at hzx; cases hzx
                rw [if_neg hne, hxz, hzx]
                simp
            · exact fun h => by simp at h
        · refine ⟨fun _ => ?_, fun h => by simp at h⟩
          rcases k1 : rb d.ps y z with _ | _
          · rcases k2 : rb d.ps z y with _ | _
            · exact fun h => by simp at h
            · exact fun h => by simp at h
          · intro _
            have hxz := rb_tr h1 k1
            have hne : ¬ x = z := fun e => by subst e; rw [rb_self hw h4] at hxz; cases hxz
            rw [if_neg hne, hxz]
            simp
  · have e : ∀ a b, cmpW d a b = if rankW d a < rankW d b then 1 else if rankW d b < rankW d a then -1 else 0 := fun a b => by unfold cmpW; rw [if_neg h4]
    rw [e, e, e]
    unfold Tr3
    constructor
    · intro h1 h2
      (repeat' split at h1) <;> (repeat' split at h2) <;> (repeat' split) <;> omega
    · intro h1 h2
      (repeat' split at h1) <;> (repeat' split at h2) <;> (repeat' split) <;> omega
theorem opC_rev {op a b : Int} (ha : Code a) (hb : Code b) : opC op (revC a) (revC b) = revC (opC op a b) := by
  unfold opC
  by_cases h1 : op = 1
  · rw [if_pos h1, if_pos h1]
    rcases ha with rfl | rfl | rfl | rfl <;> rcases hb with rfl | rfl | rfl | rfl <;> decide
  · rw [if_neg h1, if_neg h1]
    by_cases h2 : op = 2
    · rw [if_pos h2, if_pos h2]
      rcases ha with rfl | rfl | rfl | rfl <;> rcases hb with rfl | rfl | rfl | rfl <;> decide
    · rw [if_neg h2, if_neg h2]
      rcases ha with rfl | rfl | rfl | rfl <;> rcases hb with rfl | rfl | rfl | rfl <;> decide
theorem opC_zero (op : Int) : opC op 0 0 = 0 := by
  unfold opC
  split
  · decide
  · split <;> decide
theorem op1_code : ∀ a b : Int, Code a → Code b → ((opC 1 a b = 0 ∨ opC 1 a b = 1) → (a = 0 ∨ a = 1) ∧ (b = 0 ∨ b = 1)) ∧ ((opC 1 a b = 0 ∨ opC 1 a b = -1) → (a = 0 ∨ a = -1) ∧ (b = 0 ∨ b = -1)) ∧ ((a = 0 ∨ a = 1) → (b = 0 ∨ b = 1) → opC 1 a b = max a b) ∧ ((a = 0 ∨ a = -1) → (b = 0 ∨ b = -1) → opC 1 a b = min a b) := by
  intro a b ha hb
  rcases ha with rfl | rfl | rfl | rfl <;> rcases hb with rfl | rfl | rfl | rfl <;> decide
theorem opC_tr {op a b a' b' ra rb' : Int} (ha : Code a) (hb : Code b) (ha' : Code a') (hb' : Code b') (hra : Code ra) (hrb : Code rb') (h : Tr3 a a' ra) (k : Tr3 b b' rb') : Tr3 (opC op a b) (opC op a' b') (opC op ra rb') := by
  by_cases h1 : op = 1
  · subst h1
    obtain ⟨p1, p2, p3, p4⟩ := op1_code a b ha hb
    obtain ⟨q1, q2, q3, q4⟩ := op1_code a' b' ha' hb'
    obtain ⟨r1, r2, r3, r4⟩ := op1_code ra rb' hra hrb
    obtain ⟨h1, h2⟩ := h
    obtain ⟨k1, k2⟩ := k
    constructor
    · intro c d
      obtain ⟨u1, u2⟩ := p1 c
      obtain ⟨v1, v2⟩ := q1 d
      have e1 := h1 u1 v1
      have e2 := k1 u2 v2
      rw [p3 u1 u2, q3 v1 v2, r3 (by omega) (by omega)]
      omega
    · intro c d
      obtain ⟨u1, u2⟩ := p2 c
      obtain ⟨v1, v2⟩ := q2 d
      have e1 := h2 u1 v1
      have e2 := k2 u2 v2
      rw [p4 u1 u2, q4 v1 v2, r4 (by omega) (by omega)]
      omega
  · unfold opC
    rw [if_neg h1, if_neg h1, if_neg h1]
    by_cases h2 : op = 2
    · rw [if_pos h2, if_pos h2, if_pos h2]
      obtain ⟨h1, h2⟩ := h
      obtain ⟨k1, k2⟩ := k
      unfold Tr3 Code at *
      constructor <;> (intro c d; (repeat' split at c) <;> (repeat' split at d) <;> (repeat' split) <;> omega)
    · rw [if_neg h2, if_neg h2, if_neg h2]
      obtain ⟨h1, h2⟩ := h
      obtain ⟨k1, k2⟩ := k
      unfold Tr3 Code at *
      constructor <;> (intro c d; (repeat' split at c) <;> (repeat' split at d) <;> (repeat' split) <;> omega)
theorem revC_tr {a b r : Int} (ha : Code a) (hb : Code b) (hr : Code r) (h : Tr3 a b r) : Tr3 (revC a) (revC b) (revC r) := by
  obtain ⟨h1, h2⟩ := h
  unfold Tr3 Code revC at *
  constructor <;> (intro c d; (repeat' split at c) <;> (repeat' split at d) <;> (repeat' split) <;> omega)
theorem cmpT_turn {nds : List ND} {t : Tr} (h : Post nds t) (x y : It) : cmpT (wishF y x) t = revC (cmpT (wishF x y) t) := by
  induction h with
  | base h hw => exact cmpW_turn hw _ _
  | dual h hw ha ih => unfold cmpT; rw [ih]
  | bin h hw ha hb iha ihb => unfold cmpT; rw [iha, ihb]; exact opC_rev (cmpT_code (wishF_code x y) _) (cmpT_code (wishF_code x y) _)
theorem cmpT_self {nds : List ND} {t : Tr} (h : Post nds t) (x : It) : cmpT (wishF x x) t = 0 := by
  induction h with
  | base h hw => exact cmpW_self _ _
  | dual h hw ha ih => unfold cmpT; rw [ih]; decide
  | bin h hw ha hb iha ihb => unfold cmpT; rw [iha, ihb]; exact opC_zero _
theorem cmpT_tr {nds : List ND} {t : Tr} (h : Post nds t) (x y z : It) : Tr3 (cmpT (wishF x y) t) (cmpT (wishF y z) t) (cmpT (wishF x z) t) := by
  induction h with
  | base h hw => exact cmpW_tr hw _ _ _
  | dual h hw ha ih => exact revC_tr (cmpT_code (wishF_code x y) _) (cmpT_code (wishF_code y z) _) (cmpT_code (wishF_code x z) _) ih
  | bin h hw ha hb iha ihb => exact opC_tr (cmpT_code (wishF_code x y) _) (cmpT_code (wishF_code x y) _) (cmpT_code (wishF_code y z) _) (cmpT_code (wishF_code y z) _) (cmpT_code (wishF_code x z) _) (cmpT_code (wishF_code x z) _) iha ihb
theorem post_wishes {nds : List ND} {t : Tr} (h : Post nds t) : 2 * (wishL nds).length ≤ nds.length + 1 := by
  induction h with
  | base h hw => unfold wishL; simp [h]
  | dual h hw ha ih => rw [wishL_snoc_op (by omega), List.length_append, List.length_singleton]; omega
  | bin h hw ha hb iha ihb =>
    rw [wishL_snoc_op (bin_ne h).1, List.length_append, List.length_singleton]
    unfold wishL at *
    rw [List.filterMap_append, List.length_append, List.length_append]
    omega
theorem wishes_five {q : Bool} {nds : List ND} (hq : q = true ↔ IsE nds) : (wishesE q nds).length ≤ 5 := by
  unfold wishesE
  cases q
  · simp
  · obtain ⟨h9, t, ht⟩ := hq.1 rfl
    have := post_wishes ht
    simp only [if_true]
    omega
theorem CmpE.turn {nds : List ND} {x y : It} {z z' : Int} (h : CmpE nds x y z) (h' : CmpE nds y x z') : z' = revC z := by
  rcases h with ⟨t, a1, a2, a3, a4, rfl⟩ | ⟨a1, rfl⟩
  · rcases h' with ⟨t', b1, b2, b3, b4, rfl⟩ | ⟨b1, rfl⟩
    · rw [b2.one a2]; exact cmpT_turn a2 x y
    · exact absurd ⟨a1, a4, a3⟩ b1
  · rcases h' with ⟨t', b1, b2, b3, b4, rfl⟩ | ⟨b1, rfl⟩
    · exact absurd ⟨b1, b4, b3⟩ a1
    · decide
theorem CmpE.self {nds : List ND} {x : It} {z : Int} (h : CmpE nds x x z) (h1 : IsE nds) (h2 : IsP x.dat) : z = 0 := by
  rcases h with ⟨t, a1, a2, a3, a4, rfl⟩ | ⟨a1, rfl⟩
  · exact cmpT_self a2 x
  · exact absurd ⟨h1, h2, h2⟩ a1
theorem CmpE.tr {nds : List ND} {x y z : It} {c d r : Int} (h : CmpE nds x y c) (h' : CmpE nds y z d) (h'' : CmpE nds x z r) (hc : c ≠ 2) (hd : d ≠ 2) (c0 : 0 ≤ c) (d0 : 0 ≤ d) : r = max c d := by
  have kc := h.code
  have kd := h'.code
  rcases h with ⟨t, a1, a2, a3, a4, rfl⟩ | ⟨a1, rfl⟩
  · rcases h' with ⟨t', b1, b2, b3, b4, rfl⟩ | ⟨b1, rfl⟩
    · rcases h'' with ⟨t2, e1, e2, e3, e4, rfl⟩ | ⟨e1, rfl⟩
      · rw [b2.one a2] at *
        rw [e2.one a2]
        unfold Code at *
        exact (cmpT_tr a2 x y z).1 (by omega) (by omega)
      · exact absurd ⟨a1, a3, b4⟩ e1
    · exact absurd rfl hd
  · exact absurd rfl hc
theorem code_neq {c : Int} (h : Code c) : (c = 2 ∧ revC c = 2) ∨ (c ≠ 2 ∧ revC c = -c ∧ revC c ≠ 2) := by
  unfold Code revC at *
  rcases h with rfl | rfl | rfl | rfl <;> decide
end Go.Proofs.YtceiocdemhkcdaaGreat.num
namespace Go.Proofs.YtceiocdemhkcdaaGreat.num
set_option maxRecDepth 20000
open Go.RowKit

/-- The first item of that number, or -1. -/
def FindP (ds : List (Int × List Int)) (x r : Int) : Prop := (r = -1 ∧ ∀ d ∈ ds, d.1 ≠ x) ∨ ∃ k : Nat, r = k ∧ (∃ d, ds[k]? = some d ∧ d.1 = x) ∧ ∀ d ∈ ds.take k, d.1 ≠ x
theorem FindP.one {ds : List (Int × List Int)} {x r s : Int} (h : FindP ds x r) (g : FindP ds x s) : r = s := by
  have aux : ∀ {k : Nat}, (∃ d, ds[k]? = some d ∧ d.1 = x) → (∀ d ∈ ds, d.1 ≠ x) → False := fun ⟨d, hd, he⟩ hn => hn d (mem_of_at hd) he
  have aux2 : ∀ {k j : Nat}, k < j → (∃ d, ds[k]? = some d ∧ d.1 = x) → (∀ d ∈ ds.take j, d.1 ≠ x) → False := fun {k j} hkj ⟨d, hd, he⟩ hn => hn d (mem_of_at (k := k) (by rw [List.getElem?_take_of_lt hkj]; exact hd)) he
  rcases h with ⟨rfl, h⟩ | ⟨k, rfl, hk, h⟩ <;> rcases g with ⟨rfl, g⟩ | ⟨j, rfl, hj, g⟩
  · rfl
  · exact (aux hj h).elim
  · exact (aux hk g).elim
  · rcases Nat.lt_trichotomy k j with h1 | h1 | h1
    · exact (aux2 h1 hk g).elim
    · rw [h1]
    · exact (aux2 h1 hj h).elim
theorem FindP.hit {its : List It} {x : Int} {k : Nat} {t : It} (hat : its[k]? = some t) (he : t.id = x) (h : ∀ u ∈ its.take k, u.id ≠ x) : FindP (its.map It.dat) x k :=
  .inr ⟨k, rfl, ⟨t.dat, by simp [hat], he⟩, fun d hd => by
    rw [← List.map_take] at hd
    obtain ⟨u, hu, rfl⟩ := List.mem_map.1 hd
    exact h u hu⟩
theorem FindP.miss {its : List It} {x : Int} (h : ∀ u ∈ its, u.id ≠ x) : FindP (its.map It.dat) x (-1) :=
  .inl ⟨rfl, fun d hd => by
    obtain ⟨u, hu, rfl⟩ := List.mem_map.1 hd
    exact h u hu⟩
theorem ne_step {its : List It} {x : Int} {k : Nat} {t : It} (hat : its[k]? = some t) (h : ∀ u ∈ its.take k, u.id ≠ x) (h1 : t.id ≠ x) : ∀ u ∈ its.take (k + 1), u.id ≠ x := by
  rw [take_at hat]
  intro u hu
  rcases List.mem_append.1 hu with h2 | h2
  · exact h u h2
  · obtain rfl := List.mem_singleton.1 h2
    exact h1

theorem sFind (w : World) (B : Nat) (A : Option Addr) (n c : Nat) (its : List It) (hi : Items w B A n its) (hB : B ≤ w.heap.size) (hn : n ≤ 1048576) (x : Int) :
    Calls Tryz.prog 71 #[.slice A n c, .int .i64 x] w fun e w' => (∃ r, e = .returned (.int .i64 r) ∧ FindP (its.map It.dat) x r) ∧ Below w.heap.size w w' := by
  have HX := Lib.hid hi
  clear hi
  go_enter Tryz.func71, Tryz.ntmps71
  go_wp2
  go_loopw [5] (fun i wr => ∃ k : Nat, k ≤ n ∧ i = .int .i64 k ∧ (∀ u ∈ its.take k, u.id ≠ x) ∧ Below w.heap.size w wr) (fun i _ => n - (intOf i).toNat)
  case atStart => exact ⟨0, Nat.zero_le _, rfl, by simp, Below.refl _ _⟩
  case round =>
    obtain ⟨k, hk, rfl, hall, hbel⟩ := hrel
    have HA := Lib.hid hall
    have HB := Lib.hid hbel
    clear hall
    by_cases hlt : k < n
    · obtain ⟨b1, off, t, rfl, hb1, hat, hc1, _, _⟩ := HX.out.at k hlt
      have f1 := (hbel.cell (p := ⟨b1, off + k * 2, none⟩) (by exact Nat.lt_of_lt_of_le hb1 hB)).trans hc1
      have HAt := Lib.hid hat
      clear hc1 hat hbel
      by_cases he : t.id = x
      · have he' : (t.id == x) = true := by simpa using he
        have HE := Lib.hid he
        clear he
        go_wp2
        go_ret
        exact ⟨⟨_, rfl, FindP.hit HAt.out HE.out HA.out⟩, HB.out⟩
      · have he' : (t.id == x) = false := by simpa using he
        have HE := Lib.hid he
        clear he
        go_wp2
        go_roundw
        case rel => exact ⟨k + 1, by omega, by go_num, ne_step HAt.out HA.out HE.out, HB.out⟩
        case measure => simp [intOf]; omega
    · obtain rfl : k = n := by omega
      clear hbel
      go_wp2
      go_ret
      exact ⟨⟨_, rfl, FindP.miss (by have := HA.out; rwa [take_all HX.out.1] at this)⟩, HB.out⟩

end Go.Proofs.YtceiocdemhkcdaaGreat.num
