/-
  The model's test of an expression: contracts.
-/
import Derived.Test.YtceiocdemhkcdaaExpCopy
import Derived.Test.YtceiocdemhkcdaaWishSpecB
namespace Go.Proofs.Ytceiocdemhkcdaa.num
set_option maxRecDepth 20000
open Go.RowKit
set_option linter.unusedVariables false
set_option linter.unusedSimpArgs false

set_option maxRecDepth 20000 in
theorem sNoWish (w : World) (t : Wi) (hl : t.ls.length = t.Ln) (hp : t.ps.length = t.Pn) (q : Bool) (hq : q = true ↔ NoW t.dat) :
    Calls Try.prog 94 #[t.val] w fun e w' => e = .returned (.bool q) ∧ Below w.heap.size w w' := by
  obtain ⟨k, f, v, LA, Ln, Lc, ls, PA, Pn, Pc, ps⟩ := t
  simp only at hl hp
  have HW1 : Hid (∀ o : Obj, Below w.heap.size w (w.alloc o)) := Lib.hid fun o => (Below.refl _ w).alloc (Nat.le_refl _) _
  have HNo : Hid (¬ (k = 0 ∧ f = 0 ∧ v = 0 ∧ Ln = 0 ∧ Pn = 0) → q = false) := Lib.hid fun h => by
    cases q
    · rfl
    · obtain ⟨h1, h2, h3, h4, h5⟩ := hq.1 rfl
      simp only [Wi.dat] at h1 h2 h3 h4 h5
      exact absurd ⟨h1, h2, h3, by rw [← hl, h4]; rfl, by rw [← hp, h5]; rfl⟩ h
  have HYes : Hid (k = 0 → f = 0 → v = 0 → Ln = 0 → Pn = 0 → q = true) := Lib.hid fun h1 h2 h3 h4 h5 => hq.2 ⟨h1, h2, h3, List.eq_nil_of_length_eq_zero (by show ls.length = 0; omega), List.eq_nil_of_length_eq_zero (by show ps.length = 0; omega)⟩
  unfold Wi.val
  clear hq hl hp
  by_cases e1 : k = 0
  · by_cases e2 : f = 0
    · by_cases e3 : v = 0
      · by_cases e4 : Ln = 0
        · by_cases e5 : Pn = 0
          · obtain rfl := HYes.out e1 e2 e3 e4 e5
            subst e1 e2 e3 e4 e5
            go_enter Try.func94, Try.ntmps94
            go_wp2
            go_ret
            exact ⟨rfl, HW1.out _⟩
          · obtain rfl := HNo.out fun h => e5 h.2.2.2.2
            subst e1 e2 e3 e4
            have hx : ((Pn : Int) == 0) = false := by simpa using e5
            go_enter Try.func94, Try.ntmps94
            go_wp2
            go_ret
            exact ⟨rfl, HW1.out _⟩
        · obtain rfl := HNo.out fun h => e4 h.2.2.2.1
          subst e1 e2 e3
          have hx : ((Ln : Int) == 0) = false := by simpa using e4
          go_enter Try.func94, Try.ntmps94
          go_wp2
          go_ret
          exact ⟨rfl, HW1.out _⟩
      · obtain rfl := HNo.out fun h => e3 h.2.2.1
        subst e1 e2
        have hx : (v == 0) = false := by simpa using e3
        go_enter Try.func94, Try.ntmps94
        go_wp2
        go_ret
        exact ⟨rfl, HW1.out _⟩
    · obtain rfl := HNo.out fun h => e2 h.2.1
      subst e1
      have hx : (f == 0) = false := by simpa using e2
      go_enter Try.func94, Try.ntmps94
      go_wp2
      go_ret
      exact ⟨rfl, HW1.out _⟩
  · obtain rfl := HNo.out fun h => e1 h.1
    have hx : (k == 0) = false := by simpa using e1
    go_enter Try.func94, Try.ntmps94
    go_wp2
    go_ret
    exact ⟨rfl, HW1.out _⟩

/-- The data of a slice of nodes. -/
def datN (ns : List Nd) : List ND := ns.map Nd.dat
theorem datN_at {ns : List Nd} {k : Nat} {x : Nd} (h : ns[k]? = some x) : datN (ns.take (k + 1)) = datN (ns.take k) ++ [x.dat] := by
  unfold datN; rw [ptake_at h, List.map_append, List.map_singleton]
theorem datN_split (ns : List Nd) (k : Nat) : datN ns = datN (ns.take k) ++ datN (ns.drop k) := by
  unfold datN; rw [← List.map_append, List.take_append_drop]
theorem noE_base {L : List ND} {nd : ND} {st : List Tr} (h0 : nd.op = 0) (hw : ¬ IsW nd.w) : ¬ ∃ s, Stk (L ++ [nd]) s := fun ⟨s, hs⟩ => by
  rcases hs.inv with ⟨_, h, _⟩ | ⟨h, _⟩ | ⟨h, _⟩
  · exact hw h
  · omega
  · exact (bin_ne h).1 h0
theorem noE_dual {L : List ND} {nd : ND} {st : List Tr} (hst : Stk L st) (h3 : nd.op = 3) (hw : st.length < 1 ∨ ¬ NoW nd.w) : ¬ ∃ s, Stk (L ++ [nd]) s := fun ⟨s, hs⟩ => by
  rcases hs.inv with ⟨h, _⟩ | ⟨_, h, a, s', k, _⟩ | ⟨h, _⟩
  · omega
  · rcases hw with hw | hw
    · rw [hst.one k] at hw; simp at hw
    · exact hw h
  · exact (bin_ne h).2 h3
theorem noE_bin {L : List ND} {nd : ND} {st : List Tr} (hst : Stk L st) (hb : Bin nd.op) (hw : st.length < 2 ∨ ¬ NoW nd.w) : ¬ ∃ s, Stk (L ++ [nd]) s := fun ⟨s, hs⟩ => by
  rcases hs.inv with ⟨h, _⟩ | ⟨h, _⟩ | ⟨_, h, a, b, s', k, _⟩
  · exact (bin_ne hb).1 h
  · exact (bin_ne hb).2 h
  · rcases hw with hw | hw
    · rw [hst.one k] at hw; simp at hw; omega
    · exact hw h
theorem noE_odd {L : List ND} {nd : ND} (h0 : nd.op ≠ 0) (h3 : nd.op ≠ 3) (hb : ¬ Bin nd.op) : ¬ ∃ s, Stk (L ++ [nd]) s := fun ⟨s, hs⟩ => by
  rcases hs.inv with ⟨h, _⟩ | ⟨h, _⟩ | ⟨h, _⟩
  · exact h0 h
  · exact h3 h
  · exact hb h

set_option maxRecDepth 20000 in
set_option maxHeartbeats 1600000 in
theorem sIsEW (w : World) (B : Nat) (A : Option Addr) (n c : Nat) (ns : List Nd) (hi : Nodes w B A n ns) (hB : B ≤ w.heap.size) (hn : n ≤ 1048577) (hN : ShortN ns) (b : Bool) (hb : b = true ↔ IsE (datN ns)) :
    Calls Try.prog 67 #[.slice A n c] w fun e w' => e = .returned (.bool b) ∧ Below w.heap.size w w' := by
  have HX := Lib.hid hi
  have HN := Lib.hid hN
  have HBo := Lib.hid hb
  have HNo : Hid (∀ k, (¬ ∃ s, Stk (datN (ns.take k)) s) → b = false) := Lib.hid fun k h => by
    cases b
    · rfl
    · have h1 := hb.1 rfl
      rw [datN_split ns k] at h1
      exact absurd h1 (isE_pre h)
  clear hi hN hb
  go_enter Try.func67, Try.ntmps67
  go_wp2
  go_loopw [3, 4] (fun d i wr => ∃ (k : Nat) (dv : Int) (st : List Tr), k ≤ n ∧ i = .int .i64 k ∧ d = .int .i64 dv ∧ dv = st.length ∧ dv ≤ k ∧ Stk (datN (ns.take k)) st ∧ Below w.heap.size w wr) (fun _ i _ => n - (intOf i).toNat)
  case atStart => exact ⟨0, 0, [], Nat.zero_le _, rfl, rfl, rfl, by omega, .nil, Below.refl _ _⟩
  case round =>
    obtain ⟨k, dv, st, hk, rfl, rfl, hdv, hdk, hst, hbel⟩ := hrel
    have HSt := Lib.hid hst
    have HDv := Lib.hid hdv
    have HB := Lib.hid hbel
    have hd0 : 0 ≤ dv := by omega
    clear hst hdv
    by_cases hlt : k < n
    · obtain ⟨b1, off, ⟨op, t⟩, rfl, hb1, hat, hwf, g0, g1, g2, g3, g4, g5⟩ := HX.out.at k hlt
      dsimp only at g0 g1 g2 g3 g4 g5
      have HT := Lib.hid hat
      have g0 := (hbel.cell (p := ⟨b1, off + k * 6, none⟩) (Nat.lt_of_lt_of_le hb1 hB)).trans g0
      have g1 := (hbel.cell (p := ⟨b1, off + k * 6 + 1, none⟩) (Nat.lt_of_lt_of_le hb1 hB)).trans g1
      have g2 := (hbel.cell (p := ⟨b1, off + k * 6 + 2, none⟩) (Nat.lt_of_lt_of_le hb1 hB)).trans g2
      have g3 := (hbel.cell (p := ⟨b1, off + k * 6 + 3, none⟩) (Nat.lt_of_lt_of_le hb1 hB)).trans g3
      have g4 := (hbel.cell (p := ⟨b1, off + k * 6 + 4, none⟩) (Nat.lt_of_lt_of_le hb1 hB)).trans g4
      have g5 := (hbel.cell (p := ⟨b1, off + k * 6 + 5, none⟩) (Nat.lt_of_lt_of_le hb1 hB)).trans g5
      have hlt' : (k : Int) < (n : Int) := by omega
      have HWi : Hid (WiIn wr B t) := Lib.hid (hwf.2.below (hbel.mono hB))
      have hBr : B ≤ wr.heap.size := Nat.le_trans hB hbel.size
      have HSh : Hid t.Short := Lib.hid (HN.out _ (List.mem_of_getElem? hat))
      have HE : Hid (datN (ns.take (k + 1)) = datN (ns.take k) ++ [⟨op, t.dat⟩]) := Lib.hid (datN_at hat)
      clear hat hwf hbel
      have hvw : t.val = .agg #[.int .i64 t.kind, .int .i64 t.field, .int .i64 t.value, .slice t.LA t.Ln t.Lc, .slice t.PA t.Pn t.Pc] := rfl
      by_cases e0 : op = 0
      · subst e0
        obtain ⟨q, hq⟩ := bool_of (IsW t.dat)
        have HC : Hid (Calls Try.prog 93 #[.agg #[.int .i64 t.kind, .int .i64 t.field, .int .i64 t.value, .slice t.LA t.Ln t.Lc, .slice t.PA t.Pn t.Pc]] wr fun e w' => e = .returned (.bool q) ∧ Below wr.heap.size wr w') := Lib.hid (by rw [← hvw]; exact sIsWish wr B t HWi.out hBr HSh.out q hq)
        have HQ := Lib.hid hq
        clear hq hvw
        go_wp2_with fail
        refine HC.out.mono ?_
        rintro e w1 ⟨rfl, hb2⟩
        have HB1 := Lib.hid (below_on HB.out hb2)
        clear hb2 HC
        cases q
        · obtain rfl := HNo.out (k + 1) (by rw [HE.out]; exact noE_base (st := st) rfl (fun h => by have := HQ.out.2 h; cases this))
          go_wp2
          go_ret
          exact ⟨rfl, HB1.out⟩
        · have HS1 : Hid (Stk (datN (ns.take (k + 1))) (.base t.dat :: st)) := Lib.hid (by rw [HE.out]; exact .base HSt.out rfl (HQ.out.1 rfl))
          go_wp2
          go_roundw
          case rel => exact ⟨k + 1, dv + 1, _, by omega, by go_num, by go_num, by rw [HDv.out]; rfl, by omega, HS1.out, HB1.out⟩
          case measure => simp [intOf]; omega
      · have f0 : (op == 0) = false := by simpa using e0
        by_cases e3 : op = 3
        · subst e3
          clear f0
          obtain ⟨q, hq⟩ := bool_of (NoW t.dat)
          have HC : Hid (Calls Try.prog 94 #[.agg #[.int .i64 t.kind, .int .i64 t.field, .int .i64 t.value, .slice t.LA t.Ln t.Lc, .slice t.PA t.Pn t.Pc]] wr fun e w' => e = .returned (.bool q) ∧ Below wr.heap.size wr w') := Lib.hid (by rw [← hvw]; exact sNoWish wr t HWi.out.l.1 HWi.out.p.1 q hq)
          have HQ := Lib.hid hq
          clear hq hvw
          by_cases h1 : dv < 1
          · obtain rfl := HNo.out (k + 1) (by rw [HE.out]; exact noE_dual HSt.out rfl (.inl (by have := HDv.out; omega)))
            go_wp2
            go_ret
            exact ⟨rfl, HB.out⟩
          · have hd : decide (dv < 1) = false := by simpa using h1
            have Hh1 := Lib.hid h1
            clear h1
            go_wp2_with fail
            refine HC.out.mono ?_
            rintro e w1 ⟨rfl, hb2⟩
            have HB1 := Lib.hid (below_on HB.out hb2)
            clear hb2 HC
            cases q
            · obtain rfl := HNo.out (k + 1) (by rw [HE.out]; exact noE_dual HSt.out rfl (.inr (fun h => by have := HQ.out.2 h; cases this)))
              go_wp2
              go_ret
              exact ⟨rfl, HB1.out⟩
            · have HS1 : Hid (∃ s, Stk (datN (ns.take (k + 1))) s ∧ dv = s.length) := Lib.hid (by
                match st, HSt, HDv, Hh1 with
                | [], _, h, h' => exact absurd h.out (by have := h'.out; simp; omega)
                | a :: s, h, h', _ => exact ⟨.dual a :: s, by rw [HE.out]; exact .dual h.out rfl (HQ.out.1 rfl), by rw [h'.out]; rfl⟩)
              go_wp2
              go_roundw
              case rel =>
                obtain ⟨s, h1, h2⟩ := HS1.out
                exact ⟨k + 1, dv, s, by omega, by go_num, rfl, h2, by omega, h1, HB1.out⟩
              case measure => simp [intOf]; omega
        · have f3 : (op == 3) = false := by simpa using e3
          obtain ⟨qb, hqb⟩ := bool_of (Bin op)
          have HQb := Lib.hid hqb
          clear hqb
          cases qb
          · have hnb : ¬ Bin op := fun h => by have := HQb.out.2 h; cases this
            obtain rfl := HNo.out (k + 1) (by rw [HE.out]; exact noE_odd e0 e3 hnb)
            have f1 : (op == 1) = false := by
              have : op ≠ 1 := fun h => hnb (.inl h)
              simpa using this
            have f2 : (op == 2) = false := by
              have : op ≠ 2 := fun h => hnb (.inr (.inl h))
              simpa using this
            have f4 : (op == 4) = false := by
              have : op ≠ 4 := fun h => hnb (.inr (.inr h))
              simpa using this
            clear hnb hvw e0 e3
            go_wp2
            go_ret
            exact ⟨rfl, HB.out⟩
          · obtain ⟨q, hq⟩ := bool_of (NoW t.dat)
            have HC : Hid (Calls Try.prog 94 #[.agg #[.int .i64 t.kind, .int .i64 t.field, .int .i64 t.value, .slice t.LA t.Ln t.Lc, .slice t.PA t.Pn t.Pc]] wr fun e w' => e = .returned (.bool q) ∧ Below wr.heap.size wr w') := Lib.hid (by rw [← hvw]; exact sNoWish wr t HWi.out.l.1 HWi.out.p.1 q hq)
            have HQ := Lib.hid hq
            have HBin : Hid (Bin op) := Lib.hid (HQb.out.1 rfl)
            have HOr : Hid (op = 1 ∨ op = 2 ∨ op = 4) := Lib.hid (HQb.out.1 rfl)
            clear hq hvw HQb e0 e3 f0 f3
            have HGo : Hid (dv < 1 ∨ True) := Lib.hid (.inr trivial)
            by_cases h1 : dv < 2
            · obtain rfl := HNo.out (k + 1) (by rw [HE.out]; exact noE_bin HSt.out HBin.out (.inl (by have := HDv.out; omega)))
              rcases HOr.out with rfl | rfl | rfl
              · go_wp2
                go_ret
                exact ⟨rfl, HB.out⟩
              · go_wp2
                go_ret
                exact ⟨rfl, HB.out⟩
              · go_wp2
                go_ret
                exact ⟨rfl, HB.out⟩
            · have hd : decide (dv < 2) = false := by simpa using h1
              have Hh1 := Lib.hid h1
              have HS1 : Hid (q = true → ∃ s, Stk (datN (ns.take (k + 1))) s ∧ dv - 1 = s.length) := Lib.hid (by
                intro hqt
                match st, HSt, HDv, Hh1 with
                | [], _, h, h' => exact absurd h.out (by have := h'.out; simp; omega)
                | [_], _, h, h' => exact absurd h.out (by have := h'.out; simp; omega)
                | y :: x :: s, h, h', _ => exact ⟨.bin op x y :: s, by rw [HE.out]; exact .bin h.out HBin.out (HQ.out.1 hqt), by rw [h'.out]; simp⟩)
              have HF : Hid (q = false → b = false) := Lib.hid fun hqf => HNo.out (k + 1) (by rw [HE.out]; exact noE_bin HSt.out HBin.out (.inr (fun h => by have := HQ.out.2 h; rw [hqf] at this; cases this)))
              clear h1
              have HB0 := Lib.hid HB.out
              rcases HOr.out with rfl | rfl | rfl
              · go_wp2_with fail
                refine HC.out.mono ?_
                rintro e w1 ⟨rfl, hb2⟩
                have HB1 := Lib.hid (below_on HB.out hb2)
                clear hb2 HC
                cases q
                · obtain rfl := HF.out rfl
                  go_wp2
                  go_ret
                  exact ⟨rfl, HB1.out⟩
                · go_wp2
                  go_roundw
                  case rel =>
                    obtain ⟨s, h1, h2⟩ := HS1.out (by first | rfl | trivial)
                    exact ⟨k + 1, dv - 1, s, by omega, by go_num, by go_num, h2, by omega, h1, HB1.out⟩
                  case measure => simp [intOf]; omega
              · go_wp2_with fail
                refine HC.out.mono ?_
                rintro e w1 ⟨rfl, hb2⟩
                have HB1 := Lib.hid (below_on HB.out hb2)
                clear hb2 HC
                cases q
                · obtain rfl := HF.out rfl
                  go_wp2
                  go_ret
                  exact ⟨rfl, HB1.out⟩
                · go_wp2
                  go_roundw
                  case rel =>
                    obtain ⟨s, h1, h2⟩ := HS1.out (by first | rfl | trivial)
                    exact ⟨k + 1, dv - 1, s, by omega, by go_num, by go_num, h2, by omega, h1, HB1.out⟩
                  case measure => simp [intOf]; omega
              · go_wp2_with fail
                refine HC.out.mono ?_
                rintro e w1 ⟨rfl, hb2⟩
                have HB1 := Lib.hid (below_on HB.out hb2)
                clear hb2 HC
                cases q
                · obtain rfl := HF.out rfl
                  go_wp2
                  go_ret
                  exact ⟨rfl, HB1.out⟩
                · go_wp2
                  go_roundw
                  case rel =>
                    obtain ⟨s, h1, h2⟩ := HS1.out (by first | rfl | trivial)
                    exact ⟨k + 1, dv - 1, s, by omega, by go_num, by go_num, h2, by omega, h1, HB1.out⟩
                  case measure => simp [intOf]; omega
    · obtain rfl : k = n := by omega
      have HF : Hid (b = true ↔ k ≤ 9 ∧ dv = 1) := Lib.hid (by
        rw [HBo.out]
        have h := HSt.out
        rw [ptake_all HX.out.len] at h
        rw [isE_stk h]
        have hl : (datN ns).length = k := by unfold datN; rw [List.length_map, HX.out.len]
        rw [hl]
        have := HDv.out
        omega)
      clear hbel
      by_cases h1 : dv = 1
      · subst h1
        by_cases h9 : k ≤ 9
        · obtain rfl : b = true := HF.out.2 ⟨h9, rfl⟩
          have hd : decide ((k : Int) ≤ 9) = true := by simp; omega
          go_wp2
          go_ret
          exact ⟨by simp <;> omega, HB.out⟩
        · obtain rfl : b = false := by
            cases b
            · rfl
            · exact absurd (HF.out.1 rfl).1 h9
          go_wp2
          go_ret
          exact ⟨by simp <;> omega, HB.out⟩
      · obtain rfl : b = false := by
          cases b
          · rfl
          · exact absurd (HF.out.1 rfl).2 h1
        have hd : (dv == 1) = false := by simpa using h1
        go_wp2
        go_ret
        exact ⟨rfl, HB.out⟩
theorem sIsE (w : World) (B : Nat) (A : Option Addr) (n c : Nat) (ns : List Nd) (hi : Nodes w B A n ns) (hB : B ≤ w.heap.size) (hn : n ≤ 1048576) (hN : ShortN ns) (b : Bool) (hb : b = true ↔ IsE (datN ns)) :
    Calls Try.prog 67 #[.slice A n c] w fun e w' => e = .returned (.bool b) ∧ Below w.heap.size w w' := sIsEW w B A n c ns hi hB (Nat.le_succ_of_le hn) hN b hb
end Go.Proofs.Ytceiocdemhkcdaa.num
