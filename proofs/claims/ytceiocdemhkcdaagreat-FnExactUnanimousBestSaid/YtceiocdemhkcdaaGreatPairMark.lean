/-
  The laws' own marks on slices that a call filled by append: markPairS, heldPairS, markIntS, heldIntS.
-/
import Derived.Test.YtceiocdemhkcdaaGreatPairSpecD
import Derived.Test.YtceiocdemhkcdaaGreatItemMark
import Derived.Test.YtceiocdemhkcdaaGreatOwnInt
namespace Go.Proofs.YtceiocdemhkcdaaGreat.num
set_option maxRecDepth 20000
open Go.RowKit
set_option linter.unusedVariables false


section
variable {w w' : World} {B : Nat} {v : Value}
theorem OwnP.lows {l : List (Int × Int)} (h : OwnP w B v l) : ∀ k, v.ownBlock = some k → B ≤ k := fun k hk => (World.ownsRow.lt h k hk).1
theorem OwnP.tops {l : List (Int × Int)} (h : OwnP w B v l) : ∀ k, v.ownBlock = some k → k < w.heap.size := fun k hk => (World.ownsRow.lt h k hk).2
theorem OwnP.blocks {l : List (Int × Int)} (h : OwnP w B v l) (hb : ∀ k, v.ownBlock = some k → w'.heap[k]? = w.heap[k]?) : OwnP w' B v l := by
  obtain ⟨h1, h2⟩ := h
  refine ⟨h1, ?_⟩
  rcases h2 with h2 | ⟨g, cap, cur, rfl, h4, h5, h6⟩
  · exact .inl h2
  · exact .inr ⟨g, cap, cur, rfl, h4, (hb g rfl).trans h5, h6⟩
theorem OwnP.row {l : List (Int × Int)} (h : OwnP w B v l) : (v = .slice none 0 0 ∧ l = []) ∨
    ∃ g cap f, v = .slice (some ⟨g, 0, none⟩) l.length cap ∧ B ≤ g ∧ l.length ≤ cap ∧ cap ≤ maxLen ∧ w.rowIs g 181 (cap * 2) f ∧ ∀ j, j < l.length * 2 → (flat l)[j]? = some (f j) := by
  rcases h.2 with ⟨rfl, hl⟩ | ⟨g, cap, cur, rfl, hB, hg, h1, h2, h3, h4⟩
  · exact .inl ⟨rfl, List.eq_nil_of_length_eq_zero hl⟩
  · refine .inr ⟨g, cap, fun j => (cur[j]?).getD undef, rfl, hB, h1, h2, ⟨cur, hg, h3, fun i hi => ?_⟩, fun j hj => ?_⟩
    · show cur[i]? = some ((cur[i]?).getD undef)
      rw [Array.getElem?_eq_getElem (by omega)]; rfl
    · show _ = some ((cur[j]?).getD undef)
      rw [← h4, List.getElem?_take_of_lt hj, Array.getElem?_toList, Array.getElem?_eq_getElem (by rw [h3]; omega)]; rfl
theorem OwnP.of_row {l : List (Int × Int)} {g n cap : Nat} {f : Nat → Value} (hB : B ≤ g) (hl : l.length = n) (hn : n ≤ cap) (hc : cap ≤ maxLen) (hr : w.rowIs g 181 (cap * 2) f) (hf : ∀ j, j < n * 2 → (flat l)[j]? = some (f j)) :
    OwnP w B (.slice (some ⟨g, 0, none⟩) n cap) l := by
  subst hl
  obtain ⟨cur, hg, hs, hcur⟩ := hr
  refine ⟨flat_len l, .inr ⟨g, cap, cur, rfl, hB, hg, hn, hc, hs, ?_⟩⟩
  apply List.ext_getElem?
  intro j
  rcases Nat.lt_or_ge j (l.length * 2) with h | h
  · rw [List.getElem?_take_of_lt h, Array.getElem?_toList, hcur j (by omega), hf j h]
  · rw [List.getElem?_eq_none (by rw [List.length_take]; omega), List.getElem?_eq_none (by rw [flat_len]; exact h)]
theorem PairRow.own {b n : Nat} {ps : List (Int × Int)} (h : PairRow w b ps) (hB : B ≤ b) (hl : ps.length = n) (hn : n ≤ 1048576) : OwnP w B (.slice (some ⟨b, 0, none⟩) n n) ps := by
  subst hl
  refine OwnP.of_row hB rfl (Nat.le_refl _) (by unfold maxLen; omega) h fun j hj => ?_
  have hk : j / 2 < ps.length := by omega
  have hat : ps[j / 2]? = some ps[j / 2] := List.getElem?_eq_getElem hk
  rcases Nat.mod_two_eq_zero_or_one j with h1 | h1
  · have e : j = j / 2 * 2 := by omega
    rw [e, flat_even _ _ _ hat, pairCell_even hat]
  · have e : j = j / 2 * 2 + 1 := by omega
    rw [e, flat_odd _ _ _ hat, pairCell_odd hat]
end

/-- The pairs that the marks make. -/
def pmarks (k n : Nat) : List (Int × Int) := (List.range n).map fun j => (((k + 2 * j : Nat) : Int), ((k + 2 * j + 1 : Nat) : Int))
theorem pmarks_len (k n : Nat) : (pmarks k n).length = n := by simp [pmarks]
theorem pmarks_flat {k n j : Nat} (h : j < n * 2) : (flat (pmarks k n))[j]? = some (.int .i64 ((k + j : Nat) : Int)) := by
  have hk : j / 2 < n := by omega
  have hat : (pmarks k n)[j / 2]? = some (((k + 2 * (j / 2) : Nat) : Int), ((k + 2 * (j / 2) + 1 : Nat) : Int)) := by simp [pmarks, hk]
  rcases Nat.mod_two_eq_zero_or_one j with h1 | h1
  · have e : j = j / 2 * 2 := by omega
    have e2 : k + 2 * (j / 2) = k + j := by omega
    have := flat_even _ _ _ hat
    rw [← e, e2] at this
    exact this
  · have e : j = j / 2 * 2 + 1 := by omega
    have e2 : k + 2 * (j / 2) + 1 = k + j := by omega
    have := flat_odd _ _ _ hat
    rw [← e, e2] at this
    exact this
set_option maxRecDepth 20000 in
theorem markP (w : World) (B : Nat) (v : Value) (l : List (Int × Int)) (h : OwnP w B v l) (hn : l.length ≤ 1048576) (k0 : Nat) (hk0 : k0 ≤ 1152921504606846976) :
    Calls Tryz.prog 115 #[v, .int .i64 k0] w fun e w' => e = .returned (.int .i64 ((k0 + 2 * l.length : Nat) : Int)) ∧ OwnP w' B v (pmarks k0 l.length) ∧ OnlyV v w w' := by
  rcases h.row with ⟨rfl, rfl⟩ | ⟨g, cap, f, rfl, hB, hle, hcap, hrow, hf⟩
  · go_enter Tryz.func115, Tryz.ntmps115
    go_wp2
    go_loopw [1, 5] (fun m i wr => i = .int .i64 0 ∧ m = .int .i64 k0 ∧ wr = w) (fun _ _ _ => 0)
    case atStart => exact ⟨rfl, rfl, rfl⟩
    case round =>
      obtain ⟨rfl, rfl, rfl⟩ := hrel
      go_wp2
      go_ret
      exact ⟨rfl, OwnP.nil _ _, OnlyV.refl _ _⟩
  · obtain ⟨n, hn'⟩ : ∃ n, n = l.length := ⟨_, rfl⟩
    rw [← hn'] at hn hle hf ⊢
    clear h hn'
    have HW := Lib.hid hrow
    have hcap' : cap ≤ 9223372036854775807 := by unfold maxLen at hcap; omega
    have HF := Lib.hid hf
    have HCap := Lib.hid hcap
    clear hrow hf hcap
    go_enter Tryz.func115, Tryz.ntmps115
    go_wp2
    go_loopw [1, 5] (fun m i wr => ∃ k : Nat, k ≤ n ∧ i = .int .i64 k ∧ m = .int .i64 ((k0 + 2 * k : Nat) : Int) ∧ wr.rowIs g 181 (cap * 2) (fun j => if j < 2 * k then .int .i64 ((k0 + j : Nat) : Int) else f j) ∧ OnlyV (.slice (some ⟨g, 0, none⟩) n cap) w wr) (fun _ i _ => n - (intOf i).toNat)
    case atStart => exact ⟨0, Nat.zero_le _, rfl, rfl, by simpa using HW.out, OnlyV.refl _ _⟩
    case round =>
      obtain ⟨k, hk, rfl, rfl, hrow, honly⟩ := hrel
      have HR := Lib.hid hrow
      have HO := Lib.hid honly
      by_cases hlt : k < n
      · have g1 : wr.cell? ⟨g, k * 2, none⟩ = some (f (k * 2)) := by rw [World.rowIs.cell hrow (by omega), if_neg (by omega)]
        have g2 : wr.cell? ⟨g, k * 2 + 1, none⟩ = some (f (k * 2 + 1)) := by rw [World.rowIs.cell hrow (by omega), if_neg (by omega)]
        have g3 := World.rowIs.frozen hrow (k * 2)
        have g4 := World.rowIs.frozen hrow (k * 2 + 1)
        obtain ⟨m, hm⟩ : ∃ m : Nat, m = k0 + 2 * k := ⟨_, rfl⟩
        rw [← hm]
        have hm1 : m ≤ 4700000000000000000 := by omega
        have HM := Lib.hid hm
        clear hrow honly hm
        go_wp2
        go_roundw
        case rel =>
          refine ⟨k + 1, by omega, by go_num, ?_, (World.rowIs.set (World.rowIs.set HR.out (k * 2) (.int .i64 m)) (k * 2 + 1) (.int .i64 (m + 1))).congr (fun j _ => ?_), (HO.out.set _ _).set _ _⟩
          · have := HM.out; congr 1; omega
          · have := HM.out
            by_cases h1 : j = k * 2 + 1
            · subst h1; rw [if_pos rfl, if_pos (by omega)]; congr 1; omega
            · by_cases h2 : j = k * 2
              · subst h2; rw [if_neg h1, if_pos rfl, if_pos (by omega)]; congr 1; omega
              · by_cases h3 : j < 2 * k
                · rw [if_neg h1, if_neg h2, if_pos h3, if_pos (by omega)]
                · rw [if_neg h1, if_neg h2, if_neg h3, if_neg (by omega)]
        case measure => simp [intOf]; omega
      · obtain rfl : k = n := by omega
        obtain ⟨m, hm⟩ : ∃ m : Nat, m = k0 + 2 * k := ⟨_, rfl⟩
        rw [← hm]
        clear hrow honly
        have HM := Lib.hid hm
        clear hm
        go_wp2
        go_ret
        refine ⟨by show Ending.returned (.int .i64 (m : Int)) = _; rw [HM.out], OwnP.of_row hB (pmarks_len _ _) hle HCap.out HR.out (fun j hj => ?_), HO.out⟩
        rw [pmarks_flat hj, if_pos (by omega)]

end Go.Proofs.YtceiocdemhkcdaaGreat.num
