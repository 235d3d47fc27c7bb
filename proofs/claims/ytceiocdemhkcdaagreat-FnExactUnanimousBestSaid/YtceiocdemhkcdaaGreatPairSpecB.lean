/-
  The model's functions on pairs: contracts. A way along the pairs; what pairs are valid.
-/
import Derived.Test.YtceiocdemhkcdaaGreatPairSpecA
import Derived.Test.YtceiocdemhkcdaaGreatOwnInt
namespace Go.Proofs.YtceiocdemhkcdaaGreat.num
set_option maxRecDepth 20000
open Go.RowKit
set_option linter.unusedVariables false

theorem ownI_one (w : World) (B : Nat) (x : Int) (hB : B ≤ w.heap.size) : OwnI (w.alloc (.cells #[.int .i64 x] 3)) B (.slice (some ⟨w.heap.size, 0, none⟩) 1 1) [x] :=
  ⟨rfl, .inr ⟨w.heap.size, 1, #[.int .i64 x], rfl, hB, heap_alloc_new w _, Nat.le_refl _, by decide, rfl, rfl⟩⟩

/-- The relation of the search's loops. -/
def SeenRel (ps : List (Int × Int)) (a b : Int) (B : Nat) (w : World) (S : List Int) (i k : Nat) (v : Value) (wr : World) : Prop := Seen ps a b S i k ∧ OwnI wr B v S ∧ Below B w wr

theorem reach_of (w : World) (B : Nat) (A : Option Addr) (n c : Nat) (ps : List (Int × Int)) (hi : Pairs w B A n ps) (hB : B ≤ w.heap.size) (h8 : n ≤ 1048576) (a b : Int) (q : Bool) (hq : q = true ↔ Reach ps a b) :
    Calls Tryz.prog 137 #[.slice A n c, .int .i64 a, .int .i64 b] w fun e w' => e = .returned (.bool q) ∧ Below w.heap.size w w' := by
  have HX := Lib.hid hi
  have HQ := Lib.hid hq
  clear hi hq
  go_enter Tryz.func137, Tryz.ntmps137
  go_wp2
  go_loopw [7, 8] (fun v i wr => ∃ (S : List Int) (j : Nat), j ≤ S.length ∧ i = .int .i64 j ∧ SeenRel ps a b w.heap.size w S j 0 v wr) (fun _ i _ => n + 1 - (intOf i).toNat)
  case atStart => exact ⟨[a], 0, Nat.zero_le _, rfl, Seen.start ps a b, ownI_one w _ a (Nat.le_refl _), (Below.refl _ _).alloc (Nat.le_refl _) _⟩
  case round =>
    obtain ⟨S, j, hj, rfl, hS, hown, hbel⟩ := hrel
    have HS := Lib.hid hS
    have HO := Lib.hid hown
    have HB := Lib.hid hbel
    obtain ⟨A1, n1, c1, rfl, hints⟩ := hown.ints
    have HI := Lib.hid hints
    have hn1 : n1 = S.length := hints.1.symm
    have hlen : n1 ≤ n + 1 := by rw [hn1]; have := hS.len; rw [HX.out.1] at this; exact this
    clear hown hS hbel hints
    by_cases hlt : j < n1
    · clear HI
      have HN1 := Lib.hid hn1
      clear hn1
      obtain ⟨wo, hwo⟩ : ∃ wo : World, wo = wr := ⟨_, rfl⟩
      subst hwo
      go_wp2
      go_loopw [7, 9] (fun v i wr => ∃ (S : List Int) (k : Nat), k ≤ n ∧ j < S.length ∧ i = .int .i64 k ∧ SeenRel ps a b w.heap.size w S j k v wr) (fun _ i _ => n - (intOf i).toNat)
      case atStart => exact ⟨S, 0, Nat.zero_le _, by rw [← HN1.out]; exact hlt, rfl, HS.out, HO.out, HB.out⟩
      case round =>
        clear HS HO HB HN1 hj
        obtain ⟨S, k, hk, hjS, rfl, hS, hown, hbel⟩ := hrel
        have HS := Lib.hid hS
        have HO := Lib.hid hown
        have HB := Lib.hid hbel
        obtain ⟨A1, n1, c1, rfl, hints⟩ := hown.ints
        have hn1 : n1 = S.length := hints.1.symm
        have hlen : n1 ≤ n + 1 := by rw [hn1]; have := hS.len; rw [HX.out.1] at this; exact this
        obtain ⟨b2, off2, s, rfl, hb2, hat2, hd1⟩ := hints.at j (by omega)
        have hjn : (j : Int) < (n1 : Int) := by omega
        have HT2 := Lib.hid hat2
        have HI := Lib.hid hints
        have HN1 := Lib.hid hn1
        clear hown hS hat2 hints hn1
        by_cases hlt : k < n
        · obtain ⟨b1, off, x, y, rfl, hb1, hat, hc1, hc2⟩ := HX.out.at k hlt
          have f1 := (hbel.cell (p := ⟨b1, off + k * 2, none⟩) (by exact Nat.lt_of_lt_of_le hb1 hB)).trans hc1
          have f2 := (hbel.cell (p := ⟨b1, off + k * 2 + 1, none⟩) (by exact Nat.lt_of_lt_of_le hb1 hB)).trans hc2
          have HT := Lib.hid hat
          have hkn : (k : Int) < (n : Int) := by omega
          clear hc1 hc2 hat hbel
          by_cases he : x = s
          · subst he
            by_cases hyb : y = b
            · subst hyb
              obtain rfl : q = true := HQ.out.2 (HS.out.hit HT2.out HT.out rfl)
              go_wp2
              go_quiet (fail)
              go_wp2
              go_ret
              exact ⟨rfl, below_drewN HB.out _⟩
            · obtain ⟨m, hm⟩ := bool_of (y ∈ S)
              have HM := Lib.hid hm
              have hyb1 : (y == b) = false := by simpa using hyb
              have HYB := Lib.hid hyb
              clear hm hyb
              go_wp2
              go_quiet (fail)
              go_wp2_with fail
              refine (has_of _ _ _ _ _ S (by have h := HI.out; exact ⟨h.1, h.2⟩) (by omega) y m HM.out).mono ?_
              rintro e w1 ⟨rfl, rfl⟩
              cases m
              · have H4 : Hid ((S.length + [y].length) * 8 ≤ 140737488355328) := Lib.hid (by
                  rw [← HN1.out]
                  simp only [List.length_cons, List.length_nil]
                  omega)
                have HOq := Lib.hid (show OwnI (wr.drewN nq) w.heap.size _ S from HO.out)
                go_wp2_with (at_builtin; refine wp_appI _ (by rfl) (.tmp 49) (.tmp 55) (by rfl) w.heap.size _ S (by rfl) HOq.out _ [y] (by rfl) 1 1 rfl (by rfl) H4.out (below_drewN HB.out _).size ?_)
                intro v1 w2 hown2 hb2
                have HO2 := Lib.hid hown2
                have HB2 := Lib.hid ((below_drewN HB.out _).trans hb2)
                clear hown2 hb2
                go_wp2
                go_roundw
                case rel => exact ⟨S ++ [y], k + 1, by omega, by simp; omega, by go_num, HS.out.more HT2.out HT.out HYB.out (fun h => by have := HM.out.2 h; cases this), HO2.out, HB2.out⟩
                case measure => simp [intOf]; omega
              · go_wp2
                go_roundw
                case rel => exact ⟨S, k + 1, by omega, hjS, by go_num, HS.out.old HT2.out HT.out HYB.out (HM.out.1 (by first | rfl | trivial)), HO.out, below_drewN HB.out _⟩
                case measure => simp [intOf]; omega
          · have hne : (x != s) = true := by simpa using he
            have HE := Lib.hid he
            clear he
            go_wp2
            go_quiet (fail)
            go_wp2
            go_roundw
            case rel => exact ⟨S, k + 1, by omega, hjS, by go_num, HS.out.skip HT2.out HT.out HE.out, HO.out, below_drewN HB.out _⟩
            case measure => simp [intOf]; omega
        · obtain rfl : k = n := by omega
          clear hbel
          go_wp2
          go_roundw
          case rel => exact ⟨S, j + 1, by omega, by go_num, HS.out.next HX.out.1.symm, HO.out, HB.out⟩
          case measure => simp [intOf]; omega
    · have hno := HS.out.fin (by omega)
      obtain rfl : q = false := by
        cases q
        · rfl
        · exact absurd (HQ.out.1 rfl) hno
      clear hno hn1
      go_wp2
      go_ret
      exact ⟨rfl, HB.out⟩
end Go.Proofs.YtceiocdemhkcdaaGreat.num
