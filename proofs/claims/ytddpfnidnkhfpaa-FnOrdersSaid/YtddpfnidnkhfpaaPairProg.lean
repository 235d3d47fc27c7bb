/-
  The program's ArePairs, IsAbove, ClosureOf, HeightOf: contracts.
-/
import Derived.Test.YtddpfnidnkhfpaaPairAbove
import Derived.Test.YtddpfnidnkhfpaaPairSpecD
namespace Go.Proofs.Ytddpfnidnkhfpaa.num
open Go.RowKit Go.Maps
set_option linter.unusedVariables false

/-- Two lookups, one behind the other, in what aboveSets answered. -/
theorem AboveP.look {ps : List (Int × Int)} {B : Nat} {q : Bool} {o : Option Nat} {w : World} (h : AboveP ps B q o w) {v a : Int} (hv : (Lit.int .i64 v).wf = true) (ha : (Lit.int .i64 a).wf = true) :
    ∃ o2, (Instr.lookup 50 (.map o) (.int .i64 v) false).run Try.prog w = .ok (.map o2) w ∧ (Instr.lookup 54 (.map o2) (.int .i64 a) false).run Try.prog w = .ok (.bool (q && rb ps a v)) w := by
  cases q
  · obtain rfl := h.1 rfl
    exact ⟨none, nil_out w v hv, by simpa using nil_look w a ha⟩
  · obtain ⟨b, n, M, rfl, _, hs⟩ := h.2 rfl
    refine ⟨M v, ?_, ?_⟩
    · have := OutAt.look hs.out v hv
      rw [elt_some] at this
      exact this
    · simpa using (hs.opt v).look a ha
theorem iArePairs (w : World) (B : Nat) (A : Option Addr) (n c : Nat) (ps : List (Int × Int)) (hi : Pairs w B A n ps) (hB : B ≤ w.heap.size) (hn : n ≤ 1048576) (q : Bool) (hq : q = true ↔ OkP ps) :
    Calls Try.prog 13 #[.slice A n c] w fun e w' => e = .returned (.bool q) ∧ Below w.heap.size w w' := by
  go_enter Try.func13, Try.ntmps13
  go_wp2_with fail
  refine (above_of w B A n c ps hi hB hn q hq).mono ?_
  rintro e w1 ⟨⟨o, rfl, _⟩, hb1⟩
  go_wp2
  go_ret
  exact ⟨rfl, hb1⟩
theorem iIsAbove (w : World) (B : Nat) (A : Option Addr) (n c : Nat) (ps : List (Int × Int)) (hi : Pairs w B A n ps) (hB : B ≤ w.heap.size) (hn : n ≤ 1048576) (a b : Int) (ha : (Lit.int .i64 a).wf = true) (hb : (Lit.int .i64 b).wf = true) (q : Bool) (hq : q = true ↔ OkP ps ∧ Reach ps a b) :
    Calls Try.prog 15 #[.slice A n c, .int .i64 a, .int .i64 b] w fun e w' => e = .returned (.bool q) ∧ Below w.heap.size w w' := by
  obtain ⟨m, hm⟩ := bool_of (OkP ps)
  have hqm : (m && rb ps a b) = q := by rw [Bool.eq_iff_iff, hq, Bool.and_eq_true, hm, rb_iff]
  go_enter Try.func15, Try.ntmps15
  go_wp2_with fail
  refine (above_of w B A n c ps hi hB hn m hm).mono ?_
  rintro e w1 ⟨⟨o, rfl, hab⟩, hb1⟩
  obtain ⟨o2, e1, e2⟩ := hab.look hb ha
  rw [hqm] at e2
  clear hq hm hqm hab hi
  go_wp2
  go_ret
  exact ⟨rfl, hb1⟩

/-- The closure's first part, if there is one. -/
def cq (ps : List (Int × Int)) (q : Bool) (k : Nat) : List (Int × Int) := if q then clo ps k else []
theorem cq_zero (ps : List (Int × Int)) (q : Bool) : cq ps q 0 = [] := by cases q <;> rfl
theorem cq_succ (ps : List (Int × Int)) (q : Bool) {a b : Nat} (ha : a < 10) (hb : b < 10) : cq ps q (a * 10 + (b + 1)) = if (q && rb ps a b) = true then cq ps q (a * 10 + b) ++ [((a : Int), (b : Int))] else cq ps q (a * 10 + b) := by
  cases q
  · rfl
  · exact clo_succ ps ha hb
theorem cq_len (ps : List (Int × Int)) (q : Bool) (k : Nat) : (cq ps q k).length ≤ 100 := by
  cases q
  · simp [cq]
  · exact clo_len ps k
theorem nat_wf {k : Nat} (h : k ≤ 10) : (Lit.int .i64 (k : Int)).wf = true := WalkArith.wf_i64 (by omega)
theorem OwnP.low {w : World} {B B' : Nat} {v : Value} {l : List (Int × Int)} (h : OwnP w B v l) (hB : B' ≤ B) : OwnP w B' v l :=
  ⟨h.1, h.2.imp id fun ⟨g, cap, cur, h1, h2, h3⟩ => ⟨g, cap, cur, h1, Nat.le_trans hB h2, h3⟩⟩
set_option maxHeartbeats 800000 in
theorem iClosureOf (w : World) (B : Nat) (A : Option Addr) (n c : Nat) (ps : List (Int × Int)) (hi : Pairs w B A n ps) (hB : B ≤ w.heap.size) (hn : n ≤ 1048576) (q : Bool) (hq : q = true ↔ OkP ps) :
    Calls Try.prog 11 #[.slice A n c] w fun e w' => (∃ v, e = .returned v ∧ OwnP w' w.heap.size v (cloOf ps q)) ∧ Below w.heap.size w w' := by
  go_enter Try.func11, Try.ntmps11
  go_wp2_with fail
  refine (above_of w B A n c ps hi hB hn q hq).mono ?_
  rintro e w1 ⟨⟨o, rfl, hab⟩, hb1⟩
  have HA := Lib.hid hab
  have HB1 := Lib.hid hb1
  clear hab hb1 hi hq
  go_wp2
  go_loopw [5, 13] (fun v i wr => ∃ k : Nat, k ≤ 10 ∧ i = .int .i64 k ∧ OwnP wr w1.heap.size v (cq ps q (k * 10)) ∧ Below w1.heap.size w1 wr) (fun _ i _ => 10 - (intOf i).toNat)
  case atStart => exact ⟨0, by decide, rfl, by rw [Nat.zero_mul, cq_zero]; exact OwnP.nil _ _, Below.refl _ _⟩
  case round =>
    obtain ⟨k, hk, rfl, hown, hbel⟩ := hrel
    have HO := Lib.hid hown
    have HBe := Lib.hid hbel
    clear hown hbel
    by_cases hlt : k < 10
    · have hd : decide ((k : Int) < 10) = true := by simp; omega
      go_wp2
      clear hd
      go_loopw [5, 16] (fun v i wr => ∃ j : Nat, j ≤ 10 ∧ i = .int .i64 j ∧ OwnP wr w1.heap.size v (cq ps q (k * 10 + j)) ∧ Below w1.heap.size w1 wr) (fun _ i _ => 10 - (intOf i).toNat)
      case atStart => exact ⟨0, by decide, rfl, HO.out, HBe.out⟩
      case round =>
        clear HO HBe
        obtain ⟨j, hj, rfl, hown, hbel⟩ := hrel
        have HO := Lib.hid hown
        have HBe := Lib.hid hbel
        clear hown hbel
        by_cases hjt : j < 10
        · obtain ⟨o2, e1, e2⟩ := (HA.out.below HBe.out).look (nat_wf hj) (nat_wf hk)
          obtain ⟨r, hr⟩ : ∃ r, r = (q && rb ps k j) := ⟨_, rfl⟩
          rw [← hr] at e2
          have HR := Lib.hid hr.symm
          clear hr
          cases r
          · go_wp2
            go_roundw
            case rel =>
              refine ⟨j + 1, by omega, by go_num, ?_, HBe.out⟩
              rw [cq_succ ps q hlt hjt, HR.out]
              exact HO.out
            case measure => simp [intOf]; omega
          · have H4 : Hid (((cq ps q (k * 10 + j)).length + [((k : Int), (j : Int))].length) * 16 ≤ 140737488355328) := Lib.hid (by
              have := cq_len ps q (k * 10 + j)
              simp only [List.length_cons, List.length_nil]
              omega)
            go_wp2_with (at_builtin; refine wp_appP _ (by rfl) (.tmp 24) (.tmp 28) (by rfl) w1.heap.size _ _ (by rfl) HO.out _ [((k : Int), (j : Int))] (by rfl) 1 1 rfl (by rfl) H4.out HBe.out.size ?_)
            intro v1 w3 hown2 hb2
            have HO2 := Lib.hid hown2
            have HB2 := Lib.hid (HBe.out.trans hb2)
            clear hown2 hb2 e1 e2
            go_wp2
            go_roundw
            case rel =>
              refine ⟨j + 1, by omega, by go_num, ?_, HB2.out⟩
              rw [cq_succ ps q hlt hjt, HR.out]
              exact HO2.out
            case measure => simp [intOf]; omega
        · obtain rfl : j = 10 := by omega
          go_wp2
          go_roundw
          case rel => exact ⟨k + 1, by omega, by go_num, by rw [show (k + 1) * 10 = k * 10 + 10 by omega]; exact HO.out, HBe.out⟩
          case measure => simp [intOf]; omega
    · obtain rfl : k = 10 := by omega
      go_wp2
      go_ret
      exact ⟨⟨_, rfl, HO.out.low HB1.out.size⟩, HB1.out.trans (HBe.out.mono HB1.out.size)⟩
end Go.Proofs.Ytddpfnidnkhfpaa.num
