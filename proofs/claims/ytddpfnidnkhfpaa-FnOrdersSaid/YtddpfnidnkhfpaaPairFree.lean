/-
  The program's smallestFree: contract.
-/
import Derived.Test.YtddpfnidnkhfpaaPairProg
import Derived.Test.YtddpfnidnkhfpaaPairSpecE
import Derived.Maps.OwnSet
namespace Go.Proofs.Ytddpfnidnkhfpaa.num
open Go.RowKit Go.Maps
set_option linter.unusedVariables false

theorem bit_none {S : Int → Bool} {v : Int} : bit S v = none ↔ S v = false := by unfold bit; cases S v <;> simp
/-- No value is in it. -/
def Empty (S : Int → Bool) : Prop := ∀ a, (Lit.int .i64 a).wf = true → S a = false
theorem OptSet.len {w : World} {o : Option Nat} {n : Nat} {S : Int → Bool} (h : OptSet w o n S) : ∃ m : Nat, (Builtin.len_ #[54] 3 #[.map o]).run Try.prog w = .ok (.int .i64 m) w ∧ (m = 0 ↔ Empty S) := by
  cases o with
  | none => exact ⟨0, Maps.len_nil Try.underlying54 _, fun _ a _ => h a, fun _ => rfl⟩
  | some b =>
    obtain ⟨m, h1, h2⟩ := MapAt.len h Try.underlying3 keyInt Try.underlying54 3
    refine ⟨m, h1, h2.trans ⟨fun h a ha => bit_none.1 (h a ha), fun h a ha => bit_none.2 (h a ha)⟩⟩

/-- r is the smallest of the values that have come whose set is empty; 9 if there was none. -/
structure MinUp (W : Int → Option (Option Nat)) (S : Int → Int → Bool) (L : Int → Bool) (r : Int) : Prop where
  rng : InR r
  le : ∀ v o, W v = some o → L v = false → Empty (S v) → r ≤ v
  is : r = 9 ∨ ∃ o, W r = some o ∧ Empty (S r)
theorem MinUp.start {W : Int → Option (Option Nat)} {S : Int → Int → Bool} {L : Int → Bool} (h : ∀ v o, W v = some o → L v = true) : MinUp W S L 9 :=
  ⟨by unfold InR; omega, fun v o hv hl _ => (by rw [h v o hv] at hl; cases hl), .inl rfl⟩
theorem MinUp.skip {W : Int → Option (Option Nat)} {S : Int → Int → Bool} {L : Int → Bool} {r x : Int} (h : MinUp W S L r) (hne : ¬ Empty (S x)) : MinUp W S (fun v => L v && !(v == x)) r :=
  ⟨h.rng, fun v o hv hl he => by
    by_cases e : v = x
    · exact absurd (e ▸ he) hne
    · have e' : (v == x) = false := by simpa using e
      simp only [e', Bool.not_false, Bool.and_true] at hl
      exact h.le v o hv hl he, h.is⟩
theorem MinUp.keep {W : Int → Option (Option Nat)} {S : Int → Int → Bool} {L : Int → Bool} {r x : Int} (h : MinUp W S L r) (hx : r ≤ x) : MinUp W S (fun v => L v && !(v == x)) r :=
  ⟨h.rng, fun v o hv hl he => by
    by_cases e : v = x
    · omega
    · have e' : (v == x) = false := by simpa using e
      simp only [e', Bool.not_false, Bool.and_true] at hl
      exact h.le v o hv hl he, h.is⟩
theorem MinUp.take {W : Int → Option (Option Nat)} {S : Int → Int → Bool} {L : Int → Bool} {r x : Int} {o : Option Nat} (h : MinUp W S L r) (hW : W x = some o) (hR : InR x) (he : Empty (S x)) (hx : x < r) : MinUp W S (fun v => L v && !(v == x)) x :=
  ⟨hR, fun v o hv hl he => by
    by_cases e : v = x
    · omega
    · have e' : (v == x) = false := by simpa using e
      simp only [e', Bool.not_false, Bool.and_true] at hl
      have := h.le v o hv hl he
      omega, .inr ⟨o, hW, he⟩⟩

set_option maxHeartbeats 1000000 in
theorem free_of (w : World) (b n n' : Nat) (W : Int → Option (Option Nat)) (S : Int → Int → Bool) (h : OutAt w b n W) (hs : ∀ v o, W v = some o → InR v ∧ OptSet w o n' (S v)) :
    Calls Try.prog 39 #[.map (some b)] w fun e w' => (∃ r : Int, e = .returned (.int .i64 r) ∧ MinUp W S (fun _ => false) r) ∧ w.grownBy w' none := by
  have HS := Lib.hid hs
  clear hs
  go_enter Try.func39, Try.ntmps39
  go_wp2_with (first
    | (at_range; refine wp_range _ rfl _ 50 rfl keyInt Try.underlying50 rfl h ?_; intro w0 L0 cnt0 hrg0 hL0 hc0 hg0 hs0)
    | go_in)
  go_frame
  have HStart := Lib.hid (MinUp.start (W := W) (S := S) (L := L0) fun v o hv => by
    rw [hL0 v (inR_wf (HS.out v o hv).1), hv]; rfl)
  have HR0 := Lib.hid hrg0
  have HG0 := Lib.hid hg0
  clear hrg0 hL0 hc0 hg0 hs0
  go_loopw [3, 8] (fun m _ wr => ∃ (L : Int → Bool) (cnt : Nat) (r : Int), m = .int .i64 r ∧ RangeAt Try.prog 3 refElem wr b w.heap.size n (fun v => (W v).map refLit) L cnt ∧ MinUp W S L r ∧ w.grownBy wr none)
    (fun _ _ wr => wr.rangeLeft b w.heap.size)
  case atStart => exact ⟨_, _, 9, rfl, HR0.out, HStart.out, HG0.out⟩
  case round =>
    clear HR0 HStart HG0
    obtain ⟨L, cnt, r, rfl, hrg, hmin, hgw⟩ := hrel
    have HM := Lib.hid hmin
    have HG := Lib.hid hgw
    clear hmin hgw
    go_wp2_with (first
      | (at_next; refine wp_next_out _ rfl _ rfl rfl hrg ?_ ?_)
      | go_in)
    · intro hl0
      have HL := Lib.hid hl0
      clear hl0
      go_wp2
      go_ret
      refine ⟨⟨_, rfl, HM.out.rng, fun v o hv _ he => HM.out.le v o hv (HL.out v) he, HM.out.is⟩, HG.out⟩
    · intro x w1 cnt1 hcame
      have hW := hcame.elem
      obtain ⟨hxr, hopt⟩ := HS.out x _ hW
      have hG1 := HG.out.andThen hcame.grown (fun j hj => .inl (by cases hj; exact Nat.le_refl _))
      obtain ⟨m, hlen, hm0⟩ := (hopt.kept hG1 (fun b _ => by simp)).len
      have hen := hcame.entry
      have HG1 := Lib.hid hG1
      have HRg := Lib.hid hcame.range
      have HLt := Lib.hid hcame.lt
      have HW := Lib.hid hW
      have HXR := Lib.hid hxr
      have HR := Lib.hid hrg
      have hr0 : 0 ≤ r ∧ r ≤ 9 := HM.out.rng
      have hx0 : 0 ≤ x ∧ x ≤ 9 := hxr
      obtain ⟨hr0, hr1⟩ := hr0
      obtain ⟨hx0, hx1⟩ := hx0
      clear hcame hW hopt hG1 hxr hrg
      by_cases he : m = 0
      · have HE := Lib.hid (hm0.1 he)
        subst he
        clear hm0
        by_cases hlt : x < r
        · go_wp2
          go_roundw
          case rel => exact ⟨_, cnt1, x, by first | rfl | (congr 1; omega), HRg.out, HM.out.take HW.out HXR.out HE.out hlt, HG1.out⟩
          case measure => rw [HRg.out.left_eq, HR.out.left_eq]; exact HLt.out
        · go_wp2
          go_roundw
          case rel => exact ⟨_, cnt1, r, by first | rfl | (congr 1; omega), HRg.out, HM.out.keep (by omega), HG1.out⟩
          case measure => rw [HRg.out.left_eq, HR.out.left_eq]; exact HLt.out
      · have HE := Lib.hid (fun h => he (hm0.2 h) : ¬ Empty (S x))
        have hne : ((m : Int) == 0) = false := by simpa using he
        clear hm0 he
        go_wp2
        go_roundw
        case rel => exact ⟨_, cnt1, r, rfl, HRg.out, HM.out.skip HE.out, HG1.out⟩
        case measure => rw [HRg.out.left_eq, HR.out.left_eq]; exact HLt.out
end Go.Proofs.Ytddpfnidnkhfpaa.num
