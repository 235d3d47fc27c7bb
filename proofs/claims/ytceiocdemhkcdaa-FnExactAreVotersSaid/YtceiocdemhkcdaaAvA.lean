/- Contracts of functions that the laws of this chapter call, packed. -/
import Derived.Test.YtceiocdemhkcdaaWishSpec
import Derived.Test.YtceiocdemhkcdaaPairProg
import Derived.Test.YtceiocdemhkcdaaAscUp
import Derived.Test.YtceiocdemhkcdaaProg
import Derived.WalkKit
import Derived.Test.YtceiocdemhkcdaaWishSpecC
import Derived.Test.YtceiocdemhkcdaaExpEq
import Derived.BigRegion
import Derived.Test.YtceiocdemhkcdaaVotMem
import Derived.Test.YtceiocdemhkcdaaExpSpec
namespace Go.Proofs.Ytceiocdemhkcdaa.num
set_option maxRecDepth 20000
open Go.RowKit Go.Maps
set_option linter.unusedVariables false


theorem iList (w : World) (B : Nat) (A : Option Addr) (n c : Nat) (xs : List Int) (hi : Ints w B A n xs) (hn : n ≤ 1048576) (b : Bool) (hb : b = true ↔ Asc xs) :
    Calls Try.prog 137 #[.slice A n c, .func (.func 136) #[] #[]] w fun e w' => e = .returned (.bool b) ∧ w' = w :=
  iAscV w B A n c xs hi hn b hb

set_option maxRecDepth 20000 in
theorem iOther (w : World) (t : Wi) (hl : t.Ln ≤ 1048576) (hp : t.Pn ≤ 1048576) (q : Bool) (hq : q = true ↔ (t.kind ≠ 2 ∧ t.value ≠ 0) ∨ (t.kind ≠ 3 ∧ t.Ln ≠ 0) ∨ (t.kind ≠ 4 ∧ t.Pn ≠ 0)) :
    Calls Try.prog 135 #[t.val] w fun e w' => e = .returned (.bool q) ∧ Below w.heap.size w w' := by
  obtain ⟨k, f, v, LA, Ln, Lc, ls, PA, Pn, Pc, ps⟩ := t
  unfold Wi.val
  simp only [] at hl hp hq ⊢
  have HW1 : Hid (∀ o : Obj, Below w.heap.size w (w.alloc o)) := Lib.hid fun o => (Below.refl _ w).alloc (Nat.le_refl _) _
  by_cases k2 : k = 2
  · subst k2
    by_cases hL : Ln = 0
    · have hL' : decide (0 < Ln) = false := by simp [hL]
      have hL2 : ¬ ((0 : Int) < (Ln : Int)) := by omega
      by_cases hP : Pn = 0
      · have hP' : decide (0 < Pn) = false := by simp [hP]
        have hP2 : ¬ ((0 : Int) < (Pn : Int)) := by omega
        obtain rfl : q = false := by
          cases q
          · rfl
          · exact absurd (hq.1 rfl) (by omega)
        clear hq hL hP
        go_enter Try.func135, Try.ntmps135
        go_wp2
        go_ret
        exact ⟨by first | rfl | simp, HW1.out _⟩
      · have hP' : decide (0 < Pn) = true := by simp; omega
        have hP2 : (0 : Int) < (Pn : Int) := by omega
        obtain rfl : q = true := hq.2 (by omega)
        clear hq hL hP
        go_enter Try.func135, Try.ntmps135
        go_wp2
        go_ret
        exact ⟨by first | rfl | simp, HW1.out _⟩
    · have hL' : decide (0 < Ln) = true := by simp; omega
      have hL2 : (0 : Int) < (Ln : Int) := by omega
      obtain rfl : q = true := hq.2 (by omega)
      clear hq hL
      go_enter Try.func135, Try.ntmps135
      go_wp2
      go_ret
      exact ⟨by first | rfl | simp, HW1.out _⟩
  · by_cases k3 : k = 3
    · subst k3
      clear k2
      by_cases hv : v = 0
      · have hv' : (v != 0) = false := by simp [hv]
        by_cases hP : Pn = 0
        · have hP' : decide (0 < Pn) = false := by simp [hP]
          have hP2 : ¬ ((0 : Int) < (Pn : Int)) := by omega
          obtain rfl : q = false := by
            cases q
            · rfl
            · exact absurd (hq.1 rfl) (by omega)
          clear hq hv hP
          go_enter Try.func135, Try.ntmps135
          go_wp2
          go_ret
          exact ⟨by first | rfl | simp, HW1.out _⟩
        · have hP' : decide (0 < Pn) = true := by simp; omega
          have hP2 : (0 : Int) < (Pn : Int) := by omega
          obtain rfl : q = true := hq.2 (by omega)
          clear hq hv hP
          go_enter Try.func135, Try.ntmps135
          go_wp2
          go_ret
          exact ⟨by first | rfl | simp, HW1.out _⟩
      · have hv' : (v != 0) = true := by simp [hv]
        obtain rfl : q = true := hq.2 (by omega)
        clear hq hv
        go_enter Try.func135, Try.ntmps135
        go_wp2
        go_ret
        exact ⟨by first | rfl | simp, HW1.out _⟩
    · by_cases k4 : k = 4
      · subst k4
        clear k2 k3
        by_cases hv : v = 0
        · have hv' : (v != 0) = false := by simp [hv]
          by_cases hL : Ln = 0
          · have hL' : decide (0 < Ln) = false := by simp [hL]
            have hL2 : ¬ ((0 : Int) < (Ln : Int)) := by omega
            obtain rfl : q = false := by
              cases q
              · rfl
              · exact absurd (hq.1 rfl) (by omega)
            clear hq hv hL
            go_enter Try.func135, Try.ntmps135
            go_wp2
            go_ret
            exact ⟨by first | rfl | simp, HW1.out _⟩
          · have hL' : decide (0 < Ln) = true := by simp; omega
            have hL2 : (0 : Int) < (Ln : Int) := by omega
            obtain rfl : q = true := hq.2 (by omega)
            clear hq hv hL
            go_enter Try.func135, Try.ntmps135
            go_wp2
            go_ret
            exact ⟨by first | rfl | simp, HW1.out _⟩
        · have hv' : (v != 0) = true := by simp [hv]
          obtain rfl : q = true := hq.2 (by omega)
          clear hq hv
          go_enter Try.func135, Try.ntmps135
          go_wp2
          go_ret
          exact ⟨by first | rfl | simp, HW1.out _⟩
      · have f2 : (k != 2) = true := by simpa using k2
        have f3 : (k != 3) = true := by simpa using k3
        have f4 : (k != 4) = true := by simpa using k4
        by_cases hv : v = 0
        · have hv' : (v != 0) = false := by simp [hv]
          by_cases hL : Ln = 0
          · have hL' : decide (0 < Ln) = false := by simp [hL]
            have hL2 : ¬ ((0 : Int) < (Ln : Int)) := by omega
            by_cases hP : Pn = 0
            · have hP' : decide (0 < Pn) = false := by simp [hP]
              have hP2 : ¬ ((0 : Int) < (Pn : Int)) := by omega
              obtain rfl : q = false := by
                cases q
                · rfl
                · exact absurd (hq.1 rfl) (by omega)
              clear hq k2 k3 k4 hv hL hP
              go_enter Try.func135, Try.ntmps135
              go_wp2
              go_ret
              exact ⟨by first | rfl | simp, HW1.out _⟩
            · have hP' : decide (0 < Pn) = true := by simp; omega
              have hP2 : (0 : Int) < (Pn : Int) := by omega
              obtain rfl : q = true := hq.2 (by omega)
              clear hq k2 k3 k4 hv hL hP
              go_enter Try.func135, Try.ntmps135
              go_wp2
              go_ret
              exact ⟨by first | rfl | simp, HW1.out _⟩
          · have hL' : decide (0 < Ln) = true := by simp; omega
            have hL2 : (0 : Int) < (Ln : Int) := by omega
            obtain rfl : q = true := hq.2 (by omega)
            clear hq k2 k3 k4 hv hL
            go_enter Try.func135, Try.ntmps135
            go_wp2
            go_ret
            exact ⟨by first | rfl | simp, HW1.out _⟩
        · have hv' : (v != 0) = true := by simp [hv]
          obtain rfl : q = true := hq.2 (by omega)
          clear hq k2 k3 k4 hv
          go_enter Try.func135, Try.ntmps135
          go_wp2
          go_ret
          exact ⟨by first | rfl | simp, HW1.out _⟩
end Go.Proofs.Ytceiocdemhkcdaa.num
namespace Go.Proofs.Ytceiocdemhkcdaa.num
set_option maxRecDepth 20000
open Go.RowKit

def nearI (b : Int) : Value := .iface 172 (.agg #[.int .i64 b])
def amongI (A : Option Addr) (n c : Nat) : Value := .iface 174 (.agg #[.slice A n c])
def orderI (o : Option Nat) : Value := .iface 179 (.agg #[.map o])
end Go.Proofs.Ytceiocdemhkcdaa.num
namespace Go.Proofs.Ytceiocdemhkcdaa.num
set_option maxRecDepth 20000
open Go.RowKit Go.Maps
set_option linter.unusedVariables false

/-- v is the taste of the valid wish t. -/
def TasteAt (w : World) (t : Wi) (v : Value) : Prop :=
  (t.kind ≠ 4 ∧ ∃ b, InR b ∧ v = nearI b ∧ ∀ x, InR x → rankW t.dat x = if x < b then b - x else x - b) ∨
  (t.kind ≠ 4 ∧ v = amongI t.LA t.Ln t.Lc ∧ ∀ x, rankW t.dat x = if x ∈ t.ls then 0 else 1) ∨
  (t.kind = 4 ∧ ∃ o B, v = orderI o ∧ AboveP t.ps B true o w)
theorem TasteAt.below {w w' : World} {t : Wi} {v : Value} (h : TasteAt w t v) (hb : Below w.heap.size w w') : TasteAt w' t v := by
  rcases h with h | h | ⟨h, o, B, e, a⟩
  · exact .inl h
  · exact .inr (.inl h)
  · exact .inr (.inr ⟨h, o, B, e, a.below hb⟩)
theorem value_same (v : Int) (q : Bool) (hq : q = true ↔ InR v) (w : World) :
    Calls Try.prog 136 #[.int .i64 v] w fun e w' => e = .returned (.bool q) ∧ w' = w :=
  (isValue_of v q hq w).mono fun _ _ h => ⟨h.1, h.2.symm⟩

/-- .. and what it holds lies from block lo on. -/
def TasteFrom (w : World) (lo : Nat) (t : Wi) (v : Value) : Prop :=
  (t.kind ≠ 4 ∧ ∃ b, InR b ∧ v = nearI b ∧ ∀ x, InR x → rankW t.dat x = if x < b then b - x else x - b) ∨
  (t.kind ≠ 4 ∧ v = amongI t.LA t.Ln t.Lc ∧ ∀ x, rankW t.dat x = if x ∈ t.ls then 0 else 1) ∨
  (t.kind = 4 ∧ ∃ o B, lo ≤ B ∧ v = orderI o ∧ AboveP t.ps B true o w)
theorem TasteFrom.at' {w : World} {lo : Nat} {t : Wi} {v : Value} (h : TasteFrom w lo t v) : TasteAt w t v := by
  rcases h with h | h | ⟨h, o, B, _, e, a⟩
  · exact .inl h
  · exact .inr (.inl h)
  · exact .inr (.inr ⟨h, o, B, e, a⟩)
theorem TasteFrom.low {w : World} {lo lo' : Nat} {t : Wi} {v : Value} (h : TasteFrom w lo t v) (hl : lo' ≤ lo) : TasteFrom w lo' t v := by
  rcases h with h | h | ⟨h, o, B, hB, e, a⟩
  · exact .inl h
  · exact .inr (.inl h)
  · exact .inr (.inr ⟨h, o, B, Nat.le_trans hl hB, e, a⟩)
theorem AboveP.kept {ps : List (Int × Int)} {B : Nat} {q : Bool} {o : Option Nat} {w w' : World} (h : AboveP ps B q o w) (hb : ∀ k, B ≤ k → k < w.heap.size → w'.heap[k]? = w.heap[k]?) : AboveP ps B q o w' :=
  ⟨h.1, fun hq => by
    obtain ⟨b, n, M, h1, h2, h3⟩ := h.2 hq
    exact ⟨b, n, M, h1, h2, MapAt.block h3.out (hb _ h3.low (MapAt.lt h3.out)), h3.low, h3.has, h3.rng, fun v x hx => by
      obtain ⟨g1, g2, g3⟩ := h3.sets v x hx
      exact ⟨g1, g2, MapAt.block g3 (hb _ g1 (MapAt.lt g3))⟩, h3.inj⟩⟩
theorem TasteFrom.kept {w w' : World} {lo : Nat} {t : Wi} {v : Value} (h : TasteFrom w lo t v) (hb : ∀ k, lo ≤ k → k < w.heap.size → w'.heap[k]? = w.heap[k]?) : TasteFrom w' lo t v := by
  rcases h with h | h | ⟨h, o, B, hB, e, a⟩
  · exact .inl h
  · exact .inr (.inl h)
  · exact .inr (.inr ⟨h, o, B, hB, e, a.kept fun k hk => hb k (Nat.le_trans hB hk)⟩)
/-- An interface's value. -/
def IfV (v : Value) : Prop := v = .nilIface ∨ ∃ T x, v = .iface T x
set_option maxRecDepth 20000 in
set_option maxHeartbeats 1600000 in
theorem taste_ofV (w : World) (B : Nat) (t : Wi) (hi : WiIn w B t) (hB : B ≤ w.heap.size) (hn : t.Short) (q : Bool) (hq : q = true ↔ IsW t.dat) :
    Calls Try.prog 124 #[t.val] w fun e w' => (∃ v, e = .returned (.tuple #[v, .bool q]) ∧ (q = true → TasteFrom w' w.heap.size t v) ∧ IfV v) ∧ Below w.heap.size w w' := by
  have HO : Hid (∀ (w1 : World) (p : Bool), (p = true ↔ (t.kind ≠ 2 ∧ t.value ≠ 0) ∨ (t.kind ≠ 3 ∧ t.Ln ≠ 0) ∨ (t.kind ≠ 4 ∧ t.Pn ≠ 0)) → Calls Try.prog 135 #[t.val] w1 fun e w' => e = .returned (.bool p) ∧ Below w1.heap.size w1 w') := Lib.hid fun w1 p hp => iOther w1 t hn.1 hn.2 p hp
  obtain ⟨k, f, v, LA, Ln, Lc, ls, PA, Pn, Pc, ps⟩ := t
  obtain ⟨-, -, -, hl, hp⟩ := hi
  unfold Wi.val at HO ⊢
  simp only [Wi.dat, Wi.Short] at hl hp hn hq HO ⊢
  have HL := Lib.hid hl
  have HP := Lib.hid hp
  have HQ := Lib.hid hq
  have HN := Lib.hid hn
  have HB1 : Hid (∀ o : Obj, Below B w (w.alloc o)) := Lib.hid fun o => (Below.refl B w).alloc hB _
  have HW1 : Hid (∀ o : Obj, Below w.heap.size w (w.alloc o)) := Lib.hid fun o => (Below.refl _ w).alloc (Nat.le_refl _) _
  have HLn : Hid (ls = [] ↔ Ln = 0) := by
    show _ ↔ _
    rw [← hl.1, List.length_eq_zero_iff]
  have HPn : Hid (ps = [] ↔ Pn = 0) := by
    show _ ↔ _
    rw [← hp.1, List.length_eq_zero_iff]
  clear hl hp hq hn
  have HNo : Hid (¬ IsW ⟨k, f, v, ls, ps⟩ → q = false) := Lib.hid fun h => by
    cases q
    · rfl
    · exact absurd (HQ.out.1 rfl) h
  by_cases hf : InF f
  case neg =>
    obtain rfl := HNo.out fun h => hf h.f
    have HFn : Hid (¬ InF f) := Lib.hid hf
    go_enter Try.func124, Try.ntmps124
    go_wp2_with fail
    refine (field_same f false ⟨fun h => (by cases h), fun h => absurd h HFn.out⟩ _).mono ?_
    rintro e w1 ⟨rfl, rfl⟩
    go_wp2
    go_ret2
    first | exact ⟨⟨_, rfl, fun h => (by cases h), .inl rfl⟩, HW1.out _⟩ | exact ⟨⟨_, rfl, .inl rfl⟩, HW1.out _⟩
  have HF : Hid (0 ≤ f ∧ f ≤ 2) := Lib.hid hf
  clear hf
  obtain ⟨p, hp⟩ := bool_of ((k ≠ 2 ∧ v ≠ 0) ∨ (k ≠ 3 ∧ Ln ≠ 0) ∨ (k ≠ 4 ∧ Pn ≠ 0))
  have HPp := Lib.hid hp
  clear hp
  cases p
  · have HK2 : Hid (k ≠ 2 → v = 0) := Lib.hid fun h => by
      by_cases hv : v = 0
      · exact hv
      · have := HPp.out.2 (.inl ⟨h, hv⟩); cases this
    have HK3 : Hid (k ≠ 3 → ls = []) := Lib.hid fun h => by
      by_cases hv : Ln = 0
      · exact HLn.out.2 hv
      · have := HPp.out.2 (.inr (.inl ⟨h, hv⟩)); cases this
    have HK4 : Hid (k ≠ 4 → ps = []) := Lib.hid fun h => by
      by_cases hv : Pn = 0
      · exact HPn.out.2 hv
      · have := HPp.out.2 (.inr (.inr ⟨h, hv⟩)); cases this
    by_cases k0 : k = 0
    · subst k0
      obtain rfl := HQ.out.2 ((isW01 (.inl rfl) HF.out).2 ⟨HK2.out (by decide), HK3.out (by decide), HK4.out (by decide)⟩)
      have HT : Hid (∀ w', TasteFrom w' w.heap.size ⟨0, f, v, LA, Ln, Lc, ls, PA, Pn, Pc, ps⟩ (nearI 0)) := Lib.hid fun w' => .inl ⟨by show (0 : Int) ≠ 4; decide, 0, ⟨by decide, by decide⟩, rfl, fun x hx => by
        have h0 := hx.1
        have h9 := hx.2
        have e : rankW (Wi.dat ⟨0, f, v, LA, Ln, Lc, ls, PA, Pn, Pc, ps⟩) x = x := rfl
        rw [e]
        split <;> omega⟩
      go_enter Try.func124, Try.ntmps124
      go_wp2_with fail
      refine (field_same f true ⟨fun _ => HF.out, fun _ => rfl⟩ _).mono ?_
      rintro e w1 ⟨rfl, rfl⟩
      go_wp2_with fail
      refine (HO.out _ false HPp.out).mono ?_
      rintro e w1 ⟨rfl, hb1⟩
      obtain ⟨c0, c1, c2, c3, c4, hg⟩ := box5 hb1
      have HBB := Lib.hid (And.intro ((HW1.out _).trans (hb1.mono (by simp))) ((HB1.out _).trans (hb1.mono (by simp; omega))))
      clear hb1
      go_wp2
      go_ret2
      exact ⟨⟨_, rfl, fun _ => HT.out _, by first | exact .inl rfl | exact .inr ⟨_, _, rfl⟩⟩, HBB.out.1⟩
    · by_cases k1 : k = 1
      · subst k1
        clear k0
        obtain rfl := HQ.out.2 ((isW01 (.inr rfl) HF.out).2 ⟨HK2.out (by decide), HK3.out (by decide), HK4.out (by decide)⟩)
        have HT : Hid (∀ w', TasteFrom w' w.heap.size ⟨1, f, v, LA, Ln, Lc, ls, PA, Pn, Pc, ps⟩ (nearI 9)) := Lib.hid fun w' => .inl ⟨by show (1 : Int) ≠ 4; decide, 9, ⟨by decide, by decide⟩, rfl, fun x hx => by
          have h0 := hx.1
          have h9 := hx.2
          have e : rankW (Wi.dat ⟨1, f, v, LA, Ln, Lc, ls, PA, Pn, Pc, ps⟩) x = 9 - x := rfl
          rw [e]
          split <;> omega⟩
        go_enter Try.func124, Try.ntmps124
        go_wp2_with fail
        refine (field_same f true ⟨fun _ => HF.out, fun _ => rfl⟩ _).mono ?_
        rintro e w1 ⟨rfl, rfl⟩
        go_wp2_with fail
        refine (HO.out _ false HPp.out).mono ?_
        rintro e w1 ⟨rfl, hb1⟩
        obtain ⟨c0, c1, c2, c3, c4, hg⟩ := box5 hb1
        have HBB := Lib.hid (And.intro ((HW1.out _).trans (hb1.mono (by simp))) ((HB1.out _).trans (hb1.mono (by simp; omega))))
        clear hb1
        go_wp2
        go_ret2
        exact ⟨⟨_, rfl, fun _ => HT.out _, by first | exact .inl rfl | exact .inr ⟨_, _, rfl⟩⟩, HBB.out.1⟩
      · by_cases k2 : k = 2
        · subst k2
          clear k0 k1
          obtain ⟨qv, hqv⟩ := bool_of (InR v)
          obtain rfl : qv = q := by
            rw [Bool.eq_iff_iff, HQ.out, hqv, isW2 HF.out]
            exact ⟨fun h => ⟨h, HK3.out (by decide), HK4.out (by decide)⟩, fun h => h.1⟩
          have HV := Lib.hid hqv
          clear hqv
          go_enter Try.func124, Try.ntmps124
          go_wp2_with fail
          refine (field_same f true ⟨fun _ => HF.out, fun _ => rfl⟩ _).mono ?_
          rintro e w1 ⟨rfl, rfl⟩
          go_wp2_with fail
          refine (HO.out _ false HPp.out).mono ?_
          rintro e w1 ⟨rfl, hb1⟩
          obtain ⟨c0, c1, c2, c3, c4, hg⟩ := box5 hb1
          have HBB := Lib.hid (And.intro ((HW1.out _).trans (hb1.mono (by simp))) ((HB1.out _).trans (hb1.mono (by simp; omega))))
          clear hb1
          go_wp2
          go_quiet ((go_at_call 136; refine Calls.quiet_of_same (value_same v qv HV.out _)))
          go_wp2
          go_ret2
          refine ⟨⟨_, rfl, fun h => .inl ⟨by show (2 : Int) ≠ 4; decide, v, HV.out.1 (by first | exact h | trivial), rfl, fun x hx => rfl⟩, by first | exact .inl rfl | exact .inr ⟨_, _, rfl⟩⟩, below_drewN HBB.out.1 _⟩
        · by_cases k3 : k = 3
          · subst k3
            clear k0 k1 k2
            obtain ⟨ql, hql⟩ := bool_of (Asc ls)
            obtain rfl : ql = q := by
              rw [Bool.eq_iff_iff, HQ.out, hql, isW3 HF.out]
              exact ⟨fun h => ⟨HK2.out (by decide), h, HK4.out (by decide)⟩, fun h => h.2.1⟩
            have HV := Lib.hid hql
            clear hql
            go_enter Try.func124, Try.ntmps124
            go_wp2_with fail
            refine (field_same f true ⟨fun _ => HF.out, fun _ => rfl⟩ _).mono ?_
            rintro e w1 ⟨rfl, rfl⟩
            go_wp2_with fail
            refine (HO.out _ false HPp.out).mono ?_
            rintro e w1 ⟨rfl, hb1⟩
            obtain ⟨c0, c1, c2, c3, c4, hg⟩ := box5 hb1
            have HBB := Lib.hid (And.intro ((HW1.out _).trans (hb1.mono (by simp))) ((HB1.out _).trans (hb1.mono (by simp; omega))))
            clear hb1
            go_wp2
            go_quiet ((go_at_call 137; refine Calls.quiet_of_same (iList _ B LA Ln Lc ls (HL.out.below (below_drewN HBB.out.2 _)) HN.out.1 ql HV.out)))
            go_wp2
            go_ret2
            exact ⟨⟨_, rfl, fun h => .inr (.inl ⟨by show (3 : Int) ≠ 4; decide, rfl, fun x => rfl⟩), by first | exact .inl rfl | exact .inr ⟨_, _, rfl⟩⟩, below_drewN HBB.out.1 _⟩
          · by_cases k4 : k = 4
            · subst k4
              clear k0 k1 k2 k3
              have HV : Hid (q = true ↔ OkP ps) := Lib.hid (by
                rw [HQ.out, isW4 HF.out]
                exact ⟨fun h => h.2.2, fun h => ⟨HK2.out (by decide), HK3.out (by decide), h⟩⟩)
              go_enter Try.func124, Try.ntmps124
              go_wp2_with fail
              refine (field_same f true ⟨fun _ => HF.out, fun _ => rfl⟩ _).mono ?_
              rintro e w1 ⟨rfl, rfl⟩
              go_wp2_with fail
              refine (HO.out _ false HPp.out).mono ?_
              rintro e w1 ⟨rfl, hb1⟩
              obtain ⟨c0, c1, c2, c3, c4, hg⟩ := box5 hb1
              have HBB := Lib.hid (And.intro ((HW1.out _).trans (hb1.mono (by simp))) ((HB1.out _).trans (hb1.mono (by simp; omega))))
              clear hb1
              go_wp2_with fail
              refine (above_of _ B PA Pn Pc ps (HP.out.below HBB.out.2) (by omega) HN.out.2 q HV.out).mono ?_
              rintro e w2 ⟨⟨o, rfl, hab⟩, hb2⟩
              have HAB := Lib.hid hab
              have HSz := Lib.hid HBB.out.1.size
              have HBC := Lib.hid (HBB.out.1.trans (hb2.mono HBB.out.1.size))
              clear hb2 hab c0 c1 c2 c3 c4
              go_wp2
              go_ret2
              exact ⟨⟨_, rfl, fun h => .inr (.inr ⟨rfl, o, _, HSz.out, rfl, h ▸ HAB.out⟩), by first | exact .inl rfl | exact .inr ⟨_, _, rfl⟩⟩, HBC.out⟩
            · have f0 : (k == 0) = false := by simpa using k0
              have f1 : (k == 1) = false := by simpa using k1
              have f2 : (k == 2) = false := by simpa using k2
              have f3 : (k == 3) = false := by simpa using k3
              have f4 : (k == 4) = false := by simpa using k4
              obtain rfl := HNo.out fun h => by have := h.k; dsimp only at this; omega
              clear k0 k1 k2 k3 k4
              go_enter Try.func124, Try.ntmps124
              go_wp2_with fail
              refine (field_same f true ⟨fun _ => HF.out, fun _ => rfl⟩ _).mono ?_
              rintro e w1 ⟨rfl, rfl⟩
              go_wp2_with fail
              refine (HO.out _ false HPp.out).mono ?_
              rintro e w1 ⟨rfl, hb1⟩
              obtain ⟨c0, c1, c2, c3, c4, hg⟩ := box5 hb1
              have HBB := Lib.hid (And.intro ((HW1.out _).trans (hb1.mono (by simp))) ((HB1.out _).trans (hb1.mono (by simp; omega))))
              clear hb1
              go_wp2
              go_ret2
              first | exact ⟨⟨_, rfl, fun h => (by cases h), .inl rfl⟩, HBB.out.1⟩ | exact ⟨⟨_, rfl, .inl rfl⟩, HBB.out.1⟩
  · obtain rfl := HNo.out fun h => by
      have hv := h.v
      have hl := h.l
      have hp := h.p
      dsimp only at hv hl hp
      rcases HPp.out.1 rfl with ⟨h1, h2⟩ | ⟨h1, h2⟩ | ⟨h1, h2⟩
      · rw [if_neg h1] at hv; exact h2 hv
      · rw [if_neg h1] at hl; exact h2 (HLn.out.1 hl)
      · rw [if_neg h1] at hp; exact h2 (HPn.out.1 hp)
    have HPt := Lib.hid (HPp.out.1 rfl)
    clear HPp
    go_enter Try.func124, Try.ntmps124
    go_wp2_with fail
    refine (field_same f true ⟨fun _ => HF.out, fun _ => rfl⟩ _).mono ?_
    rintro e w1 ⟨rfl, rfl⟩
    go_wp2_with fail
    refine (HO.out _ true ⟨fun _ => HPt.out, fun _ => rfl⟩).mono ?_
    rintro e w1 ⟨rfl, hb1⟩
    have HBB := Lib.hid ((HW1.out _).trans (hb1.mono (by simp)))
    clear hb1
    go_wp2
    go_ret2
    first | exact ⟨⟨_, rfl, fun h => (by cases h), .inl rfl⟩, HBB.out⟩ | exact ⟨⟨_, rfl, .inl rfl⟩, HBB.out⟩
theorem taste_of (w : World) (B : Nat) (t : Wi) (hi : WiIn w B t) (hB : B ≤ w.heap.size) (hn : t.Short) (q : Bool) (hq : q = true ↔ IsW t.dat) :
    Calls Try.prog 124 #[t.val] w fun e w' => (∃ v, e = .returned (.tuple #[v, .bool q]) ∧ (q = true → TasteAt w' t v)) ∧ Below w.heap.size w w' :=
  (taste_ofV w B t hi hB hn q hq).mono fun _ _ ⟨⟨v, h1, h2, _⟩, h3⟩ => ⟨⟨v, h1, fun h => (h2 h).at'⟩, h3⟩
end Go.Proofs.Ytceiocdemhkcdaa.num
namespace Go.Proofs.Ytceiocdemhkcdaa.num
set_option maxRecDepth 20000
open Go.RowKit Go.Maps
set_option linter.unusedVariables false
set_option linter.unusedSimpArgs false

/-- A part's row: its node, its taste, its operands. -/
def partRow (op : Int) (t : Wi) (v6 v7 v8 : Value) : Obj := .cells #[.int .i64 op, .int .i64 t.kind, .int .i64 t.field, .int .i64 t.value, .slice t.LA t.Ln t.Lc, .slice t.PA t.Pn t.Pc, v6, v7, v8] 157 (0, 0)
theorem part0 {w : World} {p : Nat} {op : Int} {t : Wi} {v6 v7 v8 : Value} (h : w.heap[p]? = some (partRow op t v6 v7 v8)) : w.cell? ⟨p, 0, none⟩ = some (.int .i64 op) := cell_of_row w _ 0 _ _ (0, 0) h
theorem part2 {w : World} {p : Nat} {op : Int} {t : Wi} {v6 v7 v8 : Value} (h : w.heap[p]? = some (partRow op t v6 v7 v8)) : w.cell? ⟨p, 2, none⟩ = some (.int .i64 t.field) := cell_of_row w _ 2 _ _ (0, 0) h
theorem part6 {w : World} {p : Nat} {op : Int} {t : Wi} {v6 v7 v8 : Value} (h : w.heap[p]? = some (partRow op t v6 v7 v8)) : w.cell? ⟨p, 6, none⟩ = some v6 := cell_of_row w _ 6 _ _ (0, 0) h
theorem part7 {w : World} {p : Nat} {op : Int} {t : Wi} {v6 v7 v8 : Value} (h : w.heap[p]? = some (partRow op t v6 v7 v8)) : w.cell? ⟨p, 7, none⟩ = some v7 := cell_of_row w _ 7 _ _ (0, 0) h
theorem part8 {w : World} {p : Nat} {op : Int} {t : Wi} {v6 v7 v8 : Value} (h : w.heap[p]? = some (partRow op t v6 v7 v8)) : w.cell? ⟨p, 8, none⟩ = some v8 := cell_of_row w _ 8 _ _ (0, 0) h
/-- The tree t lies at block p, all its own memory from block lo on; its wishes' slices below block B. -/
def PartAt (w : World) (B lo : Nat) : Tr → Nat → Prop
  | .base d, p => lo ≤ p ∧ p < w.heap.size ∧ ∃ (t : Wi) (v : Value), w.heap[p]? = some (partRow 0 t v (.pointer none) (.pointer none)) ∧ t.dat = d ∧ t.Short ∧ WiIn w B t ∧ IsW d ∧ TasteFrom w lo t v
  | .dual a, p => lo ≤ p ∧ p < w.heap.size ∧ ∃ (t : Wi) (q : Nat), w.heap[p]? = some (partRow 3 t .nilIface (.pointer (some ⟨q, 0, none⟩)) (.pointer none)) ∧ NoW t.dat ∧ t.Short ∧ WiIn w B t ∧ PartAt w B lo a q
  | .bin op a b, p => lo ≤ p ∧ p < w.heap.size ∧ Bin op ∧ ∃ (t : Wi) (q r : Nat), w.heap[p]? = some (partRow op t .nilIface (.pointer (some ⟨q, 0, none⟩)) (.pointer (some ⟨r, 0, none⟩))) ∧ NoW t.dat ∧ t.Short ∧ WiIn w B t ∧ PartAt w B lo a q ∧ PartAt w B lo b r
theorem WiIn.blocks {w w' : World} {B : Nat} {t : Wi} (h : WiIn w B t) (hb : ∀ k, k < B → w'.heap[k]? = w.heap[k]?) : WiIn w' B t :=
  ⟨h.k, h.f, h.v, ⟨h.l.1, fun k hk => by
    obtain ⟨b, off, ha, hB, hc⟩ := h.l.2 k hk
    exact ⟨b, off, ha, hB, (World.cell?_of_block (a := ⟨b, off + k, none⟩) (hb b hB)).trans hc⟩⟩, ⟨h.p.1, fun k p hk => by
    obtain ⟨b, off, ha, hB, h1, h2⟩ := h.p.2 k p hk
    exact ⟨b, off, ha, hB, (World.cell?_of_block (a := ⟨b, off + k * 2, none⟩) (hb b hB)).trans h1, (World.cell?_of_block (a := ⟨b, off + k * 2 + 1, none⟩) (hb b hB)).trans h2⟩⟩⟩
theorem PartAt.kept {w w' : World} {B lo : Nat} (hsz : w.heap.size ≤ w'.heap.size) (hb : ∀ k, k < B ∨ (lo ≤ k ∧ k < w.heap.size) → w'.heap[k]? = w.heap[k]?) : ∀ {t : Tr} {p : Nat}, PartAt w B lo t p → PartAt w' B lo t p
  | .base d, p, ⟨h0, h1, t, v, h2, h3, h4, h5, h6, h7⟩ => ⟨h0, Nat.lt_of_lt_of_le h1 hsz, t, v, (hb p (.inr ⟨h0, h1⟩)).trans h2, h3, h4, h5.blocks fun k hk => hb k (.inl hk), h6, h7.kept fun k h1 h2 => hb k (.inr ⟨h1, h2⟩)⟩
  | .dual a, p, ⟨h0, h1, t, q, h2, h3, h4, h5, h6⟩ => ⟨h0, Nat.lt_of_lt_of_le h1 hsz, t, q, (hb p (.inr ⟨h0, h1⟩)).trans h2, h3, h4, h5.blocks fun k hk => hb k (.inl hk), PartAt.kept hsz hb h6⟩
  | .bin op a b, p, ⟨h0, h1, h', t, q, r, h2, h3, h4, h5, h6, h7⟩ => ⟨h0, Nat.lt_of_lt_of_le h1 hsz, h', t, q, r, (hb p (.inr ⟨h0, h1⟩)).trans h2, h3, h4, h5.blocks fun k hk => hb k (.inl hk), PartAt.kept hsz hb h6, PartAt.kept hsz hb h7⟩
theorem PartAt.below {w w' : World} {B lo : Nat} (hB : B ≤ w.heap.size) (hb : Below w.heap.size w w') {t : Tr} {p : Nat} (h : PartAt w B lo t p) : PartAt w' B lo t p :=
  h.kept hb.size fun k hk => hb.block k (by rcases hk with hk | hk <;> omega)
theorem PartAt.low {w : World} {B lo lo' : Nat} (hl : lo' ≤ lo) : ∀ {t : Tr} {p : Nat}, PartAt w B lo t p → PartAt w B lo' t p
  | .base d, p, ⟨h0, h1, t, v, h2, h3, h4, h5, h6, h7⟩ => ⟨Nat.le_trans hl h0, h1, t, v, h2, h3, h4, h5, h6, h7.low hl⟩
  | .dual a, p, ⟨h0, h1, t, q, h2, h3, h4, h5, h6⟩ => ⟨Nat.le_trans hl h0, h1, t, q, h2, h3, h4, h5, PartAt.low hl h6⟩
  | .bin op a b, p, ⟨h0, h1, h', t, q, r, h2, h3, h4, h5, h6, h7⟩ => ⟨Nat.le_trans hl h0, h1, h', t, q, r, h2, h3, h4, h5, PartAt.low hl h6, PartAt.low hl h7⟩
theorem PartAt.set {w : World} {B lo : Nat} {t : Tr} {p g j : Nat} {v : Value} (h : PartAt w B lo t p) (h1 : B ≤ g) (h2 : g < lo) : PartAt (w.setCell ⟨g, j, none⟩ v) B lo t p :=
  h.kept (by simp) fun k hk => heap_setCell_other _ _ _ _ (by show k ≠ g; rcases hk with hk | hk <;> omega)
/-- What lastPart hands back of the slice (A, cap c) that holds nds. -/
def LastOut (B lo : Nat) (nds : List ND) (A : Option Addr) (c : Nat) (e : Ending) (w' : World) : Prop :=
  (∃ (t : Tr) (k p : Nat), LastP nds (some (t, k)) ∧ e = .returned (.tuple #[.pointer (some ⟨p, 0, none⟩), .slice A k c]) ∧ PartAt w' B lo t p) ∨ (LastP nds none ∧ e = .returned (.tuple #[.pointer none, .slice none 0 0]))
def zeroW : Wi := ⟨0, 0, 0, none, 0, 0, [], none, 0, 0, []⟩
theorem zeroW_in (w : World) (B : Nat) : WiIn w B zeroW := ⟨rfl, rfl, rfl, ⟨rfl, fun k hk => by cases hk⟩, ⟨rfl, fun k p hk => by simp [zeroW] at hk⟩⟩
theorem now_zero (t : Wi) : NoW t.dat ↔ t.dat = zeroW.dat := by
  constructor
  · intro ⟨h1, h2, h3, h4, h5⟩
    unfold Wi.dat zeroW at *
    simp only at h1 h2 h3 h4 h5
    rw [h1, h2, h3, h4, h5]
  · intro h
    rw [h]
    exact ⟨rfl, rfl, rfl, rfl, rfl⟩
theorem heap_set7 {w : World} {g : Nat} {T : TypeId} {v0 v1 v2 v3 v4 v5 v6 v7 v8 : Value} (h : w.heap[g]? = some (.cells #[v0, v1, v2, v3, v4, v5, v6, v7, v8] T (0, 0))) (u : Value) : (w.setCell ⟨g, 7, none⟩ u).heap[g]? = some (.cells #[v0, v1, v2, v3, v4, v5, v6, u, v8] T (0, 0)) := by
  have := heap_setCell_same w g 7 _ _ u h
  simpa using this
theorem heap_set8 {w : World} {g : Nat} {T : TypeId} {v0 v1 v2 v3 v4 v5 v6 v7 v8 : Value} (h : w.heap[g]? = some (.cells #[v0, v1, v2, v3, v4, v5, v6, v7, v8] T (0, 0))) (u : Value) : (w.setCell ⟨g, 8, none⟩ u).heap[g]? = some (.cells #[v0, v1, v2, v3, v4, v5, v6, v7, u] T (0, 0)) := by
  have := heap_setCell_same w g 8 _ _ u h
  simpa using this
theorem heap_set6 {w : World} {g : Nat} {T : TypeId} {v0 v1 v2 v3 v4 v5 v6 v7 v8 : Value} (h : w.heap[g]? = some (.cells #[v0, v1, v2, v3, v4, v5, v6, v7, v8] T (0, 0))) (u : Value) : (w.setCell ⟨g, 6, none⟩ u).heap[g]? = some (.cells #[v0, v1, v2, v3, v4, v5, u, v7, v8] T (0, 0)) := by
  have := heap_setCell_same w g 6 _ _ u h
  simpa using this

theorem iLast0 (B lo : Nat) (A : Option Addr) (c c' : Nat) (A' : Option Addr) (w : World) :
    Calls Try.prog 106 #[.slice A 0 c] w fun e w' => e = .returned (.tuple #[.pointer none, .slice none 0 0]) ∧ w' = w := by
  go_enter Try.func106, Try.ntmps106
  go_wp2
  go_ret2
  exact ⟨rfl, rfl⟩
set_option maxRecDepth 20000 in
set_option maxHeartbeats 3200000 in
theorem iLast (B : Nat) (A : Option Addr) (c : Nat) (hc : c ≤ 9223372036854775807) : ∀ (n : Nat) (w : World) (ns : List Nd), Nodes w B A n ns → B ≤ w.heap.size → n ≤ c → ShortN ns →
    Calls Try.prog 106 #[.slice A n c] w fun e w' => LastOut B w.heap.size (datN ns) A c e w' ∧ Below w.heap.size w w' := by
  intro n
  induction n using Nat.strongRecOn with
  | _ n ih =>
    intro w ns hi hB hnc hN
    rcases Nat.eq_zero_or_pos n with h0 | h0
    · subst h0
      obtain rfl : ns = [] := List.eq_nil_of_length_eq_zero hi.len
      clear ih hi
      go_enter Try.func106, Try.ntmps106
      go_wp2
      go_ret2
      exact ⟨.inr ⟨lastP_nil, rfl⟩, Below.refl _ _⟩
    · obtain ⟨m, rfl⟩ : ∃ m, n = m + 1 := ⟨n - 1, by omega⟩
      obtain ⟨b, off, ⟨op, t⟩, rfl, hb, hat, hwf, g0, g1, g2, g3, g4, g5⟩ := hi.at m (by omega)
      have HIH : Hid (∀ (k : Nat) (w : World) (ns : List Nd), k ≤ m → Nodes w B (some ⟨b, off, none⟩) k ns → B ≤ w.heap.size → ShortN ns → Calls Try.prog 106 #[.slice (some ⟨b, off, none⟩) k c] w fun e w' => LastOut B w.heap.size (datN ns) (some ⟨b, off, none⟩) c e w' ∧ Below w.heap.size w w') := Lib.hid fun k w ns h1 h2 h3 h4 => ih k (by omega) w ns h2 h3 (by omega) h4
      have HM : Hid (Nodes w B (some ⟨b, off, none⟩) m (ns.take m)) := Lib.hid (hi.take (by omega))
      have HN : Hid (ShortN (ns.take m)) := Lib.hid fun x hx => hN x (List.mem_of_mem_take hx)
      have HWi := Lib.hid hwf.2
      have hE : datN ns = datN (ns.take m) ++ [⟨op, t.dat⟩] := by
        have h := datN_at hat
        rwa [ptake_all hi.len] at h
      have hL : (datN (ns.take m)).length = m := by unfold datN; rw [List.length_map, List.length_take, hi.len]; omega
      have HE := Lib.hid hE
      have HL := Lib.hid hL
      have HSh : Hid t.Short := Lib.hid (hN _ (List.mem_of_getElem? hat))
      dsimp only at g0 g1 g2 g3 g4 g5
      have hx1 : (m : Int) + 1 - 1 = (m : Int) := by omega
      have hx3 : ((m : Int) + 1 == 0) = false := by simp; omega
      have hm1 : (m : Int) < (m : Int) + 1 := by omega
      have hm2 : (m : Int) ≤ (c : Int) := by omega
      clear ih hi hN hwf hE hL hat
      have HW1 : Hid (∀ o : Obj, Below w.heap.size w (w.alloc o).drew) := Lib.hid fun o => ((Below.refl _ w).alloc (Nat.le_refl _) _).drew
      have hvw : t.val = .agg #[.int .i64 t.kind, .int .i64 t.field, .int .i64 t.value, .slice t.LA t.Ln t.Lc, .slice t.PA t.Pn t.Pc] := rfl
      by_cases e0 : op = 0
      · subst e0
        obtain ⟨q, hq⟩ := bool_of (IsW t.dat)
        have HC : Hid (∀ w1, Below w.heap.size w w1 → w.heap.size + 1 ≤ w1.heap.size → Calls Try.prog 124 #[.agg #[.int .i64 t.kind, .int .i64 t.field, .int .i64 t.value, .slice t.LA t.Ln t.Lc, .slice t.PA t.Pn t.Pc]] w1 fun e w' => (∃ v, e = .returned (.tuple #[v, .bool q]) ∧ (q = true → TasteFrom w' (w.heap.size + 1) t v) ∧ IfV v) ∧ Below w1.heap.size w1 w') := Lib.hid fun w1 h h' => by
          rw [← hvw]
          exact (taste_ofV w1 B t (HWi.out.below (h.mono hB)) (Nat.le_trans hB h.size) HSh.out q hq).mono fun _ _ ⟨⟨v, h1, h2, h3⟩, h4⟩ => ⟨⟨v, h1, fun h => (h2 h).low h', h3⟩, h4⟩
        have HQ := Lib.hid hq
        clear hq hvw
        go_enter Try.func106, Try.ntmps106
        go_wp2
        go_region
        go_wp2_with fail
        refine (HC.out _ (HW1.out _) (by simp)).mono ?_
        rintro e w1 ⟨⟨v, rfl, hv, hif⟩, hb1⟩
        have hp : w1.heap[w.heap.size]? = some (.cells #[.int .i64 0, .int .i64 t.kind, .int .i64 t.field, .int .i64 t.value, .slice t.LA t.Ln t.Lc, .slice t.PA t.Pn t.Pc, .nilIface, .pointer none, .pointer none] 157 (0, 0)) := (hb1.block _ (by simp)).trans (heap_alloc_new w _)
        have HP := Lib.hid hp
        have HB := Lib.hid (below_on (HW1.out _) hb1)
        have HS := Lib.hid (Nat.lt_of_lt_of_le (by simp) hb1.size : w.heap.size < w1.heap.size)
        have HV := Lib.hid hv
        have c6 : w1.cell? ⟨w.heap.size, 6, none⟩ = some (.nilIface) := cell_of_row w1 _ 6 _ _ (0, 0) hp
        have z6 : w1.frozen? ⟨w.heap.size, 6, none⟩ = false := frozen_of_row w1 _ 6 _ _ hp
        clear hp hb1 hv HC
        cases q
        · have HLp : Hid (LastP (datN ns) none) := Lib.hid (by rw [HE.out]; exact (lastP_base rfl).2 fun h => by have := HQ.out.2 h; cases this)
          have HBB : Hid (∀ u, Below w.heap.size w (w1.setCell ⟨w.heap.size, 6, none⟩ u)) := Lib.hid fun u => HB.out.setCell (Nat.le_refl _) u
          rcases hif with rfl | ⟨T, x, rfl⟩
          · go_wp2
            go_ret2
            exact ⟨.inr ⟨HLp.out, rfl⟩, HBB.out _⟩
          · go_wp2
            go_ret2
            exact ⟨.inr ⟨HLp.out, rfl⟩, HBB.out _⟩
        · have HW := Lib.hid (HQ.out.1 rfl)
          have HLp : Hid (LastP (datN ns) (some (.base t.dat, m))) := Lib.hid (by rw [HE.out]; have h := (lastP_base (l := datN (ns.take m)) (nd := ⟨0, t.dat⟩) rfl).1 HW.out; rwa [HL.out] at h)
          have HBB : Hid (∀ u, Below w.heap.size w (w1.setCell ⟨w.heap.size, 6, none⟩ u)) := Lib.hid fun u => HB.out.setCell (Nat.le_refl _) u
          have HF : Hid (PartAt (w1.setCell ⟨w.heap.size, 6, none⟩ v) B w.heap.size (.base t.dat) w.heap.size) := Lib.hid (by
            have hp := heap_set6 HP.out v
            refine ⟨Nat.le_refl _, by have := HS.out; simpa using this, t, v, hp, rfl, HSh.out, HWi.out.below ((HBB.out v).mono hB), HW.out, ?_⟩
            rcases HV.out rfl with h | h | ⟨h, o, X, hX, e, a⟩
            · exact .inl h
            · exact .inr (.inl h)
            · refine .inr (.inr ⟨h, o, X, by omega, e, a.kept fun k h1 h2 => heap_setCell_other _ _ _ _ ?_⟩)
              show k ≠ w.heap.size
              omega)
          rcases hif with rfl | ⟨T, x, rfl⟩
          · go_wp2
            go_ret2
            exact ⟨.inl ⟨_, _, _, HLp.out, rfl, HF.out⟩, HBB.out _⟩
          · go_wp2
            go_ret2
            exact ⟨.inl ⟨_, _, _, HLp.out, rfl, HF.out⟩, HBB.out _⟩
      · by_cases e3 : op = 3
        · subst e3
          clear e0
          have hzw : zeroW.val = .agg #[.int .i64 0, .int .i64 0, .int .i64 0, .slice none 0 0, .slice none 0 0] := rfl
          obtain ⟨q, hq⟩ := bool_of (NoW t.dat)
          have HC : Hid (∀ w1, Below w.heap.size w w1 → Calls Try.prog 125 #[.agg #[.int .i64 t.kind, .int .i64 t.field, .int .i64 t.value, .slice t.LA t.Ln t.Lc, .slice t.PA t.Pn t.Pc], .agg #[.int .i64 0, .int .i64 0, .int .i64 0, .slice none 0 0, .slice none 0 0]] w1 fun e w' => e = .returned (.bool q) ∧ Below w1.heap.size w1 w') := Lib.hid fun w1 h => by
            rw [← hvw, ← hzw]
            exact iSameWish w1 B t zeroW (HWi.out.below (h.mono hB)) (zeroW_in _ _) (Nat.le_trans hB h.size) HSh.out q (by rw [hq, now_zero])
          have HQ := Lib.hid hq
          clear hq hvw hzw
          go_enter Try.func106, Try.ntmps106
          go_wp2
          go_region
          go_wp2_with fail
          refine (HIH.out m _ (ns.take m) (Nat.le_refl _) (HM.out.below ((HW1.out _).mono hB)) (Nat.le_trans hB (HW1.out _).size) HN.out).mono ?_
          rintro e w1 ⟨hout, hb1⟩
          have HPr : Hid (w1.heap[w.heap.size]? = some (.cells #[.int .i64 3, .int .i64 t.kind, .int .i64 t.field, .int .i64 t.value, .slice t.LA t.Ln t.Lc, .slice t.PA t.Pn t.Pc, .nilIface, .pointer none, .pointer none] 157 (0, 0))) := Lib.hid ((hb1.block _ (by simp)).trans (heap_alloc_new w _))
          have HBr := Lib.hid (below_on (HW1.out _) hb1)
          clear hb1
          rcases hout with ⟨ta, k, s, hl, rfl, hpa⟩ | ⟨hl, rfl⟩
          · have HLa := Lib.hid hl
            have HPa := Lib.hid hpa
            clear hl hpa
            have c0 : w1.cell? ⟨w.heap.size, 0, none⟩ = some (.int .i64 3) := cell_of_row w1 _ 0 _ _ (0, 0) HPr.out
            have c1 : w1.cell? ⟨w.heap.size, 1, none⟩ = some (.int .i64 t.kind) := cell_of_row w1 _ 1 _ _ (0, 0) HPr.out
            have c2 : w1.cell? ⟨w.heap.size, 2, none⟩ = some (.int .i64 t.field) := cell_of_row w1 _ 2 _ _ (0, 0) HPr.out
            have c3 : w1.cell? ⟨w.heap.size, 3, none⟩ = some (.int .i64 t.value) := cell_of_row w1 _ 3 _ _ (0, 0) HPr.out
            have c4 : w1.cell? ⟨w.heap.size, 4, none⟩ = some (.slice t.LA t.Ln t.Lc) := cell_of_row w1 _ 4 _ _ (0, 0) HPr.out
            have c5 : w1.cell? ⟨w.heap.size, 5, none⟩ = some (.slice t.PA t.Pn t.Pc) := cell_of_row w1 _ 5 _ _ (0, 0) HPr.out
            have c7 : w1.cell? ⟨w.heap.size, 7, none⟩ = some (.pointer none) := cell_of_row w1 _ 7 _ _ (0, 0) HPr.out
            have z7 : w1.frozen? ⟨w.heap.size, 7, none⟩ = false := frozen_of_row w1 _ 7 _ _ HPr.out
            have HB7 : Hid (∀ u, Below w.heap.size w (w1.setCell ⟨w.heap.size, 7, none⟩ u)) := Lib.hid fun u => HBr.out.setCell (Nat.le_refl _) u
            go_wp2_with fail
            refine (HC.out _ (HB7.out _)).mono ?_
            rintro e w9 ⟨rfl, hb9⟩
            have HB9 := Lib.hid (below_on (HB7.out _) hb9)
            have HD9 := Lib.hid hb9
            clear c0 c1 c2 c3 c4 c5 c7 z7
            clear hb9 HC
            cases q
            · have HLp : Hid (LastP (datN ns) none) := Lib.hid (by rw [HE.out]; exact lastP_now_no (by show (3 : Int) ≠ 0; decide) fun h => by have := HQ.out.2 h; cases this)
              go_wp2
              go_ret2
              exact ⟨.inr ⟨HLp.out, rfl⟩, HB9.out⟩
            · have HW := Lib.hid (HQ.out.1 rfl)
              have HLp : Hid (LastP (datN ns) (some (.dual ta, k))) := Lib.hid (by rw [HE.out]; exact lastP_dual rfl HW.out HLa.out)
              have HF : Hid (PartAt w9 B w.heap.size (.dual ta) w.heap.size) := Lib.hid (by
                have hp := heap_set7 HPr.out (.pointer (some ⟨s, 0, none⟩))
                have hlt := lt_of_block hp
                refine ⟨Nat.le_refl _, Nat.lt_of_lt_of_le hlt HD9.out.size, t, s, (HD9.out.block _ hlt).trans hp, HW.out, HSh.out, HWi.out.below (HB9.out.mono hB), ?_⟩
                exact ((HPa.out.set hB (by simp)).below (Nat.le_trans hB (HB7.out _).size) HD9.out).low (by simp))
              go_wp2
              go_ret2
              exact ⟨.inl ⟨_, _, _, HLp.out, rfl, HF.out⟩, HB9.out⟩
          · have HLa := Lib.hid hl
            clear hl
            have c7 : w1.cell? ⟨w.heap.size, 7, none⟩ = some (.pointer none) := cell_of_row w1 _ 7 _ _ (0, 0) HPr.out
            have z7 : w1.frozen? ⟨w.heap.size, 7, none⟩ = false := frozen_of_row w1 _ 7 _ _ HPr.out
            have HLp : Hid (LastP (datN ns) none) := Lib.hid (by rw [HE.out]; exact lastP_dual_no rfl HLa.out)
            have HB7 : Hid (∀ u, Below w.heap.size w (w1.setCell ⟨w.heap.size, 7, none⟩ u)) := Lib.hid fun u => HBr.out.setCell (Nat.le_refl _) u
            go_wp2
            go_ret2
            exact ⟨.inr ⟨HLp.out, rfl⟩, HB7.out _⟩
        · by_cases eb : op = 1 ∨ op = 2 ∨ op = 4
          · have HBin : Hid (Bin op) := Lib.hid eb
            rcases eb with rfl | rfl | rfl
            · have hzw : zeroW.val = .agg #[.int .i64 0, .int .i64 0, .int .i64 0, .slice none 0 0, .slice none 0 0] := rfl
              obtain ⟨q, hq⟩ := bool_of (NoW t.dat)
              have HC : Hid (∀ w1, Below w.heap.size w w1 → Calls Try.prog 125 #[.agg #[.int .i64 t.kind, .int .i64 t.field, .int .i64 t.value, .slice t.LA t.Ln t.Lc, .slice t.PA t.Pn t.Pc], .agg #[.int .i64 0, .int .i64 0, .int .i64 0, .slice none 0 0, .slice none 0 0]] w1 fun e w' => e = .returned (.bool q) ∧ Below w1.heap.size w1 w') := Lib.hid fun w1 h => by
                rw [← hvw, ← hzw]
                exact iSameWish w1 B t zeroW (HWi.out.below (h.mono hB)) (zeroW_in _ _) (Nat.le_trans hB h.size) HSh.out q (by rw [hq, now_zero])
              have HQ := Lib.hid hq
              clear hq hvw hzw
              go_enter Try.func106, Try.ntmps106
              go_wp2
              go_region
              go_wp2_with fail
              refine (HIH.out m _ (ns.take m) (Nat.le_refl _) (HM.out.below ((HW1.out _).mono hB)) (Nat.le_trans hB (HW1.out _).size) HN.out).mono ?_
              rintro e w1 ⟨hout, hb1⟩
              have HPr : Hid (w1.heap[w.heap.size]? = some (.cells #[.int .i64 1, .int .i64 t.kind, .int .i64 t.field, .int .i64 t.value, .slice t.LA t.Ln t.Lc, .slice t.PA t.Pn t.Pc, .nilIface, .pointer none, .pointer none] 157 (0, 0))) := Lib.hid ((hb1.block _ (by simp)).trans (heap_alloc_new w _))
              have HBr := Lib.hid (below_on (HW1.out _) hb1)
              clear hb1
              rcases hout with ⟨tb, k2, r, hl, rfl, hpb⟩ | ⟨hl, rfl⟩
              · have HLb := Lib.hid hl
                have HPb := Lib.hid hpb
                have hk2 : k2 ≤ m := by have := hl.lt; rw [HL.out] at this; omega
                clear hl hpb
                have c8 : w1.cell? ⟨w.heap.size, 8, none⟩ = some (.pointer none) := cell_of_row w1 _ 8 _ _ (0, 0) HPr.out
                have z8 : w1.frozen? ⟨w.heap.size, 8, none⟩ = false := frozen_of_row w1 _ 8 _ _ HPr.out
                have HP8 := Lib.hid (heap_set8 HPr.out (.pointer (some ⟨r, 0, none⟩)))
                have HB8 : Hid (∀ u, Below w.heap.size w (w1.setCell ⟨w.heap.size, 8, none⟩ u)) := Lib.hid fun u => HBr.out.setCell (Nat.le_refl _) u
                have HPb8 : Hid (∀ u, PartAt (w1.setCell ⟨w.heap.size, 8, none⟩ u) B (w.heap.size + 1) tb r) := Lib.hid fun u => by have := HPb.out.set (g := w.heap.size) (j := 8) (v := u) hB (by simp); simpa using this
                clear HPr HBr HPb
                go_wp2_with fail
                refine (HIH.out k2 _ ((ns.take m).take k2) hk2 ((HM.out.take hk2).below ((HB8.out _).mono hB)) (Nat.le_trans hB (HB8.out _).size) (fun x hx => HN.out x (List.mem_of_mem_take hx))).mono ?_
                rintro e w2 ⟨hout, hb2⟩
                have HPr : Hid (w2.heap[w.heap.size]? = some (.cells #[.int .i64 1, .int .i64 t.kind, .int .i64 t.field, .int .i64 t.value, .slice t.LA t.Ln t.Lc, .slice t.PA t.Pn t.Pc, .nilIface, .pointer none, .pointer (some ⟨r, 0, none⟩)] 157 (0, 0))) := Lib.hid ((hb2.block _ (lt_of_block HP8.out)).trans HP8.out)
                have HBr := Lib.hid (below_on (HB8.out _) hb2)
                have HPb2 : Hid (PartAt w2 B (w.heap.size + 1) tb r) := Lib.hid ((HPb8.out _).below (Nat.le_trans hB (HB8.out _).size) hb2)
                have hlo : w.heap.size + 1 ≤ (w1.setCell ⟨w.heap.size, 8, none⟩ (.pointer (some ⟨r, 0, none⟩))).heap.size := lt_of_block HP8.out
                have HLo := Lib.hid hlo
                have HTk : Hid (datN ((ns.take m).take k2) = (datN (ns.take m)).take k2) := Lib.hid (by unfold datN; rw [List.map_take])
                clear hb2 hlo HP8 HB8 HPb8
                clear c8 z8
                rcases hout with ⟨ta, k, s, hl, rfl, hpa⟩ | ⟨hl, rfl⟩
                · have HLa := Lib.hid hl
                  have HPa := Lib.hid (hpa.low HLo.out)
                  clear hl hpa
                  have c0 : w2.cell? ⟨w.heap.size, 0, none⟩ = some (.int .i64 1) := cell_of_row w2 _ 0 _ _ (0, 0) HPr.out
                  have c1 : w2.cell? ⟨w.heap.size, 1, none⟩ = some (.int .i64 t.kind) := cell_of_row w2 _ 1 _ _ (0, 0) HPr.out
                  have c2 : w2.cell? ⟨w.heap.size, 2, none⟩ = some (.int .i64 t.field) := cell_of_row w2 _ 2 _ _ (0, 0) HPr.out
                  have c3 : w2.cell? ⟨w.heap.size, 3, none⟩ = some (.int .i64 t.value) := cell_of_row w2 _ 3 _ _ (0, 0) HPr.out
                  have c4 : w2.cell? ⟨w.heap.size, 4, none⟩ = some (.slice t.LA t.Ln t.Lc) := cell_of_row w2 _ 4 _ _ (0, 0) HPr.out
                  have c5 : w2.cell? ⟨w.heap.size, 5, none⟩ = some (.slice t.PA t.Pn t.Pc) := cell_of_row w2 _ 5 _ _ (0, 0) HPr.out
                  have c7 : w2.cell? ⟨w.heap.size, 7, none⟩ = some (.pointer none) := cell_of_row w2 _ 7 _ _ (0, 0) HPr.out
                  have z7 : w2.frozen? ⟨w.heap.size, 7, none⟩ = false := frozen_of_row w2 _ 7 _ _ HPr.out
                  have HB7 : Hid (∀ u, Below w.heap.size w (w2.setCell ⟨w.heap.size, 7, none⟩ u)) := Lib.hid fun u => HBr.out.setCell (Nat.le_refl _) u
                  go_wp2_with fail
                  refine (HC.out _ (HB7.out _)).mono ?_
                  rintro e w9 ⟨rfl, hb9⟩
                  have HB9 := Lib.hid (below_on (HB7.out _) hb9)
                  have HD9 := Lib.hid hb9
                  clear c0 c1 c2 c3 c4 c5 c7 z7
                  clear hb9 HC
                  cases q
                  · have HLp : Hid (LastP (datN ns) none) := Lib.hid (by rw [HE.out]; exact lastP_now_no (by show (1 : Int) ≠ 0; decide) fun h => by have := HQ.out.2 h; cases this)
                    go_wp2
                    go_ret2
                    exact ⟨.inr ⟨HLp.out, rfl⟩, HB9.out⟩
                  · have HW := Lib.hid (HQ.out.1 rfl)
                    have HLp : Hid (LastP (datN ns) (some (.bin 1 ta tb, k))) := Lib.hid (by rw [HE.out]; exact lastP_bin HBin.out HW.out HLb.out (HTk.out ▸ HLa.out))
                    have HF : Hid (PartAt w9 B w.heap.size (.bin 1 ta tb) w.heap.size) := Lib.hid (by
                      have hp := heap_set7 HPr.out (.pointer (some ⟨s, 0, none⟩))
                      have hlt := lt_of_block hp
                      refine ⟨Nat.le_refl _, Nat.lt_of_lt_of_le hlt HD9.out.size, HBin.out, t, s, r, (HD9.out.block _ hlt).trans hp, HW.out, HSh.out, HWi.out.below (HB9.out.mono hB), ?_, ?_⟩
                      · exact ((HPa.out.set hB (by omega)).below (Nat.le_trans hB (HB7.out _).size) HD9.out).low (by omega)
                      · exact ((HPb2.out.set hB (by omega)).below (Nat.le_trans hB (HB7.out _).size) HD9.out).low (by omega))
                    go_wp2
                    go_ret2
                    exact ⟨.inl ⟨_, _, _, HLp.out, rfl, HF.out⟩, HB9.out⟩
                · have HLa := Lib.hid hl
                  clear hl
                  have c7 : w2.cell? ⟨w.heap.size, 7, none⟩ = some (.pointer none) := cell_of_row w2 _ 7 _ _ (0, 0) HPr.out
                  have z7 : w2.frozen? ⟨w.heap.size, 7, none⟩ = false := frozen_of_row w2 _ 7 _ _ HPr.out
                  have HLp : Hid (LastP (datN ns) none) := Lib.hid (by rw [HE.out]; exact lastP_bin_no1 HBin.out HLb.out (HTk.out ▸ HLa.out))
                  have HB7 : Hid (∀ u, Below w.heap.size w (w2.setCell ⟨w.heap.size, 7, none⟩ u)) := Lib.hid fun u => HBr.out.setCell (Nat.le_refl _) u
                  go_wp2
                  go_ret2
                  exact ⟨.inr ⟨HLp.out, rfl⟩, HB7.out _⟩
              · have HLa := Lib.hid hl
                clear hl
                have c8 : w1.cell? ⟨w.heap.size, 8, none⟩ = some (.pointer none) := cell_of_row w1 _ 8 _ _ (0, 0) HPr.out
                have z8 : w1.frozen? ⟨w.heap.size, 8, none⟩ = false := frozen_of_row w1 _ 8 _ _ HPr.out
                have HP8 := Lib.hid (heap_set8 HPr.out (.pointer none))
                have HB8 : Hid (∀ u, Below w.heap.size w (w1.setCell ⟨w.heap.size, 8, none⟩ u)) := Lib.hid fun u => HBr.out.setCell (Nat.le_refl _) u
                clear HPr HBr
                go_wp2_with fail
                refine (iLast0 B 0 none 0 0 none _).mono ?_
                rintro e w2 ⟨rfl, hw2⟩
                have HPr : Hid (w2.heap[w.heap.size]? = some (.cells #[.int .i64 1, .int .i64 t.kind, .int .i64 t.field, .int .i64 t.value, .slice t.LA t.Ln t.Lc, .slice t.PA t.Pn t.Pc, .nilIface, .pointer none, .pointer none] 157 (0, 0))) := Lib.hid (by rw [hw2]; exact HP8.out)
                have HBr : Hid (Below w.heap.size w w2) := Lib.hid (by rw [hw2]; exact HB8.out _)
                clear hw2 HP8 HB8
                clear c8 z8
                have c7 : w2.cell? ⟨w.heap.size, 7, none⟩ = some (.pointer none) := cell_of_row w2 _ 7 _ _ (0, 0) HPr.out
                have z7 : w2.frozen? ⟨w.heap.size, 7, none⟩ = false := frozen_of_row w2 _ 7 _ _ HPr.out
                have HLp : Hid (LastP (datN ns) none) := Lib.hid (by rw [HE.out]; exact lastP_bin_no2 HBin.out HLa.out)
                have HB7 : Hid (∀ u, Below w.heap.size w (w2.setCell ⟨w.heap.size, 7, none⟩ u)) := Lib.hid fun u => HBr.out.setCell (Nat.le_refl _) u
                go_wp2
                go_ret2
                exact ⟨.inr ⟨HLp.out, rfl⟩, HB7.out _⟩
            · have hzw : zeroW.val = .agg #[.int .i64 0, .int .i64 0, .int .i64 0, .slice none 0 0, .slice none 0 0] := rfl
              obtain ⟨q, hq⟩ := bool_of (NoW t.dat)
              have HC : Hid (∀ w1, Below w.heap.size w w1 → Calls Try.prog 125 #[.agg #[.int .i64 t.kind, .int .i64 t.field, .int .i64 t.value, .slice t.LA t.Ln t.Lc, .slice t.PA t.Pn t.Pc], .agg #[.int .i64 0, .int .i64 0, .int .i64 0, .slice none 0 0, .slice none 0 0]] w1 fun e w' => e = .returned (.bool q) ∧ Below w1.heap.size w1 w') := Lib.hid fun w1 h => by
                rw [← hvw, ← hzw]
                exact iSameWish w1 B t zeroW (HWi.out.below (h.mono hB)) (zeroW_in _ _) (Nat.le_trans hB h.size) HSh.out q (by rw [hq, now_zero])
              have HQ := Lib.hid hq
              clear hq hvw hzw
              go_enter Try.func106, Try.ntmps106
              go_wp2
              go_region
              go_wp2_with fail
              refine (HIH.out m _ (ns.take m) (Nat.le_refl _) (HM.out.below ((HW1.out _).mono hB)) (Nat.le_trans hB (HW1.out _).size) HN.out).mono ?_
              rintro e w1 ⟨hout, hb1⟩
              have HPr : Hid (w1.heap[w.heap.size]? = some (.cells #[.int .i64 2, .int .i64 t.kind, .int .i64 t.field, .int .i64 t.value, .slice t.LA t.Ln t.Lc, .slice t.PA t.Pn t.Pc, .nilIface, .pointer none, .pointer none] 157 (0, 0))) := Lib.hid ((hb1.block _ (by simp)).trans (heap_alloc_new w _))
              have HBr := Lib.hid (below_on (HW1.out _) hb1)
              clear hb1
              rcases hout with ⟨tb, k2, r, hl, rfl, hpb⟩ | ⟨hl, rfl⟩
              · have HLb := Lib.hid hl
                have HPb := Lib.hid hpb
                have hk2 : k2 ≤ m := by have := hl.lt; rw [HL.out] at this; omega
                clear hl hpb
                have c8 : w1.cell? ⟨w.heap.size, 8, none⟩ = some (.pointer none) := cell_of_row w1 _ 8 _ _ (0, 0) HPr.out
                have z8 : w1.frozen? ⟨w.heap.size, 8, none⟩ = false := frozen_of_row w1 _ 8 _ _ HPr.out
                have HP8 := Lib.hid (heap_set8 HPr.out (.pointer (some ⟨r, 0, none⟩)))
                have HB8 : Hid (∀ u, Below w.heap.size w (w1.setCell ⟨w.heap.size, 8, none⟩ u)) := Lib.hid fun u => HBr.out.setCell (Nat.le_refl _) u
                have HPb8 : Hid (∀ u, PartAt (w1.setCell ⟨w.heap.size, 8, none⟩ u) B (w.heap.size + 1) tb r) := Lib.hid fun u => by have := HPb.out.set (g := w.heap.size) (j := 8) (v := u) hB (by simp); simpa using this
                clear HPr HBr HPb
                go_wp2_with fail
                refine (HIH.out k2 _ ((ns.take m).take k2) hk2 ((HM.out.take hk2).below ((HB8.out _).mono hB)) (Nat.le_trans hB (HB8.out _).size) (fun x hx => HN.out x (List.mem_of_mem_take hx))).mono ?_
                rintro e w2 ⟨hout, hb2⟩
                have HPr : Hid (w2.heap[w.heap.size]? = some (.cells #[.int .i64 2, .int .i64 t.kind, .int .i64 t.field, .int .i64 t.value, .slice t.LA t.Ln t.Lc, .slice t.PA t.Pn t.Pc, .nilIface, .pointer none, .pointer (some ⟨r, 0, none⟩)] 157 (0, 0))) := Lib.hid ((hb2.block _ (lt_of_block HP8.out)).trans HP8.out)
                have HBr := Lib.hid (below_on (HB8.out _) hb2)
                have HPb2 : Hid (PartAt w2 B (w.heap.size + 1) tb r) := Lib.hid ((HPb8.out _).below (Nat.le_trans hB (HB8.out _).size) hb2)
                have hlo : w.heap.size + 1 ≤ (w1.setCell ⟨w.heap.size, 8, none⟩ (.pointer (some ⟨r, 0, none⟩))).heap.size := lt_of_block HP8.out
                have HLo := Lib.hid hlo
                have HTk : Hid (datN ((ns.take m).take k2) = (datN (ns.take m)).take k2) := Lib.hid (by unfold datN; rw [List.map_take])
                clear hb2 hlo HP8 HB8 HPb8
                clear c8 z8
                rcases hout with ⟨ta, k, s, hl, rfl, hpa⟩ | ⟨hl, rfl⟩
                · have HLa := Lib.hid hl
                  have HPa := Lib.hid (hpa.low HLo.out)
                  clear hl hpa
                  have c0 : w2.cell? ⟨w.heap.size, 0, none⟩ = some (.int .i64 2) := cell_of_row w2 _ 0 _ _ (0, 0) HPr.out
                  have c1 : w2.cell? ⟨w.heap.size, 1, none⟩ = some (.int .i64 t.kind) := cell_of_row w2 _ 1 _ _ (0, 0) HPr.out
                  have c2 : w2.cell? ⟨w.heap.size, 2, none⟩ = some (.int .i64 t.field) := cell_of_row w2 _ 2 _ _ (0, 0) HPr.out
                  have c3 : w2.cell? ⟨w.heap.size, 3, none⟩ = some (.int .i64 t.value) := cell_of_row w2 _ 3 _ _ (0, 0) HPr.out
                  have c4 : w2.cell? ⟨w.heap.size, 4, none⟩ = some (.slice t.LA t.Ln t.Lc) := cell_of_row w2 _ 4 _ _ (0, 0) HPr.out
                  have c5 : w2.cell? ⟨w.heap.size, 5, none⟩ = some (.slice t.PA t.Pn t.Pc) := cell_of_row w2 _ 5 _ _ (0, 0) HPr.out
                  have c7 : w2.cell? ⟨w.heap.size, 7, none⟩ = some (.pointer none) := cell_of_row w2 _ 7 _ _ (0, 0) HPr.out
                  have z7 : w2.frozen? ⟨w.heap.size, 7, none⟩ = false := frozen_of_row w2 _ 7 _ _ HPr.out
                  have HB7 : Hid (∀ u, Below w.heap.size w (w2.setCell ⟨w.heap.size, 7, none⟩ u)) := Lib.hid fun u => HBr.out.setCell (Nat.le_refl _) u
                  go_wp2_with fail
                  refine (HC.out _ (HB7.out _)).mono ?_
                  rintro e w9 ⟨rfl, hb9⟩
                  have HB9 := Lib.hid (below_on (HB7.out _) hb9)
                  have HD9 := Lib.hid hb9
                  clear c0 c1 c2 c3 c4 c5 c7 z7
                  clear hb9 HC
                  cases q
                  · have HLp : Hid (LastP (datN ns) none) := Lib.hid (by rw [HE.out]; exact lastP_now_no (by show (2 : Int) ≠ 0; decide) fun h => by have := HQ.out.2 h; cases this)
                    go_wp2
                    go_ret2
                    exact ⟨.inr ⟨HLp.out, rfl⟩, HB9.out⟩
                  · have HW := Lib.hid (HQ.out.1 rfl)
                    have HLp : Hid (LastP (datN ns) (some (.bin 2 ta tb, k))) := Lib.hid (by rw [HE.out]; exact lastP_bin HBin.out HW.out HLb.out (HTk.out ▸ HLa.out))
                    have HF : Hid (PartAt w9 B w.heap.size (.bin 2 ta tb) w.heap.size) := Lib.hid (by
                      have hp := heap_set7 HPr.out (.pointer (some ⟨s, 0, none⟩))
                      have hlt := lt_of_block hp
                      refine ⟨Nat.le_refl _, Nat.lt_of_lt_of_le hlt HD9.out.size, HBin.out, t, s, r, (HD9.out.block _ hlt).trans hp, HW.out, HSh.out, HWi.out.below (HB9.out.mono hB), ?_, ?_⟩
                      · exact ((HPa.out.set hB (by omega)).below (Nat.le_trans hB (HB7.out _).size) HD9.out).low (by omega)
                      · exact ((HPb2.out.set hB (by omega)).below (Nat.le_trans hB (HB7.out _).size) HD9.out).low (by omega))
                    go_wp2
                    go_ret2
                    exact ⟨.inl ⟨_, _, _, HLp.out, rfl, HF.out⟩, HB9.out⟩
                · have HLa := Lib.hid hl
                  clear hl
                  have c7 : w2.cell? ⟨w.heap.size, 7, none⟩ = some (.pointer none) := cell_of_row w2 _ 7 _ _ (0, 0) HPr.out
                  have z7 : w2.frozen? ⟨w.heap.size, 7, none⟩ = false := frozen_of_row w2 _ 7 _ _ HPr.out
                  have HLp : Hid (LastP (datN ns) none) := Lib.hid (by rw [HE.out]; exact lastP_bin_no1 HBin.out HLb.out (HTk.out ▸ HLa.out))
                  have HB7 : Hid (∀ u, Below w.heap.size w (w2.setCell ⟨w.heap.size, 7, none⟩ u)) := Lib.hid fun u => HBr.out.setCell (Nat.le_refl _) u
                  go_wp2
                  go_ret2
                  exact ⟨.inr ⟨HLp.out, rfl⟩, HB7.out _⟩
              · have HLa := Lib.hid hl
                clear hl
                have c8 : w1.cell? ⟨w.heap.size, 8, none⟩ = some (.pointer none) := cell_of_row w1 _ 8 _ _ (0, 0) HPr.out
                have z8 : w1.frozen? ⟨w.heap.size, 8, none⟩ = false := frozen_of_row w1 _ 8 _ _ HPr.out
                have HP8 := Lib.hid (heap_set8 HPr.out (.pointer none))
                have HB8 : Hid (∀ u, Below w.heap.size w (w1.setCell ⟨w.heap.size, 8, none⟩ u)) := Lib.hid fun u => HBr.out.setCell (Nat.le_refl _) u
                clear HPr HBr
                go_wp2_with fail
                refine (iLast0 B 0 none 0 0 none _).mono ?_
                rintro e w2 ⟨rfl, hw2⟩
                have HPr : Hid (w2.heap[w.heap.size]? = some (.cells #[.int .i64 2, .int .i64 t.kind, .int .i64 t.field, .int .i64 t.value, .slice t.LA t.Ln t.Lc, .slice t.PA t.Pn t.Pc, .nilIface, .pointer none, .pointer none] 157 (0, 0))) := Lib.hid (by rw [hw2]; exact HP8.out)
                have HBr : Hid (Below w.heap.size w w2) := Lib.hid (by rw [hw2]; exact HB8.out _)
                clear hw2 HP8 HB8
                clear c8 z8
                have c7 : w2.cell? ⟨w.heap.size, 7, none⟩ = some (.pointer none) := cell_of_row w2 _ 7 _ _ (0, 0) HPr.out
                have z7 : w2.frozen? ⟨w.heap.size, 7, none⟩ = false := frozen_of_row w2 _ 7 _ _ HPr.out
                have HLp : Hid (LastP (datN ns) none) := Lib.hid (by rw [HE.out]; exact lastP_bin_no2 HBin.out HLa.out)
                have HB7 : Hid (∀ u, Below w.heap.size w (w2.setCell ⟨w.heap.size, 7, none⟩ u)) := Lib.hid fun u => HBr.out.setCell (Nat.le_refl _) u
                go_wp2
                go_ret2
                exact ⟨.inr ⟨HLp.out, rfl⟩, HB7.out _⟩
            · have hzw : zeroW.val = .agg #[.int .i64 0, .int .i64 0, .int .i64 0, .slice none 0 0, .slice none 0 0] := rfl
              obtain ⟨q, hq⟩ := bool_of (NoW t.dat)
              have HC : Hid (∀ w1, Below w.heap.size w w1 → Calls Try.prog 125 #[.agg #[.int .i64 t.kind, .int .i64 t.field, .int .i64 t.value, .slice t.LA t.Ln t.Lc, .slice t.PA t.Pn t.Pc], .agg #[.int .i64 0, .int .i64 0, .int .i64 0, .slice none 0 0, .slice none 0 0]] w1 fun e w' => e = .returned (.bool q) ∧ Below w1.heap.size w1 w') := Lib.hid fun w1 h => by
                rw [← hvw, ← hzw]
                exact iSameWish w1 B t zeroW (HWi.out.below (h.mono hB)) (zeroW_in _ _) (Nat.le_trans hB h.size) HSh.out q (by rw [hq, now_zero])
              have HQ := Lib.hid hq
              clear hq hvw hzw
              go_enter Try.func106, Try.ntmps106
              go_wp2
              go_region
              go_wp2_with fail
              refine (HIH.out m _ (ns.take m) (Nat.le_refl _) (HM.out.below ((HW1.out _).mono hB)) (Nat.le_trans hB (HW1.out _).size) HN.out).mono ?_
              rintro e w1 ⟨hout, hb1⟩
              have HPr : Hid (w1.heap[w.heap.size]? = some (.cells #[.int .i64 4, .int .i64 t.kind, .int .i64 t.field, .int .i64 t.value, .slice t.LA t.Ln t.Lc, .slice t.PA t.Pn t.Pc, .nilIface, .pointer none, .pointer none] 157 (0, 0))) := Lib.hid ((hb1.block _ (by simp)).trans (heap_alloc_new w _))
              have HBr := Lib.hid (below_on (HW1.out _) hb1)
              clear hb1
              rcases hout with ⟨tb, k2, r, hl, rfl, hpb⟩ | ⟨hl, rfl⟩
              · have HLb := Lib.hid hl
                have HPb := Lib.hid hpb
                have hk2 : k2 ≤ m := by have := hl.lt; rw [HL.out] at this; omega
                clear hl hpb
                have c8 : w1.cell? ⟨w.heap.size, 8, none⟩ = some (.pointer none) := cell_of_row w1 _ 8 _ _ (0, 0) HPr.out
                have z8 : w1.frozen? ⟨w.heap.size, 8, none⟩ = false := frozen_of_row w1 _ 8 _ _ HPr.out
                have HP8 := Lib.hid (heap_set8 HPr.out (.pointer (some ⟨r, 0, none⟩)))
                have HB8 : Hid (∀ u, Below w.heap.size w (w1.setCell ⟨w.heap.size, 8, none⟩ u)) := Lib.hid fun u => HBr.out.setCell (Nat.le_refl _) u
                have HPb8 : Hid (∀ u, PartAt (w1.setCell ⟨w.heap.size, 8, none⟩ u) B (w.heap.size + 1) tb r) := Lib.hid fun u => by have := HPb.out.set (g := w.heap.size) (j := 8) (v := u) hB (by simp); simpa using this
                clear HPr HBr HPb
                go_wp2_with fail
                refine (HIH.out k2 _ ((ns.take m).take k2) hk2 ((HM.out.take hk2).below ((HB8.out _).mono hB)) (Nat.le_trans hB (HB8.out _).size) (fun x hx => HN.out x (List.mem_of_mem_take hx))).mono ?_
                rintro e w2 ⟨hout, hb2⟩
                have HPr : Hid (w2.heap[w.heap.size]? = some (.cells #[.int .i64 4, .int .i64 t.kind, .int .i64 t.field, .int .i64 t.value, .slice t.LA t.Ln t.Lc, .slice t.PA t.Pn t.Pc, .nilIface, .pointer none, .pointer (some ⟨r, 0, none⟩)] 157 (0, 0))) := Lib.hid ((hb2.block _ (lt_of_block HP8.out)).trans HP8.out)
                have HBr := Lib.hid (below_on (HB8.out _) hb2)
                have HPb2 : Hid (PartAt w2 B (w.heap.size + 1) tb r) := Lib.hid ((HPb8.out _).below (Nat.le_trans hB (HB8.out _).size) hb2)
                have hlo : w.heap.size + 1 ≤ (w1.setCell ⟨w.heap.size, 8, none⟩ (.pointer (some ⟨r, 0, none⟩))).heap.size := lt_of_block HP8.out
                have HLo := Lib.hid hlo
                have HTk : Hid (datN ((ns.take m).take k2) = (datN (ns.take m)).take k2) := Lib.hid (by unfold datN; rw [List.map_take])
                clear hb2 hlo HP8 HB8 HPb8
                clear c8 z8
                rcases hout with ⟨ta, k, s, hl, rfl, hpa⟩ | ⟨hl, rfl⟩
                · have HLa := Lib.hid hl
                  have HPa := Lib.hid (hpa.low HLo.out)
                  clear hl hpa
                  have c0 : w2.cell? ⟨w.heap.size, 0, none⟩ = some (.int .i64 4) := cell_of_row w2 _ 0 _ _ (0, 0) HPr.out
                  have c1 : w2.cell? ⟨w.heap.size, 1, none⟩ = some (.int .i64 t.kind) := cell_of_row w2 _ 1 _ _ (0, 0) HPr.out
                  have c2 : w2.cell? ⟨w.heap.size, 2, none⟩ = some (.int .i64 t.field) := cell_of_row w2 _ 2 _ _ (0, 0) HPr.out
                  have c3 : w2.cell? ⟨w.heap.size, 3, none⟩ = some (.int .i64 t.value) := cell_of_row w2 _ 3 _ _ (0, 0) HPr.out
                  have c4 : w2.cell? ⟨w.heap.size, 4, none⟩ = some (.slice t.LA t.Ln t.Lc) := cell_of_row w2 _ 4 _ _ (0, 0) HPr.out
                  have c5 : w2.cell? ⟨w.heap.size, 5, none⟩ = some (.slice t.PA t.Pn t.Pc) := cell_of_row w2 _ 5 _ _ (0, 0) HPr.out
                  have c7 : w2.cell? ⟨w.heap.size, 7, none⟩ = some (.pointer none) := cell_of_row w2 _ 7 _ _ (0, 0) HPr.out
                  have z7 : w2.frozen? ⟨w.heap.size, 7, none⟩ = false := frozen_of_row w2 _ 7 _ _ HPr.out
                  have HB7 : Hid (∀ u, Below w.heap.size w (w2.setCell ⟨w.heap.size, 7, none⟩ u)) := Lib.hid fun u => HBr.out.setCell (Nat.le_refl _) u
                  go_wp2_with fail
                  refine (HC.out _ (HB7.out _)).mono ?_
                  rintro e w9 ⟨rfl, hb9⟩
                  have HB9 := Lib.hid (below_on (HB7.out _) hb9)
                  have HD9 := Lib.hid hb9
                  clear c0 c1 c2 c3 c4 c5 c7 z7
                  clear hb9 HC
                  cases q
                  · have HLp : Hid (LastP (datN ns) none) := Lib.hid (by rw [HE.out]; exact lastP_now_no (by show (4 : Int) ≠ 0; decide) fun h => by have := HQ.out.2 h; cases this)
                    go_wp2
                    go_ret2
                    exact ⟨.inr ⟨HLp.out, rfl⟩, HB9.out⟩
                  · have HW := Lib.hid (HQ.out.1 rfl)
                    have HLp : Hid (LastP (datN ns) (some (.bin 4 ta tb, k))) := Lib.hid (by rw [HE.out]; exact lastP_bin HBin.out HW.out HLb.out (HTk.out ▸ HLa.out))
                    have HF : Hid (PartAt w9 B w.heap.size (.bin 4 ta tb) w.heap.size) := Lib.hid (by
                      have hp := heap_set7 HPr.out (.pointer (some ⟨s, 0, none⟩))
                      have hlt := lt_of_block hp
                      refine ⟨Nat.le_refl _, Nat.lt_of_lt_of_le hlt HD9.out.size, HBin.out, t, s, r, (HD9.out.block _ hlt).trans hp, HW.out, HSh.out, HWi.out.below (HB9.out.mono hB), ?_, ?_⟩
                      · exact ((HPa.out.set hB (by omega)).below (Nat.le_trans hB (HB7.out _).size) HD9.out).low (by omega)
                      · exact ((HPb2.out.set hB (by omega)).below (Nat.le_trans hB (HB7.out _).size) HD9.out).low (by omega))
                    go_wp2
                    go_ret2
                    exact ⟨.inl ⟨_, _, _, HLp.out, rfl, HF.out⟩, HB9.out⟩
                · have HLa := Lib.hid hl
                  clear hl
                  have c7 : w2.cell? ⟨w.heap.size, 7, none⟩ = some (.pointer none) := cell_of_row w2 _ 7 _ _ (0, 0) HPr.out
                  have z7 : w2.frozen? ⟨w.heap.size, 7, none⟩ = false := frozen_of_row w2 _ 7 _ _ HPr.out
                  have HLp : Hid (LastP (datN ns) none) := Lib.hid (by rw [HE.out]; exact lastP_bin_no1 HBin.out HLb.out (HTk.out ▸ HLa.out))
                  have HB7 : Hid (∀ u, Below w.heap.size w (w2.setCell ⟨w.heap.size, 7, none⟩ u)) := Lib.hid fun u => HBr.out.setCell (Nat.le_refl _) u
                  go_wp2
                  go_ret2
                  exact ⟨.inr ⟨HLp.out, rfl⟩, HB7.out _⟩
              · have HLa := Lib.hid hl
                clear hl
                have c8 : w1.cell? ⟨w.heap.size, 8, none⟩ = some (.pointer none) := cell_of_row w1 _ 8 _ _ (0, 0) HPr.out
                have z8 : w1.frozen? ⟨w.heap.size, 8, none⟩ = false := frozen_of_row w1 _ 8 _ _ HPr.out
                have HP8 := Lib.hid (heap_set8 HPr.out (.pointer none))
                have HB8 : Hid (∀ u, Below w.heap.size w (w1.setCell ⟨w.heap.size, 8, none⟩ u)) := Lib.hid fun u => HBr.out.setCell (Nat.le_refl _) u
                clear HPr HBr
                go_wp2_with fail
                refine (iLast0 B 0 none 0 0 none _).mono ?_
                rintro e w2 ⟨rfl, hw2⟩
                have HPr : Hid (w2.heap[w.heap.size]? = some (.cells #[.int .i64 4, .int .i64 t.kind, .int .i64 t.field, .int .i64 t.value, .slice t.LA t.Ln t.Lc, .slice t.PA t.Pn t.Pc, .nilIface, .pointer none, .pointer none] 157 (0, 0))) := Lib.hid (by rw [hw2]; exact HP8.out)
                have HBr : Hid (Below w.heap.size w w2) := Lib.hid (by rw [hw2]; exact HB8.out _)
                clear hw2 HP8 HB8
                clear c8 z8
                have c7 : w2.cell? ⟨w.heap.size, 7, none⟩ = some (.pointer none) := cell_of_row w2 _ 7 _ _ (0, 0) HPr.out
                have z7 : w2.frozen? ⟨w.heap.size, 7, none⟩ = false := frozen_of_row w2 _ 7 _ _ HPr.out
                have HLp : Hid (LastP (datN ns) none) := Lib.hid (by rw [HE.out]; exact lastP_bin_no2 HBin.out HLa.out)
                have HB7 : Hid (∀ u, Below w.heap.size w (w2.setCell ⟨w.heap.size, 7, none⟩ u)) := Lib.hid fun u => HBr.out.setCell (Nat.le_refl _) u
                go_wp2
                go_ret2
                exact ⟨.inr ⟨HLp.out, rfl⟩, HB7.out _⟩
          · have hnb : ¬ Bin op := eb
            have f0 : (op == 0) = false := by simpa using e0
            have f3 : (op == 3) = false := by simpa using e3
            have f1 : (op == 1) = false := by
              have : op ≠ 1 := fun h => eb (.inl h)
              simpa using this
            have f2 : (op == 2) = false := by
              have : op ≠ 2 := fun h => eb (.inr (.inl h))
              simpa using this
            have f4 : (op == 4) = false := by
              have : op ≠ 4 := fun h => eb (.inr (.inr h))
              simpa using this
            have HLp : Hid (LastP (datN ns) none) := Lib.hid (by rw [HE.out]; exact lastP_odd e0 e3 hnb)
            clear hnb e0 e3 eb hvw
            go_enter Try.func106, Try.ntmps106
            go_wp2
            go_region
            go_wp2
            go_ret2
            exact ⟨.inr ⟨HLp.out, rfl⟩, HW1.out _⟩
end Go.Proofs.Ytceiocdemhkcdaa.num
namespace Go.Proofs.Ytceiocdemhkcdaa.num
set_option maxRecDepth 20000
open Go.RowKit Go.Maps
set_option linter.unusedVariables false
set_option linter.unusedSimpArgs false

def TreeOut (B lo : Nat) (nds : List ND) (e : Ending) (w' : World) : Prop :=
  (IsE nds ∧ ∃ t p, Post nds t ∧ e = .returned (.pointer (some ⟨p, 0, none⟩)) ∧ PartAt w' B lo t p) ∨ (¬ IsE nds ∧ e = .returned (.pointer none))
set_option maxRecDepth 20000 in
theorem iTreeOfW (w : World) (B : Nat) (A : Option Addr) (n c : Nat) (ns : List Nd) (hi : Nodes w B A n ns) (hB : B ≤ w.heap.size) (hnc : n ≤ c) (hc : c ≤ 9223372036854775807) (hN : ShortN ns) :
    Calls Try.prog 96 #[.slice A n c] w fun e w' => TreeOut B w.heap.size (datN ns) e w' ∧ Below w.heap.size w w' := by
  have HL : Hid ((datN ns).length = n) := Lib.hid (by unfold datN; rw [List.length_map, hi.len])
  have HC := Lib.hid (iLast B A c hc n w ns hi hB hnc hN)
  clear hi hN
  by_cases h9 : n ≤ 9
  · go_enter Try.func96, Try.ntmps96
    go_wp2_with fail
    refine HC.out.mono ?_
    rintro e w1 ⟨hout, hb1⟩
    have HB := Lib.hid hb1
    clear hb1 HC
    rcases hout with ⟨t, k, p, hl, rfl, hpa⟩ | ⟨hl, rfl⟩
    · have HLp := Lib.hid hl
      have HP := Lib.hid hpa
      have hkn : k ≤ 9223372036854775807 := by have := hl.lt; rw [HL.out] at this; omega
      clear hl hpa
      by_cases hk : k = 0
      · subst hk
        go_wp2
        go_ret
        refine ⟨.inl ⟨(isE_last HLp.out).2 ⟨by rw [HL.out]; exact h9, rfl⟩, t, p, ?_, rfl, HP.out⟩, HB.out⟩
        have := HLp.out
        simpa [LastP] using this
      · have hk' : 0 < k := by omega
        have hd : decide ((k : Int) > 0) = true := by simp; omega
        go_wp2
        go_ret
        exact ⟨.inr ⟨fun h => by have := ((isE_last HLp.out).1 h).2; omega, rfl⟩, HB.out⟩
    · have HLp := Lib.hid hl
      clear hl
      go_wp2
      go_ret
      exact ⟨.inr ⟨isE_none HLp.out, rfl⟩, HB.out⟩
  · have hd : decide ((n : Int) > 9) = true := by simp; omega
    have hgt : (9 : Int) < (n : Int) := by omega
    go_enter Try.func96, Try.ntmps96
    go_wp2
    go_ret
    exact ⟨.inr ⟨fun h => by have := h.1; rw [HL.out] at this; omega, rfl⟩, Below.refl _ _⟩
theorem iTreeOf (w : World) (B : Nat) (A : Option Addr) (n c : Nat) (ns : List Nd) (hi : Nodes w B A n ns) (hB : B ≤ w.heap.size) (hnc : n ≤ c) (hc : c ≤ 1048576) (hN : ShortN ns) :
    Calls Try.prog 96 #[.slice A n c] w fun e w' => TreeOut B w.heap.size (datN ns) e w' ∧ Below w.heap.size w w' := iTreeOfW w B A n c ns hi hB hnc (Nat.le_trans hc (by decide)) hN
set_option maxRecDepth 20000 in
theorem iIsEW (w : World) (B : Nat) (A : Option Addr) (n c : Nat) (ns : List Nd) (hi : Nodes w B A n ns) (hB : B ≤ w.heap.size) (hnc : n ≤ c) (hc : c ≤ 9223372036854775807) (hN : ShortN ns) (b : Bool) (hb : b = true ↔ IsE (datN ns)) :
    Calls Try.prog 69 #[.slice A n c] w fun e w' => e = .returned (.bool b) ∧ Below w.heap.size w w' := by
  have HC := Lib.hid (iTreeOfW w B A n c ns hi hB hnc hc hN)
  have HBo := Lib.hid hb
  clear hi hN hb
  go_enter Try.func69, Try.ntmps69
  go_wp2_with fail
  refine HC.out.mono ?_
  rintro e w1 ⟨hout, hb1⟩
  have HB := Lib.hid hb1
  clear hb1 HC
  rcases hout with ⟨hE, t, p, _, rfl, _⟩ | ⟨hE, rfl⟩
  · obtain rfl : b = true := HBo.out.2 hE
    go_wp2
    go_ret
    exact ⟨rfl, HB.out⟩
  · obtain rfl : b = false := by
      cases b
      · rfl
      · exact absurd (HBo.out.1 rfl) hE
    go_wp2
    go_ret
    exact ⟨rfl, HB.out⟩
theorem iIsE (w : World) (B : Nat) (A : Option Addr) (n c : Nat) (ns : List Nd) (hi : Nodes w B A n ns) (hB : B ≤ w.heap.size) (hnc : n ≤ c) (hc : c ≤ 1048576) (hN : ShortN ns) (b : Bool) (hb : b = true ↔ IsE (datN ns)) :
    Calls Try.prog 69 #[.slice A n c] w fun e w' => e = .returned (.bool b) ∧ Below w.heap.size w w' := iIsEW w B A n c ns hi hB hnc (Nat.le_trans hc (by decide)) hN b hb

/-- Two codes that cannot both hold for a whole. -/
def apartC (a b : Int) : Bool := a == 2 || b == 2 || (a != 0 && a == revC b)
theorem opC_pareto {a b : Int} (ha : Code a) (hb : Code b) : opC 1 a b = if apartC a b = true then 2 else if a ≠ 0 then a else b := by
  rcases ha with rfl | rfl | rfl | rfl <;> rcases hb with rfl | rfl | rfl | rfl <;> decide
end Go.Proofs.Ytceiocdemhkcdaa.num
namespace Go.Proofs.Ytceiocdemhkcdaa.num
set_option maxRecDepth 20000
open Go.RowKit
set_option linter.unusedVariables false
set_option linter.unusedSimpArgs false

/-- 1 to 5 expressions. -/
def VoP (ds : List (List ND)) : Prop := 1 ≤ ds.length ∧ ds.length ≤ 5 ∧ ∀ d ∈ ds, IsE d
theorem vo_mem {gs : List Vo} {k : Nat} {x : Vo} (h : gs[k]? = some x) : x.dat ∈ gs.map Vo.dat := List.mem_map_of_mem (List.mem_of_getElem? h)
set_option maxRecDepth 20000 in
theorem sVoters (w : World) (B : Nat) (A : Option Addr) (n c : Nat) (gs : List Vo) (hi : Votes w B A n gs) (hB : B ≤ w.heap.size) (hn : n ≤ 1048576) (hN : ShortV gs) (b : Bool) (hb : b = true ↔ VoP (gs.map Vo.dat)) :
    Calls Try.prog 26 #[.slice A n c] w fun e w' => e = .returned (.bool b) ∧ Below w.heap.size w w' := by
  have HX := Lib.hid hi
  have HN := Lib.hid hN
  have HQ := Lib.hid hb
  have HLn : Hid ((gs.map Vo.dat).length = n) := Lib.hid (by rw [List.length_map]; exact hi.len)
  clear hi hN hb
  go_enter Try.func26, Try.ntmps26
  go_wp2
  go_loopw [3] (fun i wr => ∃ k : Nat, k ≤ n ∧ i = .int .i64 k ∧ (∀ d ∈ (gs.take k).map Vo.dat, IsE d) ∧ Below w.heap.size w wr) (fun i _ => n - (intOf i).toNat)
  case atStart => exact ⟨0, Nat.zero_le _, rfl, by simp, Below.refl _ _⟩
  case round =>
    obtain ⟨k, hk, rfl, hall, hbel⟩ := hrel
    have HB := Lib.hid hbel
    have HA := Lib.hid hall
    clear hall
    by_cases hlt : k < n
    · obtain ⟨b1, off1, x, rfl, hb1, hat1, hn1, e0⟩ := HX.out.at k hlt
      have e0 := (hbel.cell (p := ⟨b1, off1 + k, none⟩) (Nat.lt_of_lt_of_le hb1 hB)).trans e0
      have hlt' : (k : Int) < (n : Int) := by omega
      have hs := HN.out x (List.mem_of_getElem? hat1)
      have HT := Lib.hid hat1
      obtain ⟨q, hq⟩ := bool_of (IsE (datN x.ns))
      have HC : Hid (Calls Try.prog 67 #[.slice x.A x.n x.c] wr fun e w' => e = .returned (.bool q) ∧ Below wr.heap.size wr w') :=
        Lib.hid (sIsE wr B x.A x.n x.c x.ns (hn1.below (hbel.mono hB)) (Nat.le_trans hB hbel.size) hs.1 hs.2 q hq)
      have HE : Hid (q = true ↔ IsE x.dat) := Lib.hid hq
      clear hat1 hbel hn1 hs hq
      go_wp2_with fail
      refine HC.out.mono ?_
      rintro e w3 ⟨rfl, hb3⟩
      have HB3 := Lib.hid (below_on HB.out hb3)
      clear hb3 HC e0
      cases q
      · obtain rfl : b = false := by
          cases b
          · rfl
          · have h := HE.out.2 ((HQ.out.1 rfl).2.2 _ (vo_mem HT.out))
            cases h
        go_wp2
        go_ret
        exact ⟨rfl, HB3.out⟩
      · have HA1 : Hid (∀ d ∈ (gs.take (k + 1)).map Vo.dat, IsE d) := Lib.hid fun d hd => by
          rw [votake_at HT.out, List.map_append] at hd
          rcases List.mem_append.1 hd with h | h
          · exact HA.out d h
          · rw [List.map_singleton] at h
            rw [List.mem_singleton.1 h]
            exact HE.out.1 (by first | rfl | trivial)
        go_wp2
        go_roundw
        case rel => exact ⟨k + 1, by omega, by go_num, HA1.out, HB3.out⟩
        case measure => simp [intOf]; omega
    · obtain rfl : k = n := by omega
      have HAl : Hid (∀ d ∈ gs.map Vo.dat, IsE d) := Lib.hid (by have h := HA.out; rwa [votake_all HX.out.len] at h)
      have hbb : b = decide (1 ≤ k ∧ k ≤ 5) := by
        rw [Bool.eq_iff_iff, decide_eq_true_eq, HQ.out]
        unfold VoP
        rw [HLn.out]
        exact ⟨fun h => ⟨h.1, h.2.1⟩, fun h => ⟨h.1, h.2, HAl.out⟩⟩
      clear hbel
      by_cases h1 : 1 ≤ k
      · by_cases h5 : k ≤ 5
        · obtain rfl : b = true := by rw [hbb]; simp; omega
          have g1 : decide ((k : Int) ≥ 1) = true := by simp; omega
          have g2 : decide ((k : Int) ≤ 5) = true := by simp; omega
          clear hbb
          go_wp2
          go_ret
          exact ⟨by first | rfl | simp; omega, HB.out⟩
        · obtain rfl : b = false := by rw [hbb]; simp; omega
          have g1 : decide ((k : Int) ≥ 1) = true := by simp; omega
          have g2 : decide ((k : Int) ≤ 5) = false := by simp; omega
          clear hbb
          go_wp2
          go_ret
          exact ⟨by first | rfl | simp; omega, HB.out⟩
      · obtain rfl : b = false := by rw [hbb]; simp; omega
        have g1 : decide ((k : Int) ≥ 1) = false := by simp; omega
        clear hbb
        go_wp2
        go_ret
        exact ⟨by first | rfl | simp; omega, HB.out⟩
set_option maxRecDepth 20000 in
theorem iVoters (w : World) (B : Nat) (A : Option Addr) (n c : Nat) (gs : List Vo) (hi : Votes w B A n gs) (hB : B ≤ w.heap.size) (hn : n ≤ 1048576) (hN : ShortV gs) (hcap : ∀ x ∈ gs, x.c = x.n) (b : Bool) (hb : b = true ↔ VoP (gs.map Vo.dat)) :
    Calls Try.prog 28 #[.slice A n c] w fun e w' => e = .returned (.bool b) ∧ Below w.heap.size w w' := by
  have HX := Lib.hid hi
  have HN := Lib.hid hN
  have HCa := Lib.hid hcap
  have HQ := Lib.hid hb
  have HLn : Hid ((gs.map Vo.dat).length = n) := Lib.hid (by rw [List.length_map]; exact hi.len)
  clear hi hN hb hcap
  by_cases h1 : 1 ≤ n
  · by_cases h5 : n ≤ 5
    · have g1 : decide ((n : Int) < 1) = false := by simp; omega
      have g2 : decide ((n : Int) > 5) = false := by simp; omega
      go_enter Try.func28, Try.ntmps28
      go_wp2
      go_loopw [15] (fun i wr => ∃ k : Nat, k ≤ n ∧ i = .int .i64 k ∧ (∀ d ∈ (gs.take k).map Vo.dat, IsE d) ∧ Below w.heap.size w wr) (fun i _ => n - (intOf i).toNat)
      case atStart => exact ⟨0, Nat.zero_le _, rfl, by simp, Below.refl _ _⟩
      case round =>
        obtain ⟨k, hk, rfl, hall, hbel⟩ := hrel
        have HB := Lib.hid hbel
        have HA := Lib.hid hall
        clear hall
        by_cases hlt : k < n
        · obtain ⟨b1, off1, x, rfl, hb1, hat1, hn1, e0⟩ := HX.out.at k hlt
          have e0 := (hbel.cell (p := ⟨b1, off1 + k, none⟩) (Nat.lt_of_lt_of_le hb1 hB)).trans e0
          have hlt' : (k : Int) < (n : Int) := by omega
          have hs := HN.out x (List.mem_of_getElem? hat1)
          have hc1 := HCa.out x (List.mem_of_getElem? hat1)
          have HT := Lib.hid hat1
          obtain ⟨q, hq⟩ := bool_of (IsE (datN x.ns))
          have HC : Hid (Calls Try.prog 69 #[.slice x.A x.n x.c] wr fun e w' => e = .returned (.bool q) ∧ Below wr.heap.size wr w') :=
            Lib.hid (iIsE wr B x.A x.n x.c x.ns (hn1.below (hbel.mono hB)) (Nat.le_trans hB hbel.size) (by omega) (by omega) hs.2 q hq)
          have HE : Hid (q = true ↔ IsE x.dat) := Lib.hid hq
          clear hat1 hbel hn1 hs hq hc1
          go_wp2_with fail
          refine HC.out.mono ?_
          rintro e w3 ⟨rfl, hb3⟩
          have HB3 := Lib.hid (below_on HB.out hb3)
          clear hb3 HC e0
          cases q
          · obtain rfl : b = false := by
              cases b
              · rfl
              · have h := HE.out.2 ((HQ.out.1 rfl).2.2 _ (vo_mem HT.out))
                cases h
            go_wp2
            go_ret
            exact ⟨rfl, HB3.out⟩
          · have HA1 : Hid (∀ d ∈ (gs.take (k + 1)).map Vo.dat, IsE d) := Lib.hid fun d hd => by
              rw [votake_at HT.out, List.map_append] at hd
              rcases List.mem_append.1 hd with h | h
              · exact HA.out d h
              · rw [List.map_singleton] at h
                rw [List.mem_singleton.1 h]
                exact HE.out.1 (by first | rfl | trivial)
            go_wp2
            go_roundw
            case rel => exact ⟨k + 1, by omega, by go_num, HA1.out, HB3.out⟩
            case measure => simp [intOf]; omega
        · obtain rfl : k = n := by omega
          have HAl : Hid (∀ d ∈ gs.map Vo.dat, IsE d) := Lib.hid (by have h := HA.out; rwa [votake_all HX.out.len] at h)
          obtain rfl : b = true := HQ.out.2 ⟨by rw [HLn.out]; exact h1, by rw [HLn.out]; exact h5, HAl.out⟩
          clear hbel
          go_wp2
          go_ret
          exact ⟨rfl, HB.out⟩
    · obtain rfl : b = false := by
        cases b
        · rfl
        · have h := (HQ.out.1 rfl).2.1
          rw [HLn.out] at h
          omega
      have g1 : decide ((n : Int) < 1) = false := by simp; omega
      have g2 : decide ((n : Int) > 5) = true := by simp; omega
      go_enter Try.func28, Try.ntmps28
      go_wp2
      go_ret
      exact ⟨rfl, Below.refl _ _⟩
  · obtain rfl : b = false := by
      cases b
      · rfl
      · have h := (HQ.out.1 rfl).1
        rw [HLn.out] at h
        omega
    have g1 : decide ((n : Int) < 1) = true := by simp; omega
    go_enter Try.func28, Try.ntmps28
    go_wp2
    go_ret
    exact ⟨rfl, Below.refl _ _⟩
end Go.Proofs.Ytceiocdemhkcdaa.num
