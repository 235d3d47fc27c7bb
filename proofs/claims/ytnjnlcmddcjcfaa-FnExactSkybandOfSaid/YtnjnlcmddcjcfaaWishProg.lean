/-
  The program's tasteOf, IsWish, RankOfValue, CompareValues: contracts.
-/
import Derived.Test.YtnjnlcmddcjcfaaWishTaste
import Derived.Test.YtnjnlcmddcjcfaaWishVal
import Derived.Test.YtnjnlcmddcjcfaaWishSpecC
namespace Go.Proofs.Ytnjnlcmddcjcfaa.num
set_option maxRecDepth 20000
open Go.RowKit Go.Maps
set_option linter.unusedVariables false

/-- v is the taste of the valid wish t. -/
def TasteAt (w : World) (t : Wi) (v : Value) : Prop :=
  (t.kind ≠ 4 ∧ ∃ b, InR b ∧ v = nearI b ∧ ∀ x, InR x → rankW t.dat x = if x < b then b - x else x - b) ∨
  (t.kind ≠ 4 ∧ v = amongI t.LA t.Ln t.Lc ∧ ∀ x, rankW t.dat x = if x ∈ t.ls then 0 else 1) ∨
  (t.kind = 4 ∧ ∃ o B, v = orderI o ∧ AboveP t.ps B true o w)
theorem TasteAt.below {w w' : World} {t : Wi} {v : Value} (h : TasteAt w t v) (hb : Below w.heap.size w w') : TasteAt w' t v := by
  rcases h with h | h | ⟨h, o, B, e, a⟩
  · exact .inl h
  · exact .inr (.inl h)
  · exact .inr (.inr ⟨h, o, B, e, a.below hb⟩)
theorem value_same (v : Int) (q : Bool) (hq : q = true ↔ InR v) (w : World) :
    Calls Try.prog 87 #[.int .i64 v] w fun e w' => e = .returned (.bool q) ∧ w' = w :=
  (isValue_of v q hq w).mono fun _ _ h => ⟨h.1, h.2.symm⟩

/-- .. and what it holds lies from block lo on. -/
def TasteFrom (w : World) (lo : Nat) (t : Wi) (v : Value) : Prop :=
  (t.kind ≠ 4 ∧ ∃ b, InR b ∧ v = nearI b ∧ ∀ x, InR x → rankW t.dat x = if x < b then b - x else x - b) ∨
  (t.kind ≠ 4 ∧ v = amongI t.LA t.Ln t.Lc ∧ ∀ x, rankW t.dat x = if x ∈ t.ls then 0 else 1) ∨
  (t.kind = 4 ∧ ∃ o B, lo ≤ B ∧ v = orderI o ∧ AboveP t.ps B true o w)
theorem TasteFrom.at' {w : World} {lo : Nat} {t : Wi} {v : Value} (h : TasteFrom w lo t v) : TasteAt w t v := by
  rcases h with h | h | ⟨h, o, B, _, e, a⟩
  · exact .inl h
  · exact .inr (.inl h)
  · exact .inr (.inr ⟨h, o, B, e, a⟩)
theorem TasteFrom.low {w : World} {lo lo' : Nat} {t : Wi} {v : Value} (h : TasteFrom w lo t v) (hl : lo' ≤ lo) : TasteFrom w lo' t v := by
  rcases h with h | h | ⟨h, o, B, hB, e, a⟩
  · exact .inl h
  · exact .inr (.inl h)
  · exact .inr (.inr ⟨h, o, B, Nat.le_trans hl hB, e, a⟩)
theorem AboveP.kept {ps : List (Int × Int)} {B : Nat} {q : Bool} {o : Option Nat} {w w' : World} (h : AboveP ps B q o w) (hb : ∀ k, B ≤ k → k < w.heap.size → w'.heap[k]? = w.heap[k]?) : AboveP ps B q o w' :=
  ⟨h.1, fun hq => by
    obtain ⟨b, n, M, h1, h2, h3⟩ := h.2 hq
    exact ⟨b, n, M, h1, h2, MapAt.block h3.out (hb _ h3.low (MapAt.lt h3.out)), h3.low, h3.has, h3.rng, fun v x hx => by
      obtain ⟨g1, g2, g3⟩ := h3.sets v x hx
      exact ⟨g1, g2, MapAt.block g3 (hb _ g1 (MapAt.lt g3))⟩, h3.inj⟩⟩
theorem TasteFrom.kept {w w' : World} {lo : Nat} {t : Wi} {v : Value} (h : TasteFrom w lo t v) (hb : ∀ k, lo ≤ k → k < w.heap.size → w'.heap[k]? = w.heap[k]?) : TasteFrom w' lo t v := by
  rcases h with h | h | ⟨h, o, B, hB, e, a⟩
  · exact .inl h
  · exact .inr (.inl h)
  · exact .inr (.inr ⟨h, o, B, hB, e, a.kept fun k hk => hb k (Nat.le_trans hB hk)⟩)
/-- An interface's value. -/
def IfV (v : Value) : Prop := v = .nilIface ∨ ∃ T x, v = .iface T x
set_option maxRecDepth 20000 in
set_option maxHeartbeats 1600000 in
theorem taste_ofV (w : World) (B : Nat) (t : Wi) (hi : WiIn w B t) (hB : B ≤ w.heap.size) (hn : t.Short) (q : Bool) (hq : q = true ↔ IsW t.dat) :
    Calls Try.prog 75 #[t.val] w fun e w' => (∃ v, e = .returned (.tuple #[v, .bool q]) ∧ (q = true → TasteFrom w' w.heap.size t v) ∧ IfV v) ∧ Below w.heap.size w w' := by
  have HO : Hid (∀ (w1 : World) (p : Bool), (p = true ↔ (t.kind ≠ 2 ∧ t.value ≠ 0) ∨ (t.kind ≠ 3 ∧ t.Ln ≠ 0) ∨ (t.kind ≠ 4 ∧ t.Pn ≠ 0)) → Calls Try.prog 86 #[t.val] w1 fun e w' => e = .returned (.bool p) ∧ Below w1.heap.size w1 w') := Lib.hid fun w1 p hp => iOther w1 t hn.1 hn.2 p hp
  obtain ⟨k, f, v, LA, Ln, Lc, ls, PA, Pn, Pc, ps⟩ := t
  obtain ⟨-, -, -, hl, hp⟩ := hi
  unfold Wi.val at HO ⊢
  simp only [Wi.dat, Wi.Short] at hl hp hn hq HO ⊢
  have HL := Lib.hid hl
  have HP := Lib.hid hp
  have HQ := Lib.hid hq
  have HN := Lib.hid hn
  have HB1 : Hid (∀ o : Obj, Below B w (w.alloc o)) := Lib.hid fun o => (Below.refl B w).alloc hB _
  have HW1 : Hid (∀ o : Obj, Below w.heap.size w (w.alloc o)) := Lib.hid fun o => (Below.refl _ w).alloc (Nat.le_refl _) _
  have HLn : Hid (ls = [] ↔ Ln = 0) := by
    show _ ↔ _
    rw [← hl.1, List.length_eq_zero_iff]
  have HPn : Hid (ps = [] ↔ Pn = 0) := by
    show _ ↔ _
    rw [← hp.1, List.length_eq_zero_iff]
  clear hl hp hq hn
  have HNo : Hid (¬ IsW ⟨k, f, v, ls, ps⟩ → q = false) := Lib.hid fun h => by
    cases q
    · rfl
    · exact absurd (HQ.out.1 rfl) h
  by_cases hf : InF f
  case neg =>
    obtain rfl := HNo.out fun h => hf h.f
    have HFn : Hid (¬ InF f) := Lib.hid hf
    go_enter Try.func75, Try.ntmps75
    go_wp2_with fail
    refine (field_same f false ⟨fun h => (by cases h), fun h => absurd h HFn.out⟩ _).mono ?_
    rintro e w1 ⟨rfl, rfl⟩
    go_wp2
    go_ret2
    first | exact ⟨⟨_, rfl, fun h => (by cases h), .inl rfl⟩, HW1.out _⟩ | exact ⟨⟨_, rfl, .inl rfl⟩, HW1.out _⟩
  have HF : Hid (0 ≤ f ∧ f ≤ 2) := Lib.hid hf
  clear hf
  obtain ⟨p, hp⟩ := bool_of ((k ≠ 2 ∧ v ≠ 0) ∨ (k ≠ 3 ∧ Ln ≠ 0) ∨ (k ≠ 4 ∧ Pn ≠ 0))
  have HPp := Lib.hid hp
  clear hp
  cases p
  · have HK2 : Hid (k ≠ 2 → v = 0) := Lib.hid fun h => by
      by_cases hv : v = 0
      · exact hv
      · have := HPp.out.2 (.inl ⟨h, hv⟩); cases this
    have HK3 : Hid (k ≠ 3 → ls = []) := Lib.hid fun h => by
      by_cases hv : Ln = 0
      · exact HLn.out.2 hv
      · have := HPp.out.2 (.inr (.inl ⟨h, hv⟩)); cases this
    have HK4 : Hid (k ≠ 4 → ps = []) := Lib.hid fun h => by
      by_cases hv : Pn = 0
      · exact HPn.out.2 hv
      · have := HPp.out.2 (.inr (.inr ⟨h, hv⟩)); cases this
    by_cases k0 : k = 0
    · subst k0
      obtain rfl := HQ.out.2 ((isW01 (.inl rfl) HF.out).2 ⟨HK2.out (by decide), HK3.out (by decide), HK4.out (by decide)⟩)
      have HT : Hid (∀ w', TasteFrom w' w.heap.size ⟨0, f, v, LA, Ln, Lc, ls, PA, Pn, Pc, ps⟩ (nearI 0)) := Lib.hid fun w' => .inl ⟨by show (0 : Int) ≠ 4; decide, 0, ⟨by decide, by decide⟩, rfl, fun x hx => by
        have h0 := hx.1
        have h9 := hx.2
        have e : rankW (Wi.dat ⟨0, f, v, LA, Ln, Lc, ls, PA, Pn, Pc, ps⟩) x = x := rfl
        rw [e]
        split <;> omega⟩
      go_enter Try.func75, Try.ntmps75
      go_wp2_with fail
      refine (field_same f true ⟨fun _ => HF.out, fun _ => rfl⟩ _).mono ?_
      rintro e w1 ⟨rfl, rfl⟩
      go_wp2_with fail
      refine (HO.out _ false HPp.out).mono ?_
      rintro e w1 ⟨rfl, hb1⟩
      obtain ⟨c0, c1, c2, c3, c4, hg⟩ := box5 hb1
      have HBB := Lib.hid (And.intro ((HW1.out _).trans (hb1.mono (by simp))) ((HB1.out _).trans (hb1.mono (by simp; omega))))
      clear hb1
      go_wp2
      go_ret2
      exact ⟨⟨_, rfl, fun _ => HT.out _, by first | exact .inl rfl | exact .inr ⟨_, _, rfl⟩⟩, HBB.out.1⟩
    · by_cases k1 : k = 1
      · subst k1
        clear k0
        obtain rfl := HQ.out.2 ((isW01 (.inr rfl) HF.out).2 ⟨HK2.out (by decide), HK3.out (by decide), HK4.out (by decide)⟩)
        have HT : Hid (∀ w', TasteFrom w' w.heap.size ⟨1, f, v, LA, Ln, Lc, ls, PA, Pn, Pc, ps⟩ (nearI 9)) := Lib.hid fun w' => .inl ⟨by show (1 : Int) ≠ 4; decide, 9, ⟨by decide, by decide⟩, rfl, fun x hx => by
          have h0 := hx.1
          have h9 := hx.2
          have e : rankW (Wi.dat ⟨1, f, v, LA, Ln, Lc, ls, PA, Pn, Pc, ps⟩) x = 9 - x := rfl
          rw [e]
          split <;> omega⟩
        go_enter Try.func75, Try.ntmps75
        go_wp2_with fail
        refine (field_same f true ⟨fun _ => HF.out, fun _ => rfl⟩ _).mono ?_
        rintro e w1 ⟨rfl, rfl⟩
        go_wp2_with fail
        refine (HO.out _ false HPp.out).mono ?_
        rintro e w1 ⟨rfl, hb1⟩
        obtain ⟨c0, c1, c2, c3, c4, hg⟩ := box5 hb1
        have HBB := Lib.hid (And.intro ((HW1.out _).trans (hb1.mono (by simp))) ((HB1.out _).trans (hb1.mono (by simp; omega))))
        clear hb1
        go_wp2
        go_ret2
        exact ⟨⟨_, rfl, fun _ => HT.out _, by first | exact .inl rfl | exact .inr ⟨_, _, rfl⟩⟩, HBB.out.1⟩
      · by_cases k2 : k = 2
        · subst k2
          clear k0 k1
          obtain ⟨qv, hqv⟩ := bool_of (InR v)
          obtain rfl : qv = q := by
            rw [Bool.eq_iff_iff, HQ.out, hqv, isW2 HF.out]
            exact ⟨fun h => ⟨h, HK3.out (by decide), HK4.out (by decide)⟩, fun h => h.1⟩
          have HV := Lib.hid hqv
          clear hqv
          go_enter Try.func75, Try.ntmps75
          go_wp2_with fail
          refine (field_same f true ⟨fun _ => HF.out, fun _ => rfl⟩ _).mono ?_
          rintro e w1 ⟨rfl, rfl⟩
          go_wp2_with fail
          refine (HO.out _ false HPp.out).mono ?_
          rintro e w1 ⟨rfl, hb1⟩
          obtain ⟨c0, c1, c2, c3, c4, hg⟩ := box5 hb1
          have HBB := Lib.hid (And.intro ((HW1.out _).trans (hb1.mono (by simp))) ((HB1.out _).trans (hb1.mono (by simp; omega))))
          clear hb1
          go_wp2
          go_quiet ((go_at_call 87; refine Calls.quiet_of_same (value_same v qv HV.out _)))
          go_wp2
          go_ret2
          refine ⟨⟨_, rfl, fun h => .inl ⟨by show (2 : Int) ≠ 4; decide, v, HV.out.1 (by first | exact h | trivial), rfl, fun x hx => rfl⟩, by first | exact .inl rfl | exact .inr ⟨_, _, rfl⟩⟩, below_drewN HBB.out.1 _⟩
        · by_cases k3 : k = 3
          · subst k3
            clear k0 k1 k2
            obtain ⟨ql, hql⟩ := bool_of (Asc ls)
            obtain rfl : ql = q := by
              rw [Bool.eq_iff_iff, HQ.out, hql, isW3 HF.out]
              exact ⟨fun h => ⟨HK2.out (by decide), h, HK4.out (by decide)⟩, fun h => h.2.1⟩
            have HV := Lib.hid hql
            clear hql
            go_enter Try.func75, Try.ntmps75
            go_wp2_with fail
            refine (field_same f true ⟨fun _ => HF.out, fun _ => rfl⟩ _).mono ?_
            rintro e w1 ⟨rfl, rfl⟩
            go_wp2_with fail
            refine (HO.out _ false HPp.out).mono ?_
            rintro e w1 ⟨rfl, hb1⟩
            obtain ⟨c0, c1, c2, c3, c4, hg⟩ := box5 hb1
            have HBB := Lib.hid (And.intro ((HW1.out _).trans (hb1.mono (by simp))) ((HB1.out _).trans (hb1.mono (by simp; omega))))
            clear hb1
            go_wp2
            go_quiet ((go_at_call 88; refine Calls.quiet_of_same (iList _ B LA Ln Lc ls (HL.out.below (below_drewN HBB.out.2 _)) HN.out.1 ql HV.out)))
            go_wp2
            go_ret2
            exact ⟨⟨_, rfl, fun h => .inr (.inl ⟨by show (3 : Int) ≠ 4; decide, rfl, fun x => rfl⟩), by first | exact .inl rfl | exact .inr ⟨_, _, rfl⟩⟩, below_drewN HBB.out.1 _⟩
          · by_cases k4 : k = 4
            · subst k4
              clear k0 k1 k2 k3
              have HV : Hid (q = true ↔ OkP ps) := Lib.hid (by
                rw [HQ.out, isW4 HF.out]
                exact ⟨fun h => h.2.2, fun h => ⟨HK2.out (by decide), HK3.out (by decide), h⟩⟩)
              go_enter Try.func75, Try.ntmps75
              go_wp2_with fail
              refine (field_same f true ⟨fun _ => HF.out, fun _ => rfl⟩ _).mono ?_
              rintro e w1 ⟨rfl, rfl⟩
              go_wp2_with fail
              refine (HO.out _ false HPp.out).mono ?_
              rintro e w1 ⟨rfl, hb1⟩
              obtain ⟨c0, c1, c2, c3, c4, hg⟩ := box5 hb1
              have HBB := Lib.hid (And.intro ((HW1.out _).trans (hb1.mono (by simp))) ((HB1.out _).trans (hb1.mono (by simp; omega))))
              clear hb1
              go_wp2_with fail
              refine (above_of _ B PA Pn Pc ps (HP.out.below HBB.out.2) (by omega) HN.out.2 q HV.out).mono ?_
              rintro e w2 ⟨⟨o, rfl, hab⟩, hb2⟩
              have HAB := Lib.hid hab
              have HSz := Lib.hid HBB.out.1.size
              have HBC := Lib.hid (HBB.out.1.trans (hb2.mono HBB.out.1.size))
              clear hb2 hab c0 c1 c2 c3 c4
              go_wp2
              go_ret2
              exact ⟨⟨_, rfl, fun h => .inr (.inr ⟨rfl, o, _, HSz.out, rfl, h ▸ HAB.out⟩), by first | exact .inl rfl | exact .inr ⟨_, _, rfl⟩⟩, HBC.out⟩
            · have f0 : (k == 0) = false := by simpa using k0
              have f1 : (k == 1) = false := by simpa using k1
              have f2 : (k == 2) = false := by simpa using k2
              have f3 : (k == 3) = false := by simpa using k3
              have f4 : (k == 4) = false := by simpa using k4
              obtain rfl := HNo.out fun h => by have := h.k; dsimp only at this; omega
              clear k0 k1 k2 k3 k4
              go_enter Try.func75, Try.ntmps75
              go_wp2_with fail
              refine (field_same f true ⟨fun _ => HF.out, fun _ => rfl⟩ _).mono ?_
              rintro e w1 ⟨rfl, rfl⟩
              go_wp2_with fail
              refine (HO.out _ false HPp.out).mono ?_
              rintro e w1 ⟨rfl, hb1⟩
              obtain ⟨c0, c1, c2, c3, c4, hg⟩ := box5 hb1
              have HBB := Lib.hid (And.intro ((HW1.out _).trans (hb1.mono (by simp))) ((HB1.out _).trans (hb1.mono (by simp; omega))))
              clear hb1
              go_wp2
              go_ret2
              first | exact ⟨⟨_, rfl, fun h => (by cases h), .inl rfl⟩, HBB.out.1⟩ | exact ⟨⟨_, rfl, .inl rfl⟩, HBB.out.1⟩
  · obtain rfl := HNo.out fun h => by
      have hv := h.v
      have hl := h.l
      have hp := h.p
      dsimp only at hv hl hp
      rcases HPp.out.1 rfl with ⟨h1, h2⟩ | ⟨h1, h2⟩ | ⟨h1, h2⟩
      · rw [if_neg h1] at hv; exact h2 hv
      · rw [if_neg h1] at hl; exact h2 (HLn.out.1 hl)
      · rw [if_neg h1] at hp; exact h2 (HPn.out.1 hp)
    have HPt := Lib.hid (HPp.out.1 rfl)
    clear HPp
    go_enter Try.func75, Try.ntmps75
    go_wp2_with fail
    refine (field_same f true ⟨fun _ => HF.out, fun _ => rfl⟩ _).mono ?_
    rintro e w1 ⟨rfl, rfl⟩
    go_wp2_with fail
    refine (HO.out _ true ⟨fun _ => HPt.out, fun _ => rfl⟩).mono ?_
    rintro e w1 ⟨rfl, hb1⟩
    have HBB := Lib.hid ((HW1.out _).trans (hb1.mono (by simp)))
    clear hb1
    go_wp2
    go_ret2
    first | exact ⟨⟨_, rfl, fun h => (by cases h), .inl rfl⟩, HBB.out⟩ | exact ⟨⟨_, rfl, .inl rfl⟩, HBB.out⟩
theorem taste_of (w : World) (B : Nat) (t : Wi) (hi : WiIn w B t) (hB : B ≤ w.heap.size) (hn : t.Short) (q : Bool) (hq : q = true ↔ IsW t.dat) :
    Calls Try.prog 75 #[t.val] w fun e w' => (∃ v, e = .returned (.tuple #[v, .bool q]) ∧ (q = true → TasteAt w' t v)) ∧ Below w.heap.size w w' :=
  (taste_ofV w B t hi hB hn q hq).mono fun _ _ ⟨⟨v, h1, h2, _⟩, h3⟩ => ⟨⟨v, h1, fun h => (h2 h).at'⟩, h3⟩
end Go.Proofs.Ytnjnlcmddcjcfaa.num
