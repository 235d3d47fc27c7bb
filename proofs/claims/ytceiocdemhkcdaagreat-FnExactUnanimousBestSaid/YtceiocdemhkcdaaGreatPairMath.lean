/-
  Partial orders given by pairs: who is above whom, circles, heights, a linear order. Plain mathematics.
-/
import Derived.Lib.Hide
namespace Go.Proofs.YtceiocdemhkcdaaGreat.num
set_option maxRecDepth 20000
set_option linter.unusedVariables false

/-- A way down along the pairs. -/
inductive Reach (ps : List (Int × Int)) : Int → Int → Prop
  | one {a b : Int} (h : (a, b) ∈ ps) : Reach ps a b
  | more {a b c : Int} (h : (a, b) ∈ ps) (t : Reach ps b c) : Reach ps a c
theorem Reach.trans {ps : List (Int × Int)} {a b c : Int} (h : Reach ps a b) (h' : Reach ps b c) : Reach ps a c := by
  induction h with
  | one h => exact .more h h'
  | more h _ ih => exact .more h (ih h')
theorem Reach.mono {ps qs : List (Int × Int)} (hs : ∀ p, p ∈ ps → p ∈ qs) {a b : Int} (h : Reach ps a b) : Reach qs a b := by
  induction h with
  | one h => exact .one (hs _ h)
  | more h _ ih => exact .more (hs _ h) ih
theorem Reach.nil {a b : Int} (h : Reach [] a b) : False := by
  cases h with
  | one h => cases h
  | more h _ => cases h
theorem Reach.snoc {ps : List (Int × Int)} {p : Int × Int} {a v : Int} :
    Reach (ps ++ [p]) a v ↔ Reach ps a v ∨ ((a = p.1 ∨ Reach ps a p.1) ∧ (v = p.2 ∨ Reach ps p.2 v)) := by
  have hm : ∀ q, q ∈ ps → q ∈ ps ++ [p] := fun q hq => List.mem_append_left _ hq
  have hp : Reach (ps ++ [p]) p.1 p.2 := .one (List.mem_append_right _ (by simp))
  constructor
  · intro h
    induction h with
    | one h =>
      rcases List.mem_append.1 h with h | h
      · exact .inl (.one h)
      · obtain rfl := List.mem_singleton.1 h
        exact .inr ⟨.inl rfl, .inl rfl⟩
    | more h _ ih =>
      rcases List.mem_append.1 h with h | h
      · rcases ih with ih | ⟨ih1, ih2⟩
        · exact .inl (.more h ih)
        · refine .inr ⟨.inr ?_, ih2⟩
          rcases ih1 with rfl | ih1
          · exact .one h
          · exact .more h ih1
      · obtain rfl := List.mem_singleton.1 h
        rcases ih with ih | ⟨_, ih2⟩
        · exact .inr ⟨.inl rfl, .inr ih⟩
        · exact .inr ⟨.inl rfl, ih2⟩
  · rintro (h | ⟨h1, h2⟩)
    · exact h.mono hm
    · have h3 : Reach (ps ++ [p]) a p.2 := by
        rcases h1 with rfl | h1
        · exact hp
        · exact (h1.mono hm).trans hp
      rcases h2 with rfl | h2
      · exact h3
      · exact h3.trans (h2.mono hm)
theorem Reach.ends {ps : List (Int × Int)} {a b : Int} (h : Reach ps a b) : (∃ y, (a, y) ∈ ps) ∧ ∃ x, (x, b) ∈ ps := by
  induction h with
  | one h => exact ⟨⟨_, h⟩, _, h⟩
  | more h _ ih => exact ⟨⟨_, h⟩, ih.2⟩
/-- The last step. -/
theorem Reach.last {ps : List (Int × Int)} {a b : Int} (h : Reach ps a b) : ∃ x, (x, b) ∈ ps ∧ (x = a ∨ Reach ps a x) := by
  induction h with
  | one h => exact ⟨_, h, .inl rfl⟩
  | more h _ ih =>
    obtain ⟨x, hx, hr⟩ := ih
    refine ⟨x, hx, .inr ?_⟩
    rcases hr with rfl | hr
    · exact .one h
    · exact .more h hr

/-- Reach, reckoned. -/
def stepR (R : Int → Int → Bool) (p : Int × Int) : Int → Int → Bool := fun a v => R a v || ((a == p.1 || R a p.1) && (v == p.2 || R p.2 v))
def rb (ps : List (Int × Int)) : Int → Int → Bool := ps.foldl stepR (fun _ _ => false)
theorem rb_nil (a b : Int) : rb [] a b = false := rfl
theorem rb_snoc (ps : List (Int × Int)) (p : Int × Int) (a v : Int) : rb (ps ++ [p]) a v = (rb ps a v || ((a == p.1 || rb ps a p.1) && (v == p.2 || rb ps p.2 v))) := by
  unfold rb
  rw [List.foldl_append]
  rfl
theorem list_snoc_ind {α : Type} {P : List α → Prop} (h0 : P []) (hs : ∀ l a, P l → P (l ++ [a])) : ∀ l, P l := by
  intro l
  rw [← List.reverse_reverse l]
  induction l.reverse with
  | nil => exact h0
  | cons a r ih => rw [List.reverse_cons]; exact hs _ _ ih
theorem rb_iff (ps : List (Int × Int)) : ∀ a b, rb ps a b = true ↔ Reach ps a b := by
  induction ps using list_snoc_ind with
  | h0 => exact fun a b => ⟨fun h => by simp [rb_nil] at h, fun h => h.nil.elim⟩
  | hs l p ih =>
    intro a b
    rw [rb_snoc, Reach.snoc]
    simp [ih]
theorem rb_false {ps : List (Int × Int)} {a b : Int} (h : ¬ Reach ps a b) : rb ps a b = false := by
  cases e : rb ps a b
  · rfl
  · exact (h ((rb_iff _ _ _).1 e)).elim

def InR (v : Int) : Prop := 0 ≤ v ∧ v ≤ 9
/-- Values in range, no circle. -/
structure Good (ps : List (Int × Int)) : Prop where
  rng : ∀ p, p ∈ ps → InR p.1 ∧ InR p.2
  acy : ∀ v, ¬ Reach ps v v
theorem Good.nil : Good [] := ⟨fun p h => by simp at h, fun v h => h.nil⟩
theorem Good.rb_self {ps : List (Int × Int)} (h : Good ps) (v : Int) : rb ps v v = false := rb_false (h.acy v)
theorem reach_rng {ps : List (Int × Int)} (h : ∀ p, p ∈ ps → InR p.1 ∧ InR p.2) {a b : Int} (r : Reach ps a b) : InR a ∧ InR b := by
  obtain ⟨⟨y, hy⟩, x, hx⟩ := r.ends
  exact ⟨(h _ hy).1, (h _ hx).2⟩
theorem good_snoc {ps : List (Int × Int)} {p : Int × Int} : Good (ps ++ [p]) ↔ Good ps ∧ InR p.1 ∧ InR p.2 ∧ p.1 ≠ p.2 ∧ rb ps p.2 p.1 = false := by
  constructor
  · intro h
    refine ⟨⟨fun q hq => h.rng q (List.mem_append_left _ hq), fun v r => h.acy v (Reach.snoc.2 (.inl r))⟩, (h.rng p (by simp)).1, (h.rng p (by simp)).2, fun e => ?_, rb_false fun r => ?_⟩
    · exact h.acy p.1 (Reach.snoc.2 (.inr ⟨.inl rfl, .inl e⟩))
    · exact h.acy p.1 (Reach.snoc.2 (.inr ⟨.inl rfl, .inr r⟩))
  · rintro ⟨h, h1, h2, hne, hr⟩
    refine ⟨fun q hq => ?_, fun v r => ?_⟩
    · rcases List.mem_append.1 hq with hq | hq
      · exact h.rng q hq
      · obtain rfl := List.mem_singleton.1 hq
        exact ⟨h1, h2⟩
    · have hn : ¬ Reach ps p.2 p.1 := fun r => by rw [(rb_iff _ _ _).2 r] at hr; cases hr
      rcases Reach.snoc.1 r with r | ⟨r1, r2⟩
      · exact h.acy v r
      · rcases r1 with rfl | r1
        · rcases r2 with e | r2
          · exact hne e
          · exact hn r2
        · rcases r2 with rfl | r2
          · exact hn r1
          · exact hn (r2.trans r1)
theorem good_take {ps : List (Int × Int)} (h : Good ps) (k : Nat) : Good (ps.take k) :=
  ⟨fun p hp => h.rng p (List.mem_of_mem_take hp), fun v r => h.acy v (r.mono fun q hq => List.mem_of_mem_take hq)⟩

/-! ### the ten values -/
def vals : List Int := (List.range 10).map fun k : Nat => (k : Int)
theorem mem_vals {v : Int} : v ∈ vals ↔ InR v := by
  unfold vals InR
  rw [List.mem_map]
  constructor
  · rintro ⟨k, hk, rfl⟩
    have := List.mem_range.1 hk
    omega
  · rintro ⟨h1, h2⟩
    exact ⟨v.toNat, List.mem_range.2 (by omega), Int.toNat_of_nonneg h1⟩
theorem filter_lt {α : Type} {p q : α → Bool} : ∀ (l : List α), (∀ x, x ∈ l → p x = true → q x = true) → (∃ x, x ∈ l ∧ q x = true ∧ p x = false) → (l.filter p).length < (l.filter q).length
  | [], _, h => by obtain ⟨x, hx, _⟩ := h; cases hx
  | a :: r, h1, h2 => by
    have hle : ∀ (l : List α), (∀ x, x ∈ l → p x = true → q x = true) → (l.filter p).length ≤ (l.filter q).length := by
      intro l
      induction l with
      | nil => intro _; exact Nat.le_refl _
      | cons b s ih =>
        intro h
        have := ih fun x hx => h x (List.mem_cons_of_mem _ hx)
        cases hp : p b
        · cases hq : q b <;> simp [hp, hq] <;> omega
        · simp [hp, h b (by simp) hp]; omega
    obtain ⟨x, hx, hq, hp⟩ := h2
    rcases List.mem_cons.1 hx with rfl | hx
    · have := hle r fun y hy => h1 y (List.mem_cons_of_mem _ hy)
      simp [hp, hq]
      omega
    · have ih := filter_lt r (fun y hy => h1 y (List.mem_cons_of_mem _ hy)) ⟨x, hx, hq, hp⟩
      cases hpa : p a
      · cases hqa : q a <;> simp [hpa, hqa] <;> omega
      · simp [hpa, h1 a (by simp) hpa]; omega
/-- How many stand above. -/
def upN (ps : List (Int × Int)) (v : Int) : Nat := (vals.filter fun a => rb ps a v).length
theorem upN_le (ps : List (Int × Int)) (v : Int) : upN ps v ≤ 10 := by
  have := List.length_filter_le (fun a => rb ps a v) vals
  have h : vals.length = 10 := rfl
  unfold upN; omega
theorem upN_lt {ps : List (Int × Int)} (h : Good ps) {a v : Int} (r : Reach ps a v) : upN ps a < upN ps v := by
  refine filter_lt vals (fun x _ hx => (rb_iff _ _ _).2 (((rb_iff _ _ _).1 hx).trans r)) ⟨a, mem_vals.2 (reach_rng h.rng r).1, (rb_iff _ _ _).2 r, h.rb_self a⟩

/-! ### heights -/
/-- The longest way to v, of at most k steps. -/
def hgt (ps : List (Int × Int)) : Nat → Int → Nat
  | 0, _ => 0
  | k + 1, v => ps.foldl (fun n p => if p.2 = v then max n (hgt ps k p.1 + 1) else n) 0
/-- .. over the pairs of a list. -/
def hstep (ps : List (Int × Int)) (k : Nat) (v : Int) (l : List (Int × Int)) : Nat := l.foldl (fun n p => if p.2 = v then max n (hgt ps k p.1 + 1) else n) 0
theorem hgt_succ (ps : List (Int × Int)) (k : Nat) (v : Int) : hgt ps (k + 1) v = hstep ps k v ps := rfl
theorem hstep_nil (ps : List (Int × Int)) (k : Nat) (v : Int) : hstep ps k v [] = 0 := rfl
theorem hstep_snoc (ps : List (Int × Int)) (k : Nat) (v : Int) (l : List (Int × Int)) (p : Int × Int) : hstep ps k v (l ++ [p]) = if p.2 = v then max (hstep ps k v l) (hgt ps k p.1 + 1) else hstep ps k v l := by
  unfold hstep
  rw [List.foldl_append]
  rfl
theorem hstep_le {ps : List (Int × Int)} {k : Nat} (v : Int) (l : List (Int × Int)) {m : Nat} (h : ∀ p, p ∈ l → p.2 = v → hgt ps k p.1 + 1 ≤ m) : hstep ps k v l ≤ m := by
  induction l using list_snoc_ind with
  | h0 => exact Nat.zero_le _
  | hs l p ih =>
    rw [hstep_snoc]
    have := ih fun q hq => h q (List.mem_append_left _ hq)
    split
    · exact Nat.max_le.2 ⟨this, h p (by simp) (by assumption)⟩
    · exact this
theorem hstep_ge {ps : List (Int × Int)} {k : Nat} (v : Int) (l : List (Int × Int)) (p : Int × Int) (hp : p ∈ l) (hv : p.2 = v) : hgt ps k p.1 + 1 ≤ hstep ps k v l := by
  induction l using list_snoc_ind with
  | h0 => simp at hp
  | hs l q ih =>
    rw [hstep_snoc]
    rcases List.mem_append.1 hp with hp | hp
    · have := ih hp
      split
      · exact Nat.le_trans this (Nat.le_max_left _ _)
      · exact this
    · obtain rfl := List.mem_singleton.1 hp
      rw [if_pos hv]
      exact Nat.le_max_right _ _
theorem hgt_le (ps : List (Int × Int)) : ∀ (k : Nat) (v : Int), hgt ps k v ≤ k
  | 0, _ => Nat.le_refl _
  | k + 1, v => by
    rw [hgt_succ]
    exact hstep_le v ps fun p _ _ => by have := hgt_le ps k p.1; omega
/-- Enough steps are enough. -/
theorem hgt_enough {ps : List (Int × Int)} (h : Good ps) : ∀ (k : Nat) (v : Int), upN ps v < k → hgt ps (k + 1) v = hgt ps k v
  | 0, _, hk => by omega
  | k + 1, v, hk => by
    have hl : ∀ l : List (Int × Int), (∀ p, p ∈ l → p ∈ ps) → hstep ps (k + 1) v l = hstep ps k v l := by
      intro l
      induction l using list_snoc_ind with
      | h0 => intro _; rfl
      | hs l p ih =>
        intro hm
        rw [hstep_snoc, hstep_snoc, ih fun q hq => hm q (List.mem_append_left _ hq)]
        split
        · rename_i e
          have hr : Reach ps p.1 v := .one (by rw [← e]; exact hm p (by simp))
          have := upN_lt h hr
          rw [hgt_enough h k p.1 (by omega)]
        · rfl
    rw [hgt_succ, hgt_succ ps k]
    exact hl ps fun p hp => hp
def height (ps : List (Int × Int)) (v : Int) : Nat := hgt ps 11 v
theorem hgt_eq {ps : List (Int × Int)} (h : Good ps) (k : Nat) (v : Int) (hk : upN ps v < k) (hk' : k ≤ 11) : hgt ps k v = height ps v := by
  have : ∀ d, k + d ≤ 11 → hgt ps (k + d) v = hgt ps k v := by
    intro d
    induction d with
    | zero => intro _; rfl
    | succ d ih => intro hd; rw [← Nat.add_assoc, hgt_enough h (k + d) v (by omega), ih (by omega)]
  have := this (11 - k) (by omega)
  rw [show k + (11 - k) = 11 by omega] at this
  exact this.symm
theorem height_edge {ps : List (Int × Int)} (h : Good ps) {a b : Int} (hab : (a, b) ∈ ps) : height ps a < height ps b := by
  have hr : Reach ps a b := .one hab
  have h1 := upN_lt h hr
  have h2 := upN_le ps b
  have h3 : hgt ps 10 a + 1 ≤ hgt ps 11 b := by
    show hgt ps 10 a + 1 ≤ hstep ps 10 b ps
    exact hstep_ge (k := 10) b ps (a, b) hab rfl
  rw [hgt_eq h 10 a (by omega) (by omega)] at h3
  exact h3
theorem height_reach {ps : List (Int × Int)} (h : Good ps) {a b : Int} (r : Reach ps a b) : height ps a < height ps b := by
  induction r with
  | one e => exact height_edge h e
  | more e _ ih => exact Nat.lt_trans (height_edge h e) ih

/-! ### a linear order -/
theorem length_le_of_subset {α : Type} [DecidableEq α] : ∀ (l m : List α), l.Nodup → (∀ x, x ∈ l → x ∈ m) → l.length ≤ m.length
  | [], _, _, _ => Nat.zero_le _
  | a :: r, m, hn, hs => by
    obtain ⟨h1, h2⟩ := List.nodup_cons.1 hn
    have ha := hs a (by simp)
    have := length_le_of_subset r (m.erase a) h2 fun x hx => (List.mem_erase_of_ne (fun e => h1 (by rw [← e]; exact hx))).2 (hs x (List.mem_cons_of_mem _ hx))
    have hl := List.length_erase_of_mem ha
    have hp := List.length_pos_of_mem ha
    rw [List.length_cons]
    omega
def freeB (ps : List (Int × Int)) (out : List Int) (v : Int) : Bool := !out.contains v && vals.all fun a => !rb ps a v || out.contains a
theorem freeB_iff {ps : List (Int × Int)} (h : Good ps) {out : List Int} {v : Int} : freeB ps out v = true ↔ v ∉ out ∧ ∀ a, Reach ps a v → a ∈ out := by
  unfold freeB
  simp only [Bool.and_eq_true, Bool.not_eq_true', List.all_eq_true, Bool.or_eq_true]
  constructor
  · rintro ⟨h1, h2⟩
    refine ⟨by simpa using h1, fun a r => ?_⟩
    rcases h2 a (mem_vals.2 (reach_rng h.rng r).1) with e | e
    · rw [(rb_iff _ _ _).2 r] at e; cases e
    · simpa using e
  · rintro ⟨h1, h2⟩
    refine ⟨by simpa using h1, fun a _ => ?_⟩
    cases e : rb ps a v
    · exact .inl rfl
    · exact .inr (by simpa using h2 a ((rb_iff _ _ _).1 e))
/-- What is laid down is closed upwards. -/
structure UpSet (ps : List (Int × Int)) (out : List Int) : Prop where
  nodup : out.Nodup
  rng : ∀ v, v ∈ out → InR v
  up : ∀ v a, v ∈ out → Reach ps a v → a ∈ out
theorem UpSet.nil (ps : List (Int × Int)) : UpSet ps [] := ⟨List.nodup_nil, fun v h => by simp at h, fun v a h => by simp at h⟩
theorem UpSet.snoc {ps : List (Int × Int)} (h : Good ps) {out : List Int} (u : UpSet ps out) {v : Int} (hv : InR v) (hf : freeB ps out v = true) : UpSet ps (out ++ [v]) := by
  obtain ⟨h1, h2⟩ := (freeB_iff h).1 hf
  refine ⟨?_, fun x hx => ?_, fun x a hx r => ?_⟩
  · rw [List.nodup_append]
    exact ⟨u.nodup, by simp, fun a ha b hb e => h1 (by rw [← List.mem_singleton.1 hb, ← e]; exact ha)⟩
  · rcases List.mem_append.1 hx with hx | hx
    · exact u.rng x hx
    · rw [List.mem_singleton.1 hx]; exact hv
  · rcases List.mem_append.1 hx with hx | hx
    · exact List.mem_append_left _ (u.up x a hx r)
    · rw [List.mem_singleton.1 hx] at r
      exact List.mem_append_left _ (h2 a r)
theorem UpSet.le {ps : List (Int × Int)} {out : List Int} (u : UpSet ps out) : out.length ≤ 10 :=
  length_le_of_subset out vals u.nodup fun x hx => mem_vals.2 (u.rng x hx)
/-- In an upward closed set it is enough to look at the pairs. -/
theorem freeB_pairs {ps : List (Int × Int)} (h : Good ps) {out : List Int} (u : UpSet ps out) {v : Int} : freeB ps out v = true ↔ v ∉ out ∧ ∀ p, p ∈ ps → p.2 = v → p.1 ∈ out := by
  rw [freeB_iff h]
  constructor
  · rintro ⟨h1, h2⟩
    exact ⟨h1, fun p hp e => h2 p.1 (.one (by rw [← e]; exact hp))⟩
  · rintro ⟨h1, h2⟩
    refine ⟨h1, fun a r => ?_⟩
    obtain ⟨x, hx, hr⟩ := r.last
    have := h2 (x, v) hx rfl
    rcases hr with rfl | hr
    · exact this
    · exact u.up x a this hr
theorem free_some {ps : List (Int × Int)} (h : Good ps) {out : List Int} (u : UpSet ps out) (hl : out.length < 10) : ∃ v, InR v ∧ freeB ps out v = true := by
  have h0 : ∃ v, v ∈ vals ∧ v ∉ out := by
    refine Classical.byContradiction fun hn => ?_
    have := length_le_of_subset vals out (by decide) fun x hx => Classical.byContradiction fun hx' => hn ⟨x, hx, hx'⟩
    have h10 : vals.length = 10 := rfl
    omega
  obtain ⟨v0, hv0, hn0⟩ := h0
  have key : ∀ (n : Nat) (v : Int), upN ps v ≤ n → InR v → v ∉ out → ∃ v, InR v ∧ freeB ps out v = true := by
    intro n
    induction n with
    | zero =>
      intro v hn hv ho
      refine ⟨v, hv, (freeB_iff h).2 ⟨ho, fun a r => ?_⟩⟩
      have := upN_lt h r
      omega
    | succ n ih =>
      intro v hn hv ho
      by_cases hf : freeB ps out v = true
      · exact ⟨v, hv, hf⟩
      · have : ∃ a, Reach ps a v ∧ a ∉ out := by
          refine Classical.byContradiction fun hx => hf ((freeB_iff h).2 ⟨ho, fun a r => Classical.byContradiction fun ha => hx ⟨a, r, ha⟩⟩)
        obtain ⟨a, r, ha⟩ := this
        have := upN_lt h r
        exact ih a (by omega) (reach_rng h.rng r).1 ha
  exact key _ v0 (Nat.le_refl _) (mem_vals.1 hv0) hn0
/-- v is the smallest that is free. -/
def NextV (ps : List (Int × Int)) (out : List Int) (v : Int) : Prop := InR v ∧ freeB ps out v = true ∧ ∀ u, InR u → freeB ps out u = true → v ≤ u
theorem next_some {ps : List (Int × Int)} (h : Good ps) {out : List Int} (u : UpSet ps out) (hl : out.length < 10) : ∃ v, NextV ps out v := by
  obtain ⟨v, hv, hf⟩ := free_some h u hl
  have key : ∀ (n : Nat) (v : Int), v ≤ n → InR v → freeB ps out v = true → ∃ v, NextV ps out v := by
    intro n
    induction n with
    | zero =>
      intro v hn hv hf
      exact ⟨v, hv, hf, fun x hx _ => by unfold InR at *; omega⟩
    | succ n ih =>
      intro v hn hv hf
      by_cases hx : ∃ x, InR x ∧ freeB ps out x = true ∧ x < v
      · obtain ⟨x, hx, hxf, hlt⟩ := hx
        exact ih x (by omega) hx hxf
      · exact ⟨v, hv, hf, fun x hx' hxf => Classical.byContradiction fun hlt => hx ⟨x, hx', hxf, by omega⟩⟩
  exact key v.toNat v (by unfold InR at hv; omega) hv hf
theorem NextV.one {ps : List (Int × Int)} {out : List Int} {v v' : Int} (h : NextV ps out v) (h' : NextV ps out v') : v = v' := by
  have h1 := h.2.2 v' h'.1 h'.2.1
  have h2 := h'.2.2 v h.1 h.2.1
  omega
/-- The list that stands behind k choices. -/
inductive Lin (ps : List (Int × Int)) : Nat → List Int → Prop
  | nil : Lin ps 0 []
  | snoc {k : Nat} {out : List Int} {v : Int} (h : Lin ps k out) (hv : NextV ps out v) : Lin ps (k + 1) (out ++ [v])
theorem Lin.up {ps : List (Int × Int)} (hg : Good ps) {k : Nat} {out : List Int} (h : Lin ps k out) : UpSet ps out ∧ out.length = k := by
  induction h with
  | nil => exact ⟨.nil _, rfl⟩
  | snoc _ hv ih => exact ⟨ih.1.snoc hg hv.1 hv.2.1, by simp [ih.2]⟩
theorem Lin.one {ps : List (Int × Int)} : ∀ {k : Nat} {o o' : List Int}, Lin ps k o → Lin ps k o' → o = o'
  | 0, _, _, .nil, .nil => rfl
  | _ + 1, _, _, .snoc h hv, .snoc h' hv' => by
    obtain rfl := h.one h'
    rw [hv.one hv']
theorem Lin.next {ps : List (Int × Int)} (hg : Good ps) {k : Nat} {out : List Int} (h : Lin ps k out) (hk : k < 10) : ∃ v, NextV ps out v := by
  obtain ⟨u, hl⟩ := h.up hg
  exact next_some hg u (by omega)
/-- Nobody stands behind one that is below it. -/
theorem Lin.order {ps : List (Int × Int)} (hg : Good ps) {k : Nat} {out : List Int} (h : Lin ps k out) : ∀ (i j : Nat) (x y : Int), i < j → out[i]? = some x → out[j]? = some y → x ≠ y ∧ ¬ Reach ps y x := by
  induction h with
  | nil => intro i j x y _ hx; simp at hx
  | @snoc k out v h hv ih =>
    intro i j x y hij hx hy
    have hf := (freeB_iff hg).1 hv.2.1
    have hj : j < (out ++ [v]).length := by
      rcases Nat.lt_or_ge j (out ++ [v]).length with h' | h'
      · exact h'
      · rw [List.getElem?_eq_none h'] at hy; cases hy
    have hi : i < out.length := by simp at hj; omega
    rw [List.getElem?_append_left hi] at hx
    have hxm := List.mem_of_getElem? hx
    rcases Nat.lt_or_ge j out.length with h' | h'
    · rw [List.getElem?_append_left h'] at hy
      exact ih i j x y hij hx hy
    · have hjl : j = out.length := by simp at hj; omega
      subst hjl
      rw [List.getElem?_append_right (Nat.le_refl _)] at hy
      simp at hy
      subst hy
      refine ⟨fun e => hf.1 (e ▸ hxm), fun r => hf.1 ((h.up hg).1.up x v hxm r)⟩

/-! ### the closure -/
def rowsOf (ps : List (Int × Int)) (l : List (Int × Int)) : List (Int × Int) := l.filter fun p => rb ps p.1 p.2
/-- All couples of values, in order. -/
def grid : List (Int × Int) := (List.range 100).map fun k => (((k / 10 : Nat) : Int), ((k % 10 : Nat) : Int))
/-- The closure's first part: those of the first k couples. -/
def clo (ps : List (Int × Int)) (k : Nat) : List (Int × Int) := rowsOf ps (grid.take k)
theorem grid_at {a b : Nat} (ha : a < 10) (hb : b < 10) : grid[a * 10 + b]? = some ((a : Int), (b : Int)) := by
  unfold grid
  rw [List.getElem?_map, List.getElem?_range (by omega)]
  simp only [Option.map_some]
  rw [show (a * 10 + b) / 10 = a by omega, show (a * 10 + b) % 10 = b by omega]
theorem clo_zero (ps : List (Int × Int)) : clo ps 0 = [] := rfl
theorem clo_succ (ps : List (Int × Int)) {a b : Nat} (ha : a < 10) (hb : b < 10) : clo ps (a * 10 + (b + 1)) = if rb ps a b = true then clo ps (a * 10 + b) ++ [((a : Int), (b : Int))] else clo ps (a * 10 + b) := by
  unfold clo rowsOf
  rw [← Nat.add_assoc, List.take_add_one, grid_at ha hb, List.filter_append]
  cases h : rb ps a b <;> simp [h]
theorem clo_len (ps : List (Int × Int)) (k : Nat) : (clo ps k).length ≤ 100 := by
  unfold clo rowsOf
  have h1 := List.length_filter_le (fun p : Int × Int => rb ps p.1 p.2) (grid.take k)
  have h2 : (grid.take k).length ≤ 100 := by
    rw [List.length_take]
    have : grid.length = 100 := by unfold grid; simp
    omega
  omega
theorem clo_mem {ps : List (Int × Int)} (h : Good ps) {p : Int × Int} : p ∈ clo ps 100 ↔ Reach ps p.1 p.2 := by
  have hl : grid.length = 100 := by unfold grid; simp
  unfold clo rowsOf
  rw [List.take_of_length_le (by omega), List.mem_filter, rb_iff]
  constructor
  · exact fun h => h.2
  · intro r
    refine ⟨?_, r⟩
    obtain ⟨h1, h2⟩ := reach_rng h.rng r
    unfold InR at h1 h2
    have := grid_at (a := p.1.toNat) (b := p.2.toNat) (by omega) (by omega)
    have hm := List.mem_of_getElem? this
    rw [show ((p.1.toNat : Nat) : Int) = p.1 by omega, show ((p.2.toNat : Nat) : Int) = p.2 by omega] at hm
    exact hm
end Go.Proofs.YtceiocdemhkcdaaGreat.num
