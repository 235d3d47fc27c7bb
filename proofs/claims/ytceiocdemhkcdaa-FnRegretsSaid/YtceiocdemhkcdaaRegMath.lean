/-
  Utilities, regrets, smallest sets and greedy ones, as functions of what the items say. Plain mathematics.
-/
import Derived.Test.YtceiocdemhkcdaaItemFind
import Derived.Test.YtceiocdemhkcdaaItemAre
namespace Go.Proofs.Ytceiocdemhkcdaa.num
set_option maxRecDepth 20000
set_option linter.unusedVariables false
set_option linter.unusedSimpArgs false

abbrev Da := Int × List Int
/-- A list of three weights. -/
def WtP (w : List Int) : Prop := w.length = 3 ∧ ∀ v ∈ w, 0 ≤ v ∧ v ≤ 3
def dot : List Int → List Int → Int
  | a :: r, b :: s => a * b + dot r s
  | _, _ => 0
open Classical in
noncomputable def utD (w : List Int) (d : Da) : Int := if IsP d ∧ WtP w then dot w d.2 else 0
theorem utD_yes {w : List Int} {d : Da} (h : IsP d) (hw : WtP w) : utD w d = dot w d.2 := by unfold utD; rw [if_pos ⟨h, hw⟩]
theorem utD_no {w : List Int} {d : Da} (h : ¬ (IsP d ∧ WtP w)) : utD w d = 0 := by unfold utD; rw [if_neg h]
theorem three_list {xs : List Int} (h : xs.length = 3) : ∃ a b c, xs = [a, b, c] := by
  match xs, h with
  | [a, b, c], _ => exact ⟨a, b, c, rfl⟩
theorem mul_small {a v : Int} (ha : 0 ≤ a) (ha3 : a ≤ 3) (hv : 0 ≤ v) (hv9 : v ≤ 9) : 0 ≤ a * v ∧ a * v ≤ 27 := by
  rcases (show a = 0 ∨ a = 1 ∨ a = 2 ∨ a = 3 by omega) with rfl | rfl | rfl | rfl <;> constructor <;> omega
theorem utD_range (w : List Int) (d : Da) : 0 ≤ utD w d ∧ utD w d ≤ 81 := by
  by_cases h : IsP d ∧ WtP w
  · rw [utD_yes h.1 h.2]
    obtain ⟨⟨h1, _, h3⟩, hw3, hw⟩ := h
    obtain ⟨id, xs⟩ := d
    obtain ⟨a, b, c, rfl⟩ := three_list h3
    obtain ⟨x, y, z, rfl⟩ := three_list hw3
    simp only [List.mem_cons, List.not_mem_nil, or_false, forall_eq_or_imp, forall_eq] at h1 hw
    have p1 := mul_small hw.1.1 hw.1.2 h1.1.1 h1.1.2
    have p2 := mul_small hw.2.1.1 hw.2.1.2 h1.2.1.1 h1.2.1.2
    have p3 := mul_small hw.2.2.1 hw.2.2.2 h1.2.2.1 h1.2.2.2
    simp only [dot]
    omega
  · rw [utD_no h]; omega
/-- The greatest utility. -/
noncomputable def gu (w : List Int) (ds : List Da) : Int := ds.foldl (fun m d => max m (utD w d)) 0
theorem gu_nil (w : List Int) : gu w [] = 0 := rfl
theorem gu_snoc (w : List Int) (ds : List Da) (d : Da) : gu w (ds ++ [d]) = max (gu w ds) (utD w d) := by
  unfold gu; rw [List.foldl_append]; rfl
theorem fold_max (f : Da → Int) : ∀ (ds : List Da) (m : Int), m ≤ ds.foldl (fun m d => max m (f d)) m ∧ (∀ d ∈ ds, f d ≤ ds.foldl (fun m d => max m (f d)) m) ∧ (ds.foldl (fun m d => max m (f d)) m = m ∨ ∃ d ∈ ds, ds.foldl (fun m d => max m (f d)) m = f d)
  | [], m => ⟨Int.le_refl _, by simp, Or.inl rfl⟩
  | x :: r, m => by
    obtain ⟨h1, h2, h3⟩ := fold_max f r (max m (f x))
    simp only [List.foldl_cons]
    refine ⟨by omega, fun d hd => ?_, ?_⟩
    · rcases List.mem_cons.1 hd with rfl | hd
      · omega
      · exact h2 d hd
    · rcases h3 with h3 | ⟨d, hd, h3⟩
      · rw [h3]
        by_cases hc : m ≤ f x
        · exact Or.inr ⟨x, List.mem_cons_self, by omega⟩
        · exact Or.inl (by omega)
      · exact Or.inr ⟨d, List.mem_cons_of_mem _ hd, h3⟩
theorem gu_ge {w : List Int} {ds : List Da} {d : Da} (h : d ∈ ds) : utD w d ≤ gu w ds := (fold_max (utD w) ds 0).2.1 d h
theorem gu_hit (w : List Int) (ds : List Da) : gu w ds = 0 ∨ ∃ d ∈ ds, gu w ds = utD w d := (fold_max (utD w) ds 0).2.2
theorem gu_range (w : List Int) (ds : List Da) : 0 ≤ gu w ds ∧ gu w ds ≤ 81 := by
  refine ⟨(fold_max (utD w) ds 0).1, ?_⟩
  rcases gu_hit w ds with h | ⟨d, _, h⟩
  · omega
  · rw [h]; exact (utD_range w d).2
theorem gu_mono {w : List Int} {a b : List Da} (h : ∀ d ∈ a, d ∈ b) : gu w a ≤ gu w b := by
  rcases gu_hit w a with h1 | ⟨d, hd, h1⟩
  · rw [h1]; exact (gu_range w b).1
  · rw [h1]; exact gu_ge (h d hd)
theorem gu_same {w : List Int} {a b : List Da} (h : ∀ d, d ∈ a ↔ d ∈ b) : gu w a = gu w b :=
  Int.le_antisymm (gu_mono fun d hd => (h d).1 hd) (gu_mono fun d hd => (h d).2 hd)
/-- The items whose numbers are in the list. -/
def pk (ids : List Int) (ds : List Da) : List Da := ds.filter fun d => decide (d.1 ∈ ids)
theorem pk_mem {ids : List Int} {ds : List Da} {d : Da} : d ∈ pk ids ds ↔ d ∈ ds ∧ d.1 ∈ ids := by simp [pk]
theorem pk_all (ds : List Da) : pk (ds.map (·.1)) ds = ds := by
  unfold pk
  rw [List.filter_eq_self]
  intro d hd
  simp only [decide_eq_true_eq]
  exact List.mem_map_of_mem hd
theorem pk_snoc (ids : List Int) (ds : List Da) (d : Da) : pk ids (ds ++ [d]) = if d.1 ∈ ids then pk ids ds ++ [d] else pk ids ds := by
  unfold pk
  by_cases h : d.1 ∈ ids <;> simp [List.filter_append, h]

/-! Weights. -/
def wtOf (k : Nat) : List Int := [((k / 16 : Nat) : Int), ((k / 4 % 4 : Nat) : Int), ((k % 4 : Nat) : Int)]
def wl : List (List Int) := (List.range 63).map fun k => wtOf (k + 1)
theorem wl_len : wl.length = 63 := by simp [wl]
theorem wl_get {k : Nat} (h : k < 63) : wl[k]? = some (wtOf (k + 1)) := by
  unfold wl
  rw [List.getElem?_map, List.getElem?_range h]; rfl
theorem wtOf_ok {k : Nat} (h : k < 64) : WtP (wtOf k) := by
  refine ⟨rfl, ?_⟩
  intro v hv
  simp only [wtOf, List.mem_cons, List.not_mem_nil, or_false] at hv
  rcases hv with rfl | rfl | rfl <;> omega
theorem wl_ok {w : List Int} (h : w ∈ wl) : WtP w := by
  unfold wl at h
  obtain ⟨k, hk, rfl⟩ := List.mem_map.1 h
  exact wtOf_ok (by have := List.mem_range.1 hk; omega)
/-- The lists of j weights. -/
def lev : Nat → List (List Int)
  | 0 => [[]]
  | j + 1 => (lev j).flatMap fun l => [l ++ [0], l ++ [1], l ++ [2], l ++ [3]]
theorem lev_three : (lev 3).tail = wl := by decide
theorem lev_first : lev 3 = [0, 0, 0] :: wl := by decide
theorem lev_len : ∀ j, (lev j).length = 4 ^ j
  | 0 => rfl
  | j + 1 => by
    have h := lev_len j
    rw [lev, List.length_flatMap, Nat.pow_succ, ← h]
    generalize lev j = l
    induction l with
    | nil => rfl
    | cons a r ih => simp only [List.map_cons, List.sum_cons, List.length_cons, List.length_nil] at ih ⊢; omega

/-! Regret. -/
/-- What is lost, out of what; the weights. -/
structure Rg where
  num : Int
  den : Int
  ws : List Int
noncomputable def regStep (ds cs : List Da) (s : Rg) (w : List Int) : Rg :=
  if (gu w ds - gu w cs) * s.den > s.num * gu w ds then ⟨gu w ds - gu w cs, gu w ds, w⟩ else s
noncomputable def regF (ds cs : List Da) (l : List (List Int)) : Rg := l.foldl (regStep ds cs) ⟨0, 1, []⟩
noncomputable def reg (ds cs : List Da) : Rg := regF ds cs wl
theorem regF_snoc (ds cs : List Da) (l : List (List Int)) (w : List Int) : regF ds cs (l ++ [w]) = regStep ds cs (regF ds cs l) w := by
  unfold regF; rw [List.foldl_append]; rfl
theorem regF_yes {ds cs : List Da} {l : List (List Int)} {w : List Int} (h : (gu w ds - gu w cs) * (regF ds cs l).den > (regF ds cs l).num * gu w ds) : regF ds cs (l ++ [w]) = ⟨gu w ds - gu w cs, gu w ds, w⟩ := by
  rw [regF_snoc, regStep, if_pos h]
theorem regF_no {ds cs : List Da} {l : List (List Int)} {w : List Int} (h : ¬ (gu w ds - gu w cs) * (regF ds cs l).den > (regF ds cs l).num * gu w ds) : regF ds cs (l ++ [w]) = regF ds cs l := by
  rw [regF_snoc, regStep, if_neg h]
theorem snoc_ind {α : Type} {p : List α → Prop} (h0 : p []) (h1 : ∀ l x, p l → p (l ++ [x])) (l : List α) : p l := by
  have h : ∀ r : List α, p r.reverse := by
    intro r
    induction r with
    | nil => simpa using h0
    | cons x r ih => rw [List.reverse_cons]; exact h1 _ _ ih
  have := h l.reverse
  rwa [List.reverse_reverse] at this
/-- What is kept of the regret's bounds. -/
theorem regF_range {ds cs : List Da} (hs : ∀ d ∈ cs, d ∈ ds) (l : List (List Int)) : 0 ≤ (regF ds cs l).num ∧ (regF ds cs l).num ≤ (regF ds cs l).den ∧ 1 ≤ (regF ds cs l).den ∧ (regF ds cs l).den ≤ 81 := by
  refine snoc_ind (p := fun l => 0 ≤ (regF ds cs l).num ∧ (regF ds cs l).num ≤ (regF ds cs l).den ∧ 1 ≤ (regF ds cs l).den ∧ (regF ds cs l).den ≤ 81) ?_ ?_ l
  · exact ⟨Int.le_refl _, by show (0 : Int) ≤ 1; decide, by show (1 : Int) ≤ 1; decide, by show (1 : Int) ≤ 81; decide⟩
  · intro l w ih
    by_cases h : (gu w ds - gu w cs) * (regF ds cs l).den > (regF ds cs l).num * gu w ds
    · rw [regF_yes h]
      have h1 := gu_range w ds
      have h2 := gu_range w cs
      have h3 := gu_mono (w := w) hs
      refine ⟨by show 0 ≤ gu w ds - gu w cs; omega, by show gu w ds - gu w cs ≤ gu w ds; omega, ?_, h1.2⟩
      show 1 ≤ gu w ds
      by_cases h0 : gu w ds = 0
      · exfalso
        have h4 : gu w cs = 0 := by omega
        rw [h0, h4] at h
        simp at h
      · omega
    · rw [regF_no h]; exact ih
theorem reg_range {ds cs : List Da} (hs : ∀ d ∈ cs, d ∈ ds) : 0 ≤ (reg ds cs).num ∧ (reg ds cs).num ≤ (reg ds cs).den ∧ 1 ≤ (reg ds cs).den ∧ (reg ds cs).den ≤ 81 := regF_range hs wl
theorem regF_same {ds a b : List Da} (h : ∀ d, d ∈ a ↔ d ∈ b) (l : List (List Int)) : regF ds a l = regF ds b l := by
  unfold regF
  have e : regStep ds a = regStep ds b := by
    funext s w
    unfold regStep
    rw [gu_same h]
  rw [e]
theorem reg_same {ds a b : List Da} (h : ∀ d, d ∈ a ↔ d ∈ b) : reg ds a = reg ds b := regF_same h wl
theorem regF_ws {ds cs : List Da} : ∀ l : List (List Int), (regF ds cs l).ws = [] ∨ (regF ds cs l).ws ∈ l := by
  intro l
  refine snoc_ind (p := fun l => (regF ds cs l).ws = [] ∨ (regF ds cs l).ws ∈ l) (Or.inl rfl) ?_ l
  intro l w ih
  by_cases h : (gu w ds - gu w cs) * (regF ds cs l).den > (regF ds cs l).num * gu w ds
  · rw [regF_yes h]; exact Or.inr (by simp)
  · rw [regF_no h]
    rcases ih with ih | ih
    · exact Or.inl ih
    · exact Or.inr (List.mem_append_left _ ih)
theorem reg_ws {ds cs : List Da} : (reg ds cs).ws = [] ∨ ((reg ds cs).ws ∈ wl ∧ (reg ds cs).ws.length = 3) := by
  rcases regF_ws (ds := ds) (cs := cs) wl with h | h
  · exact Or.inl h
  · exact Or.inr ⟨h, (wl_ok h).1⟩
def KnownP (ds : List Da) (ids : List Int) : Prop := ∀ i ∈ ids, ∃ d ∈ ds, d.1 = i
/-- What both functions answer. -/
def RegP (ds : List Da) (ids : List Int) (n d : Int) (ws : List Int) : Prop :=
  (AreP ds ∧ KnownP ds ids ∧ n = (reg ds (pk ids ds)).num ∧ d = (reg ds (pk ids ds)).den ∧ ws = (reg ds (pk ids ds)).ws) ∨ (¬ (AreP ds ∧ KnownP ds ids) ∧ n = 0 ∧ d = 1 ∧ ws = [])
theorem RegP.some (ds : List Da) (ids : List Int) : ∃ n d ws, RegP ds ids n d ws := by
  by_cases h : AreP ds ∧ KnownP ds ids
  · exact ⟨_, _, _, Or.inl ⟨h.1, h.2, rfl, rfl, rfl⟩⟩
  · exact ⟨_, _, _, Or.inr ⟨h, rfl, rfl, rfl⟩⟩
theorem RegP.yes {ds : List Da} {ids : List Int} {n d : Int} {ws : List Int} (h : RegP ds ids n d ws) (h1 : AreP ds) (h2 : KnownP ds ids) : n = (reg ds (pk ids ds)).num ∧ d = (reg ds (pk ids ds)).den ∧ ws = (reg ds (pk ids ds)).ws := by
  rcases h with ⟨_, _, h⟩ | ⟨hn, _⟩
  · exact h
  · exact absurd ⟨h1, h2⟩ hn
theorem RegP.no {ds : List Da} {ids : List Int} {n d : Int} {ws : List Int} (h : RegP ds ids n d ws) (hn : ¬ (AreP ds ∧ KnownP ds ids)) : n = 0 ∧ d = 1 ∧ ws = [] := by
  rcases h with ⟨h1, h2, _⟩ | ⟨_, h⟩
  · exact absurd ⟨h1, h2⟩ hn
  · exact h
theorem pk_sub (ids : List Int) (ds : List Da) : ∀ d ∈ pk ids ds, d ∈ ds := fun _ h => (pk_mem.1 h).1
theorem RegP.small {ds : List Da} {ids : List Int} {n d : Int} {ws : List Int} (h : RegP ds ids n d ws) : 0 ≤ n ∧ n ≤ 81 ∧ 1 ≤ d ∧ d ≤ 81 ∧ ws.length ≤ 3 := by
  rcases h with ⟨_, _, rfl, rfl, rfl⟩ | ⟨_, rfl, rfl, rfl⟩
  · have h := reg_range (pk_sub ids ds)
    have h2 := reg_ws (ds := ds) (cs := pk ids ds)
    refine ⟨h.1, by omega, h.2.2.1, h.2.2.2, ?_⟩
    rcases h2 with h2 | ⟨_, h2⟩ <;> simp [h2]
  · decide

/-! Finding the weights with which the least is kept. -/
/-- The program's fraction that is kept with the weights. -/
structure Fr where
  num : Int
  den : Int
noncomputable def keptF (ds cs : List Da) (w : List Int) : Fr := if gu w ds = 0 then ⟨1, 1⟩ else ⟨gu w cs, gu w ds⟩
def Fr.less (p q : Fr) : Bool := decide (p.num * q.den < q.num * p.den)
/-- The program's state beside the model's: the first weights with the least that is kept. -/
def KeepR (r : Rg) (w : List Int) (p : Fr) : Prop := (r.num = 0 ∧ r.den = 1 ∧ r.ws = [] ∧ p.num = p.den ∧ 0 < p.den) ∨ (0 < r.num ∧ r.num = p.den - p.num ∧ r.den = p.den ∧ r.ws = w ∧ 0 < p.den)
theorem keptF_range {ds cs : List Da} (hs : ∀ d ∈ cs, d ∈ ds) (w : List Int) : 0 ≤ (keptF ds cs w).num ∧ (keptF ds cs w).num ≤ (keptF ds cs w).den ∧ 1 ≤ (keptF ds cs w).den ∧ (keptF ds cs w).den ≤ 81 := by
  have h1 := gu_range w ds
  have h2 := gu_range w cs
  have h3 := gu_mono (w := w) hs
  unfold keptF
  by_cases h : gu w ds = 0
  · rw [if_pos h]; decide
  · rw [if_neg h]; exact ⟨h2.1, h3, by show 1 ≤ gu w ds; omega, h1.2⟩
theorem KeepR.first {ds cs : List Da} (hs : ∀ d ∈ cs, d ∈ ds) (w : List Int) : KeepR (regF ds cs [w]) w (keptF ds cs w) := by
  have h1 := gu_range w ds
  have h2 := gu_range w cs
  have h3 := gu_mono (w := w) hs
  have e : regF ds cs [w] = regStep ds cs ⟨0, 1, []⟩ w := rfl
  rw [e]
  unfold regStep keptF KeepR
  by_cases h : gu w ds = 0
  · have h4 : gu w cs = 0 := by omega
    simp [h, h4]
  · by_cases h4 : gu w ds = gu w cs
    · rw [h4] at h h1 ⊢
      simp [h]; omega
    · have h5 : (gu w ds - gu w cs) * 1 > 0 * gu w ds := by omega
      rw [if_pos h5, if_neg h]
      exact Or.inr ⟨by show 0 < gu w ds - gu w cs; omega, rfl, rfl, rfl, by show 0 < gu w ds; omega⟩
theorem KeepR.more {ds cs : List Da} (hs : ∀ d ∈ cs, d ∈ ds) {l : List (List Int)} {v : List Int} {p : Fr} (h : KeepR (regF ds cs l) v p) (w : List Int) :
    ((keptF ds cs w).less p = true → KeepR (regF ds cs (l ++ [w])) w (keptF ds cs w)) ∧ ((keptF ds cs w).less p = false → KeepR (regF ds cs (l ++ [w])) v p) := by
  have h1 := gu_range w ds
  have h2 := gu_range w cs
  have h3 := gu_mono (w := w) hs
  have key : (keptF ds cs w).less p = true ↔ (gu w ds - gu w cs) * (regF ds cs l).den > (regF ds cs l).num * gu w ds := by
    unfold Fr.less keptF
    rw [decide_eq_true_eq]
    by_cases h0 : gu w ds = 0
    · rw [if_pos h0, h0, show gu w cs = 0 by omega]
      simp only [Int.one_mul, Int.mul_one, Int.sub_self, Int.zero_mul, Int.mul_zero, gt_iff_lt, Int.lt_irrefl, iff_false, Int.not_lt]
      rcases h with ⟨_, _, _, h, _⟩ | ⟨h, h', _⟩ <;> omega
    · rw [if_neg h0]
      show gu w cs * p.den < p.num * gu w ds ↔ _
      rcases h with ⟨e1, e2, _, e4, e5⟩ | ⟨e0, e1, e2, _, e5⟩
      · rw [e1, e2, e4, Int.mul_comm p.den]
        have hx : gu w cs * p.den < gu w ds * p.den ↔ gu w cs < gu w ds := ⟨fun h => Int.lt_of_mul_lt_mul_right h (by omega), fun h => Int.mul_lt_mul_of_pos_right h e5⟩
        rw [hx]; omega
      · rw [e1, e2, Int.sub_mul, Int.sub_mul, Int.mul_comm p.den (gu w ds)]
        omega
  constructor
  · intro hl
    have hk := key.1 hl
    rw [regF_yes hk]
    have h0 : gu w ds ≠ 0 := by
      intro h0
      rw [h0, show gu w cs = 0 by omega] at hk
      simp at hk
    unfold keptF
    rw [if_neg h0]
    have hlt : gu w cs < gu w ds := by
      by_cases hc : gu w cs = gu w ds
      · exfalso
        rw [hc, Int.sub_self, Int.zero_mul] at hk
        have hr := regF_range hs l
        have := Int.mul_nonneg hr.1 h1.1
        omega
      · omega
    exact Or.inr ⟨by show 0 < gu w ds - gu w cs; omega, rfl, rfl, rfl, by show 0 < gu w ds; omega⟩
  · intro hl
    have hk : ¬ _ := fun hx => by rw [key.2 hx] at hl; exact absurd hl (by decide)
    rw [regF_no hk]; exact h
end Go.Proofs.Ytceiocdemhkcdaa.num
