/-
  The sets of a list of numbers in their order; the first one whose regret is small enough. Plain mathematics.
-/
import Derived.Test.YtceiocdemhkcdaaRegMath
namespace Go.Proofs.Ytceiocdemhkcdaa.num
set_option maxRecDepth 20000
set_option linter.unusedVariables false
set_option linter.unusedSimpArgs false

/-- The set that the bits of k name. -/
def msk : List Int → Nat → List Int
  | [], _ => []
  | a :: r, k => if k % 2 = 1 then a :: msk r (k / 2) else msk r (k / 2)
theorem msk_snoc : ∀ (l : List Int) (a : Int) (k : Nat), msk (l ++ [a]) k = msk l k ++ (if k / 2 ^ l.length % 2 = 1 then [a] else [])
  | [], a, k => by simp [msk]
  | b :: r, a, k => by
    have h := msk_snoc r a (k / 2)
    have e : k / 2 / 2 ^ r.length = k / 2 ^ (r.length + 1) := by rw [Nat.div_div_eq_div_mul, Nat.pow_succ, Nat.mul_comm]
    rw [e] at h
    rw [List.cons_append, msk, h, msk, List.length_cons]
    by_cases hk : k % 2 = 1
    · rw [if_pos hk, if_pos hk, List.cons_append]
    · rw [if_neg hk, if_neg hk]
theorem msk_high : ∀ (l : List Int) (k : Nat), msk l (2 ^ l.length + k) = msk l k
  | [], k => rfl
  | b :: r, k => by
    have h := msk_high r (k / 2)
    have e1 : (2 ^ (r.length + 1) + k) % 2 = k % 2 := by rw [Nat.pow_succ]; omega
    have e2 : (2 ^ (r.length + 1) + k) / 2 = 2 ^ r.length + k / 2 := by rw [Nat.pow_succ]; omega
    rw [msk, List.length_cons, e1, e2, h, msk]
theorem msk_sub : ∀ (l : List Int) (k : Nat), ∀ x ∈ msk l k, x ∈ l
  | [], k, x, h => by simp [msk] at h
  | a :: r, k, x, h => by
    rw [msk] at h
    split at h
    · rcases List.mem_cons.1 h with rfl | h
      · exact List.mem_cons_self
      · exact List.mem_cons_of_mem _ (msk_sub r _ x h)
    · exact List.mem_cons_of_mem _ (msk_sub r _ x h)
theorem msk_len : ∀ (l : List Int) (k : Nat), (msk l k).length ≤ l.length
  | [], k => by simp [msk]
  | a :: r, k => by
    have h := msk_len r (k / 2)
    rw [msk]
    split <;> simp <;> omega
/-- All sets, in the order of their bits. -/
def subs (l : List Int) : List (List Int) := (List.range (2 ^ l.length)).map (msk l)
theorem subs_len (l : List Int) : (subs l).length = 2 ^ l.length := by simp [subs]
theorem subs_get {l : List Int} {k : Nat} (h : k < 2 ^ l.length) : (subs l)[k]? = some (msk l k) := by
  unfold subs
  rw [List.getElem?_map, List.getElem?_range h]; rfl
theorem subs_nil : subs [] = [[]] := rfl
theorem subs_snoc (l : List Int) (a : Int) : subs (l ++ [a]) = subs l ++ (subs l).map (· ++ [a]) := by
  unfold subs
  have e : (l ++ [a]).length = l.length + 1 := by simp
  rw [e, Nat.pow_succ, Nat.mul_two, List.range_add, List.map_append]
  congr 1
  · apply List.map_congr_left
    intro k hk
    have hk := List.mem_range.1 hk
    rw [msk_snoc, Nat.div_eq_of_lt hk]
    simp
  · rw [List.map_map, List.map_map]
    apply List.map_congr_left
    intro k hk
    have hk := List.mem_range.1 hk
    show msk (l ++ [a]) (2 ^ l.length + k) = msk l k ++ [a]
    have e2 : (2 ^ l.length + k) / 2 ^ l.length = 1 := by
      rw [Nat.add_div_left _ (Nat.two_pow_pos _), Nat.div_eq_of_lt hk]
    rw [msk_snoc, msk_high, e2]
    simp
theorem subs_mem {l s : List Int} (h : s ∈ subs l) : ∃ k, k < 2 ^ l.length ∧ s = msk l k := by
  unfold subs at h
  obtain ⟨k, hk, rfl⟩ := List.mem_map.1 h
  exact ⟨k, List.mem_range.1 hk, rfl⟩
theorem subs_has {l : List Int} {k : Nat} (h : k < 2 ^ l.length) : msk l k ∈ subs l := List.mem_of_getElem? (subs_get h)
theorem subs_all (l : List Int) : l ∈ subs l := by
  refine snoc_ind (p := fun l => l ∈ subs l) (by decide) ?_ l
  intro l a ih
  rw [subs_snoc]
  exact List.mem_append_right _ (List.mem_map_of_mem ih)

/-! The order of lists. -/
def lexC : List Int → List Int → Int
  | [], [] => 0
  | [], _ :: _ => -1
  | _ :: _, [] => 1
  | a :: r, b :: s => if a < b then -1 else if b < a then 1 else lexC r s
theorem lexC_self : ∀ a, lexC a a = 0
  | [] => rfl
  | x :: r => by rw [lexC, if_neg (by omega), if_neg (by omega)]; exact lexC_self r
theorem lexC_eq : ∀ {a b : List Int}, lexC a b = 0 → a = b
  | [], [], _ => rfl
  | [], _ :: _, h => by simp [lexC] at h
  | _ :: _, [], h => by simp [lexC] at h
  | x :: r, y :: s, h => by
    rw [lexC] at h
    by_cases h1 : x < y
    · rw [if_pos h1] at h; simp at h
    · by_cases h2 : y < x
      · rw [if_neg h1, if_pos h2] at h; simp at h
      · rw [if_neg h1, if_neg h2] at h
        rw [lexC_eq h, show x = y by omega]
theorem lexC_turn : ∀ a b : List Int, lexC b a = -lexC a b
  | [], [] => rfl
  | [], _ :: _ => rfl
  | _ :: _, [] => rfl
  | x :: r, y :: s => by
    have h := lexC_turn r s
    rw [lexC, lexC]
    by_cases h1 : x < y
    · rw [if_pos h1, if_neg (by omega), if_pos h1]; rfl
    · by_cases h2 : y < x
      · rw [if_pos h2, if_neg h1, if_pos h2]
      · rw [if_neg h1, if_neg h2, if_neg h2, if_neg h1, h]
theorem lexC_le : ∀ {a b c : List Int}, lexC a b ≤ 0 → lexC b c ≤ 0 → lexC a c ≤ 0
  | [], [], [], _, _ => by decide
  | [], [], _ :: _, _, _ => by simp [lexC]
  | [], _ :: _, [], _, h => by simp [lexC] at h
  | [], _ :: _, _ :: _, _, _ => by simp [lexC]
  | _ :: _, [], _, h, _ => by simp [lexC] at h
  | _ :: _, _ :: _, [], _, h => by simp [lexC] at h
  | x :: r, y :: s, z :: t, h, g => by
    rw [lexC] at h g ⊢
    by_cases h1 : x < y
    · by_cases g1 : y < z
      · rw [if_pos (by omega)]; decide
      · by_cases g2 : z < y
        · rw [if_neg g1, if_pos g2] at g; simp at g
        · rw [if_pos (by omega)]; decide
    · by_cases h2 : y < x
      · rw [if_neg h1, if_pos h2] at h; simp at h
      · rw [if_neg h1, if_neg h2] at h
        by_cases g1 : y < z
        · rw [if_pos (by omega)]; decide
        · by_cases g2 : z < y
          · rw [if_neg g1, if_pos g2] at g; simp at g
          · rw [if_neg g1, if_neg g2] at g
            rw [if_neg (by omega), if_neg (by omega)]
            exact lexC_le h g
theorem lexC_at : ∀ (k : Nat) {a b : List Int} {x y : Int}, a.take k = b.take k → a[k]? = some x → b[k]? = some y → (x < y → lexC a b = -1) ∧ (y < x → lexC a b = 1)
  | 0, a, b, x, y, _, h1, h2 => by
    match a, b, h1, h2 with
    | u :: r, v :: s, h1, h2 =>
      simp at h1 h2
      subst h1 h2
      rw [lexC]
      exact ⟨fun h => by rw [if_pos h], fun h => by rw [if_neg (by omega), if_pos h]⟩
  | k + 1, a, b, x, y, h, h1, h2 => by
    match a, b, h, h1, h2 with
    | u :: r, v :: s, h, h1, h2 =>
      simp only [List.take_succ_cons, List.cons.injEq, List.getElem?_cons_succ] at h h1 h2
      obtain ⟨rfl, h⟩ := h
      have ih := lexC_at k h h1 h2
      rw [lexC, if_neg (by omega), if_neg (by omega)]
      exact ih
/-- The first list is a beginning of the second. -/
theorem lexC_short : ∀ {a b : List Int}, a = b.take a.length → lexC a b = if a.length < b.length then -1 else 0
  | [], [], _ => rfl
  | [], _ :: _, _ => by simp [lexC]
  | _ :: _, [], h => by simp at h
  | x :: r, y :: s, h => by
    simp only [List.length_cons, List.take_succ_cons, List.cons.injEq] at h
    obtain ⟨rfl, h⟩ := h
    rw [lexC, if_neg (by omega), if_neg (by omega), lexC_short h]
    simp
/-- The second is a beginning of the first, and shorter. -/
theorem lexC_long : ∀ {a b : List Int}, b = a.take b.length → b.length < a.length → lexC a b = 1
  | [], _, _, h => by simp at h
  | _ :: _, [], _, _ => rfl
  | x :: r, y :: s, h, hl => by
    simp only [List.length_cons, List.take_succ_cons, List.cons.injEq] at h hl
    obtain ⟨rfl, h⟩ := h
    rw [lexC, if_neg (by omega), if_neg (by omega)]
    exact lexC_long h (by omega)
/-- Smaller sets first, and sets of the same size in the order of lists. -/
def cmpL (a b : List Int) : Int := if a.length < b.length then -1 else if b.length < a.length then 1 else lexC a b
def ltL (a b : List Int) : Bool := decide (cmpL a b < 0)
theorem cmpL_self (a : List Int) : cmpL a a = 0 := by unfold cmpL; rw [if_neg (by omega), if_neg (by omega)]; exact lexC_self a
theorem cmpL_eq {a b : List Int} (h : cmpL a b = 0) : a = b := by
  unfold cmpL at h
  by_cases h1 : a.length < b.length
  · rw [if_pos h1] at h; simp at h
  · by_cases h2 : b.length < a.length
    · rw [if_neg h1, if_pos h2] at h; simp at h
    · rw [if_neg h1, if_neg h2] at h; exact lexC_eq h
theorem cmpL_turn (a b : List Int) : cmpL b a = -cmpL a b := by
  unfold cmpL
  by_cases h1 : a.length < b.length
  · rw [if_neg (by omega), if_pos h1, if_pos h1]; rfl
  · by_cases h2 : b.length < a.length
    · rw [if_pos h2, if_neg h1, if_pos h2]
    · rw [if_neg h2, if_neg h1, if_neg h1, if_neg h2]; exact lexC_turn a b
theorem cmpL_le {a b c : List Int} (h : cmpL a b ≤ 0) (g : cmpL b c ≤ 0) : cmpL a c ≤ 0 := by
  unfold cmpL at *
  by_cases h1 : a.length < b.length
  · by_cases g1 : b.length < c.length
    · rw [if_pos (by omega)]; decide
    · by_cases g2 : c.length < b.length
      · rw [if_neg g1, if_pos g2] at g; simp at g
      · rw [if_pos (by omega)]; decide
  · by_cases h2 : b.length < a.length
    · rw [if_neg h1, if_pos h2] at h; simp at h
    · rw [if_neg h1, if_neg h2] at h
      by_cases g1 : b.length < c.length
      · rw [if_pos (by omega)]; decide
      · by_cases g2 : c.length < b.length
        · rw [if_neg g1, if_pos g2] at g; simp at g
        · rw [if_neg g1, if_neg g2] at g
          rw [if_neg (by omega), if_neg (by omega)]
          exact lexC_le h g
theorem ltL_irrefl (a : List Int) : ltL a a = false := by unfold ltL; rw [cmpL_self]; rfl
theorem ltL_false {a b : List Int} : ltL a b = false ↔ cmpL b a ≤ 0 := by
  unfold ltL
  rw [decide_eq_false_iff_not, cmpL_turn b a]
  omega
theorem ltL_trans {a b c : List Int} (h : ltL a b = true) (g : ltL b c = true) : ltL a c = true := by
  unfold ltL at *
  rw [decide_eq_true_eq] at *
  have h1 := cmpL_le (a := a) (b := b) (c := c) (by omega) (by omega)
  rcases Int.lt_or_eq_of_le h1 with h2 | h2
  · exact h2
  · obtain rfl := cmpL_eq h2
    rw [cmpL_turn a b] at g
    omega
theorem ltL_ntrans {a b c : List Int} (h : ltL a b = false) (g : ltL b c = false) : ltL a c = false := by
  rw [ltL_false] at *
  exact cmpL_le g h
theorem ltL_both {a b : List Int} (h : ltL a b = false) (g : ltL b a = false) : a = b := by
  rw [ltL_false] at *
  have e := cmpL_turn b a
  exact cmpL_eq (by omega)

/-- The first of those in the list for which P holds. -/
def LeastS (P : List Int → Prop) (L : List (List Int)) (r : List Int) : Prop := r ∈ L ∧ P r ∧ ∀ s ∈ L, P s → ltL s r = false
theorem LeastS.one {P : List Int → Prop} {L : List (List Int)} {r s : List Int} (h : LeastS P L r) (g : LeastS P L s) : r = s := ltL_both (g.2.2 r h.1 h.2.1) (h.2.2 s g.1 g.2.1)
theorem least_some {P : List Int → Prop} : ∀ (L : List (List Int)), (∃ s ∈ L, P s) → ∃ r, LeastS P L r
  | [], h => by obtain ⟨s, hs, _⟩ := h; cases hs
  | x :: t, h => by
    by_cases ht : ∃ s ∈ t, P s
    · obtain ⟨r, hr, hp, hl⟩ := least_some t ht
      by_cases hx : P x ∧ ltL r x = false
      · refine ⟨x, List.mem_cons_self, hx.1, fun s hs hps => ?_⟩
        rcases List.mem_cons.1 hs with rfl | hs
        · exact ltL_irrefl s
        · exact ltL_ntrans (hl s hs hps) hx.2
      · refine ⟨r, List.mem_cons_of_mem _ hr, hp, fun s hs hps => ?_⟩
        rcases List.mem_cons.1 hs with rfl | hs
        · have hx2 : ltL r s = true := by
            rcases hb : ltL r s with _ | _
            · exact absurd ⟨hps, hb⟩ hx
            · rfl
          rcases hc : ltL s r with _ | _
          · rfl
          · have := ltL_trans hx2 hc
            rw [ltL_irrefl] at this; cases this
        · exact hl s hs hps
    · obtain ⟨s, hs, hps⟩ := h
      rcases List.mem_cons.1 hs with rfl | hs
      · refine ⟨s, List.mem_cons_self, hps, fun u hu hpu => ?_⟩
        rcases List.mem_cons.1 hu with rfl | hu
        · exact ltL_irrefl u
        · exact absurd ⟨u, hu, hpu⟩ ht
      · exact absurd ⟨s, hs, hps⟩ ht

/-! The smallest set. -/
def idsA (ds : List Da) : List Int := ds.map (·.1)
/-- The set's regret is at most the fraction. -/
def okS (ds : List Da) (num den : Int) (s : List Int) : Prop := (reg ds (pk s ds)).num * den ≤ num * (reg ds (pk s ds)).den
def Valid8 (ds : List Da) (num den : Int) : Prop := AreP ds ∧ ds.length ≤ 8 ∧ 1 ≤ den ∧ den ≤ 100 ∧ 0 ≤ num ∧ num ≤ den
def SmallP (ds : List Da) (num den : Int) (r : List Int) (ok : Bool) : Prop := (Valid8 ds num den ∧ ok = true ∧ LeastS (okS ds num den) (subs (idsA ds)) r) ∨ (¬ Valid8 ds num den ∧ ok = false ∧ r = [])
theorem regF_all (ds : List Da) (l : List (List Int)) : regF ds ds l = ⟨0, 1, []⟩ := by
  refine snoc_ind (p := fun l => regF ds ds l = ⟨0, 1, []⟩) rfl ?_ l
  intro l w ih
  rw [regF_no, ih]
  rw [ih]
  simp
theorem okS_all {ds : List Da} {num den : Int} (h : 0 ≤ num) : okS ds num den (idsA ds) := by
  unfold okS idsA
  rw [pk_all]
  unfold reg
  rw [regF_all]
  show (0 : Int) * den ≤ num * 1
  omega
theorem SmallP.some (ds : List Da) (num den : Int) : ∃ r ok, SmallP ds num den r ok := by
  by_cases h : Valid8 ds num den
  · obtain ⟨r, hr⟩ := least_some (P := okS ds num den) (subs (idsA ds)) ⟨idsA ds, subs_all _, okS_all h.2.2.2.2.1⟩
    exact ⟨r, true, .inl ⟨h, rfl, hr⟩⟩
  · exact ⟨[], false, .inr ⟨h, rfl, rfl⟩⟩
theorem SmallP.yes {ds : List Da} {num den : Int} {r : List Int} {ok : Bool} (h : SmallP ds num den r ok) (hv : Valid8 ds num den) {s : List Int} (hs : LeastS (okS ds num den) (subs (idsA ds)) s) : ok = true ∧ r = s := by
  rcases h with ⟨_, h1, h2⟩ | ⟨hn, _⟩
  · exact ⟨h1, h2.one hs⟩
  · exact absurd hv hn
theorem SmallP.no {ds : List Da} {num den : Int} {r : List Int} {ok : Bool} (h : SmallP ds num den r ok) (hv : ¬ Valid8 ds num den) : ok = false ∧ r = [] := by
  rcases h with ⟨h1, _⟩ | ⟨_, h⟩
  · exact absurd h1 hv
  · exact h
theorem SmallP.small {ds : List Da} {num den : Int} {r : List Int} {ok : Bool} (h : SmallP ds num den r ok) : r.length ≤ 8 := by
  rcases h with ⟨hv, _, h⟩ | ⟨_, _, rfl⟩
  · obtain ⟨k, _, rfl⟩ := subs_mem h.1
    have h1 := msk_len (idsA ds) k
    have h2 : (idsA ds).length = ds.length := by simp [idsA]
    have h3 := hv.2.1
    omega
  · simp
end Go.Proofs.Ytceiocdemhkcdaa.num
