/-
  What the law of regrets says of the regret: it is the most that is lost; it falls as the set grows; the least set has no item too many. Plain mathematics.
-/
import Derived.Test.YtceiocdemhkcdaaRegSets
namespace Go.Proofs.Ytceiocdemhkcdaa.num
set_option maxRecDepth 20000
set_option linter.unusedVariables false
set_option linter.unusedSimpArgs false

theorem regF_shape (ds cs : List Da) (l : List (List Int)) : regF ds cs l = ⟨0, 1, []⟩ ∨ ∃ w ∈ l, regF ds cs l = ⟨gu w ds - gu w cs, gu w ds, w⟩ := by
  refine snoc_ind (p := fun l => regF ds cs l = ⟨0, 1, []⟩ ∨ ∃ w ∈ l, regF ds cs l = ⟨gu w ds - gu w cs, gu w ds, w⟩) (Or.inl rfl) ?_ l
  intro l w ih
  by_cases h : (gu w ds - gu w cs) * (regF ds cs l).den > (regF ds cs l).num * gu w ds
  · exact Or.inr ⟨w, by simp, regF_yes h⟩
  · rw [regF_no h]
    rcases ih with ih | ⟨v, hv, ih⟩
    · exact Or.inl ih
    · exact Or.inr ⟨v, List.mem_append_left _ hv, ih⟩
theorem cross {x y a b n d : Int} (h1 : x * d ≤ n * y) (h2 : n * b < a * d) (hb : 0 ≤ b) (hy : 0 ≤ y) (hd : 1 ≤ d) : x * b ≤ a * y := by
  have h3 := Int.mul_le_mul_of_nonneg_right h1 hb
  have h4 := Int.mul_le_mul_of_nonneg_right (Int.le_of_lt h2) hy
  have e1 : x * d * b = x * b * d := Int.mul_right_comm _ _ _
  have e2 : n * y * b = n * b * y := Int.mul_right_comm _ _ _
  have e3 : a * d * y = a * y * d := Int.mul_right_comm _ _ _
  rw [e1, e2] at h3
  rw [e3] at h4
  exact Int.le_of_mul_le_mul_right (Int.le_trans h3 h4) (by omega)
/-- With no weights is more lost than the regret says. -/
theorem regF_max {ds cs : List Da} (hs : ∀ d ∈ cs, d ∈ ds) (l : List (List Int)) : ∀ v ∈ l, (gu v ds - gu v cs) * (regF ds cs l).den ≤ (regF ds cs l).num * gu v ds := by
  refine snoc_ind (p := fun l => ∀ v ∈ l, (gu v ds - gu v cs) * (regF ds cs l).den ≤ (regF ds cs l).num * gu v ds) (by simp) ?_ l
  intro l w ih v hv
  have hr := regF_range hs l
  by_cases h : (gu w ds - gu w cs) * (regF ds cs l).den > (regF ds cs l).num * gu w ds
  · rw [regF_yes h]
    rcases List.mem_append.1 hv with hv | hv
    · exact cross (ih v hv) h (gu_range w ds).1 (gu_range v ds).1 hr.2.2.1
    · obtain rfl := List.mem_singleton.1 hv
      exact Int.le_refl _
  · rw [regF_no h]
    rcases List.mem_append.1 hv with hv | hv
    · exact ih v hv
    · obtain rfl := List.mem_singleton.1 hv
      exact Int.not_lt.1 h
theorem reg_max {ds cs : List Da} (hs : ∀ d ∈ cs, d ∈ ds) {v : List Int} (hv : v ∈ wl) : (gu v ds - gu v cs) * (reg ds cs).den ≤ (reg ds cs).num * gu v ds := regF_max hs wl v hv
/-- With the weights that it names it is lost. -/
theorem reg_at {ds cs : List Da} {v : List Int} (hv : v ∈ wl) (h : v = (reg ds cs).ws) : (gu v ds - gu v cs) * (reg ds cs).den = (reg ds cs).num * gu v ds := by
  rcases regF_shape ds cs wl with e | ⟨w, _, e⟩
  · have e' : reg ds cs = ⟨0, 1, []⟩ := e
    rw [e'] at h
    have := (wl_ok hv).1
    rw [h] at this
    simp at this
  · have e' : reg ds cs = ⟨gu w ds - gu w cs, gu w ds, w⟩ := e
    rw [e'] at h ⊢
    have h' : v = w := h
    subst h'
    rfl
/-- It falls as the set grows. -/
theorem reg_mono {ds a b : List Da} (hab : ∀ d ∈ a, d ∈ b) (hb : ∀ d ∈ b, d ∈ ds) : (reg ds b).num * (reg ds a).den ≤ (reg ds a).num * (reg ds b).den := by
  have ha : ∀ d ∈ a, d ∈ ds := fun d hd => hb d (hab d hd)
  have hr := reg_range ha
  rcases regF_shape ds b wl with e | ⟨w, hw, e⟩
  · have e' : reg ds b = ⟨0, 1, []⟩ := e
    rw [e']
    show 0 * _ ≤ _ * (1 : Int)
    rw [Int.zero_mul, Int.mul_one]
    exact hr.1
  · have e' : reg ds b = ⟨gu w ds - gu w b, gu w ds, w⟩ := e
    rw [e']
    show (gu w ds - gu w b) * _ ≤ _ * gu w ds
    have h1 := gu_mono (w := w) hab
    exact Int.le_trans (Int.mul_le_mul_of_nonneg_right (by omega) (by omega)) (reg_max ha hw)
theorem pk_more {ids : List Int} {ds : List Da} (x : Int) : ∀ d ∈ pk ids ds, d ∈ pk (ids ++ [x]) ds := fun d hd => by
  rw [pk_mem] at hd ⊢
  exact ⟨hd.1, List.mem_append_left _ hd.2⟩
/-- The sets are the lists that are left when some numbers go. -/
theorem msk_sublist : ∀ (l : List Int) (k : Nat), (msk l k).Sublist l
  | [], k => by simp [msk]
  | a :: r, k => by
    rw [msk]
    split
    · exact (msk_sublist r _).cons_cons a
    · exact (msk_sublist r _).cons a
theorem sublist_msk : ∀ {s l : List Int}, s.Sublist l → ∃ k, k < 2 ^ l.length ∧ s = msk l k := by
  intro s l h
  induction h with
  | slnil => exact ⟨0, by decide, rfl⟩
  | @cons s l a _ ih =>
    obtain ⟨k, hk, e⟩ := ih
    refine ⟨2 * k, by rw [List.length_cons, Nat.pow_succ]; omega, ?_⟩
    rw [msk, if_neg (by omega), show 2 * k / 2 = k by omega]
    exact e
  | @cons_cons s l a _ ih =>
    obtain ⟨k, hk, e⟩ := ih
    refine ⟨2 * k + 1, by rw [List.length_cons, Nat.pow_succ]; omega, ?_⟩
    rw [msk, if_pos (by omega), show (2 * k + 1) / 2 = k by omega, ← e]
theorem subs_less {l s : List Int} (h : s ∈ subs l) (i : Nat) : s.take i ++ s.drop (i + 1) ∈ subs l := by
  obtain ⟨k, _, rfl⟩ := subs_mem h
  have h1 : ((msk l k).take i ++ (msk l k).drop (i + 1)).Sublist (msk l k) := by
    rw [← List.eraseIdx_eq_take_drop_succ]
    exact List.eraseIdx_sublist _ _
  obtain ⟨j, hj, e⟩ := sublist_msk (h1.trans (msk_sublist l k))
  rw [e]
  exact subs_has hj
theorem ltL_short {a b : List Int} (h : a.length < b.length) : ltL a b = true := by
  unfold ltL cmpL
  rw [if_pos h]; rfl
/-- No set with an item less than the least is small enough. -/
theorem least_less {P : List Int → Prop} {l r : List Int} (h : LeastS P (subs l) r) {i : Nat} (hi : i < r.length) : ¬ P (r.take i ++ r.drop (i + 1)) := fun hP => by
  have h1 := h.2.2 _ (subs_less h.1 i) hP
  rw [ltL_short (by rw [List.length_append, List.length_take, List.length_drop]; omega)] at h1
  cases h1
theorem okS_iff {ds : List Da} {num den : Int} {s : List Int} : okS ds num den s ↔ (reg ds (pk s ds)).num * den ≤ num * (reg ds (pk s ds)).den := Iff.rfl
theorem small_less {ds : List Da} {num den : Int} {r : List Int} {ok : Bool} (h : SmallP ds num den r ok) (ho : ok = true) {i : Nat} (hi : i < r.length) : num * (reg ds (pk (r.take i ++ r.drop (i + 1)) ds)).den < (reg ds (pk (r.take i ++ r.drop (i + 1)) ds)).num * den := by
  rcases h with ⟨_, _, h⟩ | ⟨_, h, _⟩
  · exact Int.not_le.1 (least_less h hi)
  · rw [ho] at h; cases h
theorem small_known {ds : List Da} {num den : Int} {r : List Int} {ok : Bool} (h : SmallP ds num den r ok) : KnownP ds r := fun x hx => by
  rcases h with ⟨_, _, h⟩ | ⟨_, _, h⟩
  · obtain ⟨k, _, rfl⟩ := subs_mem h.1
    obtain ⟨d, hd, e⟩ := List.mem_map.1 (msk_sub (idsA ds) k x hx)
    exact ⟨d, hd, e⟩
  · rw [h] at hx; simp at hx
theorem small_ok {ds : List Da} {num den : Int} {r : List Int} {ok : Bool} (h : SmallP ds num den r ok) (ho : ok = true) : AreP ds ∧ 1 ≤ den ∧ den ≤ 100 ∧ 0 ≤ num ∧ num ≤ den ∧ (reg ds (pk r ds)).num * den ≤ num * (reg ds (pk r ds)).den := by
  rcases h with ⟨hv, _, h⟩ | ⟨_, h, _⟩
  · exact ⟨hv.1, hv.2.2.1, hv.2.2.2.1, hv.2.2.2.2.1, hv.2.2.2.2.2, h.2.1⟩
  · rw [ho] at h; cases h
end Go.Proofs.Ytceiocdemhkcdaa.num
