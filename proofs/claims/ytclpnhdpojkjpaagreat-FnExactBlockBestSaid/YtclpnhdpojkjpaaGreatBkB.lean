/- Contracts of functions that the laws of this chapter call, packed. -/
import Derived.Test.YtclpnhdpojkjpaaGreatBkA
import Derived.Test.YtclpnhdpojkjpaaGreatItemIds
import Derived.Test.YtclpnhdpojkjpaaGreatPairSpecB
import Derived.Test.YtclpnhdpojkjpaaGreatExpSpec
import Derived.Lib.SliceRun
import Derived.Deep.RegionLaw
import Derived.BigQuiet
import Derived.Lib.AppendZeros
import Derived.Test.YtclpnhdpojkjpaaGreatRegion
import Derived.Test.YtclpnhdpojkjpaaGreatPairMarkI
import Derived.Test.YtclpnhdpojkjpaaGreatShelf
import Derived.Sort.OwnSortedInts
namespace Go.Proofs.YtclpnhdpojkjpaaGreat.num
set_option maxRecDepth 20000
set_option linter.unusedVariables false
set_option linter.unusedSimpArgs false

/-- s holds the numbers of l in ascending order. -/
def SortP (l s : List Int) : Prop := s.Pairwise (· ≤ ·) ∧ s.Perm l
theorem sorted_one : ∀ {s s' : List Int}, s.Pairwise (· ≤ ·) → s'.Pairwise (· ≤ ·) → s.Perm s' → s = s'
  | [], s', _, _, h => (List.nil_perm.1 h).symm
  | x :: r, [], _, _, h => List.perm_nil.1 h
  | x :: r, y :: r', h1, h2, h => by
    have hx : x ∈ y :: r' := h.subset List.mem_cons_self
    have hy : y ∈ x :: r := h.symm.subset List.mem_cons_self
    have hxy : x = y := by
      rcases List.mem_cons.1 hx with e | e
      · exact e
      · rcases List.mem_cons.1 hy with e' | e'
        · exact e'.symm
        · have a1 := (List.pairwise_cons.1 h1).1 y e'
          have a2 := (List.pairwise_cons.1 h2).1 x e
          omega
    subst hxy
    rw [sorted_one (List.pairwise_cons.1 h1).2 (List.pairwise_cons.1 h2).2 (List.perm_cons x |>.1 h)]
theorem SortP.one {l l' s s' : List Int} (h : SortP l s) (h' : SortP l' s') (hp : l.Perm l') : s = s' := sorted_one h.1 h'.1 (h.2.trans (hp.trans h'.2.symm))
theorem SortP.len {l s : List Int} (h : SortP l s) : s.length = l.length := h.2.length_eq
theorem SortP.mem {l s : List Int} (h : SortP l s) (x : Int) : x ∈ s ↔ x ∈ l := h.2.mem_iff
/-- One number more: it enters behind all that are not greater. -/
theorem sort_insert {l s u v : List Int} {x : Int} (h : SortP l s) (hs : s = u ++ v) (hu : ∀ y ∈ u, y ≤ x) (hv : ∀ y ∈ v, x ≤ y) : SortP (l ++ [x]) (u ++ [x] ++ v) := by
  obtain ⟨h1, h2⟩ := h
  subst hs
  rw [List.pairwise_append] at h1
  refine ⟨?_, ?_⟩
  · rw [List.append_assoc, List.pairwise_append]
    refine ⟨h1.1, ?_, ?_⟩
    · rw [List.singleton_append, List.pairwise_cons]
      exact ⟨hv, h1.2.1⟩
    · intro a ha b hb
      rw [List.singleton_append, List.mem_cons] at hb
      rcases hb with rfl | hb
      · exact hu a ha
      · exact h1.2.2 a ha b hb
  · have e : (u ++ [x] ++ v).Perm ((u ++ v) ++ [x]) := by
      rw [List.append_assoc, List.append_assoc]
      exact List.Perm.append_left u List.perm_append_comm
    exact e.trans (h2.append_right [x])
/-- In an ascending list, what stands ahead of a number that is not greater than x is not greater. -/
theorem sorted_take {s : List Int} (h : s.Pairwise (· ≤ ·)) {k : Nat} {x y : Int} (hk : s[k]? = some y) (hy : y ≤ x) : ∀ z ∈ s.take (k + 1), z ≤ x := by
  intro z hz
  obtain ⟨i, hi, rfl⟩ := List.getElem_of_mem hz
  rw [List.length_take] at hi
  have hkl := (List.getElem?_eq_some_iff.1 hk).1
  rw [List.getElem_take]
  have e : s[k] = y := (List.getElem?_eq_some_iff.1 hk).2
  rcases Nat.lt_or_ge i k with g | g
  · have := List.pairwise_iff_getElem.1 h i k (by omega) hkl g
    omega
  · have : i = k := by omega
    subst this
    omega

/-- What a pass holds: the window, each item with whether it entered ahead of the first one put aside; what was put aside. -/
structure PassS where
  win : List (Dt × Bool)
  over : List Dt
def keptW (t : Tr) (s : PassS) (x : Dt) : List (Dt × Bool) := s.win.filter fun p => !btD t x p.1
def passW (t : Tr) (N : Nat) (s : PassS) (x : Dt) : PassS :=
  if s.win.any (fun p => btD t p.1 x) then s
  else if (keptW t s x).length < N then ⟨keptW t s x ++ [(x, s.over.isEmpty)], s.over⟩
  else ⟨keptW t s x, s.over ++ [x]⟩
def passS (t : Tr) (N : Nat) : List Dt → PassS → PassS
  | [], s => s
  | x :: r, s => passS t N r (passW t N s x)
theorem passS_snoc (t : Tr) (N : Nat) (x : Dt) : ∀ (l : List Dt) (s : PassS), passS t N (l ++ [x]) s = passW t N (passS t N l s) x
  | [], s => rfl
  | y :: r, s => passS_snoc t N x r _
def runP (t : Tr) (N : Nat) (l : List Dt) : PassS := passS t N l ⟨[], []⟩
def doneOf (s : PassS) : List Dt := (s.win.filter (·.2)).map (·.1)
def leftOf (s : PassS) : List Dt := s.over ++ (s.win.filter (!·.2)).map (·.1)
theorem kept_le (t : Tr) (s : PassS) (x : Dt) : (keptW t s x).length ≤ s.win.length := List.length_filter_le _ _
theorem done_left (s : PassS) : (doneOf s).length + (leftOf s).length = s.win.length + s.over.length := by
  unfold doneOf leftOf
  rw [List.length_append, List.length_map, List.length_map]
  have h : ∀ l : List (Dt × Bool), (l.filter (·.2)).length + (l.filter (!·.2)).length = l.length := fun l => by
    induction l with
    | nil => rfl
    | cons p r ih =>
      rw [List.filter_cons, List.filter_cons]
      cases hp : p.2 <;> simp [hp] <;> omega
  have := h s.win
  omega
/-- What a pass keeps: no more than it read; and it gets on: an early one is in the window, or one is gone. -/
theorem run_inv (t : Tr) (N : Nat) (hN : 0 < N) : ∀ l : List Dt, (runP t N l).win.length + (runP t N l).over.length ≤ l.length ∧ (l ≠ [] → (∃ p ∈ (runP t N l).win, p.2 = true) ∨ (runP t N l).win.length + (runP t N l).over.length < l.length) := by
  intro l
  have key : ∀ r : List Dt, (runP t N r.reverse).win.length + (runP t N r.reverse).over.length ≤ r.length ∧ (r ≠ [] → (∃ p ∈ (runP t N r.reverse).win, p.2 = true) ∨ (runP t N r.reverse).win.length + (runP t N r.reverse).over.length < r.length) := by
    intro r
    induction r with
    | nil => exact ⟨Nat.le_refl _, fun h => absurd rfl h⟩
    | cons x r ih =>
      rw [List.reverse_cons, show runP t N (r.reverse ++ [x]) = passW t N (runP t N r.reverse) x from passS_snoc t N x _ _]
      obtain ⟨s, hs⟩ : ∃ s, runP t N r.reverse = s := ⟨_, rfl⟩
      rw [hs] at ih ⊢
      obtain ⟨ih1, ih2⟩ := ih
      have hk := kept_le t s x
      unfold passW
      rw [List.length_cons]
      split
      · exact ⟨by omega, fun _ => .inr (by omega)⟩
      · split
        · refine ⟨by simp; omega, fun _ => ?_⟩
          by_cases hr : r = []
          · subst hr
            rw [← hs]
            left
            exact ⟨(x, true), by simp [runP, passS, keptW], rfl⟩
          · by_cases hl : (keptW t s x).length < s.win.length
            · right; simp; omega
            · rcases ih2 hr with ⟨p, hp, hp2⟩ | h
              · left
                have e : keptW t s x = s.win := (List.filter_sublist (l := s.win)).eq_of_length (by show (keptW t s x).length = _; omega)
                exact ⟨p, by simp [e, hp], hp2⟩
              · right; simp; omega
        · rename_i _ hkN
          refine ⟨by simp; omega, fun _ => ?_⟩
          by_cases hr : r = []
          · subst hr
            have h0 : s.win = [] := by rw [← hs]; rfl
            rw [show keptW t s x = [] by unfold keptW; rw [h0]; rfl] at hkN
            exact absurd hN hkN
          · by_cases hl : (keptW t s x).length < s.win.length
            · right; simp; omega
            · rcases ih2 hr with ⟨p, hp, hp2⟩ | h
              · left
                have e : keptW t s x = s.win := (List.filter_sublist (l := s.win)).eq_of_length (by show (keptW t s x).length = _; omega)
                exact ⟨p, by show p ∈ keptW t s x; rw [e]; exact hp, hp2⟩
              · right; simp; omega
  have h := key l.reverse
  rw [List.reverse_reverse, List.length_reverse] at h
  exact ⟨h.1, fun hl => h.2 (by simpa using hl)⟩
theorem pass_less (t : Tr) (N : Nat) (hN : 0 < N) {l : List Dt} (hl : l ≠ []) : (leftOf (runP t N l)).length < l.length := by
  obtain ⟨h1, h2⟩ := run_inv t N hN l
  have h3 := done_left (runP t N l)
  rcases h2 hl with ⟨p, hp, hp2⟩ | h
  · have : 0 < (doneOf (runP t N l)).length := by
      unfold doneOf
      rw [List.length_map]
      exact List.length_pos_of_mem (List.mem_filter.2 ⟨hp, hp2⟩)
    omega
  · omega
/-- All passes: the best items found, and how many passes. -/
def blocks (t : Tr) (N : Nat) : Nat → List Dt → List Dt × Nat
  | 0, _ => ([], 0)
  | f + 1, l => if l.isEmpty then ([], 0) else (doneOf (runP t N l) ++ (blocks t N f (leftOf (runP t N l))).1, (blocks t N f (leftOf (runP t N l))).2 + 1)
theorem blocks_le (t : Tr) (N : Nat) (hN : 0 < N) : ∀ (f : Nat) (l : List Dt), l.length ≤ f → (blocks t N f l).1.length ≤ l.length ∧ (blocks t N f l).2 ≤ l.length
  | 0, l, _ => ⟨Nat.zero_le _, Nat.zero_le _⟩
  | f + 1, l, h => by
    rw [blocks]
    split
    · exact ⟨Nat.zero_le _, Nat.zero_le _⟩
    · rename_i hl
      have hl' : l ≠ [] := by simpa using hl
      have h1 := pass_less t N hN hl'
      obtain ⟨h2, h3⟩ := blocks_le t N hN f (leftOf (runP t N l)) (by omega)
      have h4 := done_left (runP t N l)
      have h5 := (run_inv t N hN l).1
      refine ⟨?_, ?_⟩
      · show (doneOf _ ++ _).length ≤ _
        rw [List.length_append]; omega
      · show _ + 1 ≤ _
        omega
/-- More passes than needed change nothing. -/
theorem blocks_more (t : Tr) (N : Nat) (hN : 0 < N) : ∀ (f g : Nat) (l : List Dt), l.length ≤ f → l.length ≤ g → blocks t N f l = blocks t N g l
  | 0, 0, l, _, _ => rfl
  | 0, g + 1, l, h, _ => by
    have : l = [] := List.eq_nil_of_length_eq_zero (by omega)
    subst this; rfl
  | f + 1, 0, l, _, h => by
    have : l = [] := List.eq_nil_of_length_eq_zero (by omega)
    subst this; rfl
  | f + 1, g + 1, l, h1, h2 => by
    rw [blocks, blocks]
    split
    · rfl
    · rename_i hl
      have hl' : l ≠ [] := by simpa using hl
      have h3 := pass_less t N hN hl'
      rw [blocks_more t N hN f g _ (by omega) (by omega)]
/-- What BlockBest answers. -/
def BlockP (nds : List ND) (ds : List Dt) (N : Int) (r : List Int) (p : Int) : Prop := (∃ t, IsE nds ∧ AreP ds ∧ (1 ≤ N ∧ N ≤ 16) ∧ Post nds t ∧ SortP (idsD (blocks t N.toNat ds.length ds).1) r ∧ p = ((blocks t N.toNat ds.length ds).2 : Nat)) ∨ (¬ (IsE nds ∧ AreP ds ∧ (1 ≤ N ∧ N ≤ 16)) ∧ r = [] ∧ p = 0)
theorem BlockP.one {nds : List ND} {ds : List Dt} {N : Int} {r r' : List Int} {p p' : Int} (h : BlockP nds ds N r p) (h' : BlockP nds ds N r' p') : r = r' ∧ p = p' := by
  rcases h with ⟨t, h1, h2, h3, h4, h5, rfl⟩ | ⟨hn, rfl, rfl⟩ <;> rcases h' with ⟨t', g1, g2, g3, g4, g5, rfl⟩ | ⟨hn', rfl, rfl⟩
  · rw [h4.one g4] at h5 ⊢
    exact ⟨h5.one g5 (.refl _), rfl⟩
  · exact absurd ⟨h1, h2, h3⟩ hn'
  · exact absurd ⟨g1, g2, g3⟩ hn
  · exact ⟨rfl, rfl⟩
end Go.Proofs.YtclpnhdpojkjpaaGreat.num
namespace Go.Proofs.YtclpnhdpojkjpaaGreat.num
set_option maxRecDepth 20000
set_option linter.unusedVariables false
set_option linter.unusedSimpArgs false

/-- The item numbered k is better than the one numbered i. -/
def btI (t : Tr) (ds : List Dt) (k i : Int) : Bool := match findD ds k, findD ds i with | some x, some y => btD t x y | _, _ => false
theorem btI_of {ds : List Dt} (h : AreP ds) (t : Tr) {x y : Dt} (hx : x ∈ ds) (hy : y ∈ ds) : btI t ds x.1 y.1 = btD t x y := by unfold btI; rw [findD_of h hx, findD_of h hy]
def mergeL (t : Tr) (ds : List Dt) (a b : List Int) : List Int := (a.filter fun i => !b.any fun k => btI t ds k i) ++ (b.filter fun k => !a.any fun i => btI t ds i k)
def Known (ds : List Dt) (a : List Int) : Prop := ∀ i ∈ a, findD ds i ≠ none
/-- What MergeBest answers. -/
def MergeP (nds : List ND) (ds : List Dt) (a b r : List Int) : Prop := (∃ t, IsE nds ∧ AreP ds ∧ Known ds a ∧ Known ds b ∧ Post nds t ∧ SortP (mergeL t ds a b) r) ∨ (¬ (IsE nds ∧ AreP ds ∧ Known ds a ∧ Known ds b) ∧ r = [])
theorem MergeP.one {nds : List ND} {ds : List Dt} {a b r r' : List Int} (h : MergeP nds ds a b r) (h' : MergeP nds ds a b r') : r = r' := by
  rcases h with ⟨t, h1, h2, h3, h4, h5, h6⟩ | ⟨hn, rfl⟩ <;> rcases h' with ⟨t', g1, g2, g3, g4, g5, g6⟩ | ⟨hn', rfl⟩
  · rw [h5.one g5] at h6
    exact h6.one g6 (.refl _)
  · exact absurd ⟨h1, h2, h3, h4⟩ hn'
  · exact absurd ⟨g1, g2, g3, g4⟩ hn
  · rfl
theorem rise_pair {ds : List Dt} (h : AreP ds) : (idsD ds).Pairwise (· < ·) := by
  rw [List.pairwise_iff_getElem]
  intro i j hi hj hij
  unfold idsD at hi hj ⊢
  have hl : j < ds.length := by rw [List.length_map] at hj; exact hj
  have h1 := rise_lt h.2.1 hij hl
  rw [List.getD_eq_getElem?_getD, List.getD_eq_getElem?_getD, List.getElem?_eq_getElem hi, List.getElem?_eq_getElem hj] at h1
  exact h1
theorem rise_sub {ds l : List Dt} (h : AreP ds) (hl : l.Sublist ds) : (idsD l).Pairwise (· ≤ ·) :=
  (List.Pairwise.sublist (List.Sublist.map _ hl) (rise_pair h)).imp fun h => Int.le_of_lt h
theorem sorted_self {l s : List Int} (h : SortP l s) (hl : l.Pairwise (· ≤ ·)) : s = l := sorted_one h.1 hl h.2
theorem SortP.self {l : List Int} (hl : l.Pairwise (· ≤ ·)) : SortP l l := ⟨hl, .refl _⟩
theorem not_best {nds : List ND} {t : Tr} (ht : Post nds t) {l : List Dt} {x y : Dt} (hy : y ∈ l) (hb : btD t y x = true) : ∃ b ∈ bestD t l, btD t b x = true := by
  obtain ⟨b, h1, h2, h3⟩ := best_above ht l _ x y (Nat.le_refl _) hy hb
  exact ⟨b, List.mem_filter.2 ⟨h1, h2⟩, h3⟩
/-- The best of a that none of b's best beats: those of a that nothing of both beats. -/
theorem half_best {nds : List ND} {t : Tr} (ht : Post nds t) (a b : List Dt) : (bestD t a).filter (fun x => !(bestD t b).any fun y => btD t y x) = a.filter (fun x => bestB t a x && bestB t b x) := by
  unfold bestD
  rw [List.filter_filter]
  apply List.filter_congr
  intro x hx
  have e : (!(b.filter (bestB t b)).any fun y => btD t y x) = bestB t b x := by
    cases h : bestB t b x
    · unfold bestB at h
      obtain ⟨y, hy, hb⟩ : ∃ y ∈ b, btD t y x = true := by
        rw [List.all_eq_false] at h
        obtain ⟨y, hy, hb⟩ := h
        exact ⟨y, hy, by simpa using hb⟩
      obtain ⟨z, hz, hzb⟩ := not_best ht hy hb
      have : ((b.filter (bestB t b)).any fun y => btD t y x) = true := List.any_eq_true.2 ⟨z, hz, hzb⟩
      rw [this]; rfl
    · have : ((b.filter (bestB t b)).any fun y => btD t y x) = false := by
        rw [List.any_eq_false]
        intro y hy
        unfold bestB at h
        have := List.all_eq_true.1 h y (List.mem_filter.1 hy).1
        simpa using this
      rw [this]; rfl
  rw [e, Bool.and_comm]
theorem bestB_app (t : Tr) (a b : List Dt) (x : Dt) : bestB t (a ++ b) x = (bestB t a x && bestB t b x) := by unfold bestB; rw [List.all_append]
theorem filt_ids {ds l m : List Dt} (h : AreP ds) (t : Tr) (hl : ∀ x ∈ l, x ∈ ds) (hm : ∀ x ∈ m, x ∈ ds) : (idsD l).filter (fun i => !(idsD m).any fun k => btI t ds k i) = idsD (l.filter fun x => !m.any fun y => btD t y x) := by
  unfold idsD
  rw [List.filter_map]
  congr 1
  apply List.filter_congr
  intro x hx
  simp only [Function.comp]
  congr 1
  rw [List.any_map]
  rw [Bool.eq_iff_iff, List.any_eq_true, List.any_eq_true]
  constructor
  · rintro ⟨y, hy, hb⟩
    exact ⟨y, hy, by rw [← btI_of h t (hm y hy) (hl x hx)]; exact hb⟩
  · rintro ⟨y, hy, hb⟩
    exact ⟨y, hy, by simp only [Function.comp]; rw [btI_of h t (hm y hy) (hl x hx)]; exact hb⟩
theorem merge_best {nds : List ND} {t : Tr} (ht : Post nds t) {ds a b : List Dt} (h : AreP ds) (ha : ∀ x ∈ a, x ∈ ds) (hb : ∀ x ∈ b, x ∈ ds) : mergeL t ds (idsD (bestD t a)) (idsD (bestD t b)) = idsD (bestD t (a ++ b)) := by
  have sa : ∀ x ∈ bestD t a, x ∈ ds := fun x hx => ha x (List.mem_filter.1 hx).1
  have sb : ∀ x ∈ bestD t b, x ∈ ds := fun x hx => hb x (List.mem_filter.1 hx).1
  unfold mergeL
  rw [filt_ids h t sa sb, filt_ids h t sb sa, half_best ht a b, half_best ht b a]
  have e : bestD t (a ++ b) = (a.filter fun x => bestB t a x && bestB t b x) ++ (b.filter fun x => bestB t b x && bestB t a x) := by
    unfold bestD
    rw [List.filter_append]
    congr 1
    · exact List.filter_congr fun x _ => bestB_app t a b x
    · exact List.filter_congr fun x _ => by rw [bestB_app, Bool.and_comm]
  rw [e]
  unfold idsD
  rw [List.map_append]
/-- How many comparisons the halves count. -/
def divN (t : Tr) : Nat → List Dt → Nat
  | 0, _ => 0
  | f + 1, l => if l.length ≤ 1 then 0 else divN t f (l.take (l.length / 2)) + divN t f (l.drop (l.length / 2)) + (bestD t (l.take (l.length / 2))).length * (bestD t (l.drop (l.length / 2))).length
theorem best_short {nds : List ND} {t : Tr} (ht : Post nds t) {l : List Dt} (h : l.length ≤ 1) : bestD t l = l := by
  match l, h with
  | [], _ => rfl
  | [x], _ =>
    unfold bestD bestB
    simp [bt_irr ht]
theorem best_le (t : Tr) (l : List Dt) : (bestD t l).length ≤ l.length := List.length_filter_le _ _
theorem divN_le (t : Tr) : ∀ (f : Nat) (l : List Dt), 2 * divN t f l + l.length ≤ l.length * l.length
  | 0, l => by
    simp only [divN]
    rcases Nat.eq_zero_or_pos l.length with e | e
    · rw [e]; omega
    · have := Nat.mul_le_mul_left l.length e; omega
  | f + 1, l => by
    rw [divN]
    split
    · rcases Nat.eq_zero_or_pos l.length with e | e
      · rw [e]; omega
      · have := Nat.mul_le_mul_left l.length e; omega
    · obtain ⟨p, hp⟩ : ∃ p, l.length / 2 = p := ⟨_, rfl⟩
      rw [hp]
      have h1 := divN_le t f (l.take p)
      have h2 := divN_le t f (l.drop p)
      have h3 := Nat.mul_le_mul (best_le t (l.take p)) (best_le t (l.drop p))
      have e1 : (l.take p).length = p := by rw [List.length_take]; omega
      obtain ⟨q, hq⟩ : ∃ q, (l.drop p).length = q := ⟨_, rfl⟩
      have hl : l.length = p + q := by rw [← hq, List.length_drop]; omega
      rw [e1] at h1 h3
      rw [hq] at h2 h3
      have hsq : (p + q) * (p + q) = p * p + p * q + (p * q + q * q) := by rw [Nat.add_mul, Nat.mul_add, Nat.mul_add, Nat.mul_comm q p]
      rw [hl, hsq]
      omega
/-- What DivideBest answers. -/
def DivP (nds : List ND) (ds : List Dt) (r : List Int × Int) : Prop := AnsP nds ds (fun t => (idsD (bestD t ds), ((divN t ds.length ds : Nat) : Int))) ([], 0) r
end Go.Proofs.YtclpnhdpojkjpaaGreat.num
namespace Go.Proofs.YtclpnhdpojkjpaaGreat.num
set_option maxRecDepth 20000
open Go.RowKit
set_option linter.unusedVariables false
set_option linter.unusedSimpArgs false

set_option maxRecDepth 20000 in
theorem sFine (w : World) (B : Nat) (A : Option Addr) (n c : Nat) (its : List It) (A2 : Option Addr) (n2 c2 : Nat) (ns : List Nd) (h : InB w B A n its A2 n2 c2 ns) (q : Bool) (hq : q = true ↔ IsE (datN ns) ∧ AreP (its.map It.dat)) :
    Calls Tryz.prog 39 #[.slice A n c, .slice A2 n2 c2] w fun e w' => e = .returned (.bool q) ∧ Below w.heap.size w w' := by
  obtain ⟨qa, hqa⟩ := bool_of (AreP (its.map It.dat))
  obtain ⟨qe, hqe⟩ := bool_of (IsE (datN ns))
  have HA : Hid (Calls Tryz.prog 14 #[.slice A n c] w fun e w' => e = .returned (.bool qa) ∧ Below w.heap.size w w') := Lib.hid (sAre w B A n c its h.i h.hB h.hn h.si qa hqa)
  have HE : Hid (∀ w1, Below w.heap.size w w1 → Calls Tryz.prog 15 #[.slice A2 n2 c2] w1 fun e w' => e = .returned (.bool qe) ∧ Below w1.heap.size w1 w') := Lib.hid fun w1 h1 => sIsE w1 B A2 n2 c2 ns (h.below h1).e (h.below h1).hB h.hn2 h.se qe hqe
  have HQ : Hid (q = (qa && qe)) := Lib.hid (by
    rw [Bool.eq_iff_iff, Bool.and_eq_true, hq, hqa, hqe]
    exact And.comm)
  clear hq hqa hqe h
  go_enter Tryz.func39, Tryz.ntmps39
  go_wp2_with fail
  refine HA.out.mono ?_
  rintro e w1 ⟨rfl, hb1⟩
  have HB1 := Lib.hid hb1
  clear hb1 HA
  cases qa
  · obtain rfl : q = false := HQ.out
    go_wp2
    go_ret
    exact ⟨rfl, HB1.out⟩
  · go_wp2_with fail
    refine (HE.out _ HB1.out).mono ?_
    rintro e w2 ⟨rfl, hb2⟩
    have HB2 := Lib.hid (below_on HB1.out hb2)
    clear hb2
    obtain rfl : q = qe := by rw [HQ.out]; rfl
    go_wp2
    go_ret
    exact ⟨rfl, HB2.out⟩
/-- The model's comparison of two of the items. -/
theorem sCmpIn (w : World) (B : Nat) (A : Option Addr) (n c : Nat) (its : List It) (A2 : Option Addr) (n2 c2 : Nat) (ns : List Nd) (h : InB w B A n its A2 n2 c2 ns) (he : IsE (datN ns)) (ha : AreP (its.map It.dat)) (t : Tr) (ht : Post (datN ns) t) (W : World) (hW : Below w.heap.size w W) (x y : It) (hx : x ∈ its) (hy : y ∈ its) :
    Calls Tryz.prog 75 #[.slice A2 n2 c2, .agg #[.int .i64 x.id, .slice x.A x.n x.c], .agg #[.int .i64 y.id, .slice y.A y.n y.c]] W fun e w' => e = .returned (.int .i64 (cmpD t x.dat y.dat)) ∧ Below W.heap.size W w' := by
  have h1 := h.below hW
  rw [← cmpD_it]
  exact sCompare W B A2 n2 c2 ns x y h1.e (h1.i.mem hx) (h1.i.mem hy) h1.hB h1.se (ha.1 _ (List.mem_map_of_mem hx)) (ha.1 _ (List.mem_map_of_mem hy)) t ht (by
    have h9 := he.1
    have hl : ns.length = n2 := h.e.len
    unfold datN at h9
    rw [List.length_map] at h9
    omega)
theorem all_snoc {its : List It} {f : It → Bool} {k : Nat} {t : It} (hat : its[k]? = some t) : (its.take (k + 1)).all f = ((its.take k).all f && f t) := by
  rw [take_at hat, List.all_append]
  simp
theorem fil_snoc {its : List It} {f : It → Bool} {k : Nat} {t : It} (hat : its[k]? = some t) : idL ((its.take (k + 1)).filter f) = idL ((its.take k).filter f) ++ (if f t then [t.id] else []) := by
  rw [take_at hat, List.filter_append]
  unfold idL
  rw [List.map_append]
  congr 1
  cases h : f t <;> simp [h]
theorem flt_snoc {its : List It} {f : It → Bool} {k : Nat} {t : It} (hat : its[k]? = some t) : ((its.take (k + 1)).filter f).length = ((its.take k).filter f).length + (if f t then 1 else 0) := by
  rw [take_at hat, List.filter_append, List.length_append]
  congr 1
  cases h : f t <;> simp [h]
theorem fil_len (its : List It) (f : It → Bool) (k : Nat) : (idL ((its.take k).filter f)).length ≤ k := by
  rw [idL_len]
  have h1 : ((its.take k).filter f).length ≤ (its.take k).length := List.length_filter_le _ _
  rw [List.length_take] at h1
  omega
theorem ids_fil (its : List It) (f : Dt → Bool) : idsD ((its.map It.dat).filter f) = idL (its.filter fun u => f u.dat) := by
  unfold idsD idL
  rw [List.filter_map, List.map_map]
  rfl
theorem best_ids (t : Tr) (its : List It) : idsD (bestD t (its.map It.dat)) = idL (its.filter fun x => its.all fun y => !btD t y.dat x.dat) := by
  unfold bestD
  rw [ids_fil]
  congr 1
  apply List.filter_congr
  intro x _
  unfold bestB
  rw [List.all_map]
  rfl
set_option maxRecDepth 20000 in
set_option maxHeartbeats 3200000 in
theorem sBestL (w : World) (B : Nat) (A : Option Addr) (n c : Nat) (its : List It) (A2 : Option Addr) (n2 c2 : Nat) (ns : List Nd) (h : InB w B A n its A2 n2 c2 ns) (he : IsE (datN ns)) (ha : AreP (its.map It.dat)) (t : Tr) (ht : Post (datN ns) t) :
    Calls Tryz.prog 54 #[.slice A n c, .slice A2 n2 c2] w fun e w' => (∃ v, e = .returned v ∧ OwnI w' w.heap.size v (idsD (bestD t (its.map It.dat)))) ∧ Below w.heap.size w w' := by
  have HC : Hid (∀ W, Below w.heap.size w W → ∀ x y, x ∈ its → y ∈ its → Calls Tryz.prog 75 #[.slice A2 n2 c2, .agg #[.int .i64 x.id, .slice x.A x.n x.c], .agg #[.int .i64 y.id, .slice y.A y.n y.c]] W fun e w' => e = .returned (.int .i64 (cmpD t x.dat y.dat)) ∧ Below W.heap.size W w') := Lib.hid fun W hW x y hx hy => sCmpIn w B A n c its A2 n2 c2 ns h he ha t ht W hW x y hx hy
  rw [best_ids]
  have HX := Lib.hid h.i
  have hB := h.hB
  have hn := h.hn
  clear h he ha ht
  go_enter Tryz.func54, Tryz.ntmps54
  go_wp2
  go_loopw [5, 6] (fun v i wr => ∃ k : Nat, k ≤ n ∧ i = .int .i64 k ∧ OwnI wr w.heap.size v (idL ((its.take k).filter fun x => its.all fun y => !btD t y.dat x.dat)) ∧ Below w.heap.size w wr) (fun _ i _ => n - (intOf i).toNat)
  case atStart => exact ⟨0, Nat.zero_le _, rfl, OwnI.empty w _ (Nat.le_refl _), (Below.refl _ _).alloc (Nat.le_refl _) _⟩
  case round =>
    obtain ⟨k, hk, rfl, hown, hbel⟩ := hrel
    have HO := Lib.hid hown
    have HB := Lib.hid hbel
    clear hown
    by_cases hlt : k < n
    · obtain ⟨b1, off, x, rfl, hb1, hat, d0, d1, -⟩ := HX.out.at k hlt
      have hbw : b1 < w.heap.size := Nat.lt_of_lt_of_le hb1 hB
      have HAt := Lib.hid hat
      have HD := Lib.hid (And.intro d0 d1)
      have hlt' : (k : Int) < (n : Int) := by omega
      have hk0 : (0 : Int) ≤ (k : Int) := by omega
      clear d0 d1 hat
      go_wp2
      go_loopw [7, 8] (fun v j wr => ∃ m : Nat, m ≤ n ∧ j = .int .i64 m ∧ v = .bool ((its.take m).all fun y => !btD t y.dat x.dat) ∧ Below w.heap.size w wr ∧ OwnI wr w.heap.size u5 (idL ((its.take k).filter fun x => its.all fun y => !btD t y.dat x.dat))) (fun _ j _ => n - (intOf j).toNat)
      case atStart => exact ⟨0, Nat.zero_le _, rfl, rfl, HB.out, HO.out⟩
      case round =>
        clear hbel
        obtain ⟨m, hm, rfl, rfl, hbel, hown⟩ := hrel
        have HBi := Lib.hid hbel
        have HOi := Lib.hid hown
        obtain ⟨bb, hbb⟩ : ∃ bb, ((its.take m).all fun y => !btD t y.dat x.dat) = bb := ⟨_, rfl⟩
        rw [hbb]
        have HBb := Lib.hid hbb
        clear hbb hown
        by_cases hmt : m < n
        · obtain ⟨b2, off2, y, hA2, hb2, hat, d0, d1, -⟩ := HX.out.at m hmt
          injection hA2 with hA2
          injection hA2 with e1 e2
          subst e1 e2
          have HAt2 := Lib.hid hat
          have HD2 := Lib.hid (And.intro d0 d1)
          have hmt' : (m : Int) < (n : Int) := by omega
          have hm0 : (0 : Int) ≤ (m : Int) := by omega
          have HS : Hid (∀ w', Below w.heap.size w w' → w'.cell? ⟨b1, off + k * 2, none⟩ = some (.int .i64 x.id) ∧ w'.cell? ⟨b1, off + k * 2 + 1, none⟩ = some (.slice x.A x.n x.c) ∧ w'.cell? ⟨b1, off + m * 2, none⟩ = some (.int .i64 y.id) ∧ w'.cell? ⟨b1, off + m * 2 + 1, none⟩ = some (.slice y.A y.n y.c)) := Lib.hid fun W h => ⟨(h.cell (p := ⟨b1, off + k * 2, none⟩) hbw).trans HD.out.1, (h.cell (p := ⟨b1, off + k * 2 + 1, none⟩) hbw).trans HD.out.2, (h.cell (p := ⟨b1, off + m * 2, none⟩) hbw).trans HD2.out.1, (h.cell (p := ⟨b1, off + m * 2 + 1, none⟩) hbw).trans HD2.out.2⟩
          clear d0 d1 hat
          cases bb
          · go_wp2
            have hS0 : (fun w' => w'.cell? ⟨b1, off + k * 2, none⟩ = some (.int .i64 x.id) ∧ w'.cell? ⟨b1, off + k * 2 + 1, none⟩ = some (.slice x.A x.n x.c) ∧ w'.cell? ⟨b1, off + m * 2, none⟩ = some (.int .i64 y.id) ∧ w'.cell? ⟨b1, off + m * 2 + 1, none⟩ = some (.slice y.A y.n y.c)) (World.drew wr) := HS.out _ HBi.out.drew
            clear hbel
            refine wp_region_held (S := fun w' => w'.cell? ⟨b1, off + k * 2, none⟩ = some (.int .i64 x.id) ∧ w'.cell? ⟨b1, off + k * 2 + 1, none⟩ = some (.slice x.A x.n x.c) ∧ w'.cell? ⟨b1, off + m * 2, none⟩ = some (.int .i64 y.id) ∧ w'.cell? ⟨b1, off + m * 2 + 1, none⟩ = some (.slice y.A y.n y.c)) (by kernel_rfl) ?_
            change wpAnyH _ _ _ _ _ _ _ _ (World.drew _)
            refine takeY 22 (i := 0) (v := ?v0b) rfl rfl (by kernel_rfl) (by kernel_rfl) (by kernel_rfl) (fun _ _ _ h => h) (by kernel_rfl) ?y0b hS0 ?_
            case y0b =>
              intro w' hw'; (try dsimp only at hw'); obtain ⟨x_0, x_1, y_0, y_1⟩ := hw'; go_simp; try with_reducible rfl
            simp only [Act.put, List.setIfInBounds_toArray, List.set_cons_zero, List.set_cons_succ]
            refine takeY 23 (i := 1) (v := ?v1b) rfl rfl (by kernel_rfl) (by kernel_rfl) (by kernel_rfl) (fun _ _ _ h => h) (by kernel_rfl) ?y1b hS0 ?_
            case y1b =>
              intro w' hw'; (try dsimp only at hw'); obtain ⟨x_0, x_1, y_0, y_1⟩ := hw'; go_simp; try with_reducible rfl
            simp only [Act.put, List.setIfInBounds_toArray, List.set_cons_zero, List.set_cons_succ]
            refine takeU 24 (i := 2) rfl rfl (by kernel_rfl) (by kernel_rfl) (by kernel_rfl) (fun _ _ _ h => h) (by kernel_rfl) hS0 ?_
            simp only [Act.put, List.setIfInBounds_toArray, List.set_cons_zero, List.set_cons_succ]
            refine takeU 25 (i := 3) rfl rfl (by kernel_rfl) (by kernel_rfl) (by kernel_rfl) (fun _ _ _ h => h) (by kernel_rfl) hS0 ?_
            simp only [Act.put, List.setIfInBounds_toArray, List.set_cons_zero, List.set_cons_succ]
            refine takeU 26 (i := 4) rfl rfl (by kernel_rfl) (by kernel_rfl) (by kernel_rfl) (fun _ _ _ h => h) (by kernel_rfl) hS0 ?_
            simp only [Act.put, List.setIfInBounds_toArray, List.set_cons_zero, List.set_cons_succ]
            refine takeU 27 (i := 5) rfl rfl (by kernel_rfl) (by kernel_rfl) (by kernel_rfl) (fun _ _ _ h => h) (by kernel_rfl) hS0 ?_
            simp only [Act.put, List.setIfInBounds_toArray, List.set_cons_zero, List.set_cons_succ]
            refine takeU 28 (i := 6) rfl rfl (by kernel_rfl) (by kernel_rfl) (by kernel_rfl) (fun _ _ _ h => h) (by kernel_rfl) hS0 ?_
            simp only [Act.put, List.setIfInBounds_toArray, List.set_cons_zero, List.set_cons_succ]
            refine takeU 29 (i := 7) rfl rfl (by kernel_rfl) (by kernel_rfl) (by kernel_rfl) (fun _ _ _ h => h) (by kernel_rfl) hS0 ?_
            simp only [Act.put, List.setIfInBounds_toArray, List.set_cons_zero, List.set_cons_succ]
            refine takeU 30 (i := 8) rfl rfl (by kernel_rfl) (by kernel_rfl) (by kernel_rfl) (fun _ _ _ h => h) (by kernel_rfl) hS0 ?_
            simp only [Act.put, List.setIfInBounds_toArray, List.set_cons_zero, List.set_cons_succ]
            refine takeU 31 (i := 9) rfl rfl (by kernel_rfl) (by kernel_rfl) (by kernel_rfl) (fun _ _ _ h => h) (by kernel_rfl) hS0 ?_
            simp only [Act.put, List.setIfInBounds_toArray, List.set_cons_zero, List.set_cons_succ]
            refine takeU 32 (i := 10) rfl rfl (by kernel_rfl) (by kernel_rfl) (by kernel_rfl) (fun _ _ _ h => h) (by kernel_rfl) hS0 ?_
            simp only [Act.put, List.setIfInBounds_toArray, List.set_cons_zero, List.set_cons_succ]
            refine takeU 33 (i := 11) rfl rfl (by kernel_rfl) (by kernel_rfl) (by kernel_rfl) (fun _ _ _ h => h) (by kernel_rfl) hS0 ?_
            simp only [Act.put, List.setIfInBounds_toArray, List.set_cons_zero, List.set_cons_succ]
            refine takeU 34 (i := 12) rfl rfl (by kernel_rfl) (by kernel_rfl) (by kernel_rfl) (fun _ _ _ h => h) (by kernel_rfl) hS0 ?_
            simp only [Act.put, List.setIfInBounds_toArray, List.set_cons_zero, List.set_cons_succ]
            refine takeY 35 (i := 13) (v := ?v13b) rfl rfl (by kernel_rfl) (by kernel_rfl) (by kernel_rfl) (fun _ _ _ h => h) (by kernel_rfl) ?y13b hS0 ?_
            case y13b =>
              intro w' hw'; (try dsimp only at hw'); obtain ⟨x_0, x_1, y_0, y_1⟩ := hw'; go_simp; try with_reducible rfl
            simp only [Act.put, List.setIfInBounds_toArray, List.set_cons_zero, List.set_cons_succ]
            refine takeY 7 (i := 14) (v := ?v14b) rfl rfl (by kernel_rfl) (by kernel_rfl) (by kernel_rfl) (fun _ _ _ h => h) (by kernel_rfl) ?y14b hS0 ?_
            case y14b =>
              intro w' hw'; (try dsimp only at hw'); obtain ⟨x_0, x_1, y_0, y_1⟩ := hw'; go_simp; try with_reducible rfl
            simp only [Act.put, List.setIfInBounds_toArray, List.set_cons_zero, List.set_cons_succ]
            refine wpAnyH_done (by kernel_rfl) ?_ _
            clear hS0
            go_wp2
            go_roundw
            case rel => exact ⟨m + 1, by omega, by go_num, by rw [all_snoc HAt2.out, HBb.out]; rfl, HBi.out.drew, ownI_below HOi.out (Below.refl _ _).drew⟩
            case measure => simp [intOf]; omega
          · go_wp2
            have hS0 : (fun w' => w'.cell? ⟨b1, off + k * 2, none⟩ = some (.int .i64 x.id) ∧ w'.cell? ⟨b1, off + k * 2 + 1, none⟩ = some (.slice x.A x.n x.c) ∧ w'.cell? ⟨b1, off + m * 2, none⟩ = some (.int .i64 y.id) ∧ w'.cell? ⟨b1, off + m * 2 + 1, none⟩ = some (.slice y.A y.n y.c)) (World.drew wr) := HS.out _ HBi.out.drew
            clear hbel
            refine wp_region_held (S := fun w' => w'.cell? ⟨b1, off + k * 2, none⟩ = some (.int .i64 x.id) ∧ w'.cell? ⟨b1, off + k * 2 + 1, none⟩ = some (.slice x.A x.n x.c) ∧ w'.cell? ⟨b1, off + m * 2, none⟩ = some (.int .i64 y.id) ∧ w'.cell? ⟨b1, off + m * 2 + 1, none⟩ = some (.slice y.A y.n y.c)) (by kernel_rfl) ?_
            change wpAnyH _ _ _ _ _ _ _ _ (World.drew _)
            refine takeY 22 (i := 0) (v := ?v0a) rfl rfl (by kernel_rfl) (by kernel_rfl) (by kernel_rfl) (fun _ _ _ h => h) (by kernel_rfl) ?y0a hS0 ?_
            case y0a =>
              intro w' hw'; (try dsimp only at hw'); obtain ⟨x_0, x_1, y_0, y_1⟩ := hw'; go_simp; try with_reducible rfl
            simp only [Act.put, List.setIfInBounds_toArray, List.set_cons_zero, List.set_cons_succ]
            refine takeY 23 (i := 1) (v := ?v1a) rfl rfl (by kernel_rfl) (by kernel_rfl) (by kernel_rfl) (fun _ _ _ h => h) (by kernel_rfl) ?y1a hS0 ?_
            case y1a =>
              intro w' hw'; (try dsimp only at hw'); obtain ⟨x_0, x_1, y_0, y_1⟩ := hw'; go_simp; try with_reducible rfl
            simp only [Act.put, List.setIfInBounds_toArray, List.set_cons_zero, List.set_cons_succ]
            refine takeY 24 (i := 2) (v := ?v2a) rfl rfl (by kernel_rfl) (by kernel_rfl) (by kernel_rfl) (fun _ _ _ h => h) (by kernel_rfl) ?y2a hS0 ?_
            case y2a =>
              intro w' hw'; (try dsimp only at hw'); obtain ⟨x_0, x_1, y_0, y_1⟩ := hw'; go_simp; try with_reducible rfl
            simp only [Act.put, List.setIfInBounds_toArray, List.set_cons_zero, List.set_cons_succ]
            refine takeY 25 (i := 3) (v := ?v3a) rfl rfl (by kernel_rfl) (by kernel_rfl) (by kernel_rfl) (fun _ _ _ h => h) (by kernel_rfl) ?y3a hS0 ?_
            case y3a =>
              intro w' hw'; (try dsimp only at hw'); obtain ⟨x_0, x_1, y_0, y_1⟩ := hw'; go_simp; try with_reducible rfl
            simp only [Act.put, List.setIfInBounds_toArray, List.set_cons_zero, List.set_cons_succ]
            refine takeY 26 (i := 4) (v := ?v4a) rfl rfl (by kernel_rfl) (by kernel_rfl) (by kernel_rfl) (fun _ _ _ h => h) (by kernel_rfl) ?y4a hS0 ?_
            case y4a =>
              intro w' hw'; (try dsimp only at hw'); obtain ⟨x_0, x_1, y_0, y_1⟩ := hw'; go_simp; try with_reducible rfl
            simp only [Act.put, List.setIfInBounds_toArray, List.set_cons_zero, List.set_cons_succ]
            refine takeY 27 (i := 5) (v := ?v5a) rfl rfl (by kernel_rfl) (by kernel_rfl) (by kernel_rfl) (fun _ _ _ h => h) (by kernel_rfl) ?y5a hS0 ?_
            case y5a =>
              intro w' hw'; (try dsimp only at hw'); obtain ⟨x_0, x_1, y_0, y_1⟩ := hw'; go_simp; try with_reducible rfl
            simp only [Act.put, List.setIfInBounds_toArray, List.set_cons_zero, List.set_cons_succ]
            refine takeY 28 (i := 6) (v := ?v6a) rfl rfl (by kernel_rfl) (by kernel_rfl) (by kernel_rfl) (fun _ _ _ h => h) (by kernel_rfl) ?y6a hS0 ?_
            case y6a =>
              intro w' hw'; (try dsimp only at hw'); obtain ⟨x_0, x_1, y_0, y_1⟩ := hw'; go_simp; try with_reducible rfl
            simp only [Act.put, List.setIfInBounds_toArray, List.set_cons_zero, List.set_cons_succ]
            refine takeY 29 (i := 7) (v := ?v7a) rfl rfl (by kernel_rfl) (by kernel_rfl) (by kernel_rfl) (fun _ _ _ h => h) (by kernel_rfl) ?y7a hS0 ?_
            case y7a =>
              intro w' hw'; (try dsimp only at hw'); obtain ⟨x_0, x_1, y_0, y_1⟩ := hw'; go_simp; try with_reducible rfl
            simp only [Act.put, List.setIfInBounds_toArray, List.set_cons_zero, List.set_cons_succ]
            refine takeY 30 (i := 8) (v := ?v8a) rfl rfl (by kernel_rfl) (by kernel_rfl) (by kernel_rfl) (fun _ _ _ h => h) (by kernel_rfl) ?y8a hS0 ?_
            case y8a =>
              intro w' hw'; (try dsimp only at hw'); obtain ⟨x_0, x_1, y_0, y_1⟩ := hw'; go_simp; try with_reducible rfl
            simp only [Act.put, List.setIfInBounds_toArray, List.set_cons_zero, List.set_cons_succ]
            refine takeY 31 (i := 9) (v := ?v9a) rfl rfl (by kernel_rfl) (by kernel_rfl) (by kernel_rfl) (fun _ _ _ h => h) (by kernel_rfl) ?y9a hS0 ?_
            case y9a =>
              intro w' hw'; (try dsimp only at hw'); obtain ⟨x_0, x_1, y_0, y_1⟩ := hw'; go_simp; try with_reducible rfl
            simp only [Act.put, List.setIfInBounds_toArray, List.set_cons_zero, List.set_cons_succ]
            refine takeY 32 (i := 10) (v := ?v10a) rfl rfl (by kernel_rfl) (by kernel_rfl) (by kernel_rfl) (fun _ _ _ h => h) (by kernel_rfl) ?y10a hS0 ?_
            case y10a =>
              intro w' hw'; (try dsimp only at hw'); obtain ⟨x_0, x_1, y_0, y_1⟩ := hw'; go_simp; try with_reducible rfl
            simp only [Act.put, List.setIfInBounds_toArray, List.set_cons_zero, List.set_cons_succ]
            refine wpAnyH_ready (rs := [11]) (by kernel_rfl) (by simp) ?_
            refine AllReadyH.cons rfl (fun K hK => ?_) AllReadyH.nil
            go_simp; go_at_call 75; refine (HC.out _ HBi.out.drew y x (mem_of_at HAt2.out) (mem_of_at HAt.out)).mono ?_; rintro e w3 ⟨rfl, hb3⟩; have HB3 := Lib.hid (below_on HBi.out.drew hb3); have HO3 := Lib.hid (ownI_below (ownI_below HOi.out (Below.refl _ _).drew) hb3); clear hb3
            refine hK.out _ _ (HS.out _ HB3.out) (fun hS1 => ?_)
            clear hK K
            try simp only [Act.put, List.setIfInBounds_toArray, List.set_cons_zero, List.set_cons_succ]
            refine takeY 34 (i := 12) (v := ?v12a) rfl rfl (by kernel_rfl) (by kernel_rfl) (by kernel_rfl) (fun _ _ _ h => h) (by kernel_rfl) ?y12a hS1 ?_
            case y12a =>
              intro w' hw'; (try dsimp only at hw'); obtain ⟨x_0, x_1, y_0, y_1⟩ := hw'; go_simp; try with_reducible rfl
            simp only [Act.put, List.setIfInBounds_toArray, List.set_cons_zero, List.set_cons_succ]
            refine takeY 35 (i := 13) (v := ?v13a) rfl rfl (by kernel_rfl) (by kernel_rfl) (by kernel_rfl) (fun _ _ _ h => h) (by kernel_rfl) ?y13a hS1 ?_
            case y13a =>
              intro w' hw'; (try dsimp only at hw'); obtain ⟨x_0, x_1, y_0, y_1⟩ := hw'; go_simp; try with_reducible rfl
            simp only [Act.put, List.setIfInBounds_toArray, List.set_cons_zero, List.set_cons_succ]
            refine takeY 7 (i := 14) (v := ?v14a) rfl rfl (by kernel_rfl) (by kernel_rfl) (by kernel_rfl) (fun _ _ _ h => h) (by kernel_rfl) ?y14a hS1 ?_
            case y14a =>
              intro w' hw'; (try dsimp only at hw'); obtain ⟨x_0, x_1, y_0, y_1⟩ := hw'; go_simp; try with_reducible rfl
            simp only [Act.put, List.setIfInBounds_toArray, List.set_cons_zero, List.set_cons_succ]
            refine wpAnyH_done (by kernel_rfl) ?_ _
            clear hS0 hS1
            go_wp2
            go_roundw
            case rel => exact ⟨m + 1, by omega, by go_num, by rw [all_snoc HAt2.out, HBb.out]; rfl, HB3.out, HO3.out⟩
            case measure => simp [intOf]; omega
        · obtain rfl : m = n := by omega
          have HBb2 : Hid ((its.all fun y => !btD t y.dat x.dat) = bb) := Lib.hid (by have h := HBb.out; rwa [take_all HX.out.1] at h)
          have f1 := (hbel.cell (p := ⟨b1, off + k * 2, none⟩) hbw).trans HD.out.1
          have HLn : Hid (((idL ((its.take k).filter fun x => its.all fun y => !btD t y.dat x.dat)).length + [x.id].length) * 8 ≤ 140737488355328) := Lib.hid (by
            have h1 := fil_len its (fun x => its.all fun y => !btD t y.dat x.dat) k
            simp only [List.length_cons, List.length_nil]
            omega)
          clear hbel HBb
          cases bb
          · go_wp2
            go_roundw
            case rel => exact ⟨k + 1, by omega, by go_num, by rw [fil_snoc HAt.out, HBb2.out]; simpa using HOi.out, HBi.out⟩
            case measure => simp [intOf]; omega
          · go_wp2_with (at_builtin; refine wp_appI wr (by rfl) (.tmp 37) (.tmp 43) (by rfl) w.heap.size _ _ (by rfl) HOi.out _ [x.id] (by rfl) 1 1 rfl (by rfl) HLn.out HBi.out.size ?_)
            intro v1 w2 hown2 hb2
            have HO2 := Lib.hid hown2
            have HB2 := Lib.hid (HBi.out.trans hb2)
            clear hown2 hb2 f1
            go_wp2
            go_roundw
            case rel => exact ⟨k + 1, by omega, by go_num, by rw [fil_snoc HAt.out, HBb2.out]; exact HO2.out, HB2.out⟩
            case measure => simp [intOf]; omega
    · obtain rfl : k = n := by omega
      have HO' : Hid (OwnI wr w.heap.size u5 (idL (its.filter fun x => its.all fun y => !btD t y.dat x.dat))) := Lib.hid (by have h := HO.out; rwa [take_all HX.out.1] at h)
      clear hbel
      go_wp2
      go_ret
      exact ⟨⟨_, rfl, HO'.out⟩, HB.out⟩
theorem ownI_lower {w : World} {B B' : Nat} {v : Value} {l : List Int} (h : OwnI w B v l) (hB : B' ≤ B) : OwnI w B' v l := ⟨h.1, h.2.imp id fun ⟨g, cap, cur, h1, h2, h3⟩ => ⟨g, cap, cur, h1, Nat.le_trans hB h2, h3⟩⟩
set_option maxRecDepth 20000 in
theorem sBest (w : World) (B : Nat) (A : Option Addr) (n c : Nat) (its : List It) (A2 : Option Addr) (n2 c2 : Nat) (ns : List Nd) (h : InB w B A n its A2 n2 c2 ns) (L : List Int) (hL : BestP (datN ns) (its.map It.dat) L) :
    Calls Tryz.prog 19 #[.slice A n c, .slice A2 n2 c2] w fun e w' => (∃ v, e = .returned v ∧ OwnI w' w.heap.size v L) ∧ Below w.heap.size w w' := by
  obtain ⟨q, hq⟩ := bool_of (IsE (datN ns) ∧ AreP (its.map It.dat))
  have HFn : Hid (∀ w1, Below w.heap.size w w1 → Calls Tryz.prog 39 #[.slice A n c, .slice A2 n2 c2] w1 fun e w' => e = .returned (.bool q) ∧ Below w1.heap.size w1 w') := Lib.hid fun w1 h1 => sFine w1 B A n c its A2 n2 c2 ns (h.below h1) q hq
  have HY : Hid (q = true → ∀ w1, Below w.heap.size w w1 → Calls Tryz.prog 54 #[.slice A n c, .slice A2 n2 c2] w1 fun e w' => (∃ v, e = .returned v ∧ OwnI w' w1.heap.size v L) ∧ Below w1.heap.size w1 w') := Lib.hid fun hqt w1 h1 => by
    obtain ⟨he, ha⟩ := hq.1 hqt
    obtain ⟨t, ht⟩ := he.2
    rw [hL.yes he ha ht]
    exact sBestL w1 B A n c its A2 n2 c2 ns (h.below h1) he ha t ht
  have HN : Hid (q = false → L = []) := Lib.hid fun hqf => hL.no (fun hh => by rw [hq.2 hh] at hqf; cases hqf)
  clear h hL hq
  go_enter Tryz.func19, Tryz.ntmps19
  go_wp2_with fail
  refine (HFn.out _ (Below.refl _ _)).mono ?_
  rintro e w1 ⟨rfl, hb1⟩
  have HB1 := Lib.hid hb1
  clear hb1
  cases q
  · obtain rfl := HN.out (by first | rfl | trivial)
    go_wp2
    go_ret
    exact ⟨⟨_, rfl, OwnI.empty w1 _ HB1.out.size⟩, HB1.out.alloc HB1.out.size _⟩
  · go_wp2_with fail
    refine (HY.out (by first | rfl | trivial) _ HB1.out).mono ?_
    rintro e w2 ⟨⟨v, rfl, ho⟩, hb2⟩
    have HB2 := Lib.hid (below_on HB1.out hb2)
    have HO := Lib.hid (ownI_lower ho HB1.out.size)
    clear ho hb2
    go_wp2
    go_ret
    exact ⟨⟨_, rfl, HO.out⟩, HB2.out⟩
end Go.Proofs.YtclpnhdpojkjpaaGreat.num
namespace Go.Proofs.YtclpnhdpojkjpaaGreat.num
set_option maxRecDepth 20000
open Go.RowKit
set_option linter.unusedVariables false
set_option linter.unusedSimpArgs false

theorem ownP_shape {w : World} {B : Nat} {v : Value} {l : List (Int × Int)} (h : OwnP w B v l) : ∃ A n c, v = .slice A n c := by
  rcases h.2 with ⟨rfl, _⟩ | ⟨g, cap, cur, rfl, _⟩
  · exact ⟨_, _, _, rfl⟩
  · exact ⟨_, _, _, rfl⟩
theorem OwnI.slen {w : World} {B : Nat} {A : Option Addr} {n c : Nat} {l : List Int} (h : OwnI w B (.slice A n c) l) : n = l.length := by
  rcases h.2 with ⟨e, hl⟩ | ⟨g, cap, cur, e, _⟩ <;> (injection e with e1 e2 e3 <;> omega)
theorem ownP_slen {w : World} {B : Nat} {A : Option Addr} {n c : Nat} {l : List (Int × Int)} (h : OwnP w B (.slice A n c) l) : n = l.length := by
  rcases h.2 with ⟨e, hl⟩ | ⟨g, cap, cur, e, _⟩ <;> (injection e with e1 e2 e3 <;> omega)
theorem OwnG.set2 {α : Type} {f : α → List Value} {s : Nat} (hf : ∀ x, (f x).length = s) {T : TypeId} {w : World} {B g n c k i1 i2 : Nat} {v1 v2 : Value} {l : List α} {x y : α} (h : OwnG T f s w B (.slice (some ⟨g, 0, none⟩) n c) l) (hk : l[k]? = some x) (hy : ∀ j, j < s → (f y)[j]? = if j = i2 then some v2 else if j = i1 then some v1 else (f x)[j]?) (h1 : i1 < s) (h2 : i2 < s) :
    OwnG T f s ((w.setCell ⟨g, k * s + i1, none⟩ v1).setCell ⟨g, k * s + i2, none⟩ v2) B (.slice (some ⟨g, 0, none⟩) n c) (l.set k y) := by
  have hlt : k < l.length := by
    rcases Nat.lt_or_ge k l.length with q | q
    · exact q
    · rw [List.getElem?_eq_none q] at hk; cases hk
  have hs : 0 < s := by omega
  rcases h.row with ⟨e, _⟩ | ⟨g', cap, F, e, hB, hle, hcap, hrow, hF⟩
  · cases e
  · injection e with e1 e2 e3
    injection e1 with e1
    injection e1 with e1
    subst e1 e2 e3
    refine OwnG.of_row hf hB (by simp) hle hcap (World.rowIs.set (World.rowIs.set hrow (k * s + i1) v1) (k * s + i2) v2) fun j hj => ?_
    rw [fm_set hf l k _ hlt j hj]
    have hd : j / s * s + j % s = j := by rw [Nat.mul_comm]; exact Nat.div_add_mod j s
    by_cases e : j / s = k
    · obtain ⟨r, hr, rfl⟩ : ∃ r, r < s ∧ j = k * s + r := ⟨j % s, Nat.mod_lt _ hs, by rw [← e]; exact hd.symm⟩
      have hm : (k * s + r) % s = r := by rw [Nat.mul_comm, Nat.mul_add_mod, Nat.mod_eq_of_lt hr]
      rw [if_pos e, hm, hy r hr]
      have hold := hF _ hj
      rw [fm_at hf l k r x hk hr] at hold
      by_cases q2 : r = i2
      · rw [if_pos q2, if_pos (show k * s + r = k * s + i2 by rw [q2])]
      · have n2 : ¬ (k * s + r = k * s + i2) := by omega
        by_cases q1 : r = i1
        · rw [if_neg q2, if_pos q1, if_neg n2, if_pos (show k * s + r = k * s + i1 by rw [q1])]
        · rw [if_neg q2, if_neg q1, if_neg n2, if_neg (show ¬ (k * s + r = k * s + i1) by omega), hold]
    · rw [if_neg e, hF j hj]
      have hm := Nat.mod_lt j hs
      have ne : ∀ i, i < s → j ≠ k * s + i := fun i hi hji => e (by rw [hji, Nat.mul_comm, Nat.mul_add_div hs, Nat.div_eq_of_lt hi, Nat.add_zero])
      rw [if_neg (ne i2 h2), if_neg (ne i1 h1)]
theorem set_mid {α : Type} {cs ns : List α} {k : Nat} {x y : α} (hl : cs.length = k) (h : ns[k]? = some x) : (cs ++ ns.drop k)[k]? = some x ∧ (cs ++ ns.drop k).set k y = (cs ++ [y]) ++ ns.drop (k + 1) := by
  have hlt : k < ns.length := by
    rcases Nat.lt_or_ge k ns.length with g | g
    · exact g
    · rw [List.getElem?_eq_none g] at h; cases h
  have hd : ns.drop k = x :: ns.drop (k + 1) := by
    rw [List.drop_eq_getElem_cons hlt]
    rw [List.getElem?_eq_getElem hlt] at h
    rw [Option.some.inj h]
  refine ⟨by rw [List.getElem?_append_right (by omega), hl, hd]; simp, ?_⟩
  rw [hd, List.set_append_right _ _ (by omega), hl, Nat.sub_self, List.set_cons_zero, List.append_assoc, List.singleton_append]

/-- As far as k, the elements hold copies of their own. -/
structure CopyInv (w w1 : World) (g n cap : Nat) (ns : List Nd) (k : Nat) (cs : List Nd) (wr : World) : Prop where
  len : cs.length = k
  own : OwnG 82 nodeCells 6 wr w.heap.size (.slice (some ⟨g, 0, none⟩) n cap) (cs ++ ns.drop k)
  dat : datN cs = datN (ns.take k)
  sh : ShortN cs
  x : ∀ (i : Nat) (x : Nd), cs[i]? = some x → (Lit.int .i64 x.op).wf = true ∧ WiO wr w1.heap.size x.t
  d : ∀ (i j : Nat) (x y : Nd) (b : Nat), i < j → cs[i]? = some x → cs[j]? = some y → x.t.has b → ¬ y.t.has b
  bel : Below w.heap.size w wr
  s1 : w1.heap.size ≤ wr.heap.size
set_option maxRecDepth 20000 in
theorem CopyInv.next {w w1 wr w2 w3 : World} {g n cap k : Nat} {ns cs : List Nd} {x : Nd} {LA' PA' : Option Addr} {Ln' Lc' Pn' Pc' : Nat} (h : CopyInv w w1 g n cap ns k cs wr) (hG : w.heap.size ≤ g ∧ g < w1.heap.size) (hat : ns[k]? = some x) (hls : x.t.ls.length ≤ 1048576 ∧ x.t.ps.length ≤ 1048576)
    (hwf : (Lit.int .i64 x.op).wf = true ∧ (Lit.int .i64 x.t.kind).wf = true ∧ (Lit.int .i64 x.t.field).wf = true ∧ (Lit.int .i64 x.t.value).wf = true)
    (hoa : OwnI w2 wr.heap.size (.slice LA' Ln' Lc') x.t.ls) (hb2 : Below wr.heap.size wr w2) (hob : OwnP w3 w2.heap.size (.slice PA' Pn' Pc') x.t.ps) (hb23 : Below w2.heap.size w2 w3) :
    CopyInv w w1 g n cap ns (k + 1) (cs ++ [⟨x.op, x.t.kind, x.t.field, x.t.value, LA', Ln', Lc', x.t.ls, PA', Pn', Pc', x.t.ps⟩]) ((w3.setCell ⟨g, k * 6 + 4, none⟩ (.slice LA' Ln' Lc')).setCell ⟨g, k * 6 + 5, none⟩ (.slice PA' Pn' Pc')) := by
  obtain ⟨y, hy⟩ : ∃ y : Nd, y = ⟨x.op, x.t.kind, x.t.field, x.t.value, LA', Ln', Lc', x.t.ls, PA', Pn', Pc', x.t.ps⟩ := ⟨_, rfl⟩
  rw [← hy]
  have hb3 : Below wr.heap.size wr w3 := below_on hb2 hb23
  have hgw : g < wr.heap.size := Nat.lt_of_lt_of_le hG.2 h.s1
  obtain ⟨hm1, hm2⟩ := set_mid (y := y) h.len hat
  have hoth : ∀ b, b ≠ g → ((w3.setCell ⟨g, k * 6 + 4, none⟩ (.slice LA' Ln' Lc')).setCell ⟨g, k * 6 + 5, none⟩ (.slice PA' Pn' Pc')).heap[b]? = w3.heap[b]? := fun b hb => by
    rw [heap_setCell_other _ _ _ _ (by simpa using hb), heap_setCell_other _ _ _ _ (by simpa using hb)]
  have hs1 := h.s1
  have hwy : WiO w3 wr.heap.size y.t := by
    rw [hy]
    refine ⟨hwf.2.1, hwf.2.2.1, hwf.2.2.2, ownI_blocks hoa fun b hb => hb23.block b (ownI_tops hoa b hb), ownP_lowE hob hb2.size, fun b h1 h2 => ?_⟩
    have q1 := ownI_tops hoa b h1
    have q2 := hob.lows b h2
    omega
  refine ⟨by rw [List.length_append, h.len]; rfl, ?_, ?_, ?_, ?_, ?_, ?_, ?_⟩
  · have h3 : OwnG 82 nodeCells 6 w3 w.heap.size (.slice (some ⟨g, 0, none⟩) n cap) (cs ++ ns.drop k) := h.own.blocks fun b hb => by
      have e : g = b := Option.some.inj hb
      rw [← e]; exact hb3.block g hgw
    have h4 := OwnG.set2 (k := k) (i1 := 4) (i2 := 5) (v1 := .slice LA' Ln' Lc') (v2 := .slice PA' Pn' Pc') (y := y) nodeCells_len h3 hm1 (fun j hj => by
      rw [hy]
      have hj' : j = 0 ∨ j = 1 ∨ j = 2 ∨ j = 3 ∨ j = 4 ∨ j = 5 := by omega
      rcases hj' with rfl | rfl | rfl | rfl | rfl | rfl <;> simp [nodeCells]) (by decide) (by decide)
    rw [← hm2]
    exact h4
  · rw [datN_at hat, ← h.dat]
    unfold datN
    rw [List.map_append, List.map_singleton, hy]
    rfl
  · intro u hu
    rcases List.mem_append.1 hu with hu | hu
    · exact h.sh u hu
    · rw [List.mem_singleton.1 hu, hy]
      have e1 := OwnI.slen hoa
      have e2 := ownP_slen hob
      exact ⟨by show Ln' ≤ _; rw [e1]; exact hls.1, by show Pn' ≤ _; rw [e2]; exact hls.2⟩
  · intro i u hu
    rcases get_snoc h.len hu with ⟨_, hu⟩ | ⟨_, rfl⟩
    · obtain ⟨e1, e2⟩ := h.x i u hu
      exact ⟨e1, (e2.below (hb3)).blocks fun b hb => hoth b (by have := (e2.has_in hb).1; omega)⟩
    · exact ⟨by rw [hy]; exact hwf.1, (hwy.blocks fun b hb => hoth b (by have := (hwy.has_in hb).1; omega)).low hs1⟩
  · intro i j u z b hij hu hz hb hb'
    rcases get_snoc h.len hz with ⟨hj, hz⟩ | ⟨_, rfl⟩
    · rcases get_snoc h.len hu with ⟨_, hu⟩ | ⟨e, _⟩
      · exact h.d i j u z b hij hu hz hb hb'
      · omega
    · rcases get_snoc h.len hu with ⟨_, hu⟩ | ⟨e, _⟩
      · have g1 := ((h.x i u hu).2.has_in hb).2
        have g2 := (hwy.has_in hb').1
        omega
      · omega
  · have hgl := hG.1
    exact ((below_on h.bel hb3).setCell (by show w.heap.size ≤ g; omega) _).setCell (by show w.heap.size ≤ g; omega) _
  · have := hb3.size
    simp
    omega
theorem CopyInv.done {w w1 wr : World} {g n cap k : Nat} {ns cs : List Nd} (h : CopyInv w w1 g n cap ns k cs wr) (hG : w.heap.size ≤ g ∧ g < w1.heap.size) (hk : ns.length = k) : datN cs = datN ns ∧ OwnN wr w.heap.size (.slice (some ⟨g, 0, none⟩) n cap) cs := by
  have hd : ns.drop k = [] := List.drop_eq_nil_of_le (by rw [hk]; exact Nat.le_refl _)
  have ht : ns.take k = ns := List.take_of_length_le (by rw [hk]; exact Nat.le_refl _)
  have h1 := h.own
  have h2 := h.dat
  rw [hd, List.append_nil] at h1
  rw [ht] at h2
  refine ⟨h2, h1, fun i x hi => ⟨(h.x i x hi).1, (h.x i x hi).2.low (Nat.le_of_lt (Nat.lt_of_le_of_lt hG.1 hG.2))⟩, fun i x b hi hb e => ?_, h.d⟩
  have h1 := ((h.x i x hi).2.has_in hb).1
  have h2 := hG.2
  have h3 : g = b := Option.some.inj e
  omega
end Go.Proofs.YtclpnhdpojkjpaaGreat.num
namespace Go.Proofs.YtclpnhdpojkjpaaGreat.num
set_option maxRecDepth 20000
open Go.RowKit
set_option linter.unusedVariables false
set_option linter.unusedSimpArgs false

/-- Where a walk is to stop: it goes on behind 'intro _'. -/
theorem stop_at {p : Prop} (h : Hid True → p) : p := h (Lib.hid trivial)
theorem two_setB {w : World} {g : Nat} {T : TypeId} {u0 u1 v0 v1 : Value} (h : w.heap[g]? = some (.cells #[u0, u1] T (0, 0))) : ((w.setCell ⟨g, 0, none⟩ v0).setCell ⟨g, 1, none⟩ v1).heap[g]? = some (.cells #[v0, v1] T (0, 0)) := by
  have h := heap_setCell_same _ g 1 _ _ v1 (heap_setCell_same w g 0 _ _ v0 h)
  simpa using h
set_option maxRecDepth 20000 in
theorem sItem (w : World) (B : Nat) (A : Option Addr) (n c : Nat) (its : List It) (hi : Items w B A n its) (hB : B ≤ w.heap.size) (hn : n ≤ 1048576) (x : Int) (d : Dt) (hd : findD (its.map It.dat) x = some d) :
    Calls Tryz.prog 86 #[.slice A n c, .int .i64 x] w fun e w' => (∃ y ∈ its, e = .returned (.agg #[.int .i64 y.id, .slice y.A y.n y.c]) ∧ y.dat = d) ∧ Below w.heap.size w w' := by
  have HX := Lib.hid hi
  have HD := Lib.hid hd
  have HF : Hid (∀ w1, Below w.heap.size w w1 → Calls Tryz.prog 85 #[.slice A n c, .int .i64 x] w1 fun e w' => (∃ r, e = .returned (.int .i64 r) ∧ FindP (its.map It.dat) x r) ∧ Below w1.heap.size w1 w') := Lib.hid fun w1 h1 => sFind w1 B A n c its (hi.below (h1.mono hB)) (Nat.le_trans hB h1.size) hn x
  clear hi hd
  go_enter Tryz.func86, Tryz.ntmps86
  go_wp2_with fail
  have HB0 : Hid (Below w.heap.size w _) := Lib.hid ((Below.refl w.heap.size w).alloc (Nat.le_refl _) (.cells #[.int .i64 0, .slice none 0 0] 77))
  refine (HF.out _ HB0.out).mono ?_
  rintro e w1 ⟨⟨r, rfl, hr⟩, hb1⟩
  have HB1 := Lib.hid (below_on HB0.out hb1)
  rcases hr.find with ⟨-, hf⟩ | ⟨m, d', rfl, hd', -, hf⟩
  · rw [HD.out] at hf; cases hf
  · obtain rfl : d = d' := Option.some.inj (HD.out.symm.trans hf)
    rw [List.getElem?_map] at hd'
    obtain ⟨y, hy, rfl⟩ := Option.map_eq_some_iff.1 hd'
    obtain ⟨b, off, y', rfl, hb, hat, d0, d1, -⟩ := HX.out.at m (by rw [← HX.out.1]; exact (List.getElem?_eq_some_iff.1 hy).1)
    obtain rfl : y = y' := Option.some.inj (hy.symm.trans hat)
    have hmn : m < n := by rw [← HX.out.1]; exact (List.getElem?_eq_some_iff.1 hy).1
    have hmn' : (m : Int) < (n : Int) := by omega
    have hm0 : (0 : Int) ≤ (m : Int) := by omega
    have hbw : b < w.heap.size := Nat.lt_of_lt_of_le hb hB
    have f0 := (HB1.out.cell (p := ⟨b, off + m * 2, none⟩) hbw).trans d0
    have f1 := (HB1.out.cell (p := ⟨b, off + m * 2 + 1, none⟩) hbw).trans d1
    have hrow : w1.heap[w.heap.size]? = some (.cells #[.int .i64 0, .slice none 0 0] 77 (0, 0)) := (hb1.block w.heap.size (by simp)).trans (heap_alloc_new w _)
    have HR := Lib.hid hrow
    have HY := Lib.hid hy
    have g0 : w1.cell? ⟨w.heap.size, 0, none⟩ = some (.int .i64 0) := cell_of_row w1 _ 0 _ _ (0, 0) hrow
    have g1 : w1.cell? ⟨w.heap.size, 1, none⟩ = some (.slice none 0 0) := cell_of_row w1 _ 1 _ _ (0, 0) hrow
    have z0 : w1.frozen? ⟨w.heap.size, 0, none⟩ = false := frozen_of_row w1 _ 0 _ _ hrow
    have z1 : w1.frozen? ⟨w.heap.size, 1, none⟩ = false := frozen_of_row w1 _ 1 _ _ hrow
    have hgl := lt_of_block hrow
    clear hrow hy hat d0 d1 hr hb1 hf
    go_wp2
    refine bodyPost_ret_by (results_cell_row rfl _ _ w.heap.size 77 _ (0, 0) _ rfl (two_setB HR.out) Tryz.underlying77 rfl (by kernel_rfl)) rfl ?_
    exact ⟨⟨y, mem_of_at HY.out, rfl, rfl⟩, (HB1.out.setCell (Nat.le_refl _) _).setCell (Nat.le_refl _) _⟩
set_option maxRecDepth 20000 in
theorem sKnown (w : World) (B : Nat) (A : Option Addr) (n c : Nat) (its : List It) (hi : Items w B A n its) (hB : B ≤ w.heap.size) (hn : n ≤ 1048576) (B2 : Nat) (A2 : Option Addr) (n2 c2 : Nat) (xs : List Int) (hi2 : Ints w B2 A2 n2 xs) (hB2 : B2 ≤ w.heap.size) (hn2 : n2 ≤ 1048576) (q : Bool) (hq : q = true ↔ Known (its.map It.dat) xs) :
    Calls Tryz.prog 52 #[.slice A n c, .slice A2 n2 c2] w fun e w' => e = .returned (.bool q) ∧ Below w.heap.size w w' := by
  have HX2 := Lib.hid hi2
  have HQ := Lib.hid hq
  have HF : Hid (∀ w1, Below w.heap.size w w1 → ∀ x, Calls Tryz.prog 85 #[.slice A n c, .int .i64 x] w1 fun e w' => (∃ r, e = .returned (.int .i64 r) ∧ FindP (its.map It.dat) x r) ∧ Below w1.heap.size w1 w') := Lib.hid fun w1 h1 x => sFind w1 B A n c its (hi.below (h1.mono hB)) (Nat.le_trans hB h1.size) hn x
  clear hi hi2 hq
  go_enter Tryz.func52, Tryz.ntmps52
  go_wp2
  go_loopw [5] (fun i wr => ∃ k : Nat, k ≤ n2 ∧ i = .int .i64 k ∧ (∀ x ∈ xs.take k, findD (its.map It.dat) x ≠ none) ∧ Below w.heap.size w wr) (fun i _ => n2 - (intOf i).toNat)
  case atStart => exact ⟨0, Nat.zero_le _, rfl, by simp, Below.refl _ _⟩
  case round =>
    obtain ⟨k, hk, rfl, hall, hbel⟩ := hrel
    have HA := Lib.hid hall
    have HB := Lib.hid hbel
    clear hall
    by_cases hlt : k < n2
    · obtain ⟨b, off, x, rfl, hb, hat, hc⟩ := HX2.out.at k hlt
      have f0 := (hbel.cell (p := ⟨b, off + k, none⟩) (Nat.lt_of_lt_of_le hb hB2)).trans hc
      have HT := Lib.hid hat
      clear hc hat hbel
      go_wp2_with fail
      refine (HF.out _ HB.out x).mono ?_
      rintro e w1 ⟨⟨r, rfl, hr⟩, hb1⟩
      have HB1 := Lib.hid (below_on HB.out hb1)
      have hfd := hr.find
      clear hb1 hr
      rcases hfd with ⟨rfl, hf⟩ | ⟨m, d, rfl, -, -, hf⟩
      · obtain rfl : q = false := by
          cases q
          · rfl
          · exact absurd hf (HQ.out.1 rfl x (mem_of_at HT.out))
        clear hf
        go_wp2
        go_ret
        exact ⟨rfl, HB1.out⟩
      · have hm : decide ((m : Int) < 0) = false := by simp
        have HFd : Hid (findD (its.map It.dat) x ≠ none) := Lib.hid (by rw [hf]; exact fun h => by cases h)
        clear hf
        go_wp2
        go_roundw
        case rel =>
          refine ⟨k + 1, by omega, by go_num, ?_, HB1.out⟩
          rw [take_at HT.out]
          intro z hz
          rcases List.mem_append.1 hz with hz | hz
          · exact HA.out z hz
          · rw [List.mem_singleton.1 hz]; exact HFd.out
        case measure => simp [intOf] <;> omega
    · obtain rfl : k = n2 := by omega
      have hqt : q = true := HQ.out.2 (by have h := HA.out; rw [take_all HX2.out.1] at h; exact h)
      subst hqt
      clear hbel
      go_wp2
      go_ret
      exact ⟨rfl, HB.out⟩
/-- A slice of the call's own, cut ahead of its k-th element; and behind it. -/
theorem Ints.takeI {w : World} {B : Nat} {A : Option Addr} {n k : Nat} {xs : List Int} (h : Ints w B A n xs) (hk : k ≤ n) : Ints w B A k (xs.take k) := by
  refine ⟨by rw [List.length_take, h.1]; omega, fun j hj => ?_⟩
  obtain ⟨b, off, e, hb, hc⟩ := h.2 j (by omega)
  refine ⟨b, off, e, hb, ?_⟩
  rw [hc, List.getD_eq_getElem?_getD, List.getD_eq_getElem?_getD, List.getElem?_take_of_lt hj]
theorem Ints.dropI {w : World} {B g : Nat} {n k off : Nat} {xs : List Int} (h : Ints w B (some ⟨g, off, none⟩) n xs) (hk : k ≤ n) : Ints w B (some ⟨g, off + k, none⟩) (n - k) (xs.drop k) := by
  refine ⟨by rw [List.length_drop, h.1], fun j hj => ?_⟩
  obtain ⟨b, off', e, hb, hc⟩ := h.2 (k + j) (by omega)
  cases e
  refine ⟨_, _, rfl, hb, ?_⟩
  rw [Nat.add_assoc, hc, List.getD_eq_getElem?_getD, List.getD_eq_getElem?_getD, List.getElem?_drop]
set_option maxRecDepth 20000 in
set_option maxHeartbeats 1600000 in
theorem sSort (w : World) (B : Nat) (A : Option Addr) (n c : Nat) (xs : List Int) (hi : Ints w B A n xs) (hB : B ≤ w.heap.size) (hn : n ≤ 2097152) :
    Calls Tryz.prog 43 #[.slice A n c] w fun e w' => (∃ v s, e = .returned v ∧ SortP xs s ∧ OwnI w' w.heap.size v s) ∧ Below w.heap.size w w' := by
  have HX := Lib.hid hi
  clear hi
  go_enter Tryz.func43, Tryz.ntmps43
  go_wp2
  go_loopw [3, 4] (fun v i wr => ∃ (k g cap : Nat) (s : List Int), k ≤ n ∧ i = .int .i64 k ∧ v = .slice (some ⟨g, 0, none⟩) k cap ∧ k ≤ cap ∧ cap ≤ maxLen ∧ SortP (xs.take k) s ∧ OwnI wr w.heap.size v s ∧ Below w.heap.size w wr) (fun _ i _ => n - (intOf i).toNat)
  case atStart => exact ⟨0, _, 0, [], Nat.zero_le _, rfl, rfl, Nat.le_refl _, by decide, ⟨List.Pairwise.nil, by simp⟩, OwnI.empty w _ (Nat.le_refl _), (Below.refl _ _).alloc (Nat.le_refl _) _⟩
  case round =>
    obtain ⟨k, g, cap, s, hk, rfl, rfl, hkc, hcm, hs, hown, hbel⟩ := hrel
    have HS := Lib.hid hs
    have HO := Lib.hid hown
    have HB := Lib.hid hbel
    have HL : Hid (s.length = k) := Lib.hid (by rw [hs.len, List.length_take, HX.out.1]; omega)
    have hcm' : (cap : Int) ≤ 9223372036854775807 := by unfold maxLen at hcm; omega
    clear hs hown
    by_cases hlt : k < n
    · obtain ⟨b, off, x, rfl, hb, hat, hc⟩ := HX.out.at k hlt
      have hbw : b < w.heap.size := Nat.lt_of_lt_of_le hb hB
      have HC := Lib.hid hc
      have HT := Lib.hid hat
      have hlt' : (k : Int) < (n : Int) := by omega
      have hk0 : (0 : Int) ≤ (k : Int) := by omega
      clear hc hat hbel
      go_wp2
      go_loopw [5] (fun jv wr2 => ∃ j : Nat, j ≤ k ∧ jv = .int .i64 j ∧ (∀ y ∈ s.drop j, x ≤ y) ∧ OwnI wr2 w.heap.size (.slice (some ⟨g, 0, none⟩) k cap) s ∧ Below w.heap.size w wr2) (fun jv _ => (intOf jv).toNat)
      case atStart => exact ⟨k, Nat.le_refl _, rfl, (by rw [List.drop_eq_nil_of_le (by rw [HL.out]; exact Nat.le_refl _)]; exact fun y hy => by cases hy), HO.out, HB.out⟩
      case round =>
        obtain ⟨j, hj, rfl, hge, hown, hbel⟩ := hrel
        have HG := Lib.hid hge
        have HO2 := Lib.hid hown
        have HB2 := Lib.hid hbel
        clear hge hown
        have hwf : wr.cell? ⟨b, off + k, none⟩ = some (.int .i64 x) := (hbel.cell (p := ⟨b, off + k, none⟩) hbw).trans HC.out
        have hs1 : (j : Int) ≤ (cap : Int) := by omega
        have hs2 : (j : Int) ≤ (k : Int) := by omega
        have hs3 : (0 : Int) ≤ (j : Int) := by omega
        have hs4 : (k : Int) ≤ (cap : Int) := by omega
        by_cases hj0 : j = 0
        · subst hj0
          have HLo : Hid (∀ y ∈ s.take 0, y ≤ x) := Lib.hid (fun y hy => by cases hy)
          clear hbel
          go_wp2
          go_quiet (fail)
          have HW : Hid (Below wr.heap.size wr (wr.drewN nq)) := Lib.hid (below_drewN (Below.refl _ _) nq)
          have hsz : (wr.drewN nq).heap.size = wr.heap.size := rfl
          obtain ⟨v1, w1, hr1, ho1, hg1, -⟩ := run_spreadI (ty := 28) (c := cap) (OwnI.empty (wr.drewN nq) wr.heap.size (Nat.le_refl _)) (((ownI_at HO2.out).takeI hj).below (HW.out.alloc (Nat.le_refl _) (.cells #[] 3))) (by simp <;> omega) (by simp [hsz])
          have HO1 : Hid (OwnI w1 wr.heap.size v1 (s.take 0)) := Lib.hid (by simpa using ho1)
          have HB1 : Hid (Below wr.heap.size wr w1) := Lib.hid ((HW.out.alloc (Nat.le_refl _) _).grown hg1 (by simp [hsz]) (by intro k hk; simp [Value.ownBlock] at hk; omega))
          have hx1 : w1.cell? ⟨b, off + k, none⟩ = some (.int .i64 x) := ((below_on HB2.out HB1.out).cell (p := ⟨b, off + k, none⟩) hbw).trans HC.out
          have HLn : Hid (((s.take 0).length + [x].length) * 8 ≤ 140737488355328) := Lib.hid (by
            rw [List.length_take, HL.out, List.length_singleton]
            omega)
          clear ho1 hg1 hwf
          go_wp2_with (at_builtin; refine Go.Lib.wpList_append_run_sl _ (by rfl) (.tmp 32) (.tmp 35) 28 (by rfl) _ _ (by rfl) (by rfl) hr1 (stop_at ?_))
          intro _
          clear hr1
          go_wp2_with (at_builtin; refine wp_appI w1 (by rfl) (.tmp 37) (.tmp 42) (by rfl) wr.heap.size _ _ (by rfl) HO1.out _ [x] (by rfl) 1 1 rfl (by rfl) HLn.out HB1.out.size ?_)
          intro v2 w2 ho2 hb2
          have HO3 := Lib.hid ho2
          have HBw2 := Lib.hid (HB1.out.trans hb2)
          clear ho2 hb2 hx1
          have HI2 : Hid (Ints w2 wr.heap.size (some ⟨g, 0, none⟩) k s) := Lib.hid ((ownI_at HO2.out).below HBw2.out)
          have HS2 : Hid (SortP (xs.take (k + 1)) (s.take 0 ++ [x] ++ s.drop 0)) := Lib.hid (by
            rw [take_at HT.out]
            exact sort_insert HS.out (List.take_append_drop 0 s).symm HLo.out HG.out)
          have HLz : Hid ((s.take 0 ++ [x] ++ s.drop 0).length = k + 1) := Lib.hid (by
            have h := HL.out
            simp
            omega)
          by_cases hcj : cap = 0
          · subst hcj
            obtain rfl : k = 0 := by omega
            obtain ⟨v3, w3, hr3, ho3, hg3, -⟩ := run_spreadI (ty := 28) (c := 0) (A := some ⟨g, 0, none⟩) HO3.out (HI2.out.takeI (Nat.zero_le _)) (by have h := HL.out; simp <;> omega) HBw2.out.size
            have HO4 : Hid (OwnI w3 wr.heap.size v3 (s.take 0 ++ [x] ++ s.drop 0)) := Lib.hid (by have h : s.drop 0 = [] := List.drop_eq_nil_of_le (by rw [HL.out]; exact Nat.le_refl _); rw [h]; simpa using ho3)
            have HB3 := Lib.hid (HBw2.out.grown hg3 HBw2.out.size (fun k hk => ownI_lows HO3.out k hk))
            clear ho3 hg3
            go_wp2_with (at_builtin; refine Go.Lib.wpList_append_run_sl _ (by rfl) (.tmp 44) (.tmp 47) 28 (by rfl) _ _ (by rfl) (by rfl) hr3 ?_)
            clear hr3
            go_wp2
            go_roundw
            case rel =>
              rcases ownI_row HO4.out with ⟨-, e⟩ | ⟨g', cap', f, e, hg', h1, h2, -, -⟩
              · exact absurd e (by simp)
              · exact ⟨0 + 1, g', cap', _, by omega, by go_num, by rw [e, HLz.out], by rw [← HLz.out]; exact h1, h2, HS2.out, ownI_lower HO4.out HB2.out.size, below_on HB2.out HB3.out⟩
            case measure => simp [intOf] <;> omega
          · have hcj1 : 0 < cap := by omega
            obtain ⟨v3, w3, hr3, ho3, hg3, -⟩ := run_spreadI (ty := 28) (c := cap - 0) HO3.out (HI2.out.dropI hj) (by have h := HL.out; simp <;> omega) HBw2.out.size
            have HO4 : Hid (OwnI w3 wr.heap.size v3 (s.take 0 ++ [x] ++ s.drop 0)) := Lib.hid ho3
            have HB3 := Lib.hid (HBw2.out.grown hg3 HBw2.out.size (fun k hk => ownI_lows HO3.out k hk))
            clear ho3 hg3
            rw [Nat.zero_add] at hr3
            go_wp2_with (at_builtin; refine Go.Lib.wpList_append_run_sl _ (by rfl) (.tmp 44) (.tmp 47) 28 (by rfl) _ _ (by rfl) (by rfl) hr3 ?_)
            clear hr3
            go_wp2
            go_roundw
            case rel =>
              rcases ownI_row HO4.out with ⟨-, e⟩ | ⟨g', cap', f, e, hg', h1, h2, -, -⟩
              · exact absurd e (by simp)
              · exact ⟨k + 1, g', cap', _, by omega, by go_num, by rw [e, HLz.out], by rw [← HLz.out]; exact h1, h2, HS2.out, ownI_lower HO4.out HB2.out.size, below_on HB2.out HB3.out⟩
            case measure => simp [intOf] <;> omega
        · obtain ⟨i, rfl⟩ : ∃ i, j = i + 1 := ⟨j - 1, by omega⟩
          obtain ⟨-, -, -, g', e, -, hgl, hcell⟩ := ownI_cells HO2.out (by omega)
          cases e
          obtain ⟨y, hy⟩ : ∃ y, s[i]? = some y := ⟨_, List.getElem?_eq_getElem (by rw [HL.out]; omega)⟩
          have hyc := (hcell i y hy).1
          have HY := Lib.hid hy
          have hi0 : (0 : Int) ≤ (i : Int) := by omega
          have hi1 : (i : Int) < (k : Int) := by omega
          have hw1 : IntKind.i64.wrap (((i + 1 : Nat) : Int) - 1) = (i : Int) := by rw [show ((i + 1 : Nat) : Int) - 1 = (i : Int) by omega]; exact IntWalk.i64_in _ ⟨by omega, by omega⟩
          clear hcell hy hbel
          by_cases hxy : x < y
          · have hd : decide (y > x) = true := by simpa using hxy
            have HXY := Lib.hid hxy
            clear hxy
            go_wp2
            go_quiet (fail)
            go_wp2
            go_roundw
            case rel => exact ⟨i, by omega, rfl, by
              have e : s.drop i = y :: s.drop (i + 1) := by exact List.drop_eq_getElem?_toList_append ▸ (by rw [HY.out]; rfl)
              rw [e]
              intro z hz
              rcases List.mem_cons.1 hz with rfl | hz
              · have h := HXY.out; omega
              · exact HG.out z hz, ownI_below HO2.out (below_drewN (Below.refl _ _) _), below_drewN HB2.out _⟩
            case measure => simp [intOf] <;> omega
          · have hd : decide (y > x) = false := by simpa using hxy
            have HLo : Hid (∀ y ∈ s.take (i + 1), y ≤ x) := Lib.hid (by exact sorted_take HS.out.1 HY.out (by omega))
            clear hxy
            go_wp2
            go_quiet (fail)
            clear hd hyc hw1
            have HW : Hid (Below wr.heap.size wr (wr.drewN nq)) := Lib.hid (below_drewN (Below.refl _ _) nq)
            have hsz : (wr.drewN nq).heap.size = wr.heap.size := rfl
            obtain ⟨v1, w1, hr1, ho1, hg1, -⟩ := run_spreadI (ty := 28) (c := cap) (OwnI.empty (wr.drewN nq) wr.heap.size (Nat.le_refl _)) (((ownI_at HO2.out).takeI hj).below (HW.out.alloc (Nat.le_refl _) (.cells #[] 3))) (by simp <;> omega) (by simp [hsz])
            have HO1 : Hid (OwnI w1 wr.heap.size v1 (s.take (i + 1))) := Lib.hid (by simpa using ho1)
            have HB1 : Hid (Below wr.heap.size wr w1) := Lib.hid ((HW.out.alloc (Nat.le_refl _) _).grown hg1 (by simp [hsz]) (by intro k hk; simp [Value.ownBlock] at hk; omega))
            have hx1 : w1.cell? ⟨b, off + k, none⟩ = some (.int .i64 x) := ((below_on HB2.out HB1.out).cell (p := ⟨b, off + k, none⟩) hbw).trans HC.out
            have HLn : Hid (((s.take (i + 1)).length + [x].length) * 8 ≤ 140737488355328) := Lib.hid (by
              rw [List.length_take, HL.out, List.length_singleton]
              omega)
            clear ho1 hg1 hwf
            go_wp2_with (at_builtin; refine Go.Lib.wpList_append_run_sl _ (by rfl) (.tmp 32) (.tmp 35) 28 (by rfl) _ _ (by rfl) (by rfl) hr1 (stop_at ?_))
            intro _
            clear hr1
            go_wp2_with (at_builtin; refine wp_appI w1 (by rfl) (.tmp 37) (.tmp 42) (by rfl) wr.heap.size _ _ (by rfl) HO1.out _ [x] (by rfl) 1 1 rfl (by rfl) HLn.out HB1.out.size ?_)
            intro v2 w2 ho2 hb2
            have HO3 := Lib.hid ho2
            have HBw2 := Lib.hid (HB1.out.trans hb2)
            clear ho2 hb2 hx1
            have HI2 : Hid (Ints w2 wr.heap.size (some ⟨g, 0, none⟩) k s) := Lib.hid ((ownI_at HO2.out).below HBw2.out)
            have HS2 : Hid (SortP (xs.take (k + 1)) (s.take (i + 1) ++ [x] ++ s.drop (i + 1))) := Lib.hid (by
              rw [take_at HT.out]
              exact sort_insert HS.out (List.take_append_drop (i + 1) s).symm HLo.out HG.out)
            have HLz : Hid ((s.take (i + 1) ++ [x] ++ s.drop (i + 1)).length = k + 1) := Lib.hid (by
              have h := HL.out
              simp
              omega)
            by_cases hcj : cap = (i + 1)
            · subst hcj
              obtain rfl : k = (i + 1) := by omega
              obtain ⟨v3, w3, hr3, ho3, hg3, -⟩ := run_spreadI (ty := 28) (c := 0) (A := some ⟨g, 0, none⟩) HO3.out (HI2.out.takeI (Nat.zero_le _)) (by have h := HL.out; simp <;> omega) HBw2.out.size
              have HO4 : Hid (OwnI w3 wr.heap.size v3 (s.take (i + 1) ++ [x] ++ s.drop (i + 1))) := Lib.hid (by have h : s.drop (i + 1) = [] := List.drop_eq_nil_of_le (by rw [HL.out]; exact Nat.le_refl _); rw [h]; simpa using ho3)
              have HB3 := Lib.hid (HBw2.out.grown hg3 HBw2.out.size (fun k hk => ownI_lows HO3.out k hk))
              clear ho3 hg3
              go_wp2_with (at_builtin; refine Go.Lib.wpList_append_run_sl _ (by rfl) (.tmp 44) (.tmp 47) 28 (by rfl) _ _ (by rfl) (by rfl) hr3 ?_)
              clear hr3
              go_wp2
              go_roundw
              case rel =>
                rcases ownI_row HO4.out with ⟨-, e⟩ | ⟨g', cap', f, e, hg', h1, h2, -, -⟩
                · exact absurd e (by simp)
                · exact ⟨(i + 1) + 1, g', cap', _, by omega, by go_num, by rw [e, HLz.out], by rw [← HLz.out]; exact h1, h2, HS2.out, ownI_lower HO4.out HB2.out.size, below_on HB2.out HB3.out⟩
              case measure => simp [intOf] <;> omega
            · have hcj1 : (i + 1) < cap := by omega
              obtain ⟨v3, w3, hr3, ho3, hg3, -⟩ := run_spreadI (ty := 28) (c := cap - (i + 1)) HO3.out (HI2.out.dropI hj) (by have h := HL.out; simp <;> omega) HBw2.out.size
              have HO4 : Hid (OwnI w3 wr.heap.size v3 (s.take (i + 1) ++ [x] ++ s.drop (i + 1))) := Lib.hid ho3
              have HB3 := Lib.hid (HBw2.out.grown hg3 HBw2.out.size (fun k hk => ownI_lows HO3.out k hk))
              clear ho3 hg3
              rw [Nat.zero_add] at hr3
              go_wp2_with (at_builtin; refine Go.Lib.wpList_append_run_sl _ (by rfl) (.tmp 44) (.tmp 47) 28 (by rfl) _ _ (by rfl) (by rfl) hr3 ?_)
              clear hr3
              go_wp2
              go_roundw
              case rel =>
                rcases ownI_row HO4.out with ⟨-, e⟩ | ⟨g', cap', f, e, hg', h1, h2, -, -⟩
                · exact absurd e (by simp)
                · exact ⟨k + 1, g', cap', _, by omega, by go_num, by rw [e, HLz.out], by rw [← HLz.out]; exact h1, h2, HS2.out, ownI_lower HO4.out HB2.out.size, below_on HB2.out HB3.out⟩
              case measure => simp [intOf] <;> omega
    · obtain rfl : k = n := by omega
      have HS' : Hid (SortP xs s) := Lib.hid (by have h := HS.out; rwa [take_all HX.out.1] at h)
      clear hbel
      go_wp2
      go_ret
      exact ⟨⟨_, _, rfl, HS'.out, HO.out⟩, HB.out⟩
end Go.Proofs.YtclpnhdpojkjpaaGreat.num
namespace Go.Proofs.YtclpnhdpojkjpaaGreat.num
set_option maxRecDepth 20000
open Go.RowKit
set_option linter.unusedVariables false
set_option linter.unusedSimpArgs false

/-- The cells of an item; of a bool. -/
def itCs (t : It) : List Value := [.int .i64 t.id, .slice t.A t.n t.c]
theorem itCs_len (t : It) : (itCs t).length = 2 := rfl
theorem itCs_one (t : It) : ∀ u ∈ itCs t, u.oneCell' = true := by
  intro u hu
  simp only [itCs, List.mem_cons, List.not_mem_nil, or_false] at hu
  rcases hu with rfl | rfl <;> rfl
def boC (b : Bool) : List Value := [.bool b]
theorem boC_len (b : Bool) : (boC b).length = 1 := rfl
theorem boC_one (b : Bool) : ∀ u ∈ boC b, u.oneCell' = true := by
  intro u hu
  simp only [boC, List.mem_singleton] at hu
  subst hu; rfl
theorem info_boolB : (Tryz.prog.info? 4).map (fun i => (i.zero, i.size, i.bytes)) = some (some (.bool false), 1, 1) := by kernel_rfl
abbrev OwnTs (w : World) (B : Nat) (v : Value) (l : List It) : Prop := OwnG 77 itCs 2 w B v l
abbrev OwnBs (w : World) (B : Nat) (v : Value) (l : List Bool) : Prop := OwnG 4 boC 1 w B v l
/-- Two slices lie in different blocks. -/
def Apart (u v : Value) : Prop := ∀ b, u.ownBlock = some b → v.ownBlock ≠ some b
theorem Apart.symm {u v : Value} (h : Apart u v) : Apart v u := fun b h1 h2 => h b h2 h1
/-- What was made earlier, and a block that is laid later. -/
theorem Apart.new {u v : Value} {N : Nat} (hu : ∀ k, u.ownBlock = some k → k < N) (hv : v.ownBlock = some N) : Apart u v := fun b h1 h2 => by
  have := hu b h1
  rw [hv] at h2
  have := Option.some.inj h2
  omega
/-- v grew to v': u stays apart. -/
theorem Apart.grow {u v v' : Value} {w : World} {N : Nat} (h : Apart u v) (hu : ∀ k, u.ownBlock = some k → k < w.heap.size) (hat : v'.ownBlock = v.ownBlock ∨ v'.ownBlock = some (w.heap.size + N)) : Apart u v' := fun b h1 h2 => by
  rcases hat with e | e
  · exact h b h1 (e ▸ h2)
  · rw [e] at h2
    have := Option.some.inj h2
    have := hu b h1
    omega
/-- v grew: what u holds is as it was. -/
theorem OwnG.apart {α : Type} {f : α → List Value} {s : Nat} {T : TypeId} {w w' : World} {B : Nat} {u v : Value} {l : List α} (h : OwnG T f s w B u l) (ha : Apart u v) (hg : w.grownBy w' v.ownBlock) : OwnG T f s w' B u l :=
  h.blocks fun k hk => hg.block k (h.tops k hk) fun e => ha k hk e.symm
theorem wp_appT {ops : Array Oper} {rest : List Oper} {o : Oper} {a : Act} {Q : Exit → Act → World → Prop} (w : World) (hgd : o.guard = none) (sl x : Operand)
    (ho : o.op = .call { callee := .builtin .append, args := #[sl, x], argTypes := #[24, 24] })
    (B : Nat) (v : Value) (l : List It) (hs : a.eval sl = v) (hown : OwnTs w B v l) (t : It) (cs : Array Value) (hcs : cs = #[.int .i64 t.id, .slice t.A t.n t.c]) (c : Nat)
    (hx : a.eval x = .slice (some ⟨w.heap.size, 0, none⟩) 1 c) (hlen : l.length ≤ 1048576) (hB : B ≤ w.heap.size)
    (h : ∀ v' w', OwnTs w' B v' (l ++ [t]) → w.grownBy w' v.ownBlock → (v'.ownBlock = v.ownBlock ∨ v'.ownBlock = some (w.heap.size + 1)) → Below B w w' → wpList Tryz.prog ops Q rest (a.put o.dst v') w') :
    wpList Tryz.prog ops Q (o :: rest) a (w.alloc (.cells cs 77)) :=
  wp_appG itCs_len itCs_one Tryz.underlying24 info_item rfl (by decide) w hgd sl x ho B v l hs hown cs t (by rw [hcs]; rfl) c w.heap.size rfl hx (by omega) (by decide) hB
    fun v' w' h1 h2 h3 => h v' w' h1 h2 h3 ((Below.refl B w).grown h2 hB (fun k hk => hown.lows k hk))
theorem wp_appB {ops : Array Oper} {rest : List Oper} {o : Oper} {a : Act} {Q : Exit → Act → World → Prop} (w : World) (hgd : o.guard = none) (sl x : Operand)
    (ho : o.op = .call { callee := .builtin .append, args := #[sl, x], argTypes := #[116, 116] })
    (B : Nat) (v : Value) (l : List Bool) (hs : a.eval sl = v) (hown : OwnBs w B v l) (t : Bool) (cs : Array Value) (hcs : cs = #[.bool t]) (c : Nat)
    (hx : a.eval x = .slice (some ⟨w.heap.size, 0, none⟩) 1 c) (hlen : l.length ≤ 1048576) (hB : B ≤ w.heap.size)
    (h : ∀ v' w', OwnBs w' B v' (l ++ [t]) → w.grownBy w' v.ownBlock → (v'.ownBlock = v.ownBlock ∨ v'.ownBlock = some (w.heap.size + 1)) → Below B w w' → wpList Tryz.prog ops Q rest (a.put o.dst v') w') :
    wpList Tryz.prog ops Q (o :: rest) a (w.alloc (.cells cs 4)) :=
  wp_appG boC_len boC_one Tryz.underlying116 info_boolB rfl (by decide) w hgd sl x ho B v l hs hown cs t (by rw [hcs]; rfl) c w.heap.size rfl hx (by omega) (by decide) hB
    fun v' w' h1 h2 h3 => h v' w' h1 h2 h3 ((Below.refl B w).grown h2 hB (fun k hk => hown.lows k hk))
/-- A slice of items of one's own, read: the k-th one's cells. -/
theorem it_at {w : World} {B : Nat} {A : Option Addr} {n : Nat} {l : List It} (h : ReadG itCs 2 w B A n l) {k : Nat} (hk : k < n) :
    ∃ (b off : Nat) (x : It), A = some ⟨b, off, none⟩ ∧ b < B ∧ l[k]? = some x ∧ w.cell? ⟨b, off + k * 2, none⟩ = some (.int .i64 x.id) ∧ w.cell? ⟨b, off + k * 2 + 1, none⟩ = some (.slice x.A x.n x.c) := by
  obtain ⟨x, hx⟩ := h.get hk
  obtain ⟨b, off, hA, hb, hc⟩ := h.at' k x hx
  exact ⟨b, off, x, hA, hb, hx, hc 0 _ rfl, hc 1 _ rfl⟩
theorem bo_at {w : World} {B : Nat} {A : Option Addr} {n : Nat} {l : List Bool} (h : ReadG boC 1 w B A n l) {k : Nat} (hk : k < n) :
    ∃ (b off : Nat) (x : Bool), A = some ⟨b, off, none⟩ ∧ b < B ∧ l[k]? = some x ∧ w.cell? ⟨b, off + k, none⟩ = some (.bool x) := by
  obtain ⟨x, hx⟩ := h.get hk
  obtain ⟨b, off, hA, hb, hc⟩ := h.at' k x hx
  have h0 := hc 0 _ rfl
  rw [Nat.mul_one] at h0
  exact ⟨b, off, x, hA, hb, hx, h0⟩
/-- Items that came in are read as such cells. -/
theorem Items.readT {w : World} {B : Nat} {A : Option Addr} {n : Nat} {its : List It} (h : Items w B A n its) : ReadG itCs 2 w B A n its := by
  refine ⟨h.1, fun k x hk => ?_⟩
  have hlt := (List.getElem?_eq_some_iff.1 hk).1
  obtain ⟨b, off, y, hA, hb, hy, d0, d1, -⟩ := h.at k (by rw [← h.1]; exact hlt)
  obtain rfl : x = y := Option.some.inj (hk.symm.trans hy)
  refine ⟨b, off, hA, hb, fun j v hj => ?_⟩
  match j, hj with
  | 0, hj => obtain rfl := Option.some.inj hj; exact d0
  | 1, hj => obtain rfl := Option.some.inj hj; exact d1
  | j + 2, hj => simp [itCs] at hj
end Go.Proofs.YtclpnhdpojkjpaaGreat.num
namespace Go.Proofs.YtclpnhdpojkjpaaGreat.num
set_option maxRecDepth 20000
open Go.RowKit
set_option linter.unusedVariables false
set_option linter.unusedSimpArgs false

theorem fm_set3 {α : Type} {f : α → List Value} {s : Nat} (hf : ∀ x, (f x).length = s) (hs : 0 < s) (l : List α) (k : Nat) (y : α) (hk : k < l.length) (j : Nat) (hj : j < l.length * s) :
    ((l.set k y).flatMap f)[j]? = if j / s = k then (f y)[j % s]? else (l.flatMap f)[j]? := by
  have hd : j / s * s + j % s = j := by rw [Nat.mul_comm]; exact Nat.div_add_mod j s
  have hm := Nat.mod_lt j hs
  have hq : j / s < l.length := by rw [Nat.div_lt_iff_lt_mul hs]; exact hj
  by_cases e : j / s = k
  · rw [if_pos e]
    have h := fm_at hf (l.set k y) (j / s) (j % s) y (by rw [e, List.getElem?_set_self hk]) hm
    rwa [hd] at h
  · rw [if_neg e]
    have h1 : (l.set k y)[j / s]? = l[j / s]? := List.getElem?_set_ne (fun h => e h.symm)
    have h2 : l[j / s]? = some l[j / s] := List.getElem?_eq_getElem hq
    have h3 := fm_at hf (l.set k y) (j / s) (j % s) l[j / s] (by rw [h1, h2]) hm
    have h4 := fm_at hf l (j / s) (j % s) l[j / s] h2 hm
    rw [hd] at h3 h4
    rw [h3, h4]
/-- One element of three cells set anew. -/
theorem OwnG.set3 {α : Type} {f : α → List Value} (hf : ∀ x, (f x).length = 3) {T : TypeId} {w : World} {B g n c k : Nat} {v0 v1 v2 : Value} {l : List α} {y : α} (h : OwnG T f 3 w B (.slice (some ⟨g, 0, none⟩) n c) l) (hk : k < l.length) (hy : f y = [v0, v1, v2]) :
    OwnG T f 3 (((w.setCell ⟨g, k * 3, none⟩ v0).setCell ⟨g, k * 3 + 1, none⟩ v1).setCell ⟨g, k * 3 + 2, none⟩ v2) B (.slice (some ⟨g, 0, none⟩) n c) (l.set k y) := by
  rcases h.row with ⟨e, _⟩ | ⟨g', cap, F, e, hB, hle, hcap, hrow, hF⟩
  · cases e
  · injection e with e1 e2 e3
    injection e1 with e1
    injection e1 with e1
    subst e1 e2 e3
    refine OwnG.of_row hf hB (by simp) hle hcap (World.rowIs.set (World.rowIs.set (World.rowIs.set hrow (k * 3) v0) (k * 3 + 1) v1) (k * 3 + 2) v2) fun j hj => ?_
    rw [fm_set3 hf (by decide) l k y hk j hj]
    have hd : j / 3 * 3 + j % 3 = j := by rw [Nat.mul_comm]; exact Nat.div_add_mod j 3
    have hm := Nat.mod_lt j (show 0 < 3 by decide)
    by_cases e : j / 3 = k
    · rw [if_pos e, hy]
      have hc : j % 3 = 0 ∨ j % 3 = 1 ∨ j % 3 = 2 := by omega
      rcases hc with q | q | q
      · rw [q, if_neg (by omega), if_neg (by omega), if_pos (by omega)]; rfl
      · rw [q, if_neg (by omega), if_pos (by omega)]; rfl
      · rw [q, if_pos (by omega)]; rfl
    · rw [if_neg e, hF j hj, if_neg (by omega), if_neg (by omega), if_neg (by omega)]
theorem rowIs_cut {b : Nat} {t : TypeId} {n : Nat} : ∀ (vs : List Value) (o : Nat) (w : World) (f : Nat → Value), w.rowIs b t n f → ∃ f', (w.setCells b o vs).rowIs b t n f' ∧ ∀ j, j < o → f' j = f j
  | [], o, w, f, h => ⟨f, h, fun _ _ => rfl⟩
  | v :: r, o, w, f, h => by
    obtain ⟨f', h1, h2⟩ := rowIs_cut r (o + 1) (w.setCell ⟨b, o, none⟩ v) _ (h.set o v)
    exact ⟨f', h1, fun j hj => by rw [h2 j (by omega), if_neg (by omega)]⟩
theorem grown_cut {g : Nat} : ∀ (vs : List Value) (o : Nat) (w a : World), a.grownBy w (some g) → a.grownBy (w.setCells g o vs) (some g)
  | [], o, w, a, h => h
  | v :: r, o, w, a, h => by
    refine grown_cut r (o + 1) _ a ?_
    refine ⟨h.os, h.tape, h.output, by simp [World.setCell]; exact h.size, fun k hk hne => ?_⟩
    rw [← h.block k hk hne]
    simp only [World.setCell]
    have hne' : g ≠ k := fun e => hne (by rw [e])
    rw [Array.getElem?_modify, if_neg hne']
theorem grown_set {g : Nat} {w a : World} (h : a.grownBy w (some g)) (o : Nat) (v : Value) : a.grownBy (w.setCell ⟨g, o, none⟩ v) (some g) := grown_cut [v] o w a h
/-- clear of the tail behind the k-th element. -/
theorem run_clear_tail (w : World) (t e ty : TypeId) (z : Value) (s : Nat) (ht : Tryz.prog.underlying t = some (.slice e)) (hv : ∀ w, (zeroValue e).run Tryz.prog w = .ok z w) (hz : z.cells.size = s) (hs : 0 < s) (h1 : ∀ u ∈ z.cells, u.oneCell' = true) (b o n c : Nat) (hn : 0 < n)
    (hc : ∀ j, j < n * s → (w.cell? ⟨b, o + j, none⟩).isSome = true) (hf : ∀ j, j < n * s → w.frozen? ⟨b, o + j, none⟩ = false) :
    (Builtin.clear_ #[t] ty #[.slice (some ⟨b, o, none⟩) n c]).run Tryz.prog w = .ok (.tuple #[]) (w.setCells b o (Builtin.zeroCells z.cells n).toList) := by
  have hl : (Builtin.zeroCells z.cells n).toList.length = n * s := by rw [Array.length_toList, size_zeroCells, hz]
  have hst := run_storeCells_cells (P := Tryz.prog) b o (Builtin.zeroCells z.cells n).toList 0 w (by rw [hl]; simpa using hc) (by rw [hl]; simpa using hf) (by
    intro v hv'
    rw [Array.mem_toList_iff] at hv'
    obtain ⟨i, hi, rfl⟩ := Array.getElem_of_mem hv'
    refine h1 _ ?_
    simp only [Builtin.zeroCells, Array.getElem_map, Array.getElem_range]
    rw [getElem!_pos z.cells _ (by rw [hz]; exact Nat.mod_lt _ hs)]
    exact Array.getElem_mem _)
  simp only [Nat.add_zero] at hst
  obtain ⟨m, rfl⟩ : ∃ m, n = m + 1 := ⟨n - 1, by omega⟩
  simp [Builtin.clear_, run_underlying ht, hv, hst]
end Go.Proofs.YtclpnhdpojkjpaaGreat.num
namespace Go.Proofs.YtclpnhdpojkjpaaGreat.num
set_option maxRecDepth 20000
open Go.RowKit
set_option linter.unusedVariables false
set_option linter.unusedSimpArgs false

set_option maxRecDepth 20000 in
set_option maxHeartbeats 800000 in
/-- slices.IndexFunc by beats with a bound receiver: the first one's place. -/
theorem ctIndexB (w : World) (p : Nat) (A : Option Addr) (n c : Nat) (its : List It) (h : ReadG (ctCells p) 3 w w.heap.size A n its) (hn : n ≤ 1048576) (rv : Value) (hold : It → Bool)
    (HC : ∀ W, Below w.heap.size w W → ∀ u ∈ its, Calls Tryz.prog 71 #[rv, ctV p u] W fun e w' => e = .returned (.bool (hold u)) ∧ Below W.heap.size W w') :
    Calls Tryz.prog 101 #[.slice A n c, .func (.func 71) #[rv] #[]] w fun e w' => ((e = .returned (.int .i64 (-1)) ∧ ∀ u ∈ its, hold u = false) ∨ ∃ k x, k < n ∧ e = .returned (.int .i64 (k : Int)) ∧ its[k]? = some x ∧ hold x = true ∧ ∀ u ∈ its.take k, hold u = false) ∧ Below w.heap.size w w' := by
  have HX := Lib.hid h
  have HF := Lib.hid HC
  clear h HC
  go_enter Tryz.func101, Tryz.ntmps101
  go_wp2
  go_loopw [8] (fun i wr => ∃ k : Nat, k ≤ n ∧ i = .int .i64 k ∧ (∀ u ∈ its.take k, hold u = false) ∧ Below w.heap.size w wr) (fun i _ => n - (intOf i).toNat)
  case atStart => exact ⟨0, Nat.zero_le _, rfl, by simp, Below.refl _ _⟩
  case round =>
    obtain ⟨k, hk, rfl, hall, hbel⟩ := hrel
    have HA := Lib.hid hall
    have HB := Lib.hid hbel
    clear hall
    by_cases hlt : k < n
    · obtain ⟨b, off, x, rfl, hb, hat, d0, d1, d2⟩ := ct_at HX.out k hlt
      have f0 := (hbel.cell (p := ⟨b, off + k * 3, none⟩) hb).trans d0
      have f1 := (hbel.cell (p := ⟨b, off + k * 3 + 1, none⟩) hb).trans d1
      have f2 := (hbel.cell (p := ⟨b, off + k * 3 + 2, none⟩) hb).trans d2
      have HAt := Lib.hid hat
      have hlt' : (k : Int) < (n : Int) := by omega
      have HC1 := HF.out wr HB.out x (mem_of_at hat)
      obtain ⟨z, hz⟩ : ∃ z, hold x = z := ⟨_, rfl⟩
      rw [hz] at HC1
      have hvx : ctV p x = .agg #[.int .i64 x.id, .slice x.A x.n x.c, .pointer (some ⟨p, 0, none⟩)] := rfl
      rw [hvx] at HC1
      have HZ := Lib.hid hz
      have HC2 := Lib.hid HC1
      clear d0 d1 d2 hat hbel hz hvx HC1
      go_wp2_with fail
      refine HC2.out.mono ?_
      rintro e w2 ⟨rfl, hb2⟩
      have HB2 := Lib.hid (below_on HB.out hb2)
      clear hb2 f0 f1 f2 HC2
      cases z
      · go_wp2
        go_roundw
        case rel => exact ⟨k + 1, by omega, by go_num, any_step HAt.out HA.out HZ.out, HB2.out⟩
        case measure => simp [intOf]; omega
      · go_wp2
        go_ret
        exact ⟨.inr ⟨k, x, hlt, rfl, HAt.out, HZ.out, HA.out⟩, HB2.out⟩
    · obtain rfl : k = n := by omega
      have h := HA.out
      rw [take_all HX.out.len] at h
      have HH := Lib.hid h
      clear h hbel
      go_wp2
      go_ret
      exact ⟨.inl ⟨rfl, HH.out⟩, HB.out⟩
theorem zero_ct (w : World) : (zeroValue 111).run Tryz.prog w = .ok (.agg #[.int .i64 0, .slice none 0 0, .pointer none]) w := by kernel_rfl
/-- What is left of the first k. -/
def lftI (hold : It → Bool) (its : List It) (k : Nat) : List It := (its.take k).filter fun u => !hold u
theorem lft_keep {hold : It → Bool} {its : List It} {k : Nat} {x : It} (h : its[k]? = some x) (hx : hold x = false) : lftI hold its (k + 1) = lftI hold its k ++ [x] := by
  unfold lftI
  rw [take_at h, List.filter_append]
  simp [hx]
theorem lft_drop {hold : It → Bool} {its : List It} {k : Nat} {x : It} (h : its[k]? = some x) (hx : hold x = true) : lftI hold its (k + 1) = lftI hold its k := by
  unfold lftI
  rw [take_at h, List.filter_append]
  simp [hx]
theorem lft_all {hold : It → Bool} {its : List It} {k : Nat} (h : ∀ u ∈ its.take k, hold u = false) : lftI hold its k = its.take k := by
  unfold lftI
  exact List.filter_eq_self.2 fun u hu => by rw [h u hu]; rfl
theorem drop_at {its : List It} {k : Nat} {x : It} (h : its[k]? = some x) : its.drop k = x :: its.drop (k + 1) := by
  obtain ⟨hl, rfl⟩ := List.getElem?_eq_some_iff.1 h
  exact List.drop_eq_getElem_cons hl
/-- What the row holds on the way: what is left of the first j; some that are not read again; the others. -/
structure DelInv (hold : It → Bool) (its : List It) (i j : Nat) (m : List It) : Prop where
  eq : ∃ mid : List It, m = lftI hold its j ++ (mid ++ its.drop j) ∧ 0 < mid.length
  len : m.length = its.length
  at' : (lftI hold its j).length = i
  le : j ≤ its.length
theorem DelInv.lt {hold : It → Bool} {its : List It} {i j : Nat} {m : List It} (h : DelInv hold its i j m) : i < j := by
  obtain ⟨mid, e, hm⟩ := h.eq
  have h1 := h.len
  have h2 := h.at'
  have h3 := h.le
  rw [e, List.length_append, List.length_append, List.length_drop] at h1
  omega
theorem DelInv.start {hold : It → Bool} {its : List It} {k : Nat} {x : It} (h : its[k]? = some x) (hx : hold x = true) (hall : ∀ u ∈ its.take k, hold u = false) : DelInv hold its k (k + 1) its := by
  have hl := (List.getElem?_eq_some_iff.1 h).1
  have e : lftI hold its (k + 1) = its.take k := by rw [lft_drop h hx, lft_all hall]
  exact ⟨⟨[x], by rw [e, List.singleton_append, ← drop_at h, List.take_append_drop], by simp⟩, rfl, by rw [e, List.length_take]; omega, hl⟩
theorem DelInv.keep {hold : It → Bool} {its : List It} {i j : Nat} {m : List It} {x : It} (h : DelInv hold its i j m) (hat : its[j]? = some x) (hx : hold x = false) : DelInv hold its (i + 1) (j + 1) (m.set i x) := by
  obtain ⟨mid, e, hm⟩ := h.eq
  have hl := (List.getElem?_eq_some_iff.1 hat).1
  obtain ⟨a, mid', rfl⟩ : ∃ a r, mid = a :: r := by cases mid with | nil => simp at hm | cons a r => exact ⟨a, r, rfl⟩
  refine ⟨⟨mid' ++ [x], ?_, by simp⟩, by rw [List.length_set]; exact h.len, by rw [lft_keep hat hx, List.length_append, h.at']; rfl, hl⟩
  rw [e, lft_keep hat hx, drop_at hat, List.set_append_right _ _ (by rw [h.at']; exact Nat.le_refl _), h.at', Nat.sub_self]
  simp
theorem DelInv.skip {hold : It → Bool} {its : List It} {i j : Nat} {m : List It} {x : It} (h : DelInv hold its i j m) (hat : its[j]? = some x) (hx : hold x = true) : DelInv hold its i (j + 1) m := by
  obtain ⟨mid, e, hm⟩ := h.eq
  have hl := (List.getElem?_eq_some_iff.1 hat).1
  refine ⟨⟨mid ++ [x], ?_, by simp⟩, h.len, by rw [lft_drop hat hx]; exact h.at', hl⟩
  rw [e, lft_drop hat hx, drop_at hat]
  simp
theorem DelInv.read {hold : It → Bool} {its : List It} {i j : Nat} {m : List It} {x : It} (h : DelInv hold its i j m) (hat : its[j]? = some x) : m[j]? = some x := by
  obtain ⟨mid, e, hm⟩ := h.eq
  have h1 := h.len
  have h2 := h.le
  have hl : (lftI hold its j ++ mid).length = j := by
    rw [e, List.length_append, List.length_append, List.length_drop] at h1
    rw [List.length_append]
    omega
  rw [e, ← List.append_assoc, List.getElem?_append_right (by omega), hl, Nat.sub_self, drop_at hat]
  rfl
theorem DelInv.done {hold : It → Bool} {its : List It} {i : Nat} {m : List It} (h : DelInv hold its i its.length m) : m.take i = its.filter fun u => !hold u := by
  obtain ⟨mid, e, hm⟩ := h.eq
  have h2 := h.at'
  rw [e, List.take_append_of_le_length (by omega), List.take_of_length_le (by omega)]
  unfold lftI
  rw [List.take_length]
set_option maxRecDepth 20000 in
set_option maxHeartbeats 1600000 in
/-- slices.DeleteFunc by beats with a bound receiver, over a row of the call's own. -/
theorem ctDelete (w0 w : World) (p : Nat) (v : Value) (its : List It) (h0 : Below w0.heap.size w0 w) (h : OwnG 111 (ctCells p) 3 w w0.heap.size v its) (hn : its.length ≤ 1048576) (rv : Value) (hold : It → Bool)
    (HC : ∀ W, Below w0.heap.size w0 W → ∀ u ∈ its, Calls Tryz.prog 71 #[rv, ctV p u] W fun e w' => e = .returned (.bool (hold u)) ∧ Below W.heap.size W w') :
    Calls Tryz.prog 70 #[v, .func (.func 71) #[rv] #[]] w fun e w' => (∃ v', e = .returned v' ∧ OwnG 111 (ctCells p) 3 w' w0.heap.size v' (its.filter fun u => !hold u) ∧ v'.ownBlock = v.ownBlock) ∧ w.grownBy w' v.ownBlock ∧ Below w0.heap.size w0 w' := by
  obtain ⟨A, c, rfl, hlc, hcm⟩ := h.shape
  have hrd := OwnG.read (ctCells_len p) h
  have HI := Lib.hid (ctIndexB w p A its.length c its hrd hn rv hold fun W hW => HC W (h0.trans (hW.mono h0.size)))
  have HX := Lib.hid h
  have HF := Lib.hid HC
  have HB0 := Lib.hid h0
  clear h hrd HC h0
  go_enter Tryz.func70, Tryz.ntmps70
  go_wp2_with fail
  refine HI.out.mono ?_
  rintro e w1 ⟨hcase, hb1⟩
  have HB1 := Lib.hid hb1
  clear HI hb1
  rcases hcase with ⟨rfl, hall⟩ | ⟨k, x, hk, rfl, hat, hx, hall⟩
  · have HAll := Lib.hid hall
    clear hall
    go_wp2
    go_ret
    refine ⟨⟨_, rfl, ?_, rfl⟩, ⟨HB1.out.os, HB1.out.tape, HB1.out.output, HB1.out.size, fun i hi _ => HB1.out.block i hi⟩, HB0.out.trans (HB1.out.mono HB0.out.size)⟩
    rw [List.filter_eq_self.2 fun u hu => by rw [HAll.out u hu]; rfl]
    exact HX.out.below HB1.out
  · obtain ⟨g, rfl⟩ : ∃ g, A = some ⟨g, 0, none⟩ := by
      rcases HX.out.row with ⟨e, he⟩ | ⟨g, cap, F, e, _⟩
      · rw [he] at hat; simp at hat
      · injection e with e1 e2 e3
        exact ⟨g, e1⟩
    have hg0 : w0.heap.size ≤ g := HX.out.lows g rfl
    have hgw : g < w.heap.size := HX.out.tops g rfl
    have hne : ((k : Int) == -1) = false := by simp
    have HS := Lib.hid (DelInv.start hat hx hall)
    have hlc' : (its.length : Int) ≤ (c : Int) := by omega
    have hcm' : (c : Int) ≤ 9223372036854775807 := by unfold maxLen at hcm; omega
    have HX1 := Lib.hid (HX.out.below HB1.out)
    have HG1 : Hid (w.grownBy w1 (some g)) := Lib.hid ⟨HB1.out.os, HB1.out.tape, HB1.out.output, HB1.out.size, fun i hi _ => HB1.out.block i hi⟩
    clear hat hx hall
    go_wp2
    go_loopw [5, 6] (fun iv jv wr => ∃ (i j : Nat) (m : List It), iv = .int .i64 i ∧ jv = .int .i64 j ∧ DelInv hold its i j m ∧ OwnG 111 (ctCells p) 3 wr w0.heap.size (.slice (some ⟨g, 0, none⟩) its.length c) m ∧ w.grownBy wr (some g)) (fun _ jv _ => its.length - (intOf jv).toNat)
    case atStart => exact ⟨k, k + 1, its, rfl, by go_num, HS.out, HX1.out, HG1.out⟩
    case round =>
      obtain ⟨i, j, m, rfl, rfl, hinv, hown, hgr⟩ := hrel
      have HInv := Lib.hid hinv
      have HO := Lib.hid hown
      have HG := Lib.hid hgr
      have hij := hinv.lt
      have hj := hinv.le
      have hml := hinv.len
      have HBw : Hid (Below w0.heap.size w0 wr) := Lib.hid (HB0.out.grown hgr HB0.out.size (fun k hk => by cases hk; exact hg0))
      have hgs := hgr.size
      clear hinv hown hgr
      by_cases hlt : j < its.length
      · obtain ⟨b, off, x, he, hb, hat, d0, d1, d2⟩ := ct_at (HO.out.read (ctCells_len p)) j hlt
        cases he
        rw [Nat.zero_add] at d0 d1 d2
        obtain ⟨x', hat'⟩ : ∃ x', its[j]? = some x' := ⟨_, List.getElem?_eq_getElem hlt⟩
        obtain rfl : x' = x := Option.some.inj ((HInv.out.read hat').symm.trans hat)
        have HAt := Lib.hid hat'
        have hlt' : (j : Int) < (its.length : Int) := by omega
        have hj0 : (0 : Int) ≤ (j : Int) := by omega
        obtain ⟨z, hz⟩ : ∃ z, hold x' = z := ⟨_, rfl⟩
        have HZ := Lib.hid hz
        have HC1 : Hid (∀ W, Below w0.heap.size w0 W → Calls Tryz.prog 71 #[rv, .agg #[.int .i64 x'.id, .slice x'.A x'.n x'.c, .pointer (some ⟨p, 0, none⟩)]] W fun e w' => e = .returned (.bool z) ∧ Below W.heap.size W w') := Lib.hid fun W hW => by rw [← hz]; exact HF.out W hW x' (mem_of_at hat')
        have HBa : Hid (Below w0.heap.size w0 (wr.alloc (.cells #[.int .i64 x'.id, .slice x'.A x'.n x'.c, .pointer (some ⟨p, 0, none⟩)] 111))) := Lib.hid (HBw.out.alloc HBw.out.size _)
        have Xx : Hid (Box3 (wr.alloc (.cells #[.int .i64 x'.id, .slice x'.A x'.n x'.c, .pointer (some ⟨p, 0, none⟩)] 111)) wr.heap.size p x') := Lib.hid (Box3.new _ _ _ _)
        have HOa := Lib.hid (HO.out.below ((Below.refl _ wr).alloc (Nat.le_refl _) (.cells #[.int .i64 x'.id, .slice x'.A x'.n x'.c, .pointer (some ⟨p, 0, none⟩)] 111)))
        have HGa : Hid (w.grownBy (wr.alloc (.cells #[.int .i64 x'.id, .slice x'.A x'.n x'.c, .pointer (some ⟨p, 0, none⟩)] 111)) (some g)) := Lib.hid (HG.out.trans (World.grownBy_alloc wr _ _))
        clear hat hat' hz
        go_wp2_with fail
        refine (HC1.out _ HBa.out).mono ?_
        rintro e w2 ⟨rfl, hb2⟩
        have HB2 := Lib.hid (HBa.out.trans (hb2.mono HBa.out.size))
        have HO2 := Lib.hid (HOa.out.below hb2)
        have Xx2 := Lib.hid (Xx.out.below hb2)
        have HG2 : Hid (w.grownBy w2 (some g)) := Lib.hid (HGa.out.trans ⟨hb2.os, hb2.tape, hb2.output, hb2.size, fun i hi _ => hb2.block i hi⟩)
        clear hb2 d0 d1 d2 HC1 HBa HOa Xx HGa
        cases z
        · obtain ⟨x_g, x_0, x_1, x_2⟩ := Xx2.out
          have him : i < m.length := by omega
          obtain ⟨b3, off3, y, he3, hb3, hat3, d0, d1, d2⟩ := ct_at (HO2.out.read (ctCells_len p)) i (by omega)
          cases he3
          have hin : (i : Int) < (its.length : Int) := by omega
          have hi0 : (0 : Int) ≤ (i : Int) := by omega
          rw [Nat.zero_add] at d0 d1 d2
          obtain ⟨cap3, F3, e3, hrow3⟩ : ∃ cap F, c = cap ∧ w2.rowIs g 111 (cap * 3) F := by
            rcases HO2.out.row with ⟨e, _⟩ | ⟨g', cap, F, e, _, _, _, hrow, _⟩
            · cases e
            · injection e with e1 e2 e3
              injection e1 with e1
              injection e1 with e1
              subst e1
              exact ⟨cap, F, e3, hrow⟩
          have z0 := World.rowIs.frozen hrow3 (i * 3)
          have z1 := World.rowIs.frozen hrow3 (i * 3 + 1)
          have z2 := World.rowIs.frozen hrow3 (i * 3 + 2)
          have hneg : ¬ wr.heap.size = g := by have := HO.out.tops g rfl; omega
          have hngg : ¬ g = wr.heap.size := fun h => hneg h.symm
          clear hat3 hrow3 e3
          go_wp2
          go_roundw
          case rel => exact ⟨i + 1, j + 1, m.set i x', by go_num, by go_num, HInv.out.keep HAt.out HZ.out, OwnG.set3 (ctCells_len p) HO2.out him rfl, grown_set (grown_set (grown_set HG2.out _ _) _ _) _ _⟩
          case measure => simp [intOf]; omega
        · go_wp2
          go_roundw
          case rel => exact ⟨i, j + 1, m, rfl, by go_num, HInv.out.skip HAt.out HZ.out, HO2.out, HG2.out⟩
          case measure => simp [intOf]; omega
      · obtain rfl : its.length = j := by omega
        have hin : (i : Int) ≤ (its.length : Int) := by omega
        have hi0 : (0 : Int) ≤ (i : Int) := by omega
        have hic : (i : Int) ≤ (c : Int) := by omega
        obtain ⟨F3, hrow3, hF3⟩ : ∃ F, wr.rowIs g 111 (c * 3) F ∧ ∀ q, q < m.length * 3 → (m.flatMap (ctCells p))[q]? = some (F q) := by
          rcases HO.out.row with ⟨e, _⟩ | ⟨g', cap, F, e, _, _, _, hrow, hF⟩
          · cases e
          · injection e with e1 e2 e3
            injection e1 with e1
            injection e1 with e1
            subst e1 e3
            exact ⟨F, hrow, hF⟩
        have hmc : its.length ≤ c := by omega
        have hcl : ∀ ty, (Builtin.clear_ #[61] ty #[.slice (some ⟨g, i * 3, none⟩) (its.length - i) (c - i)]).run Tryz.prog wr = .ok (.tuple #[]) (wr.setCells g (i * 3) (Builtin.zeroCells (Value.agg #[.int .i64 0, .slice none 0 0, .pointer none]).cells (its.length - i)).toList) := fun ty =>
          run_clear_tail wr _ _ ty (.agg #[.int .i64 0, .slice none 0 0, .pointer none]) 3 Tryz.underlying61 zero_ct rfl (by decide) (by simp [Value.cells, Value.oneCell']) g (i * 3) (its.length - i) (c - i) (by omega) (fun q hq => by rw [World.rowIs.cell hrow3 (by omega)]; rfl) (fun q hq => World.rowIs.frozen hrow3 _)
        obtain ⟨vs, hvs⟩ : ∃ vs, (Builtin.zeroCells (Value.agg #[.int .i64 0, .slice none 0 0, .pointer none]).cells (its.length - i)).toList = vs := ⟨_, rfl⟩
        rw [hvs] at hcl
        have HW := Lib.hid (rowIs_cut vs (i * 3) wr F3 hrow3)
        have HGc := Lib.hid (grown_cut vs (i * 3) wr w HG.out)
        have HF3 := Lib.hid hF3
        clear hj hvs hrow3 hF3
        go_wp2
        go_ret
        obtain ⟨F4, hr4, he4⟩ := HW.out
        refine ⟨⟨_, rfl, ?_, rfl⟩, HGc.out, HB0.out.grown HGc.out HB0.out.size (fun k hk => by cases hk; exact hg0)⟩
        have hdone := HInv.out.done
        rw [← hdone]
        have hlen : (m.take i).length = i := by rw [List.length_take]; omega
        refine OwnG.of_row (ctCells_len p) hg0 hlen (by omega) hcm hr4 fun j hj => ?_
        rw [he4 j hj, fm_take (ctCells_len p), List.getElem?_take_of_lt hj]
        exact HF3.out j (by omega)
end Go.Proofs.YtclpnhdpojkjpaaGreat.num
namespace Go.Proofs.YtclpnhdpojkjpaaGreat.num
set_option maxRecDepth 20000
open Go.RowKit
set_option linter.unusedVariables false
set_option linter.unusedSimpArgs false

set_option maxRecDepth 20000 in
/-- slices.Grow of nil. -/
theorem growC (p : Nat) (w : World) (n : Nat) (hn : n ≤ 4194304) :
    Calls Tryz.prog 103 #[.slice none 0 0, .int .i64 n] w fun e w' => ∃ v, e = .returned v ∧ OwnG 111 (ctCells p) 3 w' w.heap.size v [] ∧ Below w.heap.size w w' := by
  obtain ⟨i0, hi, hzz⟩ := Option.map_eq_some_iff.1 info_ct
  simp only [Prod.mk.injEq] at hzz
  obtain ⟨hz0, hz1, hz2⟩ := hzz
  rcases Nat.eq_zero_or_pos n with e | e
  · subst e
    clear hi hz0 hz1 hz2
    go_enter Tryz.func103, Tryz.ntmps103
    go_wp2
    go_ret
    exact ⟨_, rfl, .nil _ _, Below.refl _ _⟩
  · have hr := Go.Lib.run_append_nil_zeros (P := Tryz.prog) w 61 3 61 111 i0 (.agg #[.int .i64 0, .slice none 0 0, .pointer none]) .i64 .i64 Tryz.underlying61 Tryz.underlying3 hi hz0 n e (by rw [hz1]; decide) (by omega) (by rw [hz2]; omega)
    have hcap := grownCap_ge w n 0 111
    have hcapm : grownCap w n 0 111 ≤ maxLen := grownCap_le_maxLen w n 0 111 (by unfold maxLen; omega)
    generalize grownCap w n 0 111 = cap at hr hcap hcapm
    have hpos : (0 : Int) < (n : Int) := by omega
    have hcap' : cap ≤ 9223372036854775807 := by unfold maxLen at hcapm; omega
    have HC := Lib.hid (And.intro hcap hcapm)
    clear hi hz0 hz1 hz2 hcapm
    go_enter Tryz.func103, Tryz.ntmps103
    go_wp2_with (at_builtin; refine Go.Lib.wpList_append_run _ (by rfl) (.tmp 20) (.tmp 21) 61 3 (by rfl) _ _ (by rfl) (by rfl) _ _ hr ?_)
    clear hr
    go_wp2
    go_ret
    refine ⟨_, rfl, ?_, (Below.refl _ w).drew.alloc (Nat.le_refl _) _⟩
    refine ⟨rfl, .inr ⟨w.heap.size, cap, _, rfl, Nat.le_refl _, heap_alloc_new w.drew _, Nat.zero_le _, HC.out.2, ?_, ?_⟩⟩
    · have h := HC.out.1
      rw [Array.size_append, size_zeroCells, size_zeroCells]
      show n * 3 + (cap - n) * 3 = cap * 3
      rw [← Nat.add_mul]
      congr 1
      omega
    · simp
set_option maxRecDepth 20000 in
set_option maxHeartbeats 1600000 in
/-- slices.Concat of two contests. -/
theorem concatC (p : Nat) (w : World) (B : Nat) (g c : Nat) (A1 A2 : Option Addr) (n1 n2 c1 c2 : Nat) (l1 l2 : List It) (h1 : ReadG (ctCells p) 3 w B A1 n1 l1) (h2 : ReadG (ctCells p) 3 w B A2 n2 l2) (hB : B ≤ w.heap.size) (hg : g < w.heap.size) (hn : n1 + n2 ≤ 4194304)
    (q0 : w.cell? ⟨g, 0, none⟩ = some (.slice A1 n1 c1)) (q1 : w.cell? ⟨g, 1, none⟩ = some (.slice A2 n2 c2)) :
    Calls Tryz.prog 72 #[.slice (some ⟨g, 0, none⟩) 2 c] w fun e w' => ∃ v, e = .returned v ∧ OwnG 111 (ctCells p) 3 w' w.heap.size v (l1 ++ l2) ∧ Below w.heap.size w w' := by
  have HR1 := Lib.hid h1
  have HR2 := Lib.hid h2
  have HQ := Lib.hid (And.intro q0 q1)
  have HGr := Lib.hid (fun w1 : World => growC p w1 (n1 + n2) hn)
  have HLe : Hid (l1.length = n1 ∧ l2.length = n2) := Lib.hid ⟨h1.len, h2.len⟩
  clear h1 h2
  go_enter Tryz.func72, Tryz.ntmps72
  go_wp2
  go_loopw [3, 11] (fun s i wr => ∃ k : Nat, k ≤ 2 ∧ i = .int .i64 k ∧ s = .int .i64 ((if k = 0 then 0 else if k = 1 then n1 else n1 + n2 : Nat) : Int) ∧ w = wr) (fun _ i _ => 2 - (intOf i).toNat)
  case atStart => exact ⟨0, by decide, rfl, rfl, rfl⟩
  case round =>
    obtain ⟨k, hk, rfl, rfl, rfl⟩ := hrel
    have hk' : k = 0 ∨ k = 1 ∨ k = 2 := by omega
    rcases hk' with rfl | rfl | rfl
    · go_wp2
      go_roundw
      case rel => exact ⟨1, by decide, by go_num, by simp, by first | rfl | trivial⟩
      case measure => simp [intOf]
    · have hd : decide ((n1 : Int) + (n2 : Int) < 0) = false := by simp; omega
      have hw : IntKind.i64.wrap ((n1 : Int) + (n2 : Int)) = (n1 : Int) + (n2 : Int) := IntWalk.i64_in _ ⟨by omega, by omega⟩
      go_wp2
      go_roundw
      case rel => exact ⟨2, by decide, by go_num, by simp, by first | rfl | trivial⟩
      case measure => simp [intOf]
    · have hsum : ((if (2 : Nat) = 0 then 0 else if (2 : Nat) = 1 then n1 else n1 + n2 : Nat) : Int) = ((n1 + n2 : Nat) : Int) := by simp
      rw [hsum]
      obtain ⟨m, hm⟩ : ∃ m, n1 + n2 = m := ⟨_, rfl⟩
      have HM := Lib.hid hm
      rw [hm]
      have HG2 : Hid (∀ w1, Calls Tryz.prog 103 #[.slice none 0 0, .int .i64 (m : Int)] w1 fun e w' => ∃ v, e = .returned v ∧ OwnG 111 (ctCells p) 3 w' w1.heap.size v [] ∧ Below w1.heap.size w1 w') := Lib.hid fun w1 => by rw [← hm]; exact HGr.out w1
      clear hm hsum
      go_wp2_with fail
      refine (HG2.out _).mono ?_
      rintro e w1 ⟨v, rfl, ho, hb1⟩
      have HO := Lib.hid ho
      have HB1 := Lib.hid hb1
      clear ho hb1 q0 q1
      go_wp2
      go_loopw [6, 27] (fun x i wr => ∃ (k : Nat) (V : Value) (l : List It), k ≤ 2 ∧ i = .int .i64 k ∧ V = x ∧ OwnG 111 (ctCells p) 3 wr w.heap.size V l ∧ l = (if k = 0 then [] else if k = 1 then l1 else l1 ++ l2) ∧ Below w.heap.size w wr) (fun _ i _ => 2 - (intOf i).toNat)
      case atStart => exact ⟨0, v, [], by decide, rfl, rfl, HO.out, rfl, HB1.out⟩
      case round =>
        obtain ⟨k, v, l, hk, rfl, rfl, hown, hl, hbel⟩ := hrel
        have HO1 := Lib.hid hown
        have HBe := Lib.hid hbel
        have hsz : w.heap.size ≤ wr.heap.size := hbel.size
        obtain ⟨q0, q1⟩ := HQ.out
        have q0 := (hbel.cell (p := ⟨g, 0, none⟩) hg).trans q0
        have q1 := (hbel.cell (p := ⟨g, 1, none⟩) hg).trans q1
        have HL := Lib.hid hl
        clear hown hbel hl
        have hk' : k = 0 ∨ k = 1 ∨ k = 2 := by omega
        rcases hk' with rfl | rfl | rfl
        · obtain rfl := HL.out
          obtain ⟨v', w3, hr, ho3, hg3, hat3⟩ := run_spreadG (ctCells_len p) (ctCells_one p) (ty := 61) (c := c1) Tryz.underlying61 info_ct rfl (by decide) (by decide) HO1.out (HR1.out.below (HBe.out.mono hB)) (by simp only [if_true, if_neg (show ¬ (1 : Nat) = 0 by decide), List.length_nil, HLe.out.1]; omega) hsz
          have HO3 := Lib.hid ho3
          have HB3 := Lib.hid (HBe.out.grown hg3 hsz (fun k hk => HO1.out.lows k hk))
          clear ho3 hg3 hat3
          go_wp2_with (at_builtin; refine Go.Lib.wpList_append_run_sl _ (by rfl) (.tmp 31) (.tmp 32) 61 (by rfl) _ _ (by rfl) (by rfl) hr ?_)
          clear hr q0 q1
          go_wp2
          go_roundw
          case rel => exact ⟨1, v', _, by decide, by go_num, rfl, HO3.out, by simp, HB3.out⟩
          case measure => simp [intOf]
        · obtain rfl := HL.out
          obtain ⟨v', w3, hr, ho3, hg3, hat3⟩ := run_spreadG (ctCells_len p) (ctCells_one p) (ty := 61) (c := c2) Tryz.underlying61 info_ct rfl (by decide) (by decide) HO1.out (HR2.out.below (HBe.out.mono hB)) (by simp only [if_true, if_neg (show ¬ (1 : Nat) = 0 by decide), List.length_nil, HLe.out.1]; omega) hsz
          have HO3 := Lib.hid ho3
          have HB3 := Lib.hid (HBe.out.grown hg3 hsz (fun k hk => HO1.out.lows k hk))
          clear ho3 hg3 hat3
          go_wp2_with (at_builtin; refine Go.Lib.wpList_append_run_sl _ (by rfl) (.tmp 31) (.tmp 32) 61 (by rfl) _ _ (by rfl) (by rfl) hr ?_)
          clear hr q0 q1
          go_wp2
          go_roundw
          case rel => exact ⟨2, v', _, by decide, by go_num, rfl, HO3.out, by simp, HB3.out⟩
          case measure => simp [intOf]
        · go_wp2
          go_ret
          refine ⟨_, rfl, ?_, HBe.out⟩
          have := HL.out
          simp only [if_neg (show ¬ (2 : Nat) = 0 by decide), if_neg (show ¬ (2 : Nat) = 1 by decide)] at this
          rw [← this]
          exact HO1.out
set_option maxRecDepth 20000 in
set_option maxHeartbeats 800000 in
/-- Those that pass a test with a bound receiver. -/
theorem ctWhereB (w : World) (p : Nat) (A : Option Addr) (n c : Nat) (its : List It) (h : ReadG (ctCells p) 3 w w.heap.size A n its) (hn : n ≤ 2097152) (rv : Value) (hold : It → Bool)
    (HC : ∀ W, Below w.heap.size w W → ∀ u ∈ its, Calls Tryz.prog 69 #[rv, ctV p u] W fun e w' => e = .returned (.bool (hold u)) ∧ Below W.heap.size W w') :
    Calls Tryz.prog 84 #[.slice A n c, .func (.func 69) #[rv] #[]] w fun e w' => (∃ v, e = .returned v ∧ OwnG 111 (ctCells p) 3 w' w.heap.size v (its.filter hold)) ∧ Below w.heap.size w w' := by
  have HX := Lib.hid h
  have HF : Hid (∀ W, Below w.heap.size w W → ∀ u ∈ its, ∀ z, hold u = z → Calls Tryz.prog 69 #[rv, .agg #[.int .i64 u.id, .slice u.A u.n u.c, .pointer (some ⟨p, 0, none⟩)]] W fun e w' => e = .returned (.bool z) ∧ Below W.heap.size W w') := Lib.hid fun W hW u hu z hz => by rw [← hz]; exact HC W hW u hu
  clear h HC
  go_enter Tryz.func84, Tryz.ntmps84
  go_wp2
  go_loopw [5, 10] (fun v i wr => ∃ k : Nat, k ≤ n ∧ i = .int .i64 k ∧ OwnG 111 (ctCells p) 3 wr w.heap.size v ((its.take k).filter hold) ∧ Below w.heap.size w wr) (fun _ i _ => n - (intOf i).toNat)
  case atStart => exact ⟨0, Nat.zero_le _, rfl, OwnG.nil _ _, Below.refl _ _⟩
  case round =>
    obtain ⟨k, hk, rfl, hown, hbel⟩ := hrel
    have HO := Lib.hid hown
    have HB := Lib.hid hbel
    clear hown
    by_cases hlt : k < n
    · obtain ⟨b, off, x, rfl, hb, hat, d0, d1, d2⟩ := ct_at HX.out k hlt
      have f0 := (hbel.cell (p := ⟨b, off + k * 3, none⟩) hb).trans d0
      have f1 := (hbel.cell (p := ⟨b, off + k * 3 + 1, none⟩) hb).trans d1
      have f2 := (hbel.cell (p := ⟨b, off + k * 3 + 2, none⟩) hb).trans d2
      have HAt := Lib.hid hat
      have hlt' : (k : Int) < (n : Int) := by omega
      obtain ⟨z, hz⟩ : ∃ z, hold x = z := ⟨_, rfl⟩
      have HZ := Lib.hid hz
      have HC1 := Lib.hid (fun W (hW : Below w.heap.size w W) => HF.out W hW x (mem_of_at hat) z hz)
      have HBa : Hid (Below w.heap.size w (wr.alloc (.cells #[.int .i64 x.id, .slice x.A x.n x.c, .pointer (some ⟨p, 0, none⟩)] 111))) := Lib.hid (HB.out.alloc HB.out.size _)
      have Xx : Hid (Box3 (wr.alloc (.cells #[.int .i64 x.id, .slice x.A x.n x.c, .pointer (some ⟨p, 0, none⟩)] 111)) wr.heap.size p x) := Lib.hid (Box3.new _ _ _ _)
      have HOa := Lib.hid (HO.out.below ((Below.refl _ wr).alloc (Nat.le_refl _) (.cells #[.int .i64 x.id, .slice x.A x.n x.c, .pointer (some ⟨p, 0, none⟩)] 111)))
      have HLn : Hid ((((its.take k).filter hold).length + 1) * 40 ≤ 140737488355328) := Lib.hid (by
        have h1 : ((its.take k).filter hold).length ≤ (its.take k).length := List.length_filter_le _ _
        rw [List.length_take] at h1
        omega)
      clear d0 d1 d2 hat hbel hz
      go_wp2_with fail
      refine (HC1.out _ HBa.out).mono ?_
      rintro e w2 ⟨rfl, hb2⟩
      have HB2 := Lib.hid (below_on HBa.out hb2)
      have HO2 := Lib.hid (HOa.out.below hb2)
      have Xx2 := Lib.hid (Xx.out.below hb2)
      clear hb2 f0 f1 f2 HC1 HBa HOa Xx
      cases z
      · go_wp2
        go_roundw
        case rel => exact ⟨k + 1, by omega, by go_num, by rw [filter_step HAt.out, HZ.out]; simpa using HO2.out, HB2.out⟩
        case measure => simp [intOf]; omega
      · obtain ⟨x_g, x_0, x_1, x_2⟩ := Xx2.out
        go_wp2_with (at_builtin; refine wp_appG (ctCells_len p) (ctCells_one p) (T := 111) (tS := 61) Tryz.underlying61 info_ct rfl (by decide) w2 (by rfl) (.tmp 17) (.tmp 19) (by rfl) w.heap.size _ _ (by rfl) HO2.out _ x (by rfl) 1 _ rfl (by rfl) HLn.out (by decide) HB2.out.size ?_)
        intro v' w3 hr hg hat
        have HO3 := Lib.hid hr
        have HB3 := Lib.hid (HB2.out.grown hg HB2.out.size (fun k hk => HO2.out.lows k hk))
        clear hr hg hat x_g x_0 x_1 x_2
        go_wp2
        go_roundw
        case rel => exact ⟨k + 1, by omega, by go_num, by rw [filter_step HAt.out, HZ.out]; exact HO3.out, HB3.out⟩
        case measure => simp [intOf]; omega
    · obtain rfl : k = n := by omega
      have HO1 : Hid (OwnG 111 (ctCells p) 3 wr w.heap.size u5 (its.filter hold)) := Lib.hid (by have h := HO.out; rwa [take_all HX.out.len] at h)
      clear hbel
      go_wp2
      go_ret
      exact ⟨⟨_, rfl, HO1.out⟩, HB.out⟩
set_option maxRecDepth 20000 in
set_option maxHeartbeats 800000 in
theorem ctIdsW (w : World) (p : Nat) (A : Option Addr) (n c : Nat) (l : List It) (h : ReadG (ctCells p) 3 w w.heap.size A n l) (hn : n ≤ 4194304) :
    Calls Tryz.prog 73 #[.slice A n c] w fun e w' => (∃ v, e = .returned v ∧ OwnI w' w.heap.size v (idL l)) ∧ Below w.heap.size w w' := by
  have hmk := run_make_row' (P := Tryz.prog) 28 3 (.int .i64 0) 8 Tryz.underlying28 info_int rfl .i64 .i64 n (by omega) (by omega)
  have HX := Lib.hid h
  clear h
  go_enter Tryz.func73, Tryz.ntmps73
  go_wp2
  clear hmk
  go_loopw [11] (fun i wr => ∃ k : Nat, k ≤ n ∧ i = .int .i64 k ∧ wr.rowIs w.heap.size 3 n (fun j => if j < k then .int .i64 ((idL l).getD j 0) else .int .i64 0) ∧ Below w.heap.size w wr) (fun i _ => n - (intOf i).toNat)
  case atStart =>
    exact ⟨0, Nat.zero_le _, rfl, by simpa using World.rowIs_made w (.int .i64 0) n 3, (Below.refl _ _).alloc (Nat.le_refl _) _⟩
  case round =>
    obtain ⟨k, hk, rfl, hrow, hbel⟩ := hrel
    have HR := Lib.hid hrow
    have HB := Lib.hid hbel
    by_cases hlt : k < n
    · obtain ⟨x, hat⟩ := HX.out.get hlt
      obtain ⟨b, off, rfl, hb, hc⟩ := HX.out.at' k x hat
      have f0 := (hbel.cell (p := ⟨b, off + k * 3, none⟩) hb).trans (hc 0 _ rfl)
      have f1 := (hbel.cell (p := ⟨b, off + k * 3 + 1, none⟩) hb).trans (hc 1 _ rfl)
      have f2 := (hbel.cell (p := ⟨b, off + k * 3 + 2, none⟩) hb).trans (hc 2 _ rfl)
      have hl1 := World.rowIs.lt hrow
      have g1 : wr.cell? ⟨w.heap.size, k, none⟩ = some (.int .i64 0) := by rw [World.rowIs.cell hrow hlt, if_neg (by omega)]
      have g2 := World.rowIs.frozen hrow k
      have HAt := Lib.hid hat
      have hsz := Lib.hid hbel.size
      clear hrow hbel hc hat
      go_wp2
      go_roundw
      case rel =>
        refine ⟨k + 1, by omega, by go_num, ?_, ?_⟩
        · first
          | exact (World.rowIs.set (World.rowIs.alloc HR.out _) k (.int .i64 x.id)).congr (fun j _ => by rw [← idL_get HAt.out]; exact getD_prefix (idL l) k j)
          | exact (World.rowIs.alloc (World.rowIs.set HR.out k (.int .i64 x.id)) _).congr (fun j _ => by rw [← idL_get HAt.out]; exact getD_prefix (idL l) k j)
        · first
          | exact (HB.out.alloc hsz.out _).setCell (Nat.le_refl _) _
          | exact (HB.out.setCell (p := ⟨w.heap.size, k, none⟩) (Nat.le_refl _) _).alloc (by simp [World.setCell]; exact hsz.out) _
      case measure => simp [intOf]; omega
    · obtain rfl : k = n := by omega
      clear hrow hbel
      go_wp2
      go_ret
      refine ⟨⟨_, rfl, ?_⟩, HB.out⟩
      have hl : (idL l).length = k := by rw [idL_len, HX.out.len]
      refine ownI_of_row (Nat.le_refl _) hl (Nat.le_refl _) (by unfold maxLen; omega) HR.out fun j hj => ?_
      rw [if_pos hj, List.getElem?_map, List.getD_eq_getElem?_getD, List.getElem?_eq_getElem (by omega)]; rfl
end Go.Proofs.YtclpnhdpojkjpaaGreat.num
namespace Go.Proofs.YtclpnhdpojkjpaaGreat.num
set_option maxRecDepth 20000
open Go.RowKit
set_option linter.unusedVariables false
set_option linter.unusedSimpArgs false

/-- Five slices of the call's own: the two that grow lie apart from the others. -/
structure PassI (F : Nat) (w : World) (a : Value) (la : List It) (b : Value) (lb : List Bool) (p : Value) (lp : List It) (q : Value) (lq : List Bool) (r : Value) (lr : List It) : Prop where
  fa : OwnTs w F a la
  fb : OwnBs w F b lb
  fp : OwnTs w F p lp
  fq : OwnBs w F q lq
  fr : OwnTs w F r lr
  ab : Apart a b
  ap : Apart a p
  aq : Apart a q
  ar : Apart a r
  bp : Apart b p
  bq : Apart b q
  br : Apart b r
section
variable {F : Nat} {w w' : World} {a b p q r a' b' : Value} {la lp lr : List It} {lb lq : List Bool}
theorem PassI.below (h : PassI F w a la b lb p lp q lq r lr) (hb : Below w.heap.size w w') : PassI F w' a la b lb p lp q lq r lr :=
  ⟨h.fa.below hb, h.fb.below hb, h.fp.below hb, h.fq.below hb, h.fr.below hb, h.ab, h.ap, h.aq, h.ar, h.bp, h.bq, h.br⟩
theorem PassI.growA {x : It} (h : PassI F w a la b lb p lp q lq r lr) (hr : OwnTs w' F a' (la ++ [x])) (hg : w.grownBy w' a.ownBlock) (hat : a'.ownBlock = a.ownBlock ∨ a'.ownBlock = some (w.heap.size + 1)) : PassI F w' a' (la ++ [x]) b lb p lp q lq r lr :=
  ⟨hr, h.fb.apart h.ab.symm hg, h.fp.apart h.ap.symm hg, h.fq.apart h.aq.symm hg, h.fr.apart h.ar.symm hg, (h.ab.symm.grow h.fb.tops hat).symm, (h.ap.symm.grow h.fp.tops hat).symm, (h.aq.symm.grow h.fq.tops hat).symm, (h.ar.symm.grow h.fr.tops hat).symm, h.bp, h.bq, h.br⟩
theorem PassI.growB {x : Bool} (h : PassI F w a la b lb p lp q lq r lr) (hr : OwnBs w' F b' (lb ++ [x])) (hg : w.grownBy w' b.ownBlock) (hat : b'.ownBlock = b.ownBlock ∨ b'.ownBlock = some (w.heap.size + 1)) : PassI F w' a la b' (lb ++ [x]) p lp q lq r lr :=
  ⟨h.fa.apart h.ab hg, hr, h.fp.apart h.bp.symm hg, h.fq.apart h.bq.symm hg, h.fr.apart h.br.symm hg, h.ab.grow h.fa.tops hat, h.ap, h.aq, h.ar, (h.bp.symm.grow h.fp.tops hat).symm, (h.bq.symm.grow h.fq.tops hat).symm, (h.br.symm.grow h.fr.tops hat).symm⟩
end
theorem bt_rev {nds : List ND} {t : Tr} (ht : Post nds t) (x y : Dt) : btD t y x = (cmpD t x y == -1) := by
  unfold btD
  rw [cmpD_turn ht x y]
  rcases cmpD_code t x y with h | h | h | h <;> rw [h] <;> rfl
/-- What is left of the window when x comes. -/
def kpI (t : Tr) (x : It) (l : List (It × Bool)) : List (It × Bool) := l.filter fun p => !btD t x.dat p.1.dat
def fnI (t : Tr) (x : It) (l : List (It × Bool)) : Bool := !l.any fun p => btD t p.1.dat x.dat
theorem kp_snoc {t : Tr} {x : It} {l : List (It × Bool)} {k : Nat} {p : It × Bool} (h : l[k]? = some p) : kpI t x (l.take (k + 1)) = kpI t x (l.take k) ++ (if btD t x.dat p.1.dat then [] else [p]) := by
  unfold kpI
  rw [take_at h, List.filter_append]
  congr 1
  cases e : btD t x.dat p.1.dat <;> simp [e]
theorem fn_snoc {t : Tr} {x : It} {l : List (It × Bool)} {k : Nat} {p : It × Bool} (h : l[k]? = some p) : fnI t x (l.take (k + 1)) = (fnI t x (l.take k) && !btD t p.1.dat x.dat) := by
  unfold fnI
  rw [take_at h, List.any_append]
  simp
theorem kp_len (t : Tr) (x : It) (l : List (It × Bool)) (k : Nat) : (kpI t x (l.take k)).length ≤ l.length := by
  unfold kpI
  have h1 : ((l.take k).filter fun p => !btD t x.dat p.1.dat).length ≤ (l.take k).length := List.length_filter_le _ _
  rw [List.length_take] at h1
  omega
/-- Three slices of the call's own, apart. -/
structure Pass3 (F : Nat) (w : World) (a : Value) (la : List It) (b : Value) (lb : List Bool) (r : Value) (lr : List It) : Prop where
  fa : OwnTs w F a la
  fb : OwnBs w F b lb
  fr : OwnTs w F r lr
  ab : Apart a b
  ar : Apart a r
  br : Apart b r
section
variable {F : Nat} {w w' : World} {a b r a' b' r' : Value} {la lr : List It} {lb : List Bool}
theorem Pass3.below (h : Pass3 F w a la b lb r lr) (hb : Below w.heap.size w w') : Pass3 F w' a la b lb r lr := ⟨h.fa.below hb, h.fb.below hb, h.fr.below hb, h.ab, h.ar, h.br⟩
theorem Pass3.growA {x : It} (h : Pass3 F w a la b lb r lr) (hr : OwnTs w' F a' (la ++ [x])) (hg : w.grownBy w' a.ownBlock) (hat : a'.ownBlock = a.ownBlock ∨ a'.ownBlock = some (w.heap.size + 1)) : Pass3 F w' a' (la ++ [x]) b lb r lr :=
  ⟨hr, h.fb.apart h.ab.symm hg, h.fr.apart h.ar.symm hg, (h.ab.symm.grow h.fb.tops hat).symm, (h.ar.symm.grow h.fr.tops hat).symm, h.br⟩
theorem Pass3.growB {x : Bool} (h : Pass3 F w a la b lb r lr) (hr : OwnBs w' F b' (lb ++ [x])) (hg : w.grownBy w' b.ownBlock) (hat : b'.ownBlock = b.ownBlock ∨ b'.ownBlock = some (w.heap.size + 1)) : Pass3 F w' a la b' (lb ++ [x]) r lr :=
  ⟨h.fa.apart h.ab hg, hr, h.fr.apart h.br.symm hg, h.ab.grow h.fa.tops hat, h.ar, (h.br.symm.grow h.fr.tops hat).symm⟩
theorem Pass3.growR {x : It} (h : Pass3 F w a la b lb r lr) (hr : OwnTs w' F r' (lr ++ [x])) (hg : w.grownBy w' r.ownBlock) (hat : r'.ownBlock = r.ownBlock ∨ r'.ownBlock = some (w.heap.size + 1)) : Pass3 F w' a la b lb r' (lr ++ [x]) :=
  ⟨h.fa.apart h.ar hg, h.fb.apart h.br hg, hr, h.ab, h.ar.grow h.fa.tops hat, h.br.grow h.fb.tops hat⟩
/-- Two new empty ones beside them. -/
theorem Pass3.five (h : Pass3 F w a la b lb r lr) (hF : F ≤ w.heap.size) : PassI F ((w.alloc (.cells #[] 77)).alloc (.cells #[] 4)) (.slice (some ⟨w.heap.size, 0, none⟩) 0 0) [] (.slice (some ⟨w.heap.size + 1, 0, none⟩) 0 0) [] a la b lb r lr := by
  have b1 : Below w.heap.size w (w.alloc (.cells #[] 77)) := (Below.refl _ w).alloc (Nat.le_refl _) _
  have e1 : (w.alloc (.cells #[] 77)).heap.size = w.heap.size + 1 := by simp
  have b2 : Below (w.alloc (.cells #[] 77)).heap.size (w.alloc (.cells #[] 77)) ((w.alloc (.cells #[] 77)).alloc (.cells #[] 4)) := (Below.refl _ _).alloc (Nat.le_refl _) _
  have h2 := (h.below b1).below b2
  have k1 : OwnTs _ F _ [] := (OwnG.empty (T := 77) (f := itCs) (s := 2) w F hF).below b2
  have k2 : OwnBs _ F _ [] := OwnG.empty (T := 4) (f := boC) (s := 1) (w.alloc (.cells #[] 77)) F (by rw [e1]; omega)
  rw [e1] at k2
  have ap : ∀ {u : Value} {N m : Nat}, (∀ k, u.ownBlock = some k → k < w.heap.size) → w.heap.size ≤ N → Apart (.slice (some ⟨N, 0, none⟩) 0 m) u := fun {u N m} hu hN b h1 h3 => by
    have q1 := hu b h3
    have q2 : N = b := Option.some.inj h1
    omega
  exact ⟨k1, k2, h2.fa, h2.fb, h2.fr, fun b h1 h3 => by
    have q1 : w.heap.size = b := Option.some.inj h1
    have q2 : w.heap.size + 1 = b := Option.some.inj h3
    omega, ap h.fa.tops (Nat.le_refl _), ap h.fb.tops (Nat.le_refl _), ap h.fr.tops (Nat.le_refl _), ap h.fa.tops (by omega), ap h.fb.tops (by omega), ap h.fr.tops (by omega)⟩
/-- What the window holds, as the mathematics has it. -/
def winD (l : List (It × Bool)) : List (Dt × Bool) := l.map fun p => (p.1.dat, p.2)
theorem win_kept (t : Tr) (win : List (It × Bool)) (ov : List Dt) (x : It) : keptW t ⟨winD win, ov⟩ x.dat = winD (kpI t x win) := by
  unfold keptW winD kpI
  rw [List.filter_map]
  rfl
theorem win_any (t : Tr) (win : List (It × Bool)) (x : It) : ((winD win).any fun p => btD t p.1 x.dat) = !fnI t x win := by
  unfold winD fnI
  rw [List.any_map, Bool.not_not]
  rfl
theorem win_step {t : Tr} {N k : Nat} {xs over : List It} {win : List (It × Bool)} {x : It} (h : runP t N ((xs.take k).map It.dat) = ⟨winD win, over.map It.dat⟩) (hat : xs[k]? = some x) :
    runP t N ((xs.take (k + 1)).map It.dat) = if fnI t x win then (if (kpI t x win).length < N then ⟨winD (kpI t x win ++ [(x, over.isEmpty)]), over.map It.dat⟩ else ⟨winD (kpI t x win), (over ++ [x]).map It.dat⟩) else ⟨winD win, over.map It.dat⟩ := by
  rw [take_at hat, List.map_append]
  show passS t N _ _ = _
  rw [List.map_singleton, passS_snoc]
  rw [show passS t N ((xs.take k).map It.dat) ⟨[], []⟩ = _ from h]
  unfold passW
  rw [win_any, win_kept]
  cases hf : fnI t x win
  · simp
  · have e : (winD (kpI t x win)).length = (kpI t x win).length := by unfold winD; simp
    rw [e]
    simp only [Bool.not_true, Bool.false_eq_true, if_false, if_true]
    split
    · unfold winD; simp
    · simp
end
end Go.Proofs.YtclpnhdpojkjpaaGreat.num
namespace Go.Proofs.YtclpnhdpojkjpaaGreat.num
set_option maxRecDepth 20000
open Go.RowKit
set_option linter.unusedVariables false
set_option linter.unusedSimpArgs false

/-- The window, early ones first. -/
def mkW (ce cl : List It) : List (It × Bool) := ce.map (fun u => (u, true)) ++ cl.map (fun u => (u, false))
def nbI (t : Tr) (x : It) (l : List It) : List It := l.filter fun u => !btD t x.dat u.dat
theorem mk_kept (t : Tr) (x : It) (ce cl : List It) : kpI t x (mkW ce cl) = mkW (nbI t x ce) (nbI t x cl) := by
  unfold kpI mkW nbI
  rw [List.filter_append, List.filter_map, List.filter_map]
  rfl
theorem mk_fine (t : Tr) (x : It) (ce cl : List It) : fnI t x (mkW ce cl) = (bestB t (ce.map It.dat) x.dat && bestB t (cl.map It.dat) x.dat) := by
  unfold fnI mkW
  rw [bestB_any, bestB_any, List.any_append, List.any_map, List.any_map, Bool.not_or]
  rfl
theorem mk_len (ce cl : List It) : (mkW ce cl).length = ce.length + cl.length := by unfold mkW; simp
theorem nb_len (t : Tr) (x : It) (l : List It) : (nbI t x l).length ≤ l.length := List.length_filter_le _ _
theorem nb_sub {t : Tr} {x : It} {l its : List It} (h : ∀ u ∈ l, u ∈ its) : ∀ u ∈ nbI t x l, u ∈ its := fun u hu => h u (List.mem_filter.1 hu).1
theorem sub_snoc {l its : List It} {x : It} (h : ∀ u ∈ l, u ∈ its) (hx : x ∈ its) : ∀ u ∈ l ++ [x], u ∈ its := fun u hu => by
  rcases List.mem_append.1 hu with hu | hu
  · exact h u hu
  · rw [List.mem_singleton.1 hu]; exact hx
/-- What the pass holds. -/
structure PmInv (t : Tr) (N : Nat) (its : List It) (k : Nat) (ce cl ca : List It) : Prop where
  run : runP t N ((its.take k).map It.dat) = ⟨winD (mkW ce cl), ca.map It.dat⟩
  em : ca = [] → cl = []
  le : ce.length + cl.length ≤ N
  me : ∀ u ∈ ce, u ∈ its
  ml : ∀ u ∈ cl, u ∈ its
  ma : ∀ u ∈ ca, u ∈ its
section
variable {t : Tr} {N : Nat} {its : List It} {k : Nat} {ce cl ca : List It} {x : It}
theorem PmInv.start (t : Tr) (N : Nat) (its : List It) : PmInv t N its 0 [] [] [] := ⟨rfl, fun _ => rfl, by simp, by simp, by simp, by simp⟩
theorem PmInv.skip (h : PmInv t N its k ce cl ca) (hat : its[k]? = some x) (hb : (bestB t (ce.map It.dat) x.dat && bestB t (cl.map It.dat) x.dat) = false) : PmInv t N its (k + 1) ce cl ca :=
  ⟨by rw [win_step h.run hat, mk_fine, hb]; rfl, h.em, h.le, h.me, h.ml, h.ma⟩
theorem PmInv.full (h : PmInv t N its k ce cl ca) (hat : its[k]? = some x) (h1 : bestB t (ce.map It.dat) x.dat = true) (h2 : bestB t (cl.map It.dat) x.dat = true) (hl : (nbI t x ce).length + (nbI t x cl).length = N) : PmInv t N its (k + 1) (nbI t x ce) (nbI t x cl) (ca ++ [x]) :=
  ⟨by rw [win_step h.run hat, mk_fine, h1, h2, mk_kept, mk_len, if_pos (by rfl), if_neg (by omega)], by simp, by omega, nb_sub h.me, nb_sub h.ml, sub_snoc h.ma (mem_of_at hat)⟩
theorem PmInv.early (h : PmInv t N its k ce cl []) (hat : its[k]? = some x) (h1 : bestB t (ce.map It.dat) x.dat = true) (h2 : bestB t (cl.map It.dat) x.dat = true) (hl : (nbI t x ce).length + (nbI t x cl).length ≠ N) : PmInv t N its (k + 1) (nbI t x ce ++ [x]) (nbI t x cl) [] := by
  have hc := h.em rfl
  subst hc
  have hn := nb_len t x ce
  have hle := h.le
  have e0 : (nbI t x ([] : List It)) = [] := rfl
  rw [e0, List.length_nil] at hl
  rw [List.length_nil] at hle
  refine ⟨?_, fun _ => e0, ?_, sub_snoc (nb_sub h.me) (mem_of_at hat), nb_sub h.ml, h.ma⟩
  · rw [win_step h.run hat, mk_fine, h1, h2, mk_kept, mk_len, e0, if_pos (by rfl), if_pos (by rw [List.length_nil]; omega)]
    unfold mkW
    simp
  · rw [e0, List.length_append, List.length_nil, List.length_singleton]; omega
theorem PmInv.late (h : PmInv t N its k ce cl ca) (hat : its[k]? = some x) (h1 : bestB t (ce.map It.dat) x.dat = true) (h2 : bestB t (cl.map It.dat) x.dat = true) (hl : (nbI t x ce).length + (nbI t x cl).length ≠ N) (hc : ca ≠ []) : PmInv t N its (k + 1) (nbI t x ce) (nbI t x cl ++ [x]) ca := by
  have n1 := nb_len t x ce
  have n2 := nb_len t x cl
  have hle := h.le
  refine ⟨?_, fun e => absurd e hc, ?_, nb_sub h.me, sub_snoc (nb_sub h.ml) (mem_of_at hat), h.ma⟩
  · rw [win_step h.run hat, mk_fine, h1, h2, mk_kept, mk_len, if_pos (by rfl), if_pos (by omega)]
    have e : ca.isEmpty = false := by cases ca with | nil => exact absurd rfl hc | cons => rfl
    rw [e]
    unfold mkW
    simp
  · rw [List.length_append, List.length_singleton]; omega
theorem pm_done (ce cl : List It) (ov : List Dt) : doneOf ⟨winD (mkW ce cl), ov⟩ = ce.map It.dat := by
  unfold doneOf winD mkW
  simp only [List.map_append, List.filter_append, List.map_map]
  rw [List.filter_eq_self.2 (by intro p hp; obtain ⟨u, _, rfl⟩ := List.mem_map.1 hp; rfl), List.filter_eq_nil_iff.2 (by intro p hp; obtain ⟨u, _, rfl⟩ := List.mem_map.1 hp; simp)]
  rw [List.map_nil, List.append_nil, List.map_map]
  rfl
theorem pm_left (ce cl ca : List It) : leftOf ⟨winD (mkW ce cl), ca.map It.dat⟩ = (ca ++ cl).map It.dat := by
  unfold leftOf winD mkW
  simp only [List.map_append, List.filter_append, List.map_map]
  rw [List.filter_eq_nil_iff.2 (by intro p hp; obtain ⟨u, _, rfl⟩ := List.mem_map.1 hp; simp), List.filter_eq_self.2 (by intro p hp; obtain ⟨u, _, rfl⟩ := List.mem_map.1 hp; rfl)]
  rw [List.map_nil, List.nil_append, List.map_map]
  rfl
end
/-- Three contests of the call's own, apart. -/
structure PassC (p F : Nat) (w : World) (a : Value) (la : List It) (b : Value) (lb : List It) (r : Value) (lr : List It) : Prop where
  fa : OwnG 111 (ctCells p) 3 w F a la
  fb : OwnG 111 (ctCells p) 3 w F b lb
  fr : OwnG 111 (ctCells p) 3 w F r lr
  ab : Apart a b
  ar : Apart a r
  br : Apart b r
section
variable {p F : Nat} {w w' : World} {a b r a' b' r' : Value} {la lb lr la' lb' : List It}
theorem PassC.nil (p F : Nat) (w : World) : PassC p F w (.slice none 0 0) [] (.slice none 0 0) [] (.slice none 0 0) [] := ⟨.nil _ _, .nil _ _, .nil _ _, (fun b h => by cases h), (fun b h => by cases h), (fun b h => by cases h)⟩
theorem PassC.below (h : PassC p F w a la b lb r lr) (hb : Below w.heap.size w w') : PassC p F w' a la b lb r lr := ⟨h.fa.below hb, h.fb.below hb, h.fr.below hb, h.ab, h.ar, h.br⟩
theorem PassC.delA (h : PassC p F w a la b lb r lr) (hr : OwnG 111 (ctCells p) 3 w' F a' la') (hg : w.grownBy w' a.ownBlock) (hat : a'.ownBlock = a.ownBlock) : PassC p F w' a' la' b lb r lr :=
  ⟨hr, h.fb.apart h.ab.symm hg, h.fr.apart h.ar.symm hg, fun k hk => h.ab k (hat ▸ hk), fun k hk => h.ar k (hat ▸ hk), h.br⟩
theorem PassC.delB (h : PassC p F w a la b lb r lr) (hr : OwnG 111 (ctCells p) 3 w' F b' lb') (hg : w.grownBy w' b.ownBlock) (hat : b'.ownBlock = b.ownBlock) : PassC p F w' a la b' lb' r lr :=
  ⟨h.fa.apart h.ab hg, hr, h.fr.apart h.br.symm hg, fun k h1 h2 => h.ab k h1 (hat ▸ h2), h.ar, fun k hk => h.br k (hat ▸ hk)⟩
theorem PassC.growA {x : It} (h : PassC p F w a la b lb r lr) (hr : OwnG 111 (ctCells p) 3 w' F a' (la ++ [x])) (hg : w.grownBy w' a.ownBlock) (hat : a'.ownBlock = a.ownBlock ∨ a'.ownBlock = some (w.heap.size + 1)) : PassC p F w' a' (la ++ [x]) b lb r lr :=
  ⟨hr, h.fb.apart h.ab.symm hg, h.fr.apart h.ar.symm hg, (h.ab.symm.grow h.fb.tops hat).symm, (h.ar.symm.grow h.fr.tops hat).symm, h.br⟩
theorem PassC.growB {x : It} (h : PassC p F w a la b lb r lr) (hr : OwnG 111 (ctCells p) 3 w' F b' (lb ++ [x])) (hg : w.grownBy w' b.ownBlock) (hat : b'.ownBlock = b.ownBlock ∨ b'.ownBlock = some (w.heap.size + 1)) : PassC p F w' a la b' (lb ++ [x]) r lr :=
  ⟨h.fa.apart h.ab hg, hr, h.fr.apart h.br.symm hg, h.ab.grow h.fa.tops hat, h.ar, (h.br.symm.grow h.fr.tops hat).symm⟩
theorem PassC.growR {x : It} (h : PassC p F w a la b lb r lr) (hr : OwnG 111 (ctCells p) 3 w' F r' (lr ++ [x])) (hg : w.grownBy w' r.ownBlock) (hat : r'.ownBlock = r.ownBlock ∨ r'.ownBlock = some (w.heap.size + 1)) : PassC p F w' a la b lb r' (lr ++ [x]) :=
  ⟨h.fa.apart h.ar hg, h.fb.apart h.br hg, hr, h.ab, h.ar.grow h.fa.tops hat, h.br.grow h.fb.tops hat⟩
end
theorem Box3.grown {w w' : World} {g p : Nat} {t : It} {row : Option Nat} (h : Box3 w g p t) (hg : w.grownBy w' row) (hne : row ≠ some g) : Box3 w' g p t := by
  have e : w'.heap[g]? = w.heap[g]? := hg.block g h.1 fun e => hne e.symm
  exact ⟨Nat.lt_of_lt_of_le h.1 hg.size, (World.cell?_of_block e).trans h.2.1, (World.cell?_of_block e).trans h.2.2.1, (World.cell?_of_block e).trans h.2.2.2⟩
set_option maxRecDepth 20000 in
set_option maxHeartbeats 6400000 in
theorem iPass (w : World) (B lo p : Nat) (t : Tr) (A : Option Addr) (n c : Nat) (its : List It) (h : CtIn w B lo p t A n its) (hn : n ≤ 1048576) (N : Nat) (hN : N ≤ 1048576) :
    Calls Tryz.prog 37 #[.slice A n c, .int .i64 (N : Int)] w fun e w' => (∃ v1 v2 dn ov, e = .returned (.tuple #[v1, v2]) ∧ OwnG 111 (ctCells p) 3 w' w.heap.size v1 dn ∧ OwnG 111 (ctCells p) 3 w' w.heap.size v2 ov ∧ dn.map It.dat = doneOf (runP t N (its.map It.dat)) ∧ ov.map It.dat = leftOf (runP t N (its.map It.dat)) ∧ (∀ u ∈ dn, u ∈ its) ∧ ∀ u ∈ ov, u ∈ its) ∧ Below w.heap.size w w' := by
  have HBe : Hid (∀ W, Below w.heap.size w W → ∀ (A' : Option Addr) (n' c' : Nat) (l : List It), ReadG (ctCells p) 3 W W.heap.size A' n' l → (∀ u ∈ l, u ∈ its) → n' ≤ 1048576 → ∀ x ∈ its, ∀ z, bestB t (l.map It.dat) x.dat = z → Calls Tryz.prog 69 #[.slice A' n' c', .agg #[.int .i64 x.id, .slice x.A x.n x.c, .pointer (some ⟨p, 0, none⟩)]] W fun e w' => e = .returned (.bool z) ∧ Below W.heap.size W w') := Lib.hid fun W hW A' n' c' l hr hl hn' x hx z hz => by
    rw [← hz]
    exact iBestOf W B lo p t A' n' c' l ⟨hr, fun u hu => (h.step hW).x u (hl u hu), (h.step hW).t, (h.step hW).hB⟩ hn' x ((h.step hW).x x hx).1 (h.x x hx).2
  have HD0 : Hid (∀ x ∈ its, ∀ W, Below w.heap.size w W → ∀ (v : Value) (l : List It), OwnG 111 (ctCells p) 3 W w.heap.size v l → (∀ u ∈ l, u ∈ its) → l.length ≤ 1048576 → Calls Tryz.prog 70 #[v, .func (.func 71) #[.agg #[.int .i64 x.id, .slice x.A x.n x.c, .pointer (some ⟨p, 0, none⟩)]] #[]] W fun e w' => (∃ v', e = .returned v' ∧ OwnG 111 (ctCells p) 3 w' w.heap.size v' (nbI t x l) ∧ v'.ownBlock = v.ownBlock) ∧ W.grownBy w' v.ownBlock ∧ Below w.heap.size w w') := Lib.hid fun x hx W hW v l ho hl hn' =>
    ctDelete w W p v l hW ho hn' _ (fun u => btD t x.dat u.dat) fun W' hW' u hu => iBeats W' B lo p t x u (h.step hW').t (h.step hW').hB ((h.step hW').x x hx).1 ((h.step hW').x u (hl u hu)).1 (h.x x hx).2 (h.x u (hl u hu)).2
  have HX := Lib.hid h.r
  have hlen := h.r.len
  have HLi : Hid (its.length ≤ 1048576) := Lib.hid (by rw [hlen]; exact hn)
  clear h
  go_enter Tryz.func37, Tryz.ntmps37
  go_wp2
  go_loopw [6, 7, 8, 13] (fun a b r i wr => ∃ (k : Nat) (ce cl ca : List It), k ≤ n ∧ i = .int .i64 k ∧ PassC p w.heap.size wr a ce b cl r ca ∧ PmInv t N its k ce cl ca ∧ ca.length ≤ k ∧ Below w.heap.size w wr) (fun _ _ _ i _ => n - (intOf i).toNat)
  case atStart => exact ⟨0, [], [], [], Nat.zero_le _, rfl, PassC.nil _ _ _, PmInv.start _ _ _, Nat.le_refl _, Below.refl _ _⟩
  case round =>
    obtain ⟨k, ce, cl, ca, hk, rfl, hp, hinv, hca, hbel⟩ := hrel
    have HI := Lib.hid hinv
    have HLe : Hid (ce.length + cl.length ≤ 1048576) := Lib.hid (Nat.le_trans hinv.le hN)
    have HCa := Lib.hid hca
    obtain ⟨A6, c6, rfl, -, -⟩ := hp.fa.shape
    obtain ⟨A7, c7, rfl, -, -⟩ := hp.fb.shape
    obtain ⟨A8, c8, rfl, -, -⟩ := hp.fr.shape
    have HP := Lib.hid hp
    have HB := Lib.hid hbel
    clear hp hinv hca
    by_cases hlt : k < n
    · obtain ⟨b, off, x, rfl, hb, hat, d0, d1, d2⟩ := ct_at HX.out k hlt
      have f0 := (hbel.cell (p := ⟨b, off + k * 3, none⟩) hb).trans d0
      have f1 := (hbel.cell (p := ⟨b, off + k * 3 + 1, none⟩) hb).trans d1
      have f2 := (hbel.cell (p := ⟨b, off + k * 3 + 2, none⟩) hb).trans d2
      have HAt := Lib.hid hat
      have HMx := Lib.hid (mem_of_at hat)
      have hlt' : (k : Int) < (n : Int) := by omega
      obtain ⟨gb, hgb⟩ : ∃ gb, wr.heap.size = gb := ⟨_, rfl⟩
      have HBa : Hid (Below w.heap.size w (wr.alloc (.cells #[.int .i64 x.id, .slice x.A x.n x.c, .pointer (some ⟨p, 0, none⟩)] 111))) := Lib.hid (HB.out.alloc HB.out.size _)
      have Xx : Hid (Box3 (wr.alloc (.cells #[.int .i64 x.id, .slice x.A x.n x.c, .pointer (some ⟨p, 0, none⟩)] 111)) gb p x) := Lib.hid (hgb ▸ Box3.new _ _ _ _)
      have HPa := Lib.hid (HP.out.below ((Below.refl _ wr).alloc (Nat.le_refl _) (.cells #[.int .i64 x.id, .slice x.A x.n x.c, .pointer (some ⟨p, 0, none⟩)] 111)))
      have HNa : Hid ((Value.slice A6 ce.length c6).ownBlock ≠ some gb) := Lib.hid fun e => by have := HP.out.fa.tops gb e; omega
      have HNb : Hid ((Value.slice A7 cl.length c7).ownBlock ≠ some gb) := Lib.hid fun e => by have := HP.out.fb.tops gb e; omega
      have HGb := Lib.hid hgb
      obtain ⟨z1, hz1⟩ : ∃ z, bestB t (ce.map It.dat) x.dat = z := ⟨_, rfl⟩
      obtain ⟨z2, hz2⟩ : ∃ z, bestB t (cl.map It.dat) x.dat = z := ⟨_, rfl⟩
      have HZ1 := Lib.hid hz1
      have HZ2 := Lib.hid hz2
      clear d0 d1 d2 hat hbel hz1 hz2
      go_wp2_with fail
      try rw [hgb]
      refine (HBe.out _ HBa.out A6 ce.length c6 ce (HPa.out.fa.read (ctCells_len p)) HI.out.me (by have := HLe.out; omega) x HMx.out z1 HZ1.out).mono ?_
      rintro e w2 ⟨rfl, hb2⟩
      have HB2 := Lib.hid (below_on HBa.out hb2)
      have HP2 := Lib.hid (HPa.out.below hb2)
      have Xx2 := Lib.hid (Xx.out.below hb2)
      clear hb2 f0 f1 f2 HBa HPa Xx
      cases z1
      · go_wp2
        go_roundw
        case rel => exact ⟨k + 1, ce, cl, ca, by omega, by go_num, HP2.out, HI.out.skip HAt.out (by rw [HZ1.out]; rfl), by have := HCa.out; omega, HB2.out⟩
        case measure => simp [intOf]; omega
      · obtain ⟨x_g, x_0, x_1, x_2⟩ := Xx2.out
        go_wp2_with fail
        refine (HBe.out _ HB2.out A7 cl.length c7 cl (HP2.out.fb.read (ctCells_len p)) HI.out.ml (by have := HLe.out; omega) x HMx.out z2 HZ2.out).mono ?_
        rintro e w3 ⟨rfl, hb3⟩
        have HB3 := Lib.hid (below_on HB2.out hb3)
        have HP3 := Lib.hid (HP2.out.below hb3)
        have Xx3 := Lib.hid (Xx2.out.below hb3)
        clear hb3 x_g x_0 x_1 x_2
        cases z2
        · go_wp2
          go_roundw
          case rel => exact ⟨k + 1, ce, cl, ca, by omega, by go_num, HP3.out, HI.out.skip HAt.out (by rw [HZ2.out, Bool.and_false]), by have := HCa.out; omega, HB3.out⟩
          case measure => simp [intOf]; omega
        · have HDe : Hid (∀ W, Below w.heap.size w W → ∀ {v : Value} {l : List It}, OwnG 111 (ctCells p) 3 W w.heap.size v l → l.length ≤ 1048576 → (∀ u ∈ l, u ∈ its) → Calls Tryz.prog 70 #[v, .func (.func 71) #[.agg #[.int .i64 x.id, .slice x.A x.n x.c, .pointer (some ⟨p, 0, none⟩)]] #[]] W fun e w' => (∃ v', e = .returned v' ∧ OwnG 111 (ctCells p) 3 w' w.heap.size v' (nbI t x l) ∧ v'.ownBlock = v.ownBlock) ∧ W.grownBy w' v.ownBlock ∧ Below w.heap.size w w') := Lib.hid fun W hW v l ho hl hm => HD0.out x HMx.out W hW v l ho hm hl
          have HPb := Lib.hid (HP3.out.below ((Below.refl _ w3).drew))
          have Xxd : Hid (Box3 (World.drew w3) gb p x) := Lib.hid (Xx3.out.below (Below.refl _ _).drew)
          obtain ⟨x_g, x_0, x_1, x_2⟩ := Xx3.out
          go_wp2
          have hS0 : (fun w' => w'.cell? ⟨gb, 0, none⟩ = some (.int .i64 x.id) ∧ w'.cell? ⟨gb, 1, none⟩ = some (.slice x.A x.n x.c) ∧ w'.cell? ⟨gb, 2, none⟩ = some (.pointer (some ⟨p, 0, none⟩))) (World.drew w3) := Xxd.out.2
          refine wp_region_held (S := fun w' => w'.cell? ⟨gb, 0, none⟩ = some (.int .i64 x.id) ∧ w'.cell? ⟨gb, 1, none⟩ = some (.slice x.A x.n x.c) ∧ w'.cell? ⟨gb, 2, none⟩ = some (.pointer (some ⟨p, 0, none⟩))) (by kernel_rfl) ?_
          change wpAnyH _ _ _ _ _ _ _ _ (World.drew _)
          refine takeY 27 (i := 0) (v := ?v0a) rfl rfl (by kernel_rfl) (by kernel_rfl) (by kernel_rfl) (fun _ _ _ h => h) (by kernel_rfl) ?y0a hS0 ?_
          case y0a =>
            intro w' hw'; (try dsimp only at hw'); obtain ⟨x_0, x_1, x_2⟩ := hw'; go_simp; try with_reducible rfl
          simp only [Act.put, List.setIfInBounds_toArray, List.set_cons_zero, List.set_cons_succ]
          refine takeY 28 (i := 1) (v := ?v1a) rfl rfl (by kernel_rfl) (by kernel_rfl) (by kernel_rfl) (fun _ _ _ h => h) (by kernel_rfl) ?y1a hS0 ?_
          case y1a =>
            intro w' hw'; (try dsimp only at hw'); obtain ⟨x_0, x_1, x_2⟩ := hw'; go_simp; try with_reducible rfl
          simp only [Act.put, List.setIfInBounds_toArray, List.set_cons_zero, List.set_cons_succ]
          refine takeY 29 (i := 2) (v := ?v2a) rfl rfl (by kernel_rfl) (by kernel_rfl) (by kernel_rfl) (fun _ _ _ h => h) (by kernel_rfl) ?y2a hS0 ?_
          case y2a =>
            intro w' hw'; (try dsimp only at hw'); obtain ⟨x_0, x_1, x_2⟩ := hw'; go_simp; try with_reducible rfl
          simp only [Act.put, List.setIfInBounds_toArray, List.set_cons_zero, List.set_cons_succ]
          refine takeY 31 (i := 4) (v := ?v4a) rfl rfl (by kernel_rfl) (by kernel_rfl) (by kernel_rfl) (fun _ _ _ h => h) (by kernel_rfl) ?y4a hS0 ?_
          case y4a =>
            intro w' hw'; (try dsimp only at hw'); obtain ⟨x_0, x_1, x_2⟩ := hw'; go_simp; try with_reducible rfl
          simp only [Act.put, List.setIfInBounds_toArray, List.set_cons_zero, List.set_cons_succ]
          refine takeY 32 (i := 5) (v := ?v5a) rfl rfl (by kernel_rfl) (by kernel_rfl) (by kernel_rfl) (fun _ _ _ h => h) (by kernel_rfl) ?y5a hS0 ?_
          case y5a =>
            intro w' hw'; (try dsimp only at hw'); obtain ⟨x_0, x_1, x_2⟩ := hw'; go_simp; try with_reducible rfl
          simp only [Act.put, List.setIfInBounds_toArray, List.set_cons_zero, List.set_cons_succ]
          refine takeY 33 (i := 6) (v := ?v6a) rfl rfl (by kernel_rfl) (by kernel_rfl) (by kernel_rfl) (fun _ _ _ h => h) (by kernel_rfl) ?y6a hS0 ?_
          case y6a =>
            intro w' hw'; (try dsimp only at hw'); obtain ⟨x_0, x_1, x_2⟩ := hw'; go_simp; try with_reducible rfl
          simp only [Act.put, List.setIfInBounds_toArray, List.set_cons_zero, List.set_cons_succ]
          refine wpAnyH_ready (rs := [3]) (by kernel_rfl) (by simp) ?_
          refine AllReadyH.cons rfl (fun K hK => ?_) AllReadyH.nil
          go_simp; go_at_call 70; refine (HDe.out _ HB3.out.drew HPb.out.fa (by have := HLe.out; omega) HI.out.me).mono ?_; rintro e w4 ⟨⟨v6, rfl, ho6, hob6⟩, hg6, hb6⟩; have HP4 := Lib.hid (HPb.out.delA ho6 hg6 hob6); have HB4 := Lib.hid hb6; have Xx4 := Lib.hid (Xxd.out.grown hg6 HNa.out); clear ho6 hob6 hg6 hb6
          refine hK.out _ _ Xx4.out.2 (fun hS1 => ?_)
          clear hK K
          try simp only [Act.put, List.setIfInBounds_toArray, List.set_cons_zero, List.set_cons_succ]
          refine wpAnyH_ready (rs := [7]) (by kernel_rfl) (by simp) ?_
          refine AllReadyH.cons rfl (fun K hK => ?_) AllReadyH.nil
          go_simp; go_at_call 70; refine (HDe.out _ HB4.out HP4.out.fb (by have := HLe.out; omega) HI.out.ml).mono ?_; rintro e w5 ⟨⟨v7, rfl, ho7, hob7⟩, hg7, hb7⟩; have HP5 := Lib.hid (HP4.out.delB ho7 hg7 hob7); have HB5 := Lib.hid hb7; have Xx5 := Lib.hid (Xx4.out.grown hg7 HNb.out); clear ho7 hob7 hg7 hb7
          refine hK.out _ _ Xx5.out.2 (fun hS2 => ?_)
          clear hK K
          try simp only [Act.put, List.setIfInBounds_toArray, List.set_cons_zero, List.set_cons_succ]
          refine takeY 6 (i := 8) (v := ?v8a) rfl rfl (by kernel_rfl) (by kernel_rfl) (by kernel_rfl) (fun _ _ _ h => h) (by kernel_rfl) ?y8a hS2 ?_
          case y8a =>
            intro w' hw'; (try dsimp only at hw'); obtain ⟨x_0, x_1, x_2⟩ := hw'; go_simp; try with_reducible rfl
          simp only [Act.put, List.setIfInBounds_toArray, List.set_cons_zero, List.set_cons_succ]
          refine takeY 7 (i := 9) (v := ?v9a) rfl rfl (by kernel_rfl) (by kernel_rfl) (by kernel_rfl) (fun _ _ _ h => h) (by kernel_rfl) ?y9a hS2 ?_
          case y9a =>
            intro w' hw'; (try dsimp only at hw'); obtain ⟨x_0, x_1, x_2⟩ := hw'; go_simp; try with_reducible rfl
          simp only [Act.put, List.setIfInBounds_toArray, List.set_cons_zero, List.set_cons_succ]
          refine wpAnyH_done (by kernel_rfl) ?_ _
          clear hS0 hS1 hS2 x_g x_0 x_1 x_2
          obtain ⟨A9, c9, rfl, -, -⟩ := HP5.out.fa.shape
          obtain ⟨A10, c10, rfl, -, -⟩ := HP5.out.fb.shape
          have n1 := nb_len t x ce
          have n2 := nb_len t x cl
          have HLn : Hid (((nbI t x ce).length + 1) * 40 ≤ 140737488355328 ∧ ((nbI t x cl).length + 1) * 40 ≤ 140737488355328 ∧ (ca.length + 1) * 40 ≤ 140737488355328) := Lib.hid (by
            have h1 := HLe.out
            have h2 := HCa.out
            omega)
          obtain ⟨m1, hm1⟩ : ∃ m, (nbI t x ce).length = m := ⟨_, rfl⟩
          obtain ⟨m2, hm2⟩ : ∃ m, (nbI t x cl).length = m := ⟨_, rfl⟩
          have HM := Lib.hid (And.intro hm1 hm2)
          have hw : IntKind.i64.wrap ((m1 : Int) + (m2 : Int)) = (m1 : Int) + (m2 : Int) := IntWalk.i64_in _ ⟨by omega, by have := HLe.out; omega⟩
          obtain ⟨x_g, x_0, x_1, x_2⟩ := Xx5.out
          rw [hm1, hm2] at HP5
          rw [hm1, hm2]
          clear hm1 hm2 n1 n2
          by_cases hfull : m1 + m2 = N
          · have he : ((m1 : Int) + (m2 : Int) == (N : Int)) = true := by simp; omega
            have HFu := Lib.hid hfull
            clear hfull
            go_wp2_with (at_builtin; refine wp_appG (ctCells_len p) (ctCells_one p) (T := 111) (tS := 61) Tryz.underlying61 info_ct rfl (by decide) w5 (by rfl) (.tmp 47) (.tmp 49) (by rfl) w.heap.size _ _ (by rfl) HP5.out.fr _ x (by rfl) 1 _ rfl (by rfl) HLn.out.2.2 (by decide) HB5.out.size ?_)
            intro v' w6 hr hg hat
            have HP6 := Lib.hid (HP5.out.growR hr hg hat)
            have HB6 := Lib.hid (HB5.out.grown hg HB5.out.size (fun k hk => HP5.out.fr.lows k hk))
            clear hr hg hat x_g x_0 x_1 x_2
            go_wp2
            go_roundw
            case rel => exact ⟨k + 1, _, _, _, by omega, by go_num, HP6.out, HI.out.full HAt.out HZ1.out HZ2.out (by rw [HM.out.1, HM.out.2]; exact HFu.out), by rw [List.length_append]; have := HCa.out; simp; omega, HB6.out⟩
            case measure => simp [intOf]; omega
          · have he : ((m1 : Int) + (m2 : Int) == (N : Int)) = false := by simp; omega
            have HFu := Lib.hid hfull
            clear hfull
            by_cases hc : ca = []
            · subst hc
              go_wp2_with (at_builtin; refine wp_appG (ctCells_len p) (ctCells_one p) (T := 111) (tS := 61) Tryz.underlying61 info_ct rfl (by decide) w5 (by rfl) (.tmp 55) (.tmp 57) (by rfl) w.heap.size _ _ (by rfl) HP5.out.fa _ x (by rfl) 1 _ rfl (by rfl) HLn.out.1 (by decide) HB5.out.size ?_)
              intro v' w6 hr hg hat
              have HP6 := Lib.hid (HP5.out.growA hr hg hat)
              have HB6 := Lib.hid (HB5.out.grown hg HB5.out.size (fun k hk => HP5.out.fa.lows k hk))
              clear hr hg hat x_g x_0 x_1 x_2
              go_wp2
              go_roundw
              case rel => exact ⟨k + 1, _, _, _, by omega, by go_num, HP6.out, HI.out.early HAt.out HZ1.out HZ2.out (by rw [HM.out.1, HM.out.2]; exact HFu.out), by simp, HB6.out⟩
              case measure => simp [intOf]; omega
            · have HCn := Lib.hid hc
              have hcl : ((ca.length : Int) == 0) = false := by
                have : 0 < ca.length := List.length_pos_iff.2 hc
                simp; omega
              clear hc
              go_wp2_with (at_builtin; refine wp_appG (ctCells_len p) (ctCells_one p) (T := 111) (tS := 61) Tryz.underlying61 info_ct rfl (by decide) w5 (by rfl) (.tmp 35) (.tmp 37) (by rfl) w.heap.size _ _ (by rfl) HP5.out.fb _ x (by rfl) 1 _ rfl (by rfl) HLn.out.2.1 (by decide) HB5.out.size ?_)
              intro v' w6 hr hg hat
              have HP6 := Lib.hid (HP5.out.growB hr hg hat)
              have HB6 := Lib.hid (HB5.out.grown hg HB5.out.size (fun k hk => HP5.out.fb.lows k hk))
              clear hr hg hat x_g x_0 x_1 x_2
              go_wp2
              go_roundw
              case rel => exact ⟨k + 1, _, _, _, by omega, by go_num, HP6.out, HI.out.late HAt.out HZ1.out HZ2.out (by rw [HM.out.1, HM.out.2]; exact HFu.out) HCn.out, by have := HCa.out; omega, HB6.out⟩
              case measure => simp [intOf]; omega
    · obtain rfl : k = n := by omega
      have HR0 : Hid (runP t N (its.map It.dat) = ⟨winD (mkW ce cl), ca.map It.dat⟩) := Lib.hid (by have h := HI.out.run; rwa [take_all hlen] at h)
      have HBa : Hid (Below wr.heap.size wr (wr.alloc (.cells #[.slice A8 ca.length c8, .slice A7 cl.length c7] 61))) := Lib.hid ((Below.refl _ _).alloc (Nat.le_refl _) _)
      have HPa := Lib.hid (HP.out.below HBa.out)
      clear hbel
      go_wp2_with fail
      refine (concatC p _ (wr.alloc (.cells #[.slice A8 ca.length c8, .slice A7 cl.length c7] 61)).heap.size wr.heap.size 2 A8 A7 ca.length cl.length c8 c7 ca cl (HPa.out.fr.read (ctCells_len p)) (HPa.out.fb.read (ctCells_len p)) (Nat.le_refl _) (by simp) (by have h1 := HCa.out; have h2 := HLe.out; omega) (World.cell?_alloc_at _ _ _ _ rfl) (World.cell?_alloc_at _ _ _ _ rfl)).mono ?_
      rintro e w2 ⟨v2, rfl, ho2, hb2⟩
      have HO2 := Lib.hid (ho2.low (B' := w.heap.size) (Nat.le_trans HB.out.size HBa.out.size))
      have HO1 := Lib.hid (HPa.out.fa.below hb2)
      have HB2 := Lib.hid (HB.out.trans ((below_on HBa.out hb2).mono HB.out.size))
      clear ho2 hb2
      go_wp2
      go_ret2
      exact ⟨⟨_, _, ce, ca ++ cl, rfl, HO1.out, HO2.out, by rw [HR0.out, pm_done], by rw [HR0.out, pm_left], HI.out.me, fun u hu => (List.mem_append.1 hu).elim (HI.out.ma u) (HI.out.ml u)⟩, HB2.out⟩
end Go.Proofs.YtclpnhdpojkjpaaGreat.num
namespace Go.Proofs.YtclpnhdpojkjpaaGreat.num
set_option maxRecDepth 20000
open Go.RowKit
set_option linter.unusedVariables false
set_option linter.unusedSimpArgs false

theorem it_one {its : List It} (ha : AreP (its.map It.dat)) {x y : It} (hx : x ∈ its) (hy : y ∈ its) (e : x.id = y.id) : x = y := by
  have hr := rise_pair ha
  obtain ⟨i, hi, rfl⟩ := List.getElem_of_mem hx
  obtain ⟨j, hj, rfl⟩ := List.getElem_of_mem hy
  rw [List.pairwise_iff_getElem] at hr
  have hl : (idsD (its.map It.dat)).length = its.length := by unfold idsD; simp
  have at' : ∀ k (hk : k < its.length), (idsD (its.map It.dat))[k]'(by omega) = its[k].id := fun k hk => by unfold idsD; simp [It.dat]
  rcases Nat.lt_trichotomy i j with h | h | h
  · have := hr i j (by omega) (by omega) h
    rw [at' i hi, at' j hj] at this
    omega
  · subst h; rfl
  · have := hr j i (by omega) (by omega) h
    rw [at' i hi, at' j hj] at this
    omega
theorem sItemIn (w : World) (B : Nat) (A : Option Addr) (n c : Nat) (its : List It) (hi : Items w B A n its) (hB : B ≤ w.heap.size) (hn : n ≤ 1048576) (ha : AreP (its.map It.dat)) (y : It) (hy : y ∈ its) :
    Calls Tryz.prog 86 #[.slice A n c, .int .i64 y.id] w fun e w' => e = .returned (.agg #[.int .i64 y.id, .slice y.A y.n y.c]) ∧ Below w.heap.size w w' := by
  refine (sItem w B A n c its hi hB hn y.id y.dat (findD_of ha (d := y.dat) (List.mem_map_of_mem hy))).mono ?_
  rintro e w' ⟨⟨y', hy', rfl, e⟩, hb⟩
  obtain rfl : y' = y := it_one ha hy' hy (congrArg Prod.fst e)
  exact ⟨rfl, hb⟩
theorem known_at {its : List It} {xs : List Int} (h : Known (its.map It.dat) xs) {k : Nat} {i : Int} (hat : xs[k]? = some i) : ∃ y ∈ its, y.id = i := by
  have h1 := h i (mem_of_at hat)
  cases hf : findD (its.map It.dat) i with
  | none => exact absurd hf h1
  | some d =>
    unfold findD at hf
    have h2 := List.find?_some hf
    obtain ⟨y, hy, rfl⟩ := List.mem_map.1 (List.mem_of_find?_eq_some hf)
    exact ⟨y, hy, eq_of_beq (show (y.dat.1 == i) = true from h2)⟩
theorem any_stepM {l : List Int} {f : Int → Bool} {k : Nat} {x : Int} (hat : l[k]? = some x) : (!(l.take (k + 1)).any f) = ((!(l.take k).any f) && !f x) := by
  rw [take_at hat, List.any_append]
  simp
theorem flti_snoc {l : List Int} {f : Int → Bool} {k : Nat} {x : Int} (hat : l[k]? = some x) : (l.take (k + 1)).filter f = (l.take k).filter f ++ (if f x then [x] else []) := by
  rw [take_at hat, List.filter_append]
  congr 1
  cases h : f x <;> simp [h]
theorem flti_len (l : List Int) (f : Int → Bool) (k : Nat) : ((l.take k).filter f).length ≤ k := by
  have h1 : ((l.take k).filter f).length ≤ (l.take k).length := List.length_filter_le _ _
  rw [List.length_take] at h1
  omega
set_option maxRecDepth 20000 in
set_option maxHeartbeats 3200000 in
theorem sMerge (w : World) (B : Nat) (A : Option Addr) (n c : Nat) (its : List It) (A2 : Option Addr) (n2 c2 : Nat) (ns : List Nd) (h : InB w B A n its A2 n2 c2 ns) (he : IsE (datN ns)) (ha : AreP (its.map It.dat)) (t : Tr) (ht : Post (datN ns) t)
    (Aa : Option Addr) (na ca : Nat) (xa : List Int) (hxa : Ints w w.heap.size Aa na xa) (hna : na ≤ 1048576) (hka : Known (its.map It.dat) xa)
    (Ab : Option Addr) (nb cb : Nat) (xb : List Int) (hxb : Ints w w.heap.size Ab nb xb) (hnb : nb ≤ 1048576) (hkb : Known (its.map It.dat) xb) :
    Calls Tryz.prog 53 #[.slice A n c, .slice A2 n2 c2, .slice Aa na ca, .slice Ab nb cb] w fun e w' => (∃ v s, e = .returned v ∧ SortP (mergeL t (its.map It.dat) xa xb) s ∧ OwnI w' w.heap.size v s) ∧ Below w.heap.size w w' := by
  have HC : Hid (∀ W, Below w.heap.size w W → ∀ x y, x ∈ its → y ∈ its → Calls Tryz.prog 75 #[.slice A2 n2 c2, .agg #[.int .i64 x.id, .slice x.A x.n x.c], .agg #[.int .i64 y.id, .slice y.A y.n y.c]] W fun e w' => e = .returned (.int .i64 (cmpD t x.dat y.dat)) ∧ Below W.heap.size W w') := Lib.hid fun W hW x y hx hy => sCmpIn w B A n c its A2 n2 c2 ns h he ha t ht W hW x y hx hy
  have HIt : Hid (∀ W, Below w.heap.size w W → ∀ y, y ∈ its → Calls Tryz.prog 86 #[.slice A n c, .int .i64 y.id] W fun e w' => e = .returned (.agg #[.int .i64 y.id, .slice y.A y.n y.c]) ∧ Below W.heap.size W w') := Lib.hid fun W hW y hy => sItemIn W B A n c its (h.below hW).i (h.below hW).hB h.hn ha y hy
  have HA := Lib.hid ha
  have HXa := Lib.hid hxa
  have HXb := Lib.hid hxb
  have HKa := Lib.hid hka
  have HKb := Lib.hid hkb
  clear h he ha ht hxa hxb hka hkb
  go_enter Tryz.func53, Tryz.ntmps53
  go_wp2
  go_loopw [9, 10] (fun v i wr => ∃ k : Nat, k ≤ na ∧ i = .int .i64 k ∧ OwnI wr w.heap.size v (((xa.take k).filter fun i => !xb.any fun j => btI t (its.map It.dat) j i)) ∧ Below w.heap.size w wr) (fun _ i _ => na - (intOf i).toNat)
  case atStart => exact ⟨0, Nat.zero_le _, rfl, OwnI.empty w _ (Nat.le_refl _), (Below.refl _ _).alloc (Nat.le_refl _) _⟩
  case round =>
    obtain ⟨k, hk, rfl, hown, hbel⟩ := hrel
    have HO := Lib.hid hown
    have HB := Lib.hid hbel
    clear hown
    by_cases hlt : k < na
    · obtain ⟨b1, off, i, hA1, hb1, hat, hc⟩ := HXa.out.at k hlt
      obtain ⟨x, hx, rfl⟩ := known_at HKa.out hat
      subst hA1
      have HAt := Lib.hid hat
      have HCx := Lib.hid hc
      have HMx := Lib.hid hx
      have hlt' : (k : Int) < (na : Int) := by omega
      have hk0 : (0 : Int) ≤ (k : Int) := by omega
      clear hat hc hx hbel
      go_wp2
      go_loopw [11, 12] (fun v j wr => ∃ m : Nat, m ≤ nb ∧ j = .int .i64 m ∧ v = .bool (!(xb.take m).any fun j => btI t (its.map It.dat) j x.id) ∧ Below w.heap.size w wr ∧ OwnI wr w.heap.size u9 (((xa.take k).filter fun i => !xb.any fun j => btI t (its.map It.dat) j i))) (fun _ j _ => nb - (intOf j).toNat)
      case atStart => exact ⟨0, Nat.zero_le _, rfl, rfl, HB.out, HO.out⟩
      case round =>
        obtain ⟨m, hm, rfl, rfl, hbel, hown⟩ := hrel
        have HBi := Lib.hid hbel
        have HOi := Lib.hid hown
        obtain ⟨bb, hbb⟩ : ∃ bb, (!(xb.take m).any fun j => btI t (its.map It.dat) j x.id) = bb := ⟨_, rfl⟩
        rw [hbb]
        have HBb := Lib.hid hbb
        clear hbb hown
        by_cases hmt : m < nb
        · obtain ⟨b2, off2, i2, hA2, hb2, hat, hc⟩ := HXb.out.at m hmt
          obtain ⟨y, hy, rfl⟩ := known_at HKb.out hat
          subst hA2
          have HAt2 := Lib.hid hat
          have HMy := Lib.hid hy
          have hmt' : (m : Int) < (nb : Int) := by omega
          have hm0 : (0 : Int) ≤ (m : Int) := by omega
          have HS : Hid (∀ w', Below w.heap.size w w' → w'.cell? ⟨b1, off + k, none⟩ = some (.int .i64 x.id) ∧ w'.cell? ⟨b2, off2 + m, none⟩ = some (.int .i64 y.id)) := Lib.hid fun W h => ⟨(h.cell (p := ⟨b1, off + k, none⟩) hb1).trans HCx.out, (h.cell (p := ⟨b2, off2 + m, none⟩) hb2).trans hc⟩
          have HBt : Hid (btI t (its.map It.dat) y.id x.id = btD t y.dat x.dat) := Lib.hid (btI_of HA.out t (x := y.dat) (y := x.dat) (List.mem_map_of_mem hy) (List.mem_map_of_mem HMx.out))
          clear hc hat hy
          cases bb
          · go_wp2
            have hS0 : (fun w' => w'.cell? ⟨b1, off + k, none⟩ = some (.int .i64 x.id) ∧ w'.cell? ⟨b2, off2 + m, none⟩ = some (.int .i64 y.id)) (World.drew wr) := HS.out _ HBi.out.drew
            clear hbel
            refine wp_region_held (S := fun w' => w'.cell? ⟨b1, off + k, none⟩ = some (.int .i64 x.id) ∧ w'.cell? ⟨b2, off2 + m, none⟩ = some (.int .i64 y.id)) (by kernel_rfl) ?_
            change wpAnyH _ _ _ _ _ _ _ _ (World.drew _)
            refine takeY 29 (i := 0) (v := ?v0b) rfl rfl (by kernel_rfl) (by kernel_rfl) (by kernel_rfl) (fun _ _ _ h => h) (by kernel_rfl) ?y0b hS0 ?_
            case y0b =>
              intro w' hw'; (try dsimp only at hw'); obtain ⟨x_0, y_0⟩ := hw'; go_simp; try with_reducible rfl
            simp only [Act.put, List.setIfInBounds_toArray, List.set_cons_zero, List.set_cons_succ]
            refine takeY 30 (i := 1) (v := ?v1b) rfl rfl (by kernel_rfl) (by kernel_rfl) (by kernel_rfl) (fun _ _ _ h => h) (by kernel_rfl) ?y1b hS0 ?_
            case y1b =>
              intro w' hw'; (try dsimp only at hw'); obtain ⟨x_0, y_0⟩ := hw'; go_simp; try with_reducible rfl
            simp only [Act.put, List.setIfInBounds_toArray, List.set_cons_zero, List.set_cons_succ]
            refine takeU 31 (i := 2) rfl rfl (by kernel_rfl) (by kernel_rfl) (by kernel_rfl) (fun _ _ _ h => h) (by kernel_rfl) hS0 ?_
            simp only [Act.put, List.setIfInBounds_toArray, List.set_cons_zero, List.set_cons_succ]
            refine takeU 32 (i := 3) rfl rfl (by kernel_rfl) (by kernel_rfl) (by kernel_rfl) (fun _ _ _ h => h) (by kernel_rfl) hS0 ?_
            simp only [Act.put, List.setIfInBounds_toArray, List.set_cons_zero, List.set_cons_succ]
            refine takeU 33 (i := 4) rfl rfl (by kernel_rfl) (by kernel_rfl) (by kernel_rfl) (fun _ _ _ h => h) (by kernel_rfl) hS0 ?_
            simp only [Act.put, List.setIfInBounds_toArray, List.set_cons_zero, List.set_cons_succ]
            refine takeU 34 (i := 5) rfl rfl (by kernel_rfl) (by kernel_rfl) (by kernel_rfl) (fun _ _ _ h => h) (by kernel_rfl) hS0 ?_
            simp only [Act.put, List.setIfInBounds_toArray, List.set_cons_zero, List.set_cons_succ]
            refine takeU 35 (i := 6) rfl rfl (by kernel_rfl) (by kernel_rfl) (by kernel_rfl) (fun _ _ _ h => h) (by kernel_rfl) hS0 ?_
            simp only [Act.put, List.setIfInBounds_toArray, List.set_cons_zero, List.set_cons_succ]
            refine takeU 36 (i := 7) rfl rfl (by kernel_rfl) (by kernel_rfl) (by kernel_rfl) (fun _ _ _ h => h) (by kernel_rfl) hS0 ?_
            simp only [Act.put, List.setIfInBounds_toArray, List.set_cons_zero, List.set_cons_succ]
            refine takeU 37 (i := 8) rfl rfl (by kernel_rfl) (by kernel_rfl) (by kernel_rfl) (fun _ _ _ h => h) (by kernel_rfl) hS0 ?_
            simp only [Act.put, List.setIfInBounds_toArray, List.set_cons_zero, List.set_cons_succ]
            refine takeU 38 (i := 9) rfl rfl (by kernel_rfl) (by kernel_rfl) (by kernel_rfl) (fun _ _ _ h => h) (by kernel_rfl) hS0 ?_
            simp only [Act.put, List.setIfInBounds_toArray, List.set_cons_zero, List.set_cons_succ]
            refine takeU 39 (i := 10) rfl rfl (by kernel_rfl) (by kernel_rfl) (by kernel_rfl) (fun _ _ _ h => h) (by kernel_rfl) hS0 ?_
            simp only [Act.put, List.setIfInBounds_toArray, List.set_cons_zero, List.set_cons_succ]
            refine takeU 40 (i := 11) rfl rfl (by kernel_rfl) (by kernel_rfl) (by kernel_rfl) (fun _ _ _ h => h) (by kernel_rfl) hS0 ?_
            simp only [Act.put, List.setIfInBounds_toArray, List.set_cons_zero, List.set_cons_succ]
            refine takeU 41 (i := 12) rfl rfl (by kernel_rfl) (by kernel_rfl) (by kernel_rfl) (fun _ _ _ h => h) (by kernel_rfl) hS0 ?_
            simp only [Act.put, List.setIfInBounds_toArray, List.set_cons_zero, List.set_cons_succ]
            refine takeU 42 (i := 13) rfl rfl (by kernel_rfl) (by kernel_rfl) (by kernel_rfl) (fun _ _ _ h => h) (by kernel_rfl) hS0 ?_
            simp only [Act.put, List.setIfInBounds_toArray, List.set_cons_zero, List.set_cons_succ]
            refine takeU 43 (i := 14) rfl rfl (by kernel_rfl) (by kernel_rfl) (by kernel_rfl) (fun _ _ _ h => h) (by kernel_rfl) hS0 ?_
            simp only [Act.put, List.setIfInBounds_toArray, List.set_cons_zero, List.set_cons_succ]
            refine takeU 44 (i := 15) rfl rfl (by kernel_rfl) (by kernel_rfl) (by kernel_rfl) (fun _ _ _ h => h) (by kernel_rfl) hS0 ?_
            simp only [Act.put, List.setIfInBounds_toArray, List.set_cons_zero, List.set_cons_succ]
            refine takeU 45 (i := 16) rfl rfl (by kernel_rfl) (by kernel_rfl) (by kernel_rfl) (fun _ _ _ h => h) (by kernel_rfl) hS0 ?_
            simp only [Act.put, List.setIfInBounds_toArray, List.set_cons_zero, List.set_cons_succ]
            refine takeY 46 (i := 17) (v := ?v17b) rfl rfl (by kernel_rfl) (by kernel_rfl) (by kernel_rfl) (fun _ _ _ h => h) (by kernel_rfl) ?y17b hS0 ?_
            case y17b =>
              intro w' hw'; (try dsimp only at hw'); obtain ⟨x_0, y_0⟩ := hw'; go_simp; try with_reducible rfl
            simp only [Act.put, List.setIfInBounds_toArray, List.set_cons_zero, List.set_cons_succ]
            refine takeY 11 (i := 18) (v := ?v18b) rfl rfl (by kernel_rfl) (by kernel_rfl) (by kernel_rfl) (fun _ _ _ h => h) (by kernel_rfl) ?y18b hS0 ?_
            case y18b =>
              intro w' hw'; (try dsimp only at hw'); obtain ⟨x_0, y_0⟩ := hw'; go_simp; try with_reducible rfl
            simp only [Act.put, List.setIfInBounds_toArray, List.set_cons_zero, List.set_cons_succ]
            refine wpAnyH_done (by kernel_rfl) ?_ _
            clear hS0
            go_wp2
            go_roundw
            case rel => exact ⟨m + 1, by omega, by go_num, by rw [any_stepM HAt2.out, HBb.out]; rfl, HBi.out.drew, ownI_below HOi.out (Below.refl _ _).drew⟩
            case measure => simp [intOf] <;> omega
          · go_wp2
            have hS0 : (fun w' => w'.cell? ⟨b1, off + k, none⟩ = some (.int .i64 x.id) ∧ w'.cell? ⟨b2, off2 + m, none⟩ = some (.int .i64 y.id)) (World.drew wr) := HS.out _ HBi.out.drew
            clear hbel
            refine wp_region_held (S := fun w' => w'.cell? ⟨b1, off + k, none⟩ = some (.int .i64 x.id) ∧ w'.cell? ⟨b2, off2 + m, none⟩ = some (.int .i64 y.id)) (by kernel_rfl) ?_
            change wpAnyH _ _ _ _ _ _ _ _ (World.drew _)
            refine takeY 29 (i := 0) (v := ?v0a) rfl rfl (by kernel_rfl) (by kernel_rfl) (by kernel_rfl) (fun _ _ _ h => h) (by kernel_rfl) ?y0a hS0 ?_
            case y0a =>
              intro w' hw'; (try dsimp only at hw'); obtain ⟨x_0, y_0⟩ := hw'; go_simp; try with_reducible rfl
            simp only [Act.put, List.setIfInBounds_toArray, List.set_cons_zero, List.set_cons_succ]
            refine takeY 30 (i := 1) (v := ?v1a) rfl rfl (by kernel_rfl) (by kernel_rfl) (by kernel_rfl) (fun _ _ _ h => h) (by kernel_rfl) ?y1a hS0 ?_
            case y1a =>
              intro w' hw'; (try dsimp only at hw'); obtain ⟨x_0, y_0⟩ := hw'; go_simp; try with_reducible rfl
            simp only [Act.put, List.setIfInBounds_toArray, List.set_cons_zero, List.set_cons_succ]
            refine takeY 31 (i := 2) (v := ?v2a) rfl rfl (by kernel_rfl) (by kernel_rfl) (by kernel_rfl) (fun _ _ _ h => h) (by kernel_rfl) ?y2a hS0 ?_
            case y2a =>
              intro w' hw'; (try dsimp only at hw'); obtain ⟨x_0, y_0⟩ := hw'; go_simp; try with_reducible rfl
            simp only [Act.put, List.setIfInBounds_toArray, List.set_cons_zero, List.set_cons_succ]
            refine takeY 32 (i := 3) (v := ?v3a) rfl rfl (by kernel_rfl) (by kernel_rfl) (by kernel_rfl) (fun _ _ _ h => h) (by kernel_rfl) ?y3a hS0 ?_
            case y3a =>
              intro w' hw'; (try dsimp only at hw'); obtain ⟨x_0, y_0⟩ := hw'; go_simp; try with_reducible rfl
            simp only [Act.put, List.setIfInBounds_toArray, List.set_cons_zero, List.set_cons_succ]
            refine takeY 33 (i := 4) (v := ?v4a) rfl rfl (by kernel_rfl) (by kernel_rfl) (by kernel_rfl) (fun _ _ _ h => h) (by kernel_rfl) ?y4a hS0 ?_
            case y4a =>
              intro w' hw'; (try dsimp only at hw'); obtain ⟨x_0, y_0⟩ := hw'; go_simp; try with_reducible rfl
            simp only [Act.put, List.setIfInBounds_toArray, List.set_cons_zero, List.set_cons_succ]
            refine takeY 34 (i := 5) (v := ?v5a) rfl rfl (by kernel_rfl) (by kernel_rfl) (by kernel_rfl) (fun _ _ _ h => h) (by kernel_rfl) ?y5a hS0 ?_
            case y5a =>
              intro w' hw'; (try dsimp only at hw'); obtain ⟨x_0, y_0⟩ := hw'; go_simp; try with_reducible rfl
            simp only [Act.put, List.setIfInBounds_toArray, List.set_cons_zero, List.set_cons_succ]
            refine takeY 35 (i := 6) (v := ?v6a) rfl rfl (by kernel_rfl) (by kernel_rfl) (by kernel_rfl) (fun _ _ _ h => h) (by kernel_rfl) ?y6a hS0 ?_
            case y6a =>
              intro w' hw'; (try dsimp only at hw'); obtain ⟨x_0, y_0⟩ := hw'; go_simp; try with_reducible rfl
            simp only [Act.put, List.setIfInBounds_toArray, List.set_cons_zero, List.set_cons_succ]
            refine takeY 36 (i := 7) (v := ?v7a) rfl rfl (by kernel_rfl) (by kernel_rfl) (by kernel_rfl) (fun _ _ _ h => h) (by kernel_rfl) ?y7a hS0 ?_
            case y7a =>
              intro w' hw'; (try dsimp only at hw'); obtain ⟨x_0, y_0⟩ := hw'; go_simp; try with_reducible rfl
            simp only [Act.put, List.setIfInBounds_toArray, List.set_cons_zero, List.set_cons_succ]
            refine takeY 38 (i := 9) (v := ?v9a) rfl rfl (by kernel_rfl) (by kernel_rfl) (by kernel_rfl) (fun _ _ _ h => h) (by kernel_rfl) ?y9a hS0 ?_
            case y9a =>
              intro w' hw'; (try dsimp only at hw'); obtain ⟨x_0, y_0⟩ := hw'; go_simp; try with_reducible rfl
            simp only [Act.put, List.setIfInBounds_toArray, List.set_cons_zero, List.set_cons_succ]
            refine takeY 39 (i := 10) (v := ?v10a) rfl rfl (by kernel_rfl) (by kernel_rfl) (by kernel_rfl) (fun _ _ _ h => h) (by kernel_rfl) ?y10a hS0 ?_
            case y10a =>
              intro w' hw'; (try dsimp only at hw'); obtain ⟨x_0, y_0⟩ := hw'; go_simp; try with_reducible rfl
            simp only [Act.put, List.setIfInBounds_toArray, List.set_cons_zero, List.set_cons_succ]
            refine takeY 40 (i := 11) (v := ?v11a) rfl rfl (by kernel_rfl) (by kernel_rfl) (by kernel_rfl) (fun _ _ _ h => h) (by kernel_rfl) ?y11a hS0 ?_
            case y11a =>
              intro w' hw'; (try dsimp only at hw'); obtain ⟨x_0, y_0⟩ := hw'; go_simp; try with_reducible rfl
            simp only [Act.put, List.setIfInBounds_toArray, List.set_cons_zero, List.set_cons_succ]
            refine takeY 41 (i := 12) (v := ?v12a) rfl rfl (by kernel_rfl) (by kernel_rfl) (by kernel_rfl) (fun _ _ _ h => h) (by kernel_rfl) ?y12a hS0 ?_
            case y12a =>
              intro w' hw'; (try dsimp only at hw'); obtain ⟨x_0, y_0⟩ := hw'; go_simp; try with_reducible rfl
            simp only [Act.put, List.setIfInBounds_toArray, List.set_cons_zero, List.set_cons_succ]
            refine takeY 42 (i := 13) (v := ?v13a) rfl rfl (by kernel_rfl) (by kernel_rfl) (by kernel_rfl) (fun _ _ _ h => h) (by kernel_rfl) ?y13a hS0 ?_
            case y13a =>
              intro w' hw'; (try dsimp only at hw'); obtain ⟨x_0, y_0⟩ := hw'; go_simp; try with_reducible rfl
            simp only [Act.put, List.setIfInBounds_toArray, List.set_cons_zero, List.set_cons_succ]
            refine wpAnyH_ready (rs := [8]) (by kernel_rfl) (by simp) ?_
            refine AllReadyH.cons rfl (fun K hK => ?_) AllReadyH.nil
            go_simp; go_at_call 86; refine (HIt.out _ HBi.out.drew y HMy.out).mono ?_; rintro e w3 ⟨rfl, hb3⟩; have HB3 := Lib.hid (below_on HBi.out.drew hb3); have HO3 := Lib.hid (ownI_below (ownI_below HOi.out (Below.refl _ _).drew) hb3); clear hb3
            refine hK.out _ _ (HS.out _ HB3.out) (fun hS1 => ?_)
            clear hK K
            try simp only [Act.put, List.setIfInBounds_toArray, List.set_cons_zero, List.set_cons_succ]
            refine wpAnyH_ready (rs := [14]) (by kernel_rfl) (by simp) ?_
            refine AllReadyH.cons rfl (fun K hK => ?_) AllReadyH.nil
            go_simp; go_at_call 86; refine (HIt.out _ HB3.out x HMx.out).mono ?_; rintro e w4 ⟨rfl, hb3⟩; have HB4 := Lib.hid (below_on HB3.out hb3); have HO4 := Lib.hid (ownI_below HO3.out hb3); clear hb3
            refine hK.out _ _ (HS.out _ HB4.out) (fun hS2 => ?_)
            clear hK K
            try simp only [Act.put, List.setIfInBounds_toArray, List.set_cons_zero, List.set_cons_succ]
            refine wpAnyH_ready (rs := [15]) (by kernel_rfl) (by simp) ?_
            refine AllReadyH.cons rfl (fun K hK => ?_) AllReadyH.nil
            go_simp; go_at_call 75; refine (HC.out _ HB4.out y x HMy.out HMx.out).mono ?_; rintro e w5 ⟨rfl, hb3⟩; have HB5 := Lib.hid (below_on HB4.out hb3); have HO5 := Lib.hid (ownI_below HO4.out hb3); clear hb3
            refine hK.out _ _ (HS.out _ HB5.out) (fun hS3 => ?_)
            clear hK K
            try simp only [Act.put, List.setIfInBounds_toArray, List.set_cons_zero, List.set_cons_succ]
            refine takeY 45 (i := 16) (v := ?v16a) rfl rfl (by kernel_rfl) (by kernel_rfl) (by kernel_rfl) (fun _ _ _ h => h) (by kernel_rfl) ?y16a hS3 ?_
            case y16a =>
              intro w' hw'; (try dsimp only at hw'); obtain ⟨x_0, y_0⟩ := hw'; go_simp; try with_reducible rfl
            simp only [Act.put, List.setIfInBounds_toArray, List.set_cons_zero, List.set_cons_succ]
            refine takeY 46 (i := 17) (v := ?v17a) rfl rfl (by kernel_rfl) (by kernel_rfl) (by kernel_rfl) (fun _ _ _ h => h) (by kernel_rfl) ?y17a hS3 ?_
            case y17a =>
              intro w' hw'; (try dsimp only at hw'); obtain ⟨x_0, y_0⟩ := hw'; go_simp; try with_reducible rfl
            simp only [Act.put, List.setIfInBounds_toArray, List.set_cons_zero, List.set_cons_succ]
            refine takeY 11 (i := 18) (v := ?v18a) rfl rfl (by kernel_rfl) (by kernel_rfl) (by kernel_rfl) (fun _ _ _ h => h) (by kernel_rfl) ?y18a hS3 ?_
            case y18a =>
              intro w' hw'; (try dsimp only at hw'); obtain ⟨x_0, y_0⟩ := hw'; go_simp; try with_reducible rfl
            simp only [Act.put, List.setIfInBounds_toArray, List.set_cons_zero, List.set_cons_succ]
            refine wpAnyH_done (by kernel_rfl) ?_ _
            clear hS0 hS1 hS2 hS3
            go_wp2
            go_roundw
            case rel => exact ⟨m + 1, by omega, by go_num, by rw [any_stepM HAt2.out, HBb.out, HBt.out]; rfl, HB5.out, HO5.out⟩
            case measure => simp [intOf] <;> omega
        · obtain rfl : nb = m := by omega
          have HBb2 : Hid ((!xb.any fun j => btI t (its.map It.dat) j x.id) = bb) := Lib.hid (by have h := HBb.out; rwa [take_all HXb.out.1] at h)
          have f1 := (hbel.cell (p := ⟨b1, off + k, none⟩) hb1).trans HCx.out
          have HLn : Hid (((((xa.take k).filter fun i => !xb.any fun j => btI t (its.map It.dat) j i)).length + [x.id].length) * 8 ≤ 140737488355328) := Lib.hid (by
            have h1 := flti_len xa (fun i => !xb.any fun j => btI t (its.map It.dat) j i) k
            have h2 := flti_len xb (fun i => !xa.any fun j => btI t (its.map It.dat) j i) nb
            simp only [List.length_cons, List.length_nil]
            omega)
          clear hbel HBb
          cases bb
          · go_wp2
            go_roundw
            case rel => exact ⟨k + 1, by omega, by go_num, by rw [flti_snoc HAt.out, HBb2.out]; simpa using HOi.out, HBi.out⟩
            case measure => simp [intOf] <;> omega
          · go_wp2_with (at_builtin; refine wp_appI wr (by rfl) (.tmp 48) (.tmp 53) (by rfl) w.heap.size _ _ (by rfl) HOi.out _ [x.id] (by rfl) 1 1 rfl (by rfl) HLn.out HBi.out.size ?_)
            intro v1 w2 hown2 hb2
            have HO2 := Lib.hid hown2
            have HB2 := Lib.hid (HBi.out.trans hb2)
            clear hown2 hb2 f1
            go_wp2
            go_roundw
            case rel => exact ⟨k + 1, by omega, by go_num, by rw [flti_snoc HAt.out, HBb2.out]; simpa using HO2.out, HB2.out⟩
            case measure => simp [intOf] <;> omega
    · obtain rfl : na = k := by omega
      have HO' : Hid (OwnI wr w.heap.size u9 (xa.filter fun i => !xb.any fun j => btI t (its.map It.dat) j i)) := Lib.hid (by have h := HO.out; rwa [take_all HXa.out.1] at h)
      clear hbel HO
      go_wp2
      go_loopw [9, 13] (fun v i wr => ∃ k : Nat, k ≤ nb ∧ i = .int .i64 k ∧ OwnI wr w.heap.size v ((xa.filter fun i => !xb.any fun j => btI t (its.map It.dat) j i) ++ ((xb.take k).filter fun i => !xa.any fun j => btI t (its.map It.dat) j i)) ∧ Below w.heap.size w wr) (fun _ i _ => nb - (intOf i).toNat)
      case atStart => exact ⟨0, Nat.zero_le _, rfl, by simpa using HO'.out, HB.out⟩
      case round =>
        clear HB
        obtain ⟨k, hk, rfl, hown, hbel⟩ := hrel
        have HO := Lib.hid hown
        have HB := Lib.hid hbel
        clear hown
        by_cases hlt : k < nb
        · obtain ⟨b1, off, i, hA1, hb1, hat, hc⟩ := HXb.out.at k hlt
          obtain ⟨x, hx, rfl⟩ := known_at HKb.out hat
          subst hA1
          have HAt := Lib.hid hat
          have HCx := Lib.hid hc
          have HMx := Lib.hid hx
          have hlt' : (k : Int) < (nb : Int) := by omega
          have hk0 : (0 : Int) ≤ (k : Int) := by omega
          clear hat hc hx hbel
          go_wp2
          go_loopw [14, 15] (fun v j wr => ∃ m : Nat, m ≤ na ∧ j = .int .i64 m ∧ v = .bool (!(xa.take m).any fun j => btI t (its.map It.dat) j x.id) ∧ Below w.heap.size w wr ∧ OwnI wr w.heap.size u9 ((xa.filter fun i => !xb.any fun j => btI t (its.map It.dat) j i) ++ ((xb.take k).filter fun i => !xa.any fun j => btI t (its.map It.dat) j i))) (fun _ j _ => na - (intOf j).toNat)
          case atStart => exact ⟨0, Nat.zero_le _, rfl, rfl, HB.out, HO.out⟩
          case round =>
            obtain ⟨m, hm, rfl, rfl, hbel, hown⟩ := hrel
            have HBi := Lib.hid hbel
            have HOi := Lib.hid hown
            obtain ⟨bb, hbb⟩ : ∃ bb, (!(xa.take m).any fun j => btI t (its.map It.dat) j x.id) = bb := ⟨_, rfl⟩
            rw [hbb]
            have HBb := Lib.hid hbb
            clear hbb hown
            by_cases hmt : m < na
            · obtain ⟨b2, off2, i2, hA2, hb2, hat, hc⟩ := HXa.out.at m hmt
              obtain ⟨y, hy, rfl⟩ := known_at HKa.out hat
              subst hA2
              have HAt2 := Lib.hid hat
              have HMy := Lib.hid hy
              have hmt' : (m : Int) < (na : Int) := by omega
              have hm0 : (0 : Int) ≤ (m : Int) := by omega
              have HS : Hid (∀ w', Below w.heap.size w w' → w'.cell? ⟨b1, off + k, none⟩ = some (.int .i64 x.id) ∧ w'.cell? ⟨b2, off2 + m, none⟩ = some (.int .i64 y.id)) := Lib.hid fun W h => ⟨(h.cell (p := ⟨b1, off + k, none⟩) hb1).trans HCx.out, (h.cell (p := ⟨b2, off2 + m, none⟩) hb2).trans hc⟩
              have HBt : Hid (btI t (its.map It.dat) y.id x.id = btD t y.dat x.dat) := Lib.hid (btI_of HA.out t (x := y.dat) (y := x.dat) (List.mem_map_of_mem hy) (List.mem_map_of_mem HMx.out))
              clear hc hat hy
              cases bb
              · go_wp2
                have hS0 : (fun w' => w'.cell? ⟨b1, off + k, none⟩ = some (.int .i64 x.id) ∧ w'.cell? ⟨b2, off2 + m, none⟩ = some (.int .i64 y.id)) (World.drew wr) := HS.out _ HBi.out.drew
                clear hbel
                refine wp_region_held (S := fun w' => w'.cell? ⟨b1, off + k, none⟩ = some (.int .i64 x.id) ∧ w'.cell? ⟨b2, off2 + m, none⟩ = some (.int .i64 y.id)) (by kernel_rfl) ?_
                change wpAnyH _ _ _ _ _ _ _ _ (World.drew _)
                refine takeY 67 (i := 0) (v := ?v0d) rfl rfl (by kernel_rfl) (by kernel_rfl) (by kernel_rfl) (fun _ _ _ h => h) (by kernel_rfl) ?y0d hS0 ?_
                case y0d =>
                  intro w' hw'; (try dsimp only at hw'); obtain ⟨x_0, y_0⟩ := hw'; go_simp; try with_reducible rfl
                simp only [Act.put, List.setIfInBounds_toArray, List.set_cons_zero, List.set_cons_succ]
                refine takeY 68 (i := 1) (v := ?v1d) rfl rfl (by kernel_rfl) (by kernel_rfl) (by kernel_rfl) (fun _ _ _ h => h) (by kernel_rfl) ?y1d hS0 ?_
                case y1d =>
                  intro w' hw'; (try dsimp only at hw'); obtain ⟨x_0, y_0⟩ := hw'; go_simp; try with_reducible rfl
                simp only [Act.put, List.setIfInBounds_toArray, List.set_cons_zero, List.set_cons_succ]
                refine takeU 69 (i := 2) rfl rfl (by kernel_rfl) (by kernel_rfl) (by kernel_rfl) (fun _ _ _ h => h) (by kernel_rfl) hS0 ?_
                simp only [Act.put, List.setIfInBounds_toArray, List.set_cons_zero, List.set_cons_succ]
                refine takeU 70 (i := 3) rfl rfl (by kernel_rfl) (by kernel_rfl) (by kernel_rfl) (fun _ _ _ h => h) (by kernel_rfl) hS0 ?_
                simp only [Act.put, List.setIfInBounds_toArray, List.set_cons_zero, List.set_cons_succ]
                refine takeU 71 (i := 4) rfl rfl (by kernel_rfl) (by kernel_rfl) (by kernel_rfl) (fun _ _ _ h => h) (by kernel_rfl) hS0 ?_
                simp only [Act.put, List.setIfInBounds_toArray, List.set_cons_zero, List.set_cons_succ]
                refine takeU 72 (i := 5) rfl rfl (by kernel_rfl) (by kernel_rfl) (by kernel_rfl) (fun _ _ _ h => h) (by kernel_rfl) hS0 ?_
                simp only [Act.put, List.setIfInBounds_toArray, List.set_cons_zero, List.set_cons_succ]
                refine takeU 73 (i := 6) rfl rfl (by kernel_rfl) (by kernel_rfl) (by kernel_rfl) (fun _ _ _ h => h) (by kernel_rfl) hS0 ?_
                simp only [Act.put, List.setIfInBounds_toArray, List.set_cons_zero, List.set_cons_succ]
                refine takeU 74 (i := 7) rfl rfl (by kernel_rfl) (by kernel_rfl) (by kernel_rfl) (fun _ _ _ h => h) (by kernel_rfl) hS0 ?_
                simp only [Act.put, List.setIfInBounds_toArray, List.set_cons_zero, List.set_cons_succ]
                refine takeU 75 (i := 8) rfl rfl (by kernel_rfl) (by kernel_rfl) (by kernel_rfl) (fun _ _ _ h => h) (by kernel_rfl) hS0 ?_
                simp only [Act.put, List.setIfInBounds_toArray, List.set_cons_zero, List.set_cons_succ]
                refine takeU 76 (i := 9) rfl rfl (by kernel_rfl) (by kernel_rfl) (by kernel_rfl) (fun _ _ _ h => h) (by kernel_rfl) hS0 ?_
                simp only [Act.put, List.setIfInBounds_toArray, List.set_cons_zero, List.set_cons_succ]
                refine takeU 77 (i := 10) rfl rfl (by kernel_rfl) (by kernel_rfl) (by kernel_rfl) (fun _ _ _ h => h) (by kernel_rfl) hS0 ?_
                simp only [Act.put, List.setIfInBounds_toArray, List.set_cons_zero, List.set_cons_succ]
                refine takeU 78 (i := 11) rfl rfl (by kernel_rfl) (by kernel_rfl) (by kernel_rfl) (fun _ _ _ h => h) (by kernel_rfl) hS0 ?_
                simp only [Act.put, List.setIfInBounds_toArray, List.set_cons_zero, List.set_cons_succ]
                refine takeU 79 (i := 12) rfl rfl (by kernel_rfl) (by kernel_rfl) (by kernel_rfl) (fun _ _ _ h => h) (by kernel_rfl) hS0 ?_
                simp only [Act.put, List.setIfInBounds_toArray, List.set_cons_zero, List.set_cons_succ]
                refine takeU 80 (i := 13) rfl rfl (by kernel_rfl) (by kernel_rfl) (by kernel_rfl) (fun _ _ _ h => h) (by kernel_rfl) hS0 ?_
                simp only [Act.put, List.setIfInBounds_toArray, List.set_cons_zero, List.set_cons_succ]
                refine takeU 81 (i := 14) rfl rfl (by kernel_rfl) (by kernel_rfl) (by kernel_rfl) (fun _ _ _ h => h) (by kernel_rfl) hS0 ?_
                simp only [Act.put, List.setIfInBounds_toArray, List.set_cons_zero, List.set_cons_succ]
                refine takeU 82 (i := 15) rfl rfl (by kernel_rfl) (by kernel_rfl) (by kernel_rfl) (fun _ _ _ h => h) (by kernel_rfl) hS0 ?_
                simp only [Act.put, List.setIfInBounds_toArray, List.set_cons_zero, List.set_cons_succ]
                refine takeU 83 (i := 16) rfl rfl (by kernel_rfl) (by kernel_rfl) (by kernel_rfl) (fun _ _ _ h => h) (by kernel_rfl) hS0 ?_
                simp only [Act.put, List.setIfInBounds_toArray, List.set_cons_zero, List.set_cons_succ]
                refine takeY 84 (i := 17) (v := ?v17d) rfl rfl (by kernel_rfl) (by kernel_rfl) (by kernel_rfl) (fun _ _ _ h => h) (by kernel_rfl) ?y17d hS0 ?_
                case y17d =>
                  intro w' hw'; (try dsimp only at hw'); obtain ⟨x_0, y_0⟩ := hw'; go_simp; try with_reducible rfl
                simp only [Act.put, List.setIfInBounds_toArray, List.set_cons_zero, List.set_cons_succ]
                refine takeY 14 (i := 18) (v := ?v18d) rfl rfl (by kernel_rfl) (by kernel_rfl) (by kernel_rfl) (fun _ _ _ h => h) (by kernel_rfl) ?y18d hS0 ?_
                case y18d =>
                  intro w' hw'; (try dsimp only at hw'); obtain ⟨x_0, y_0⟩ := hw'; go_simp; try with_reducible rfl
                simp only [Act.put, List.setIfInBounds_toArray, List.set_cons_zero, List.set_cons_succ]
                refine wpAnyH_done (by kernel_rfl) ?_ _
                clear hS0
                go_wp2
                go_roundw
                case rel => exact ⟨m + 1, by omega, by go_num, by rw [any_stepM HAt2.out, HBb.out]; rfl, HBi.out.drew, ownI_below HOi.out (Below.refl _ _).drew⟩
                case measure => simp [intOf] <;> omega
              · go_wp2
                have hS0 : (fun w' => w'.cell? ⟨b1, off + k, none⟩ = some (.int .i64 x.id) ∧ w'.cell? ⟨b2, off2 + m, none⟩ = some (.int .i64 y.id)) (World.drew wr) := HS.out _ HBi.out.drew
                clear hbel
                refine wp_region_held (S := fun w' => w'.cell? ⟨b1, off + k, none⟩ = some (.int .i64 x.id) ∧ w'.cell? ⟨b2, off2 + m, none⟩ = some (.int .i64 y.id)) (by kernel_rfl) ?_
                change wpAnyH _ _ _ _ _ _ _ _ (World.drew _)
                refine takeY 67 (i := 0) (v := ?v0c) rfl rfl (by kernel_rfl) (by kernel_rfl) (by kernel_rfl) (fun _ _ _ h => h) (by kernel_rfl) ?y0c hS0 ?_
                case y0c =>
                  intro w' hw'; (try dsimp only at hw'); obtain ⟨x_0, y_0⟩ := hw'; go_simp; try with_reducible rfl
                simp only [Act.put, List.setIfInBounds_toArray, List.set_cons_zero, List.set_cons_succ]
                refine takeY 68 (i := 1) (v := ?v1c) rfl rfl (by kernel_rfl) (by kernel_rfl) (by kernel_rfl) (fun _ _ _ h => h) (by kernel_rfl) ?y1c hS0 ?_
                case y1c =>
                  intro w' hw'; (try dsimp only at hw'); obtain ⟨x_0, y_0⟩ := hw'; go_simp; try with_reducible rfl
                simp only [Act.put, List.setIfInBounds_toArray, List.set_cons_zero, List.set_cons_succ]
                refine takeY 69 (i := 2) (v := ?v2c) rfl rfl (by kernel_rfl) (by kernel_rfl) (by kernel_rfl) (fun _ _ _ h => h) (by kernel_rfl) ?y2c hS0 ?_
                case y2c =>
                  intro w' hw'; (try dsimp only at hw'); obtain ⟨x_0, y_0⟩ := hw'; go_simp; try with_reducible rfl
                simp only [Act.put, List.setIfInBounds_toArray, List.set_cons_zero, List.set_cons_succ]
                refine takeY 70 (i := 3) (v := ?v3c) rfl rfl (by kernel_rfl) (by kernel_rfl) (by kernel_rfl) (fun _ _ _ h => h) (by kernel_rfl) ?y3c hS0 ?_
                case y3c =>
                  intro w' hw'; (try dsimp only at hw'); obtain ⟨x_0, y_0⟩ := hw'; go_simp; try with_reducible rfl
                simp only [Act.put, List.setIfInBounds_toArray, List.set_cons_zero, List.set_cons_succ]
                refine takeY 71 (i := 4) (v := ?v4c) rfl rfl (by kernel_rfl) (by kernel_rfl) (by kernel_rfl) (fun _ _ _ h => h) (by kernel_rfl) ?y4c hS0 ?_
                case y4c =>
                  intro w' hw'; (try dsimp only at hw'); obtain ⟨x_0, y_0⟩ := hw'; go_simp; try with_reducible rfl
                simp only [Act.put, List.setIfInBounds_toArray, List.set_cons_zero, List.set_cons_succ]
                refine takeY 72 (i := 5) (v := ?v5c) rfl rfl (by kernel_rfl) (by kernel_rfl) (by kernel_rfl) (fun _ _ _ h => h) (by kernel_rfl) ?y5c hS0 ?_
                case y5c =>
                  intro w' hw'; (try dsimp only at hw'); obtain ⟨x_0, y_0⟩ := hw'; go_simp; try with_reducible rfl
                simp only [Act.put, List.setIfInBounds_toArray, List.set_cons_zero, List.set_cons_succ]
                refine takeY 73 (i := 6) (v := ?v6c) rfl rfl (by kernel_rfl) (by kernel_rfl) (by kernel_rfl) (fun _ _ _ h => h) (by kernel_rfl) ?y6c hS0 ?_
                case y6c =>
                  intro w' hw'; (try dsimp only at hw'); obtain ⟨x_0, y_0⟩ := hw'; go_simp; try with_reducible rfl
                simp only [Act.put, List.setIfInBounds_toArray, List.set_cons_zero, List.set_cons_succ]
                refine takeY 74 (i := 7) (v := ?v7c) rfl rfl (by kernel_rfl) (by kernel_rfl) (by kernel_rfl) (fun _ _ _ h => h) (by kernel_rfl) ?y7c hS0 ?_
                case y7c =>
                  intro w' hw'; (try dsimp only at hw'); obtain ⟨x_0, y_0⟩ := hw'; go_simp; try with_reducible rfl
                simp only [Act.put, List.setIfInBounds_toArray, List.set_cons_zero, List.set_cons_succ]
                refine takeY 76 (i := 9) (v := ?v9c) rfl rfl (by kernel_rfl) (by kernel_rfl) (by kernel_rfl) (fun _ _ _ h => h) (by kernel_rfl) ?y9c hS0 ?_
                case y9c =>
                  intro w' hw'; (try dsimp only at hw'); obtain ⟨x_0, y_0⟩ := hw'; go_simp; try with_reducible rfl
                simp only [Act.put, List.setIfInBounds_toArray, List.set_cons_zero, List.set_cons_succ]
                refine takeY 77 (i := 10) (v := ?v10c) rfl rfl (by kernel_rfl) (by kernel_rfl) (by kernel_rfl) (fun _ _ _ h => h) (by kernel_rfl) ?y10c hS0 ?_
                case y10c =>
                  intro w' hw'; (try dsimp only at hw'); obtain ⟨x_0, y_0⟩ := hw'; go_simp; try with_reducible rfl
                simp only [Act.put, List.setIfInBounds_toArray, List.set_cons_zero, List.set_cons_succ]
                refine takeY 78 (i := 11) (v := ?v11c) rfl rfl (by kernel_rfl) (by kernel_rfl) (by kernel_rfl) (fun _ _ _ h => h) (by kernel_rfl) ?y11c hS0 ?_
                case y11c =>
                  intro w' hw'; (try dsimp only at hw'); obtain ⟨x_0, y_0⟩ := hw'; go_simp; try with_reducible rfl
                simp only [Act.put, List.setIfInBounds_toArray, List.set_cons_zero, List.set_cons_succ]
                refine takeY 79 (i := 12) (v := ?v12c) rfl rfl (by kernel_rfl) (by kernel_rfl) (by kernel_rfl) (fun _ _ _ h => h) (by kernel_rfl) ?y12c hS0 ?_
                case y12c =>
                  intro w' hw'; (try dsimp only at hw'); obtain ⟨x_0, y_0⟩ := hw'; go_simp; try with_reducible rfl
                simp only [Act.put, List.setIfInBounds_toArray, List.set_cons_zero, List.set_cons_succ]
                refine takeY 80 (i := 13) (v := ?v13c) rfl rfl (by kernel_rfl) (by kernel_rfl) (by kernel_rfl) (fun _ _ _ h => h) (by kernel_rfl) ?y13c hS0 ?_
                case y13c =>
                  intro w' hw'; (try dsimp only at hw'); obtain ⟨x_0, y_0⟩ := hw'; go_simp; try with_reducible rfl
                simp only [Act.put, List.setIfInBounds_toArray, List.set_cons_zero, List.set_cons_succ]
                refine wpAnyH_ready (rs := [8]) (by kernel_rfl) (by simp) ?_
                refine AllReadyH.cons rfl (fun K hK => ?_) AllReadyH.nil
                go_simp; go_at_call 86; refine (HIt.out _ HBi.out.drew y HMy.out).mono ?_; rintro e w3 ⟨rfl, hb3⟩; have HB3 := Lib.hid (below_on HBi.out.drew hb3); have HO3 := Lib.hid (ownI_below (ownI_below HOi.out (Below.refl _ _).drew) hb3); clear hb3
                refine hK.out _ _ (HS.out _ HB3.out) (fun hS1 => ?_)
                clear hK K
                try simp only [Act.put, List.setIfInBounds_toArray, List.set_cons_zero, List.set_cons_succ]
                refine wpAnyH_ready (rs := [14]) (by kernel_rfl) (by simp) ?_
                refine AllReadyH.cons rfl (fun K hK => ?_) AllReadyH.nil
                go_simp; go_at_call 86; refine (HIt.out _ HB3.out x HMx.out).mono ?_; rintro e w4 ⟨rfl, hb3⟩; have HB4 := Lib.hid (below_on HB3.out hb3); have HO4 := Lib.hid (ownI_below HO3.out hb3); clear hb3
                refine hK.out _ _ (HS.out _ HB4.out) (fun hS2 => ?_)
                clear hK K
                try simp only [Act.put, List.setIfInBounds_toArray, List.set_cons_zero, List.set_cons_succ]
                refine wpAnyH_ready (rs := [15]) (by kernel_rfl) (by simp) ?_
                refine AllReadyH.cons rfl (fun K hK => ?_) AllReadyH.nil
                go_simp; go_at_call 75; refine (HC.out _ HB4.out y x HMy.out HMx.out).mono ?_; rintro e w5 ⟨rfl, hb3⟩; have HB5 := Lib.hid (below_on HB4.out hb3); have HO5 := Lib.hid (ownI_below HO4.out hb3); clear hb3
                refine hK.out _ _ (HS.out _ HB5.out) (fun hS3 => ?_)
                clear hK K
                try simp only [Act.put, List.setIfInBounds_toArray, List.set_cons_zero, List.set_cons_succ]
                refine takeY 83 (i := 16) (v := ?v16c) rfl rfl (by kernel_rfl) (by kernel_rfl) (by kernel_rfl) (fun _ _ _ h => h) (by kernel_rfl) ?y16c hS3 ?_
                case y16c =>
                  intro w' hw'; (try dsimp only at hw'); obtain ⟨x_0, y_0⟩ := hw'; go_simp; try with_reducible rfl
                simp only [Act.put, List.setIfInBounds_toArray, List.set_cons_zero, List.set_cons_succ]
                refine takeY 84 (i := 17) (v := ?v17c) rfl rfl (by kernel_rfl) (by kernel_rfl) (by kernel_rfl) (fun _ _ _ h => h) (by kernel_rfl) ?y17c hS3 ?_
                case y17c =>
                  intro w' hw'; (try dsimp only at hw'); obtain ⟨x_0, y_0⟩ := hw'; go_simp; try with_reducible rfl
                simp only [Act.put, List.setIfInBounds_toArray, List.set_cons_zero, List.set_cons_succ]
                refine takeY 14 (i := 18) (v := ?v18c) rfl rfl (by kernel_rfl) (by kernel_rfl) (by kernel_rfl) (fun _ _ _ h => h) (by kernel_rfl) ?y18c hS3 ?_
                case y18c =>
                  intro w' hw'; (try dsimp only at hw'); obtain ⟨x_0, y_0⟩ := hw'; go_simp; try with_reducible rfl
                simp only [Act.put, List.setIfInBounds_toArray, List.set_cons_zero, List.set_cons_succ]
                refine wpAnyH_done (by kernel_rfl) ?_ _
                clear hS0 hS1 hS2 hS3
                go_wp2
                go_roundw
                case rel => exact ⟨m + 1, by omega, by go_num, by rw [any_stepM HAt2.out, HBb.out, HBt.out]; rfl, HB5.out, HO5.out⟩
                case measure => simp [intOf] <;> omega
            · obtain rfl : na = m := by omega
              have HBb2 : Hid ((!xa.any fun j => btI t (its.map It.dat) j x.id) = bb) := Lib.hid (by have h := HBb.out; rwa [take_all HXa.out.1] at h)
              have f1 := (hbel.cell (p := ⟨b1, off + k, none⟩) hb1).trans HCx.out
              have HLn : Hid ((((xa.filter fun i => !xb.any fun j => btI t (its.map It.dat) j i) ++ ((xb.take k).filter fun i => !xa.any fun j => btI t (its.map It.dat) j i)).length + [x.id].length) * 8 ≤ 140737488355328) := Lib.hid (by
                have h1 := flti_len xb (fun i => !xa.any fun j => btI t (its.map It.dat) j i) k
                have h2 := flti_len xa (fun i => !xb.any fun j => btI t (its.map It.dat) j i) na
                have h3 : (xa.filter fun i => !xb.any fun j => btI t (its.map It.dat) j i).length ≤ xa.length := List.length_filter_le _ _; have h4 := HXa.out.1; rw [List.length_append]; simp only [List.length_cons, List.length_nil]
                omega)
              clear hbel HBb
              cases bb
              · go_wp2
                go_roundw
                case rel => exact ⟨k + 1, by omega, by go_num, by rw [flti_snoc HAt.out, HBb2.out]; simpa using HOi.out, HBi.out⟩
                case measure => simp [intOf] <;> omega
              · go_wp2_with (at_builtin; refine wp_appI wr (by rfl) (.tmp 86) (.tmp 91) (by rfl) w.heap.size _ _ (by rfl) HOi.out _ [x.id] (by rfl) 1 1 rfl (by rfl) HLn.out HBi.out.size ?_)
                intro v1 w2 hown2 hb2
                have HO2 := Lib.hid hown2
                have HB2 := Lib.hid (HBi.out.trans hb2)
                clear hown2 hb2 f1
                go_wp2
                go_roundw
                case rel => exact ⟨k + 1, by omega, by go_num, by rw [flti_snoc HAt.out, HBb2.out]; simpa using HO2.out, HB2.out⟩
                case measure => simp [intOf] <;> omega
        · obtain rfl : nb = k := by omega
          have HO2 : Hid (OwnI wr w.heap.size u9 (mergeL t (its.map It.dat) xa xb)) := Lib.hid (by have h := HO.out; rwa [take_all HXb.out.1] at h)
          obtain ⟨A9, n9, c9, rfl, hi9⟩ := HO2.out.ints
          have hn9 : n9 ≤ 2097152 := by
            rw [← hi9.1]
            unfold mergeL
            rw [List.length_append]
            have h1 := HXa.out.1
            have h2 := HXb.out.1
            have h3 : (xa.filter fun i => !xb.any fun j => btI t (its.map It.dat) j i).length ≤ xa.length := List.length_filter_le _ _
            have h4 : (xb.filter fun k => !xa.any fun i => btI t (its.map It.dat) i k).length ≤ xb.length := List.length_filter_le _ _
            omega
          have HI9 := Lib.hid hi9
          clear hbel hi9
          go_wp2_with fail
          refine (sSort wr wr.heap.size A9 n9 c9 _ HI9.out (Nat.le_refl _) hn9).mono ?_
          rintro e w9 ⟨⟨v, s, rfl, hs, ho⟩, hb9⟩
          have HS9 := Lib.hid hs
          have HO9 := Lib.hid (ownI_lower ho HB.out.size)
          have HB9 := Lib.hid (below_on HB.out hb9)
          clear hs ho hb9
          go_wp2
          go_ret
          exact ⟨⟨_, _, rfl, HS9.out, HO9.out⟩, HB9.out⟩
end Go.Proofs.YtclpnhdpojkjpaaGreat.num
namespace Go.Proofs.YtclpnhdpojkjpaaGreat.num
set_option maxRecDepth 20000
open Go.RowKit
set_option linter.unusedVariables false
set_option linter.unusedSimpArgs false

set_option maxRecDepth 20000 in
set_option maxHeartbeats 1600000 in
theorem sMergeBest (w : World) (B : Nat) (A : Option Addr) (n c : Nat) (its : List It) (A2 : Option Addr) (n2 c2 : Nat) (ns : List Nd) (h : InB w B A n its A2 n2 c2 ns)
    (Aa : Option Addr) (na ca : Nat) (xa : List Int) (hxa : Ints w w.heap.size Aa na xa) (hna : na ≤ 1048576)
    (Ab : Option Addr) (nb cb : Nat) (xb : List Int) (hxb : Ints w w.heap.size Ab nb xb) (hnb : nb ≤ 1048576)
    (L : List Int) (hL : MergeP (datN ns) (its.map It.dat) xa xb L) :
    Calls Tryz.prog 18 #[.slice A n c, .slice A2 n2 c2, .slice Aa na ca, .slice Ab nb cb] w fun e w' => (∃ v, e = .returned v ∧ OwnI w' w.heap.size v L) ∧ Below w.heap.size w w' := by
  obtain ⟨q, hq⟩ := bool_of (IsE (datN ns) ∧ AreP (its.map It.dat))
  obtain ⟨qa, hqa⟩ := bool_of (Known (its.map It.dat) xa)
  obtain ⟨qb, hqb⟩ := bool_of (Known (its.map It.dat) xb)
  have HFn := Lib.hid (sFine w B A n c its A2 n2 c2 ns h q hq)
  have HKa : Hid (∀ W, Below w.heap.size w W → Calls Tryz.prog 52 #[.slice A n c, .slice Aa na ca] W fun e w' => e = .returned (.bool qa) ∧ Below W.heap.size W w') := Lib.hid fun W hW => sKnown W B A n c its (h.below hW).i (h.below hW).hB h.hn w.heap.size Aa na ca xa (hxa.below hW) hW.size hna qa hqa
  have HKb : Hid (∀ W, Below w.heap.size w W → Calls Tryz.prog 52 #[.slice A n c, .slice Ab nb cb] W fun e w' => e = .returned (.bool qb) ∧ Below W.heap.size W w') := Lib.hid fun W hW => sKnown W B A n c its (h.below hW).i (h.below hW).hB h.hn w.heap.size Ab nb cb xb (hxb.below hW) hW.size hnb qb hqb
  have HN : Hid (¬ (q = true ∧ qa = true ∧ qb = true) → L = []) := Lib.hid fun hh => by
    rcases hL with ⟨t, h1, h2, h3, h4, _⟩ | ⟨_, h1⟩
    · exact absurd ⟨hq.2 ⟨h1, h2⟩, hqa.2 h3, hqb.2 h4⟩ hh
    · exact h1
  have HY : Hid (q = true → qa = true → qb = true → ∀ W, Below w.heap.size w W → Calls Tryz.prog 53 #[.slice A n c, .slice A2 n2 c2, .slice Aa na ca, .slice Ab nb cb] W fun e w' => (∃ v, e = .returned v ∧ OwnI w' W.heap.size v L) ∧ Below W.heap.size W w') := Lib.hid fun h1 h2 h3 W hW => by
    rcases hL with ⟨t, he, ha, ka, kb, ht, hs⟩ | ⟨hh, _⟩
    · refine (sMerge W B A n c its A2 n2 c2 ns (h.below hW) he ha t ht Aa na ca xa ((hxa.below hW).more hW.size) hna ka Ab nb cb xb ((hxb.below hW).more hW.size) hnb kb).mono ?_
      rintro e w' ⟨⟨v, s, rfl, hs', ho⟩, hb⟩
      rw [hs'.one hs (.refl _)] at ho
      exact ⟨⟨v, rfl, ho⟩, hb⟩
    · exact absurd ⟨(hq.1 h1).1, (hq.1 h1).2, hqa.1 h2, hqb.1 h3⟩ hh
  clear h hxa hxb hL hq hqa hqb
  go_enter Tryz.func18, Tryz.ntmps18
  go_wp2_with fail
  refine HFn.out.mono ?_
  rintro e w1 ⟨rfl, hb1⟩
  have HB1 := Lib.hid hb1
  clear hb1
  cases q
  · obtain rfl := HN.out (by simp)
    go_wp2
    go_ret
    exact ⟨⟨_, rfl, OwnI.empty w1 _ HB1.out.size⟩, HB1.out.alloc HB1.out.size _⟩
  go_wp2_with fail
  refine (HKa.out _ HB1.out).mono ?_
  rintro e w2 ⟨rfl, hb2⟩
  have HB2 := Lib.hid (below_on HB1.out hb2)
  clear hb2
  cases qa
  · obtain rfl := HN.out (by simp)
    go_wp2
    go_ret
    exact ⟨⟨_, rfl, OwnI.empty w2 _ HB2.out.size⟩, HB2.out.alloc HB2.out.size _⟩
  go_wp2_with fail
  refine (HKb.out _ HB2.out).mono ?_
  rintro e w3 ⟨rfl, hb3⟩
  have HB3 := Lib.hid (below_on HB2.out hb3)
  clear hb3
  cases qb
  · obtain rfl := HN.out (by simp)
    go_wp2
    go_ret
    exact ⟨⟨_, rfl, OwnI.empty w3 _ HB3.out.size⟩, HB3.out.alloc HB3.out.size _⟩
  go_wp2_with fail
  refine (HY.out (by first | rfl | trivial) (by first | rfl | trivial) (by first | rfl | trivial) _ HB3.out).mono ?_
  rintro e w4 ⟨⟨v, rfl, ho⟩, hb4⟩
  have HB4 := Lib.hid (below_on HB3.out hb4)
  have HO := Lib.hid (ownI_lower ho HB3.out.size)
  clear ho hb4
  go_wp2
  go_ret
  exact ⟨⟨_, rfl, HO.out⟩, HB4.out⟩
theorem divN_fuel (t : Tr) : ∀ (f g : Nat) (l : List Dt), l.length ≤ f → l.length ≤ g → divN t f l = divN t g l
  | 0, 0, _, _, _ => rfl
  | 0, g + 1, l, h, _ => by rw [divN, divN, if_pos (by omega)]
  | f + 1, 0, l, _, h => by rw [divN, divN, if_pos (by omega)]
  | f + 1, g + 1, l, h1, h2 => by
    rw [divN, divN]
    split
    · rfl
    · rw [divN_fuel t f g (l.take (l.length / 2)) (by rw [List.length_take]; omega) (by rw [List.length_take]; omega), divN_fuel t f g (l.drop (l.length / 2)) (by rw [List.length_drop]; omega) (by rw [List.length_drop]; omega)]
/-- The items from i up to j. -/
def segI (its : List It) (i j : Nat) : List It := (its.take j).drop i
theorem segI_len {its : List It} {i j : Nat} (hij : i ≤ j) (hj : j ≤ its.length) : (segI its i j).length = j - i := by
  unfold segI; rw [List.length_drop, List.length_take]; omega
theorem segI_snoc {its : List It} {i k : Nat} {x : It} (hik : i ≤ k) (hat : its[k]? = some x) : segI its i (k + 1) = segI its i k ++ [x] := by
  have hk := (List.getElem?_eq_some_iff.1 hat).1
  unfold segI
  rw [take_at hat, List.drop_append_of_le_length (by rw [List.length_take]; omega)]
theorem segI_take {its : List It} {i j p : Nat} (hp : i + p ≤ j) : (segI its i j).take p = segI its i (i + p) := by
  unfold segI
  rw [List.take_drop, List.take_take]
  congr 2
  omega
theorem segI_drop {its : List It} {i j p : Nat} : (segI its i j).drop p = segI its (i + p) j := by
  unfold segI
  rw [List.drop_drop]
theorem segI_sub (its : List It) (i j : Nat) : (segI its i j).Sublist its := (List.drop_sublist _ _).trans (List.take_sublist _ _)
theorem ids_seg (l : List It) : idsD (l.map It.dat) = idL l := by unfold idsD idL; rw [List.map_map]; rfl
theorem known_best {its l : List It} (ha : AreP (its.map It.dat)) (hl : l.Sublist its) (t : Tr) : Known (its.map It.dat) (idsD (bestD t (l.map It.dat))) := by
  intro i hi
  obtain ⟨d, hd, rfl⟩ := List.mem_map.1 hi
  have h1 : d ∈ l.map It.dat := (List.mem_filter.1 hd).1
  rw [findD_of ha ((hl.map _).subset h1)]
  exact fun h => by cases h
theorem divN_short (t : Tr) (f : Nat) (l : List Dt) (h : l.length ≤ 1) : divN t f l = 0 := by
  cases f with
  | zero => rfl
  | succ f => rw [divN, if_pos h]
theorem divN_top (t : Tr) (f : Nat) (l : List Dt) (h : l.length ≤ 1048576) : divN t f l ≤ 1099511627776 := by
  have h1 := divN_le t f l
  have h2 := Nat.mul_le_mul h h
  omega
set_option maxRecDepth 20000 in
set_option maxHeartbeats 1600000 in
theorem sDivBase (w : World) (B : Nat) (A : Option Addr) (n c : Nat) (its : List It) (A2 : Option Addr) (n2 c2 : Nat) (ns : List Nd) (h : InB w B A n its A2 n2 c2 ns) (t : Tr) (ht : Post (datN ns) t) (i j : Nat) (hij : i ≤ j) (hj : j ≤ n) (h1 : j - i ≤ 1) :
    Calls Tryz.prog 45 #[.slice A n c, .slice A2 n2 c2, .int .i64 (i : Int), .int .i64 (j : Int)] w fun e w' => (∃ v, e = .returned (.tuple #[v, .int .i64 (0 : Nat)]) ∧ OwnI w' w.heap.size v (idsD (bestD t ((segI its i j).map It.dat)))) ∧ Below w.heap.size w w' := by
  have HX := Lib.hid h.i
  have hB := h.hB
  have hn := h.hn
  have hlen : (segI its i j).length = j - i := segI_len hij (by rw [h.i.1]; exact hj)
  have hs1 : IntKind.i64.wrap ((j : Int) - (i : Int)) = ((j - i : Nat) : Int) := by rw [show (j : Int) - (i : Int) = ((j - i : Nat) : Int) by omega]; exact IntWalk.i64_in _ ⟨by omega, by omega⟩
  have hd : decide (((j - i : Nat) : Int) ≤ 1) = true := by simp; omega
  have HE : Hid (idsD (bestD t ((segI its i j).map It.dat)) = idL (segI its i j)) := Lib.hid (by rw [best_short ht (by rw [List.length_map]; omega), ids_seg])
  rw [HE.out]
  clear h ht HE
  go_enter Tryz.func45, Tryz.ntmps45
  go_wp2
  go_loopw [10, 11] (fun v iv wr => ∃ k : Nat, i ≤ k ∧ k ≤ j ∧ iv = .int .i64 k ∧ OwnI wr w.heap.size v (idL (segI its i k)) ∧ Below w.heap.size w wr) (fun _ iv _ => j - (intOf iv).toNat)
  case atStart => exact ⟨i, Nat.le_refl _, hij, rfl, by (have e : segI its i i = [] := by unfold segI; exact List.drop_eq_nil_of_le (by rw [List.length_take]; omega)); rw [e]; exact OwnI.empty w _ (Nat.le_refl _), (Below.refl _ _).alloc (Nat.le_refl _) _⟩
  case round =>
    obtain ⟨k, hik, hk, rfl, hown, hbel⟩ := hrel
    have HO := Lib.hid hown
    have HB := Lib.hid hbel
    clear hown
    by_cases hlt : k < j
    · obtain ⟨b, off, x, rfl, hb, hat, d0, -, -⟩ := HX.out.at k (by omega)
      have f0 := (hbel.cell (p := ⟨b, off + k * 2, none⟩) (Nat.lt_of_lt_of_le hb hB)).trans d0
      have HAt := Lib.hid hat
      have hlt' : (k : Int) < (j : Int) := by omega
      have hkn : (k : Int) < (n : Int) := by omega
      have hk0 : (0 : Int) ≤ (k : Int) := by omega
      have HLn : Hid (((idL (segI its i k)).length + [x.id].length) * 8 ≤ 140737488355328) := Lib.hid (by
        rw [idL_len, segI_len hik (by rw [HX.out.1]; omega)]
        simp only [List.length_cons, List.length_nil]
        omega)
      clear d0 hat hbel
      go_wp2_with (at_builtin; refine wp_appI wr (by rfl) (.tmp 28) (.tmp 34) (by rfl) w.heap.size _ _ (by rfl) HO.out _ [x.id] (by rfl) 1 1 rfl (by rfl) HLn.out HB.out.size ?_)
      intro v1 w2 hown2 hb2
      have HO2 := Lib.hid hown2
      have HB2 := Lib.hid (HB.out.trans hb2)
      clear hown2 hb2 f0
      go_wp2
      go_roundw
      case rel => exact ⟨k + 1, by omega, by omega, by go_num, by rw [segI_snoc hik HAt.out]; unfold idL; rw [List.map_append]; exact HO2.out, HB2.out⟩
      case measure => simp [intOf] <;> omega
    · obtain rfl : j = k := by omega
      clear hbel
      go_wp2
      go_ret2
      exact ⟨⟨_, rfl, HO.out⟩, HB.out⟩
set_option maxRecDepth 20000 in
set_option maxHeartbeats 3200000 in
theorem sDivide (f : Nat) : ∀ (w : World) (B : Nat) (A : Option Addr) (n c : Nat) (its : List It) (A2 : Option Addr) (n2 c2 : Nat) (ns : List Nd) (h : InB w B A n its A2 n2 c2 ns) (he : IsE (datN ns)) (ha : AreP (its.map It.dat)) (t : Tr) (ht : Post (datN ns) t) (i j : Nat) (hij : i ≤ j) (hj : j ≤ n) (hf : j - i ≤ f),
    Calls Tryz.prog 45 #[.slice A n c, .slice A2 n2 c2, .int .i64 (i : Int), .int .i64 (j : Int)] w fun e w' => (∃ v, e = .returned (.tuple #[v, .int .i64 (divN t f ((segI its i j).map It.dat) : Nat)]) ∧ OwnI w' w.heap.size v (idsD (bestD t ((segI its i j).map It.dat)))) ∧ Below w.heap.size w w' := by
  induction f with
  | zero =>
    intro w B A n c its A2 n2 c2 ns h he ha t ht i j hij hj hf
    exact sDivBase w B A n c its A2 n2 c2 ns h t ht i j hij hj (by omega)
  | succ f ih =>
    intro w B A n c its A2 n2 c2 ns h he ha t ht i j hij hj hf
    have hn := h.hn
    have hl : its.length = n := h.i.1
    have hlen : (segI its i j).length = j - i := segI_len hij (by omega)
    by_cases h1 : j - i ≤ 1
    · rw [divN_short t (f + 1) _ (by rw [List.length_map]; omega)]
      exact sDivBase w B A n c its A2 n2 c2 ns h t ht i j hij hj h1
    · have hs1 : IntKind.i64.wrap ((j : Int) - (i : Int)) = ((j - i : Nat) : Int) := by rw [show (j : Int) - (i : Int) = ((j - i : Nat) : Int) by omega]; exact IntWalk.i64_in _ ⟨by omega, by omega⟩
      have hd : decide (((j - i : Nat) : Int) ≤ 1) = false := by simp; omega
      obtain ⟨p, hp⟩ : ∃ p, (j - i) / 2 = p := ⟨_, rfl⟩
      have hmid : ((i : Int) + (j : Int)) / 2 = ((i + p : Nat) : Int) := by omega
      have l1 : (segI its i (i + p)).length = p := by rw [segI_len (by omega) (by omega)]; omega
      have l2 : (segI its (i + p) j).length = j - (i + p) := segI_len (by omega) (by omega)
      have HS : Hid ((segI its i j).map It.dat = (segI its i (i + p)).map It.dat ++ (segI its (i + p) j).map It.dat) := Lib.hid (by
        rw [← List.map_append, ← segI_take (p := p) (i := i) (j := j) (by omega), ← segI_drop, List.take_append_drop])
      have HD : Hid (divN t (f + 1) ((segI its i j).map It.dat) = divN t f ((segI its i (i + p)).map It.dat) + divN t f ((segI its (i + p) j).map It.dat) + (bestD t ((segI its i (i + p)).map It.dat)).length * (bestD t ((segI its (i + p) j).map It.dat)).length) := Lib.hid (by
        rw [divN, if_neg (by rw [List.length_map]; omega), List.length_map, hlen, hp, ← List.map_take, ← List.map_drop, segI_take (by omega), segI_drop])
      rw [HD.out]
      have t1 := divN_top t f ((segI its i (i + p)).map It.dat) (by rw [List.length_map]; omega)
      have t2 := divN_top t f ((segI its (i + p) j).map It.dat) (by rw [List.length_map]; omega)
      have b1 := best_le t ((segI its i (i + p)).map It.dat)
      have b2 := best_le t ((segI its (i + p) j).map It.dat)
      rw [List.length_map] at b1 b2
      have HC1 : Hid (∀ W, Below w.heap.size w W → Calls Tryz.prog 45 #[.slice A n c, .slice A2 n2 c2, .int .i64 (i : Int), .int .i64 ((i + p : Nat) : Int)] W fun e w' => (∃ v, e = .returned (.tuple #[v, .int .i64 (divN t f ((segI its i (i + p)).map It.dat) : Nat)]) ∧ OwnI w' W.heap.size v (idsD (bestD t ((segI its i (i + p)).map It.dat)))) ∧ Below W.heap.size W w') := Lib.hid fun W hW => ih W B A n c its A2 n2 c2 ns (h.below hW) he ha t ht i (i + p) (by omega) (by omega) (by omega)
      have HC2 : Hid (∀ W, Below w.heap.size w W → Calls Tryz.prog 45 #[.slice A n c, .slice A2 n2 c2, .int .i64 ((i + p : Nat) : Int), .int .i64 (j : Int)] W fun e w' => (∃ v, e = .returned (.tuple #[v, .int .i64 (divN t f ((segI its (i + p) j).map It.dat) : Nat)]) ∧ OwnI w' W.heap.size v (idsD (bestD t ((segI its (i + p) j).map It.dat)))) ∧ Below W.heap.size W w') := Lib.hid fun W hW => ih W B A n c its A2 n2 c2 ns (h.below hW) he ha t ht (i + p) j (by omega) hj (by omega)
      have HM : Hid (∀ W, Below w.heap.size w W → ∀ (Aa : Option Addr) (na ca : Nat) (Ab : Option Addr) (nb cb : Nat), Ints W W.heap.size Aa na (idsD (bestD t ((segI its i (i + p)).map It.dat))) → Ints W W.heap.size Ab nb (idsD (bestD t ((segI its (i + p) j).map It.dat))) → Calls Tryz.prog 53 #[.slice A n c, .slice A2 n2 c2, .slice Aa na ca, .slice Ab nb cb] W fun e w' => (∃ v, e = .returned v ∧ OwnI w' W.heap.size v (idsD (bestD t ((segI its i j).map It.dat)))) ∧ Below W.heap.size W w') := Lib.hid fun W hW Aa na ca Ab nb cb g1 g2 => by
        have e1 := g1.1
        have e2 := g2.1
        unfold idsD at e1 e2
        rw [List.length_map] at e1 e2
        refine (sMerge W B A n c its A2 n2 c2 ns (h.below hW) he ha t ht Aa na ca _ g1 (by omega) (known_best ha (segI_sub _ _ _) t) Ab nb cb _ g2 (by omega) (known_best ha (segI_sub _ _ _) t)).mono ?_
        rintro e w' ⟨⟨v, s, rfl, hs, ho⟩, hb⟩
        rw [merge_best ht ha (fun x hx => ((segI_sub its _ _).map _).subset hx) (fun x hx => ((segI_sub its _ _).map _).subset hx), ← HS.out] at hs
        rw [sorted_self hs (rise_sub ha (List.filter_sublist.trans ((segI_sub its i j).map _)))] at ho
        exact ⟨⟨v, rfl, ho⟩, hb⟩
      obtain ⟨X, hX⟩ : ∃ X, divN t f ((segI its i (i + p)).map It.dat) = X := ⟨_, rfl⟩
      obtain ⟨Y, hY⟩ : ∃ Y, divN t f ((segI its (i + p) j).map It.dat) = Y := ⟨_, rfl⟩
      obtain ⟨La, hLa⟩ : ∃ La, bestD t ((segI its i (i + p)).map It.dat) = La := ⟨_, rfl⟩
      obtain ⟨Lb, hLb⟩ : ∃ Lb, bestD t ((segI its (i + p) j).map It.dat) = Lb := ⟨_, rfl⟩
      rw [hX, hLa] at HC1
      rw [hY, hLb] at HC2
      rw [hLa, hLb] at HM
      rw [hX, hY, hLa, hLb]
      rw [hX] at t1
      rw [hY] at t2
      rw [hLa] at b1
      rw [hLb] at b2
      clear h he ha ht ih HS HD hX hY hLa hLb
      go_enter Tryz.func45, Tryz.ntmps45
      go_wp2_with fail
      rw [hmid]
      refine (HC1.out _ (Below.refl _ _)).mono ?_
      rintro e w1 ⟨⟨v1, rfl, ho1⟩, hb1⟩
      have HO1 := Lib.hid ho1
      have HB1 := Lib.hid hb1
      clear ho1 hb1
      go_wp2_with fail
      refine (HC2.out _ HB1.out).mono ?_
      rintro e w2 ⟨⟨v2, rfl, ho2⟩, hb2⟩
      have HB2 := Lib.hid (below_on HB1.out hb2)
      obtain ⟨A1, n1, c1, rfl, hi1⟩ := (ownI_below HO1.out hb2).ints
      obtain ⟨A3, n3, c3, rfl, hi3⟩ := ho2.ints
      have e1 := hi1.1
      have e2 := hi3.1
      unfold idsD at e1 e2
      rw [List.length_map] at e1 e2
      subst e1 e2
      have HI1 := Lib.hid hi1
      have HI3 := Lib.hid hi3
      clear ho2 hb2 hi1 hi3
      go_wp2_with fail
      refine (HM.out _ HB2.out _ _ _ _ _ _ HI1.out HI3.out).mono ?_
      rintro e w3 ⟨⟨v, rfl, ho⟩, hb3⟩
      have HB3 := Lib.hid (below_on HB2.out hb3)
      have HO := Lib.hid (ownI_lower ho HB2.out.size)
      clear ho hb3
      obtain ⟨Na, hNa⟩ : ∃ Na, La.length = Na := ⟨_, rfl⟩
      obtain ⟨Nb, hNb⟩ : ∃ Nb, Lb.length = Nb := ⟨_, rfl⟩
      rw [hNa, hNb]
      rw [hNa] at b1
      rw [hNb] at b2
      obtain ⟨Z, hZ⟩ : ∃ Z, Na * Nb = Z := ⟨_, rfl⟩
      have hZt : Z ≤ 1099511627776 := by
        rw [← hZ]
        exact Nat.le_trans (Nat.mul_le_mul (show Na ≤ 1048576 by omega) (show Nb ≤ 1048576 by omega)) (by decide)
      have w1' : IntKind.i64.wrap ((X : Int) + (Y : Int)) = ((X + Y : Nat) : Int) := by rw [show (X : Int) + (Y : Int) = ((X + Y : Nat) : Int) by omega]; exact IntWalk.i64_in _ ⟨by omega, by omega⟩
      have w2' : IntKind.i64.wrap ((Na : Int) * (Nb : Int)) = (Z : Int) := by rw [show (Na : Int) * (Nb : Int) = (Z : Int) by rw [← hZ]; simp]; exact IntWalk.i64_in _ ⟨by omega, by omega⟩
      have hsum : ((X + Y + La.length * Lb.length : Nat) : Int) = (X : Int) + (Y : Int) + (Z : Int) := by rw [hNa, hNb, hZ]; simp
      go_wp2
      go_ret2
      rw [hsum]
      exact ⟨⟨_, rfl, HO.out⟩, HB3.out⟩
set_option maxRecDepth 20000 in
theorem sDivideBest (w : World) (B : Nat) (A : Option Addr) (n c : Nat) (its : List It) (A2 : Option Addr) (n2 c2 : Nat) (ns : List Nd) (h : InB w B A n its A2 n2 c2 ns) (L : List Int × Int) (hL : DivP (datN ns) (its.map It.dat) L) :
    Calls Tryz.prog 12 #[.slice A n c, .slice A2 n2 c2] w fun e w' => (∃ v, e = .returned (.tuple #[v, .int .i64 L.2]) ∧ OwnI w' w.heap.size v L.1) ∧ Below w.heap.size w w' := by
  obtain ⟨q, hq⟩ := bool_of (IsE (datN ns) ∧ AreP (its.map It.dat))
  have HFn := Lib.hid (sFine w B A n c its A2 n2 c2 ns h q hq)
  have HN : Hid (q = false → L = ([], 0)) := Lib.hid fun hqf => hL.no (fun hh => by rw [hq.2 hh] at hqf; cases hqf)
  have HY : Hid (q = true → ∀ W, Below w.heap.size w W → Calls Tryz.prog 45 #[.slice A n c, .slice A2 n2 c2, .int .i64 0, .int .i64 (n : Int)] W fun e w' => (∃ v, e = .returned (.tuple #[v, .int .i64 L.2]) ∧ OwnI w' W.heap.size v L.1) ∧ Below W.heap.size W w') := Lib.hid fun hqt W hW => by
    obtain ⟨he, ha⟩ := hq.1 hqt
    obtain ⟨t, ht⟩ := he.2
    have e0 : segI its 0 n = its := by unfold segI; rw [take_all h.i.1]; rfl
    have e1 : (its.map It.dat).length = n := by rw [List.length_map, h.i.1]
    have h9 := sDivide n W B A n c its A2 n2 c2 ns (h.below hW) he ha t ht 0 n (Nat.zero_le _) (Nat.le_refl _) (by omega)
    rw [e0] at h9
    rw [hL.yes he ha ht, e1]
    exact h9
  clear h hL hq
  obtain ⟨L1, L2⟩ := L
  go_enter Tryz.func12, Tryz.ntmps12
  go_wp2_with fail
  refine HFn.out.mono ?_
  rintro e w1 ⟨rfl, hb1⟩
  have HB1 := Lib.hid hb1
  clear hb1
  cases q
  · have hl := HN.out (by first | rfl | trivial)
    injection hl with hl1 hl2
    subst hl1 hl2
    go_wp2
    go_ret2
    exact ⟨⟨_, rfl, OwnI.empty w1 _ HB1.out.size⟩, HB1.out.alloc HB1.out.size _⟩
  go_wp2_with fail
  refine (HY.out (by first | rfl | trivial) _ HB1.out).mono ?_
  rintro e w2 ⟨⟨v, rfl, ho⟩, hb2⟩
  have HB2 := Lib.hid (below_on HB1.out hb2)
  have HO := Lib.hid (ownI_lower ho HB1.out.size)
  clear ho hb2
  go_wp2
  go_ret2
  exact ⟨⟨_, rfl, HO.out⟩, HB2.out⟩
end Go.Proofs.YtclpnhdpojkjpaaGreat.num
namespace Go.Proofs.YtclpnhdpojkjpaaGreat.num
set_option maxRecDepth 20000
open Go.RowKit
set_option linter.unusedVariables false
set_option linter.unusedSimpArgs false

def zC (j : Nat) : Value := (#[.int .i64 0, .slice none 0 0, .pointer none] : Array Value)[j % 3]!
def ctCell (p : Nat) (l : List It) (j : Nat) : Value := cellG (ctCells p) zC l j
theorem make_ct (n : Nat) (hn : n ≤ 1048576) (w : World) :
    (Instr.makeSlice 61 (.int .i64 (n : Int)) (.int .i64 (n : Int))).run Tryz.prog w = .ok (.slice (some ⟨w.heap.size, 0, none⟩) n n) (w.alloc (.cells (madeCells #[.int .i64 0, .slice none 0 0, .pointer none] (n * 3)) 111)) := by
  obtain ⟨i, hi, hzz⟩ := Option.map_eq_some_iff.1 info_ct
  simp only [Prod.mk.injEq] at hzz
  obtain ⟨hz, hs, hb⟩ := hzz
  have hr := run_make (P := Tryz.prog) w _ _ i _ Tryz.underlying61 hi hz .i64 .i64 n n (by omega) (Int.le_refl _) (by rw [hb]; omega) (by omega)
  rw [hs] at hr
  simp only [Int.toNat_natCast] at hr
  exact hr
theorem made_ct (w : World) (n p : Nat) : (w.alloc (.cells (madeCells #[.int .i64 0, .slice none 0 0, .pointer none] (n * 3)) 111)).rowIs w.heap.size 111 (n * 3) (ctCell p []) :=
  ⟨_, heap_alloc_new w _, size_madeCells _ _, fun i hi => by simp [madeCells, hi, ctCell, cellG, zC]⟩
theorem ctCell_snoc {p : Nat} {l : List It} {k : Nat} (h : l.length = k) (x : It) (j : Nat) :
    (if j = k * 3 + 2 then .pointer (some ⟨p, 0, none⟩) else if j = k * 3 + 1 then .slice x.A x.n x.c else if j = k * 3 then .int .i64 x.id else ctCell p l j) = ctCell p (l ++ [x]) j := by
  have e : ∀ i v, (ctCells p x)[i]? = some v → ctCell p (l ++ [x]) (k * 3 + i) = v := fun i v hv => cellG_last (ctCells_len p) zC h x hv
  by_cases h2 : j = k * 3 + 2
  · subst h2; rw [if_pos rfl, e 2 _ rfl]
  rw [if_neg h2]
  by_cases h1 : j = k * 3 + 1
  · subst h1; rw [if_pos rfl, e 1 _ rfl]
  rw [if_neg h1]
  by_cases h0 : j = k * 3
  · subst h0; rw [if_pos rfl]; exact (e 0 _ rfl).symm
  rw [if_neg h0]
  exact (cellG_more (ctCells_len p) zC h x (by omega)).symm
theorem ctCell_zero {p : Nat} {l : List It} {k : Nat} (h : l.length = k) : ctCell p l (k * 3) = .int .i64 0 ∧ ctCell p l (k * 3 + 1) = .slice none 0 0 ∧ ctCell p l (k * 3 + 2) = .pointer none := by
  refine ⟨?_, ?_, ?_⟩
  · rw [ctCell, cellG_none (ctCells_len p) zC (by omega)]; unfold zC; rw [show k * 3 % 3 = 0 by omega]; rfl
  · rw [ctCell, cellG_none (ctCells_len p) zC (by omega)]; unfold zC; rw [show (k * 3 + 1) % 3 = 1 by omega]; rfl
  · rw [ctCell, cellG_none (ctCells_len p) zC (by omega)]; unfold zC; rw [show (k * 3 + 2) % 3 = 2 by omega]; rfl
/-- What contestOf hands back. -/
def ContOut (B lo : Nat) (nds : List ND) (its : List It) (n : Nat) (e : Ending) (w' : World) : Prop :=
  (∃ (t : Tr) (p g : Nat), IsE nds ∧ AreP (its.map It.dat) ∧ Post nds t ∧ e = .returned (.slice (some ⟨g, 0, none⟩) n n) ∧ CtIn w' B lo p t (some ⟨g, 0, none⟩) n its) ∨ (¬ (IsE nds ∧ AreP (its.map It.dat)) ∧ e = .returned (.slice none 0 0))
set_option maxRecDepth 20000 in
set_option maxHeartbeats 1600000 in
theorem iContest (w : World) (B : Nat) (A : Option Addr) (n c : Nat) (its : List It) (A2 : Option Addr) (n2 c2 : Nat) (ns : List Nd) (h : InB w B A n its A2 n2 c2 ns) :
    Calls Tryz.prog 36 #[.slice A n c, .slice A2 n2 c2] w fun e w' => ContOut B w.heap.size (datN ns) its n e w' ∧ Below w.heap.size w w' := by
  have HT := Lib.hid (iTreeOfW w B A2 n2 c2 ns h.e h.hB h.hnc h.hc h.se)
  obtain ⟨qa, hqa⟩ := bool_of (AreP (its.map It.dat))
  have HA : Hid (∀ w1, Below w.heap.size w w1 → Calls Tryz.prog 68 #[.slice A n c] w1 fun e w' => e = .returned (.bool qa) ∧ Below w1.heap.size w1 w') := Lib.hid fun w1 h1 => iAre w1 B A n c its (h.below h1).i (h.below h1).hB qa hqa
  have HX := Lib.hid h.i
  have hB := h.hB
  have hn := h.hn
  have HQ := Lib.hid hqa
  generalize datN ns = nds at *
  clear h hqa
  go_enter Tryz.func36, Tryz.ntmps36
  go_wp2_with fail
  refine HT.out.mono ?_
  rintro e w1 ⟨hout, hb1⟩
  have HB1 := Lib.hid hb1
  clear hb1 HT
  rcases hout with ⟨he, t, p, ht, rfl, hpa⟩ | ⟨he, rfl⟩
  · have HE := Lib.hid he
    have HPo := Lib.hid ht
    have HPa := Lib.hid hpa
    clear he ht hpa
    go_wp2_with fail
    refine (HA.out _ HB1.out).mono ?_
    rintro e w2 ⟨rfl, hb2⟩
    have HB2 := Lib.hid (below_on HB1.out hb2)
    have HPa2 := Lib.hid (HPa.out.below (Nat.le_trans hB HB1.out.size) hb2)
    clear hb2 HPa
    cases qa
    · go_wp2
      go_ret
      exact ⟨.inr ⟨(fun hh => by have := HQ.out.2 hh.2; cases this), rfl⟩, HB2.out⟩
    · have HAr : Hid (AreP (its.map It.dat)) := Lib.hid (HQ.out.1 (by first | rfl | trivial))
      have hmk := make_ct n hn
      go_wp2
      clear hmk
      obtain ⟨g, hg⟩ : ∃ g, g = w2.heap.size := ⟨_, rfl⟩
      have HR0 : Hid ((w2.alloc (.cells (madeCells #[.int .i64 0, .slice none 0 0, .pointer none] (n * 3)) 111)).rowIs g 111 (n * 3) (ctCell p (its.take 0))) := Lib.hid (hg ▸ made_ct w2 n p)
      have HW0 : Hid (Below w2.heap.size w2 (w2.alloc (.cells (madeCells #[.int .i64 0, .slice none 0 0, .pointer none] (n * 3)) 111))) := Lib.hid ((Below.refl _ _).alloc (Nat.le_refl _) _)
      rw [← hg]
      generalize (w2.alloc (.cells (madeCells #[.int .i64 0, .slice none 0 0, .pointer none] (n * 3)) 111)) = w3 at *
      have HG := Lib.hid hg
      clear hg
      go_loopw [23] (fun i wr => ∃ k : Nat, k ≤ n ∧ i = .int .i64 k ∧ wr.rowIs g 111 (n * 3) (ctCell p (its.take k)) ∧ Below w2.heap.size w2 wr) (fun i _ => n - (intOf i).toNat)
      case atStart => exact ⟨0, Nat.zero_le _, rfl, HR0.out, HW0.out⟩
      case round =>
        obtain ⟨k, hk, rfl, hrow, hbel⟩ := hrel
        have HR := Lib.hid hrow
        have HB := Lib.hid hbel
        by_cases hlt : k < n
        · obtain ⟨b1, off, x, rfl, hb1, hat, d0, d1, -⟩ := HX.out.at k hlt
          have hbw : b1 < w2.heap.size := Nat.lt_of_lt_of_le hb1 (Nat.le_trans hB HB2.out.size)
          have f0 := (hbel.cell (p := ⟨b1, off + k * 2, none⟩) hbw).trans ((HB2.out.cell (p := ⟨b1, off + k * 2, none⟩) (Nat.lt_of_lt_of_le hb1 hB)).trans d0)
          have f1 := (hbel.cell (p := ⟨b1, off + k * 2 + 1, none⟩) hbw).trans ((HB2.out.cell (p := ⟨b1, off + k * 2 + 1, none⟩) (Nat.lt_of_lt_of_le hb1 hB)).trans d1)
          have HAt := Lib.hid hat
          have hlk : (its.take k).length = k := by rw [List.length_take, HX.out.1]; omega
          have hz := ctCell_zero (p := p) hlk
          have g0 : wr.cell? ⟨g, k * 3, none⟩ = some (.int .i64 0) := by rw [World.rowIs.cell hrow (by omega), hz.1]
          have g1 : wr.cell? ⟨g, k * 3 + 1, none⟩ = some (.slice none 0 0) := by rw [World.rowIs.cell hrow (by omega), hz.2.1]
          have g2 : wr.cell? ⟨g, k * 3 + 2, none⟩ = some (.pointer none) := by rw [World.rowIs.cell hrow (by omega), hz.2.2]
          have z0 := World.rowIs.frozen hrow (k * 3)
          have z1 := World.rowIs.frozen hrow (k * 3 + 1)
          have z2 := World.rowIs.frozen hrow (k * 3 + 2)
          have hgl := World.rowIs.lt hrow
          have HLk := Lib.hid hlk
          have hsz := Lib.hid hbel.size
          clear hrow hbel d0 d1 hat hlk hz
          go_wp2
          go_roundw
          case rel =>
            refine ⟨k + 1, by omega, by go_num, ?_, ?_⟩
            · rw [take_at HAt.out]
              exact (World.rowIs.alloc (World.rowIs.set (World.rowIs.set (World.rowIs.set HR.out (k * 3) (.int .i64 x.id)) (k * 3 + 1) (.slice x.A x.n x.c)) (k * 3 + 2) (.pointer (some ⟨p, 0, none⟩))) _).congr (fun j _ => ctCell_snoc HLk.out x j)
            · exact (((HB.out.setCell (by rw [HG.out]; exact Nat.le_refl _) _).setCell (by rw [HG.out]; exact Nat.le_refl _) _).setCell (by rw [HG.out]; exact Nat.le_refl _) _).alloc (by simp [World.setCell]; exact hsz.out) _
          case measure => simp [intOf]; omega
        · obtain rfl : k = n := by omega
          clear hrow hbel
          go_wp2
          go_ret
          have HBw := HB2.out.trans (HB.out.mono HB2.out.size)
          refine ⟨.inl ⟨t, p, g, HE.out, HAr.out, HPo.out, rfl, ?_⟩, HBw⟩
          have hR := HR.out
          rw [take_all HX.out.1] at hR
          have hown : OwnG 111 (ctCells p) 3 wr g (.slice (some ⟨g, 0, none⟩) k k) its := OwnG.of_row (ctCells_len p) (Nat.le_refl _) HX.out.1 (Nat.le_refl _) (by unfold maxLen; omega) hR fun j hj => cellG_own (ctCells_len p) zC HX.out.1 hj
          exact ⟨OwnG.read (ctCells_len p) hown, fun u hu => ⟨(HX.out.mem hu).below (HBw.mono hB), HAr.out.1 _ (List.mem_map_of_mem hu)⟩, HPa2.out.below (Nat.le_trans hB HB2.out.size) HB.out, Nat.le_trans hB HBw.size⟩
  · have HE := Lib.hid he
    clear he
    go_wp2
    go_ret
    exact ⟨.inr ⟨fun hh => HE.out hh.1, rfl⟩, HB1.out⟩
/-! The functions. -/
theorem three_set {w : World} {g : Nat} {T : TypeId} {u0 u1 u2 v0 v1 v2 : Value} (h : w.heap[g]? = some (.cells #[u0, u1, u2] T (0, 0))) : (((w.setCell ⟨g, 0, none⟩ v0).setCell ⟨g, 1, none⟩ v1).setCell ⟨g, 2, none⟩ v2).heap[g]? = some (.cells #[v0, v1, v2] T (0, 0)) := by
  have h := heap_setCell_same _ g 2 _ _ v2 (heap_setCell_same _ g 1 _ _ v1 (heap_setCell_same w g 0 _ _ v0 h))
  simpa using h
theorem block_alloc {w : World} {g : Nat} {o : Obj} (h : w.heap[g]? = some o) (o2 : Obj) : (w.alloc o2).heap[g]? = some o := (Below.heap_alloc _ _ _ (lt_of_block h)).trans h
set_option maxRecDepth 20000 in
set_option maxHeartbeats 1600000 in
theorem ctFind (w : World) (p : Nat) (A : Option Addr) (n c : Nat) (its : List It) (h : ReadG (ctCells p) 3 w w.heap.size A n its) (hn : n ≤ 1048576) (x0 : Int) :
    Calls Tryz.prog 83 #[.slice A n c, .int .i64 x0] w fun e w' => ((∃ x, x ∈ its ∧ findD (its.map It.dat) x0 = some x.dat ∧ e = .returned (.tuple #[.agg #[.int .i64 x.id, .slice x.A x.n x.c, .pointer (some ⟨p, 0, none⟩)], .bool true])) ∨ (findD (its.map It.dat) x0 = none ∧ e = .returned (.tuple #[.agg #[.int .i64 0, .slice none 0 0, .pointer none], .bool false]))) ∧ Below w.heap.size w w' := by
  have HX := Lib.hid h
  have HR0 : Hid ((w.alloc (.cells #[.int .i64 0, .slice none 0 0, .pointer none] 111)).heap[w.heap.size]? = some (.cells #[.int .i64 0, .slice none 0 0, .pointer none] 111 (0, 0))) := Lib.hid (heap_alloc_new w _)
  have HB0 : Hid (Below w.heap.size w (w.alloc (.cells #[.int .i64 0, .slice none 0 0, .pointer none] 111))) := Lib.hid ((Below.refl _ w).alloc (Nat.le_refl _) _)
  clear h
  go_enter Tryz.func83, Tryz.ntmps83
  go_wp2
  go_loopw [10] (fun i wr => ∃ k : Nat, k ≤ n ∧ i = .int .i64 k ∧ (∀ u ∈ its.take k, u.id ≠ x0) ∧ wr.heap[w.heap.size]? = some (.cells #[.int .i64 0, .slice none 0 0, .pointer none] 111 (0, 0)) ∧ Below w.heap.size w wr) (fun i _ => n - (intOf i).toNat)
  case atStart => exact ⟨0, Nat.zero_le _, rfl, by simp, HR0.out, HB0.out⟩
  case round =>
    obtain ⟨k, hk, rfl, hall, hrow, hbel⟩ := hrel
    have HA := Lib.hid hall
    have HB := Lib.hid hbel
    have HR := Lib.hid hrow
    have hsz := Lib.hid hbel.size
    have g0 : wr.cell? ⟨w.heap.size, 0, none⟩ = some (.int .i64 0) := cell_of_row wr _ 0 _ _ (0, 0) hrow
    have g1 : wr.cell? ⟨w.heap.size, 1, none⟩ = some (.slice none 0 0) := cell_of_row wr _ 1 _ _ (0, 0) hrow
    have g2 : wr.cell? ⟨w.heap.size, 2, none⟩ = some (.pointer none) := cell_of_row wr _ 2 _ _ (0, 0) hrow
    have z0 : wr.frozen? ⟨w.heap.size, 0, none⟩ = false := frozen_of_row wr _ 0 _ _ hrow
    have z1 : wr.frozen? ⟨w.heap.size, 1, none⟩ = false := frozen_of_row wr _ 1 _ _ hrow
    have z2 : wr.frozen? ⟨w.heap.size, 2, none⟩ = false := frozen_of_row wr _ 2 _ _ hrow
    have hgl := lt_of_block hrow
    clear hall hrow
    by_cases hlt : k < n
    · obtain ⟨b, off, x, rfl, hb, hat, d0, d1, d2⟩ := ct_at HX.out k hlt
      have f0 := (hbel.cell (p := ⟨b, off + k * 3, none⟩) hb).trans d0
      have f1 := (hbel.cell (p := ⟨b, off + k * 3 + 1, none⟩) hb).trans d1
      have f2 := (hbel.cell (p := ⟨b, off + k * 3 + 2, none⟩) hb).trans d2
      have HAt := Lib.hid hat
      have hlt' : (k : Int) < (n : Int) := by omega
      clear d0 d1 d2 hat hbel
      by_cases he : x.id = x0
      · have he' : (x.id == x0) = true := by simpa using he
        have HE := Lib.hid he
        have HF : Hid (findD (its.map It.dat) x0 = some x.dat) := Lib.hid (findD_yes (k := k) (by rw [List.getElem?_map, HAt.out]; rfl) he fun u hu => by
          rw [← List.map_take] at hu
          obtain ⟨v, hv, rfl⟩ := List.mem_map.1 hu
          exact HA.out v hv)
        clear he
        go_wp2
        refine bodyPost_ret_by (results_row_tmp rfl _ _ w.heap.size 111 #[.int .i64 x.id, .slice x.A x.n x.c, .pointer (some ⟨p, 0, none⟩)] (0, 0) _ rfl (by first | exact three_set (block_alloc HR.out _) | exact block_alloc (three_set HR.out) _) Tryz.underlying111 rfl (by kernel_rfl)) rfl ?_
        exact ⟨.inl ⟨x, mem_of_at HAt.out, HF.out, rfl⟩, by first | exact (((HB.out.alloc hsz.out _).setCell (Nat.le_refl _) _).setCell (Nat.le_refl _) _).setCell (Nat.le_refl _) _ | exact (((HB.out.setCell (Nat.le_refl _) _).setCell (Nat.le_refl _) _).setCell (Nat.le_refl _) _).alloc (by simp [World.setCell]; exact hsz.out) _⟩
      · have he' : (x.id == x0) = false := by simpa using he
        have HE := Lib.hid he
        clear he
        go_wp2
        go_roundw
        case rel => exact ⟨k + 1, by omega, by go_num, ne_step HAt.out HA.out HE.out, block_alloc HR.out _, HB.out.alloc hsz.out _⟩
        case measure => simp [intOf]; omega
    · obtain rfl : k = n := by omega
      have HF : Hid (findD (its.map It.dat) x0 = none) := Lib.hid (findD_no fun d hd => by
        obtain ⟨u, hu, rfl⟩ := List.mem_map.1 hd
        have h := HA.out
        rw [take_all HX.out.len] at h
        exact h u hu)
      clear hbel
      go_wp2
      refine bodyPost_ret_by (results_row_tmp rfl _ _ w.heap.size 111 #[.int .i64 0, .slice none 0 0, .pointer none] (0, 0) _ rfl (three_set HR.out) Tryz.underlying111 rfl (by kernel_rfl)) rfl ?_
      exact ⟨.inr ⟨HF.out, rfl⟩, ((HB.out.setCell (Nat.le_refl _) _).setCell (Nat.le_refl _) _).setCell (Nat.le_refl _) _⟩
end Go.Proofs.YtclpnhdpojkjpaaGreat.num
namespace Go.Proofs.YtclpnhdpojkjpaaGreat.num
set_option maxRecDepth 20000
open Go.RowKit
set_option linter.unusedVariables false
set_option linter.unusedSimpArgs false

theorem sort_merge (l : List Int) : SortP l (l.mergeSort fun x y => decide (x ≤ y)) := by
  refine ⟨?_, List.mergeSort_perm _ _⟩
  have h := List.pairwise_mergeSort (le := fun (x y : Int) => decide (x ≤ y)) (fun a b c h1 h2 => by simp at h1 h2 ⊢; omega) (fun a b => by simp; omega) l
  exact h.imp fun h => by simpa using h
/-- slices.Sort over a row of ints of the call's own. -/
theorem sort_own (w : World) (B : Nat) (A : Option Addr) (n c : Nat) (l : List Int) (h : OwnI w B (.slice A n c) l) (hn : n ≤ 4194304) :
    Calls Tryz.prog 74 #[.slice A n c] w fun e w' => e = .returned (.tuple #[]) ∧ (∃ s, SortP l s ∧ OwnI w' B (.slice A n c) s) ∧ w.grownBy w' (Value.slice A n c).ownBlock := by
  rcases h.2 with ⟨e, hl⟩ | ⟨g, cap, cur, e, hB, hg, h1, h2, h3, h4⟩
  · injection e with e1 e2 e3
    subst e1 e2 e3
    refine (Tryz.slices_Sort_int_none none 0 w).mono ?_
    rintro e w' ⟨rfl, rfl⟩
    obtain rfl : l = [] := List.eq_nil_of_length_eq_zero (by simpa using hl)
    exact ⟨rfl, ⟨[], ⟨List.Pairwise.nil, .refl _⟩, h⟩, ⟨rfl, rfl, rfl, Nat.le_refl _, fun _ _ _ => rfl⟩⟩
  · injection e with e1 e2 e3
    subst e1 e2 e3
    have hH := Go.holds_of_blockI hg (ss := l) (by simpa using h4)
    refine (Tryz.slices_Sort_int g 0 c l w hH (lt_of_block hg) (by omega)).mono ?_
    rintro e w' ⟨rfl, n', os, rfl⟩
    have hs := sort_merge l
    refine ⟨rfl, ⟨_, hs, ?_⟩, Go.grownBy_sortedI _⟩
    have ho := Go.ownsRow_sortedI (n := n') (os := os) (ss := l) (ts := l.mergeSort fun x y => decide (x ≤ y)) (base := B) hs.len hB hg h1 h2 (by simpa using h3)
    unfold OwnI
    rw [hs.len]
    exact ho
set_option maxRecDepth 20000 in
theorem iSorted (w : World) (p : Nat) (A : Option Addr) (n c : Nat) (l : List It) (h : ReadG (ctCells p) 3 w w.heap.size A n l) (hn : n ≤ 4194304) :
    Calls Tryz.prog 38 #[.slice A n c] w fun e w' => (∃ v s, e = .returned v ∧ SortP (idL l) s ∧ OwnI w' w.heap.size v s) ∧ Below w.heap.size w w' := by
  have HI := Lib.hid (ctIdsW w p A n c l h hn)
  have HL : Hid ((idL l).length = n) := Lib.hid (by rw [idL_len, h.len])
  clear h
  go_enter Tryz.func38, Tryz.ntmps38
  go_wp2_with fail
  refine HI.out.mono ?_
  rintro e w1 ⟨⟨v, rfl, ho⟩, hb1⟩
  have HB1 := Lib.hid hb1
  obtain ⟨A', n', c', rfl, hi⟩ := ho.ints
  have hn' : n' ≤ 4194304 := by have h1 := hi.1; have h2 := HL.out; omega
  have HO := Lib.hid ho
  clear ho hb1 hi HI
  go_wp2_with fail
  refine (sort_own w1 w.heap.size A' n' c' _ HO.out hn').mono ?_
  rintro e w2 ⟨rfl, ⟨s, hs, ho⟩, hg⟩
  have HS := Lib.hid hs
  have HO2 := Lib.hid ho
  have HB2 := Lib.hid (HB1.out.grown hg HB1.out.size (fun k hk => ownI_lows HO.out k hk))
  clear hs ho hg
  go_wp2
  go_ret
  exact ⟨⟨_, s, rfl, HS.out, HO2.out⟩, HB2.out⟩
theorem blocks_step (t : Tr) (N : Nat) (hN : 0 < N) {l : List Dt} (hl : l ≠ []) : blocks t N l.length l = (doneOf (runP t N l) ++ (blocks t N (leftOf (runP t N l)).length (leftOf (runP t N l))).1, (blocks t N (leftOf (runP t N l)).length (leftOf (runP t N l))).2 + 1) := by
  have h1 := pass_less t N hN hl
  obtain ⟨f, hf⟩ : ∃ f, l.length = f + 1 := ⟨l.length - 1, by omega⟩
  have he : l.isEmpty = false := by cases l with | nil => exact absurd rfl hl | cons => rfl
  rw [hf, blocks, he]
  rw [blocks_more t N hN f _ (leftOf (runP t N l)) (by omega) (Nat.le_refl _)]
  rfl
/-- What the passes have found, and what is still to be read. -/
structure BkInv (t : Tr) (N : Nat) (its : List It) (lb ll : List It) (j : Nat) : Prop where
  eq : blocks t N its.length (its.map It.dat) = (lb.map It.dat ++ (blocks t N ll.length (ll.map It.dat)).1, j + (blocks t N ll.length (ll.map It.dat)).2)
  mb : ∀ u ∈ lb, u ∈ its
  ml : ∀ u ∈ ll, u ∈ its
  ln : ll.length ≤ its.length
theorem BkInv.start (t : Tr) (N : Nat) (its : List It) : BkInv t N its [] its 0 := ⟨by simp, by simp, fun _ h => h, Nat.le_refl _⟩
theorem BkInv.step {t : Tr} {N : Nat} (hN : 0 < N) {its lb ll dn ov : List It} {j : Nat} (h : BkInv t N its lb ll j) (hl : ll ≠ []) (hd : dn.map It.dat = doneOf (runP t N (ll.map It.dat))) (ho : ov.map It.dat = leftOf (runP t N (ll.map It.dat))) (md : ∀ u ∈ dn, u ∈ ll) (mo : ∀ u ∈ ov, u ∈ ll) : BkInv t N its (lb ++ dn) ov (j + 1) := by
  refine ⟨?_, fun u hu => (List.mem_append.1 hu).elim (h.mb u) (fun hu => h.ml u (md u hu)), fun u hu => h.ml u (mo u hu), ?_⟩
  rotate_left
  · have h1 := pass_less t N hN (l := ll.map It.dat) (by simpa using hl)
    rw [← ho, List.length_map, List.length_map] at h1
    have h2 := h.ln
    omega
  have hs := blocks_step t N hN (l := ll.map It.dat) (by simpa using hl)
  rw [List.length_map, ← hd, ← ho, List.length_map] at hs
  rw [h.eq, hs]
  simp only [List.map_append, List.append_assoc]
  congr 1
  omega
theorem BkInv.small {t : Tr} {N : Nat} (hN : 0 < N) {its lb ll : List It} {j : Nat} (h : BkInv t N its lb ll j) : lb.length ≤ its.length ∧ j ≤ its.length := by
  have h1 := blocks_le t N hN its.length (its.map It.dat) (by rw [List.length_map]; exact Nat.le_refl _)
  rw [h.eq, List.length_map] at h1
  simp only [List.length_append, List.length_map] at h1
  omega
theorem BkInv.room {t : Tr} {N : Nat} (hN : 0 < N) {its lb ll dn : List It} {j : Nat} (h : BkInv t N its lb ll j) (hl : ll ≠ []) (hd : dn.map It.dat = doneOf (runP t N (ll.map It.dat))) : lb.length + dn.length ≤ its.length ∧ j + 1 ≤ its.length := by
  have h1 := blocks_le t N hN its.length (its.map It.dat) (by rw [List.length_map]; exact Nat.le_refl _)
  have hs := blocks_step t N hN (l := ll.map It.dat) (by simpa using hl)
  rw [List.length_map, ← hd] at hs
  rw [h.eq, hs, List.length_map] at h1
  simp only [List.length_append, List.length_map] at h1
  omega
theorem BkInv.done {t : Tr} {N : Nat} {its lb : List It} {j : Nat} (h : BkInv t N its lb [] j) : blocks t N its.length (its.map It.dat) = (lb.map It.dat, j) := by
  rw [h.eq]
  simp [blocks]
set_option maxRecDepth 20000 in
set_option maxHeartbeats 3200000 in
theorem iBlock (w : World) (B : Nat) (A : Option Addr) (n c : Nat) (its : List It) (A2 : Option Addr) (n2 c2 : Nat) (ns : List Nd) (h : InB w B A n its A2 n2 c2 ns) (N : Int) (r : List Int) (P : Int) (hL : BlockP (datN ns) (its.map It.dat) N r P) :
    Calls Tryz.prog 9 #[.slice A n c, .slice A2 n2 c2, .int .i64 N] w fun e w' => (∃ v, e = .returned (.tuple #[v, .int .i64 P]) ∧ OwnI w' w.heap.size v r) ∧ Below w.heap.size w w' := by
  by_cases hN1 : N < 1
  · obtain ⟨rfl, rfl⟩ : r = [] ∧ P = 0 := by
      rcases hL with ⟨t, _, _, h3, _⟩ | ⟨_, h1, h2⟩
      · exact absurd h3.1 (by omega)
      · exact ⟨h1, h2⟩
    clear h hL
    go_enter Tryz.func9, Tryz.ntmps9
    go_wp2
    go_ret2
    exact ⟨⟨_, rfl, ownI_nil _ _⟩, Below.refl _ _⟩
  by_cases hN2 : 16 < N
  · obtain ⟨rfl, rfl⟩ : r = [] ∧ P = 0 := by
      rcases hL with ⟨t, _, _, h3, _⟩ | ⟨_, h1, h2⟩
      · exact absurd h3.2 (by omega)
      · exact ⟨h1, h2⟩
    have hg : decide (N > 16) = true := by simpa using hN2
    clear h hL
    go_enter Tryz.func9, Tryz.ntmps9
    go_wp2
    go_ret2
    exact ⟨⟨_, rfl, ownI_nil _ _⟩, Below.refl _ _⟩
  obtain ⟨m, rfl⟩ : ∃ m : Nat, N = (m : Int) := ⟨N.toNat, by omega⟩
  have hm0 : 0 < m := by omega
  have hm16 : m ≤ 16 := by omega
  have hg : decide ((m : Int) > 16) = false := by simp; omega
  have HC := Lib.hid (iContest w B A n c its A2 n2 c2 ns h)
  have HX : Hid (its.length = n) := Lib.hid h.i.1
  have hn := h.hn
  have HL := Lib.hid hL
  clear h hL
  go_enter Tryz.func9, Tryz.ntmps9
  go_wp2_with fail
  refine HC.out.mono ?_
  rintro e w1 ⟨hout, hb1⟩
  have HB1 := Lib.hid hb1
  clear hb1 HC
  rcases hout with ⟨t, p, g, he, ha, ht, rfl, hct⟩ | ⟨hno, rfl⟩
  · have HLe : Hid (SortP (idsD (blocks t m its.length (its.map It.dat)).1) r ∧ P = ((blocks t m its.length (its.map It.dat)).2 : Nat)) := Lib.hid (by
      rcases HL.out with ⟨t', _, _, _, h4, h5, h6⟩ | ⟨hn', _⟩
      · obtain rfl := h4.one ht
        rw [Int.toNat_natCast, List.length_map] at h5 h6
        exact ⟨h5, h6⟩
      · exact absurd ⟨he, ha, by omega, by omega⟩ hn')
    have HCt := Lib.hid hct
    have H16 : Hid (its.length ≤ 16) := Lib.hid (by have h := ha.2.2; rwa [List.length_map] at h)
    clear he ha ht hct
    go_wp2
    go_loopw [8, 9, 10] (fun bv lv jv wr => ∃ (lb ll : List It) (j : Nat) (A9 : Option Addr) (c9 : Nat), lv = .slice A9 ll.length c9 ∧ jv = .int .i64 j ∧ BkInv t m its lb ll j ∧ OwnG 111 (ctCells p) 3 wr w1.heap.size bv lb ∧ ReadG (ctCells p) 3 wr wr.heap.size A9 ll.length ll ∧ Below w1.heap.size w1 wr) (fun _ lv _ _ => match lv with | .slice _ q _ => q | _ => 0)
    case atStart => exact ⟨[], its, 0, some ⟨g, 0, none⟩, n, by rw [HX.out], rfl, BkInv.start _ _ _, OwnG.nil _ _, by rw [HX.out]; exact HCt.out.r, Below.refl _ _⟩
    case round =>
      obtain ⟨lb, ll, j, A9, c9, rfl, rfl, hinv, hown, hread, hbel⟩ := hrel
      have HI := Lib.hid hinv
      have HO := Lib.hid hown
      have HR := Lib.hid hread
      have HB := Lib.hid hbel
      have hs1 := hinv.small hm0
      have hj16 : j ≤ 16 := by have := H16.out; omega
      obtain ⟨A8, c8, rfl, -, -⟩ := hown.shape
      clear hinv hown hread hbel hs1
      by_cases hl : ll = []
      · subst hl
        have HD := Lib.hid HI.out.done
        have hlb : lb.length ≤ 4194304 := by have h1 := (HI.out.small hm0).1; have h2 := H16.out; omega
        go_wp2_with fail
        refine (iSorted wr p A8 lb.length c8 lb (HO.out.read (ctCells_len p)) hlb).mono ?_
        rintro e w2 ⟨⟨v, s, rfl, hs, ho⟩, hb2⟩
        have HB2 := Lib.hid (below_on HB1.out (below_on HB.out hb2))
        have HO2 := Lib.hid (ownI_lower ho (Nat.le_trans HB1.out.size HB.out.size))
        have HS : Hid (s = r) := Lib.hid (by
          have h := HLe.out.1
          rw [HD.out] at h
          replace h : SortP (idsD (lb.map It.dat)) r := h
          rw [ids_seg] at h
          exact hs.one h (.refl _))
        have HP : Hid (P = (j : Int)) := Lib.hid (by rw [HLe.out.2, HD.out])
        clear hs ho hb2
        go_wp2
        go_ret2
        obtain rfl := HS.out
        obtain rfl := HP.out
        exact ⟨⟨_, rfl, HO2.out⟩, HB2.out⟩
      · have HLl := Lib.hid hl
        have hpos : 0 < ll.length := List.length_pos_iff.2 hl
        have hgt : decide ((ll.length : Int) > 0) = true := by simp; omega
        have hll : ll.length ≤ 1048576 := by have h1 := HI.out.ln; have h2 := H16.out; omega
        clear hl
        go_wp2_with fail
        refine (iPass wr B w.heap.size p t A9 ll.length c9 ll ⟨HR.out, fun u hu => ⟨((HCt.out.step HB.out).x u (HI.out.ml u hu)).1, (HCt.out.x u (HI.out.ml u hu)).2⟩, (HCt.out.step HB.out).t, (HCt.out.step HB.out).hB⟩ hll m (by omega)).mono ?_
        rintro e w2 ⟨⟨v1, v2, dn, ov, rfl, ho1, ho2, hd, hv, md, mo⟩, hb2⟩
        obtain ⟨A1, c1, rfl, -, -⟩ := ho1.shape
        obtain ⟨A3, c3, rfl, -, -⟩ := ho2.shape
        have HB2 := Lib.hid (below_on HB.out hb2)
        have HOb := Lib.hid (HO.out.below hb2)
        have HO1 := Lib.hid ho1
        have HO2 := Lib.hid ho2
        have hroom := HI.out.room hm0 HLl.out hd
        have HI2 := Lib.hid (HI.out.step hm0 HLl.out hd hv md mo)
        have hlt2 : ov.length < ll.length := by
          have h1 := pass_less t m hm0 (l := ll.map It.dat) (by simpa using HLl.out)
          rw [← hv, List.length_map, List.length_map] at h1
          exact h1
        have hsz : w1.heap.size ≤ w2.heap.size := HB2.out.size
        obtain ⟨v', w3, hr, ho3, hg3, hat3⟩ := run_spreadG (ctCells_len p) (ctCells_one p) (ty := 61) (c := c1) Tryz.underlying61 info_ct rfl (by decide) (by decide) HOb.out (HO1.out.read (ctCells_len p)) (by have := H16.out; omega) hsz
        have HO3 := Lib.hid ho3
        have HB3 := Lib.hid (HB2.out.grown hg3 hsz (fun k hk => HOb.out.lows k hk))
        have HV3 := Lib.hid (HO2.out.apart (fun b h1 h2 => by
          have q1 := HO2.out.lows b h1
          have q2 := HO.out.tops b h2
          omega) hg3)
        have hj1 : j + 1 ≤ 16 := by have := H16.out; omega
        clear ho1 ho2 hd hv md mo hb2 ho3 hg3 hat3 hroom
        go_wp2_with (at_builtin; refine Go.Lib.wpList_append_run_sl _ (by rfl) (.tmp 30) (.tmp 31) 61 (by rfl) _ _ (by rfl) (by rfl) hr ?_)
        clear hr
        go_wp2
        go_roundw
        case rel => exact ⟨_, ov, j + 1, A3, c3, rfl, by go_num, HI2.out, HO3.out, HV3.out.read (ctCells_len p), HB3.out⟩
        case measure => simpa using hlt2
  · have HLe : Hid (r = [] ∧ P = 0) := Lib.hid (by
      rcases HL.out with ⟨t', h1, h2, _⟩ | ⟨_, h⟩
      · exact absurd ⟨h1, h2⟩ hno
      · exact h)
    obtain ⟨rfl, rfl⟩ := HLe.out
    clear hno HL HLe
    go_wp2
    go_loopw [8, 9, 10] (fun bv lv jv wr => bv = .slice none 0 0 ∧ lv = .slice none 0 0 ∧ jv = .int .i64 0 ∧ wr = w1) (fun _ _ _ _ => 0)
    case atStart => exact ⟨rfl, rfl, rfl, rfl⟩
    case round =>
      obtain ⟨rfl, rfl, rfl, rfl⟩ := hrel
      go_wp2_with fail
      refine (iSorted wr 0 none 0 0 [] (ReadG.nil _ _ _) (by omega)).mono ?_
      rintro e w2 ⟨⟨v, s, rfl, hs, ho⟩, hb2⟩
      have HB2 := Lib.hid (below_on HB1.out hb2)
      obtain rfl : s = [] := List.eq_nil_of_length_eq_zero hs.len
      have HO2 := Lib.hid (ownI_lower ho HB1.out.size)
      clear hs ho hb2
      go_wp2
      go_ret2
      exact ⟨⟨_, rfl, HO2.out⟩, HB2.out⟩
end Go.Proofs.YtclpnhdpojkjpaaGreat.num
namespace Go.Proofs.YtclpnhdpojkjpaaGreat.num
set_option maxRecDepth 20000
open Go.RowKit
set_option linter.unusedVariables false
set_option linter.unusedSimpArgs false

theorem findD_id {ds : List Dt} {x : Int} {d : Dt} (h : findD ds x = some d) : d.1 = x := by
  unfold findD at h
  simpa using List.find?_some h
set_option maxRecDepth 20000 in
set_option maxHeartbeats 1600000 in
theorem iPick (w : World) (p : Nat) (A : Option Addr) (n c : Nat) (its : List It) (h : ReadG (ctCells p) 3 w w.heap.size A n its) (hn : n ≤ 1048576) (Bi : Nat) (Ai : Option Addr) (ni ci : Nat) (xs : List Int) (hi : Ints w Bi Ai ni xs) (hBi : Bi ≤ w.heap.size) (hni : ni ≤ 1048576) :
    Calls Tryz.prog 50 #[.slice A n c, .slice Ai ni ci] w fun e w' => ((∃ v l, Known (its.map It.dat) xs ∧ e = .returned (.tuple #[v, .bool true]) ∧ OwnG 111 (ctCells p) 3 w' w.heap.size v l ∧ idL l = xs ∧ ∀ u ∈ l, u ∈ its) ∨ (¬ Known (its.map It.dat) xs ∧ e = .returned (.tuple #[.slice none 0 0, .bool false]))) ∧ Below w.heap.size w w' := by
  have HF : Hid (∀ W, Below w.heap.size w W → ∀ x0 : Int, Calls Tryz.prog 83 #[.slice A n c, .int .i64 x0] W fun e w' => ((∃ x, x ∈ its ∧ findD (its.map It.dat) x0 = some x.dat ∧ e = .returned (.tuple #[.agg #[.int .i64 x.id, .slice x.A x.n x.c, .pointer (some ⟨p, 0, none⟩)], .bool true])) ∨ (findD (its.map It.dat) x0 = none ∧ e = .returned (.tuple #[.agg #[.int .i64 0, .slice none 0 0, .pointer none], .bool false]))) ∧ Below W.heap.size W w') := Lib.hid fun W hW x0 => ctFind W p A n c its ((h.below hW).more hW.size) hn x0
  have HX := Lib.hid hi
  clear h
  have hmk := make_ct ni hni w
  go_enter Tryz.func50, Tryz.ntmps50
  go_wp2
  clear hmk
  obtain ⟨g, hg⟩ : ∃ g, g = w.heap.size := ⟨_, rfl⟩
  have HR0 : Hid ((w.alloc (.cells (madeCells #[.int .i64 0, .slice none 0 0, .pointer none] (ni * 3)) 111)).rowIs g 111 (ni * 3) (ctCell p [])) := Lib.hid (hg ▸ made_ct w ni p)
  have HW0 : Hid (Below w.heap.size w (w.alloc (.cells (madeCells #[.int .i64 0, .slice none 0 0, .pointer none] (ni * 3)) 111))) := Lib.hid ((Below.refl _ _).alloc (Nat.le_refl _) _)
  rw [← hg]
  generalize (w.alloc (.cells (madeCells #[.int .i64 0, .slice none 0 0, .pointer none] (ni * 3)) 111)) = w3 at *
  have HG := Lib.hid hg
  clear hg
  go_loopw [16] (fun i wr => ∃ (k : Nat) (l : List It), k ≤ ni ∧ i = .int .i64 k ∧ wr.rowIs g 111 (ni * 3) (ctCell p l) ∧ idL l = xs.take k ∧ (∀ u ∈ l, u ∈ its) ∧ (∀ x ∈ xs.take k, findD (its.map It.dat) x ≠ none) ∧ Below w.heap.size w wr) (fun i _ => ni - (intOf i).toNat)
  case atStart => exact ⟨0, [], Nat.zero_le _, rfl, HR0.out, rfl, by simp, by simp, HW0.out⟩
  case round =>
    obtain ⟨k, l, hk, rfl, hrow, hid, hml, hall, hbel⟩ := hrel
    have HR := Lib.hid hrow
    have HB := Lib.hid hbel
    have HId := Lib.hid hid
    have HMl := Lib.hid hml
    have HAl := Lib.hid hall
    clear hid hml hall
    by_cases hlt : k < ni
    · obtain ⟨b, off, x, rfl, hb, hat, hc⟩ := HX.out.at k hlt
      have f0 := (hbel.cell (p := ⟨b, off + k, none⟩) (Nat.lt_of_lt_of_le hb hBi)).trans hc
      have HAt := Lib.hid hat
      have hlt' : (k : Int) < (ni : Int) := by omega
      have hk0 : (0 : Int) ≤ (k : Int) := by omega
      have hgw : g < wr.heap.size := World.rowIs.lt hrow
      clear hat hc hrow hbel
      go_wp2_with fail
      refine (HF.out _ HB.out x).mono ?_
      rintro e w2 ⟨hcase, hb2⟩
      have HB2 := Lib.hid (below_on HB.out hb2)
      have HR2 : Hid (w2.rowIs g 111 (ni * 3) (ctCell p l)) := Lib.hid (by
        obtain ⟨cur, h1, h2⟩ := HR.out
        exact ⟨cur, (hb2.block g hgw).trans h1, h2⟩)
      clear hb2 f0
      rcases hcase with ⟨y, hy, hf, rfl⟩ | ⟨hf, rfl⟩
      · have HY := Lib.hid (And.intro hy hf)
        have hlk : l.length = k := by
          have h1 : (idL l).length = (xs.take k).length := by rw [HId.out]
          rw [idL_len, List.length_take, HX.out.1] at h1
          omega
        have HLk := Lib.hid hlk
        have hz := ctCell_zero (p := p) hlk
        have hrow := HR2.out
        have g0 : w2.cell? ⟨g, k * 3, none⟩ = some (.int .i64 0) := by rw [World.rowIs.cell hrow (by omega), hz.1]
        have g1 : w2.cell? ⟨g, k * 3 + 1, none⟩ = some (.slice none 0 0) := by rw [World.rowIs.cell hrow (by omega), hz.2.1]
        have g2 : w2.cell? ⟨g, k * 3 + 2, none⟩ = some (.pointer none) := by rw [World.rowIs.cell hrow (by omega), hz.2.2]
        have z0 := World.rowIs.frozen hrow (k * 3)
        have z1 := World.rowIs.frozen hrow (k * 3 + 1)
        have z2 := World.rowIs.frozen hrow (k * 3 + 2)
        have hgl := World.rowIs.lt HR2.out
        have hsz := Lib.hid HB2.out.size
        have hne : ¬ g = w2.heap.size := by omega
        have hne' : ¬ w2.heap.size = g := by omega
        clear hrow hy hf hlk hz
        go_wp2
        go_roundw
        case rel =>
          refine ⟨k + 1, l ++ [y], by omega, by go_num, ?_, ?_, ?_, ?_, ?_⟩
          · exact (World.rowIs.alloc (World.rowIs.set (World.rowIs.set (World.rowIs.set HR2.out (k * 3) (.int .i64 y.id)) (k * 3 + 1) (.slice y.A y.n y.c)) (k * 3 + 2) (.pointer (some ⟨p, 0, none⟩))) _).congr (fun j _ => ctCell_snoc HLk.out y j)
          · rw [take_at HAt.out, ← HId.out, ← findD_id HY.out.2]
            unfold idL
            rw [List.map_append]
            rfl
          · exact sub_snoc HMl.out HY.out.1
          · rw [take_at HAt.out]
            intro z hz
            rcases List.mem_append.1 hz with hz | hz
            · exact HAl.out z hz
            · rw [List.mem_singleton.1 hz, HY.out.2]; exact fun h => by cases h
          · exact (((HB2.out.setCell (by rw [HG.out]; exact Nat.le_refl _) _).setCell (by rw [HG.out]; exact Nat.le_refl _) _).setCell (by rw [HG.out]; exact Nat.le_refl _) _).alloc (by simp [World.setCell]; exact hsz.out) _
        case measure => simp [intOf]; omega
      · have HN : Hid (¬ Known (its.map It.dat) xs) := Lib.hid fun h => h x (mem_of_at HAt.out) hf
        have hsz := Lib.hid HB2.out.size
        clear hf
        go_wp2
        go_ret2
        exact ⟨.inr ⟨HN.out, rfl⟩, HB2.out.alloc hsz.out _⟩
    · obtain rfl : k = ni := by omega
      have HKn : Hid (Known (its.map It.dat) xs) := Lib.hid (by have h := HAl.out; rwa [take_all HX.out.1] at h)
      have HIe : Hid (idL l = xs) := Lib.hid (by have h := HId.out; rwa [take_all HX.out.1] at h)
      clear hrow hbel
      go_wp2
      go_ret2
      refine ⟨.inl ⟨_, l, HKn.out, rfl, ?_, HIe.out, HMl.out⟩, HB.out⟩
      have hlk : l.length = k := by rw [← idL_len, HIe.out, HX.out.1]
      exact OwnG.of_row (ctCells_len p) (by rw [HG.out]; exact Nat.le_refl _) hlk (Nat.le_refl _) (by unfold maxLen; omega) HR.out fun j hj => cellG_own (ctCells_len p) zC hlk hj
set_option maxRecDepth 20000 in
set_option maxHeartbeats 1600000 in
theorem iMergeC (w : World) (p : Nat) (A1 : Option Addr) (n1 c1 : Nat) (l1 : List It) (A2 : Option Addr) (n2 c2 : Nat) (l2 : List It) (h1 : ReadG (ctCells p) 3 w w.heap.size A1 n1 l1) (h2 : ReadG (ctCells p) 3 w w.heap.size A2 n2 l2) (hn1 : n1 ≤ 2097152) (hn2 : n2 ≤ 2097152) (f1 f2 : It → Bool)
    (H1 : ∀ W, Below w.heap.size w W → ∀ u ∈ l1, Calls Tryz.prog 69 #[.slice A2 n2 c2, ctV p u] W fun e w' => e = .returned (.bool (f1 u)) ∧ Below W.heap.size W w')
    (H2 : ∀ W, Below w.heap.size w W → ∀ u ∈ l2, Calls Tryz.prog 69 #[.slice A1 n1 c1, ctV p u] W fun e w' => e = .returned (.bool (f2 u)) ∧ Below W.heap.size W w') :
    Calls Tryz.prog 51 #[.slice A1 n1 c1, .slice A2 n2 c2] w fun e w' => (∃ v, e = .returned v ∧ OwnG 111 (ctCells p) 3 w' w.heap.size v (l1.filter f1 ++ l2.filter f2)) ∧ Below w.heap.size w w' := by
  have HW1 := Lib.hid (ctWhereB w p A1 n1 c1 l1 h1 hn1 (.slice A2 n2 c2) f1 H1)
  have HW2 : Hid (∀ W, Below w.heap.size w W → Calls Tryz.prog 84 #[.slice A2 n2 c2, .func (.func 69) #[.slice A1 n1 c1] #[]] W fun e w' => (∃ v, e = .returned v ∧ OwnG 111 (ctCells p) 3 w' W.heap.size v (l2.filter f2)) ∧ Below W.heap.size W w') := Lib.hid fun W hW =>
    ctWhereB W p A2 n2 c2 l2 ((h2.below hW).more hW.size) hn2 (.slice A1 n1 c1) f2 fun W' hW' u hu => H2 W' (below_on hW hW') u hu
  have HL : Hid ((l1.filter f1).length ≤ 2097152 ∧ (l2.filter f2).length ≤ 2097152) := Lib.hid (by
    have q1 : (l1.filter f1).length ≤ l1.length := List.length_filter_le _ _
    have q2 : (l2.filter f2).length ≤ l2.length := List.length_filter_le _ _
    have e1 := h1.len
    have e2 := h2.len
    omega)
  clear h1 h2 H1 H2
  go_enter Tryz.func51, Tryz.ntmps51
  go_wp2_with fail
  refine HW1.out.mono ?_
  rintro e w1 ⟨⟨v1, rfl, ho1⟩, hb1⟩
  obtain ⟨A3, c3, rfl, -, -⟩ := ho1.shape
  have HB1 := Lib.hid hb1
  have HO1 := Lib.hid ho1
  clear ho1 hb1 HW1
  go_wp2_with fail
  refine (HW2.out _ HB1.out).mono ?_
  rintro e w2 ⟨⟨v2, rfl, ho2⟩, hb2⟩
  obtain ⟨A4, c4, rfl, -, -⟩ := ho2.shape
  have HB2 := Lib.hid (below_on HB1.out hb2)
  have HO1b := Lib.hid (HO1.out.below hb2)
  have HO2 := Lib.hid ho2
  have HBa : Hid (Below w2.heap.size w2 (w2.alloc (.cells #[.slice A3 (l1.filter f1).length c3, .slice A4 (l2.filter f2).length c4] 61))) := Lib.hid ((Below.refl _ _).alloc (Nat.le_refl _) _)
  have HP1 := Lib.hid (HO1b.out.below HBa.out)
  have HP2 := Lib.hid (HO2.out.below HBa.out)
  clear ho2 hb2 HW2
  go_wp2_with fail
  refine (concatC p _ (w2.alloc (.cells #[.slice A3 (l1.filter f1).length c3, .slice A4 (l2.filter f2).length c4] 61)).heap.size w2.heap.size 2 A3 A4 (l1.filter f1).length (l2.filter f2).length c3 c4 (l1.filter f1) (l2.filter f2) (HP1.out.read (ctCells_len p)) (HP2.out.read (ctCells_len p)) (Nat.le_refl _) (by simp) (by have q := HL.out; omega) (World.cell?_alloc_at _ _ _ _ rfl) (World.cell?_alloc_at _ _ _ _ rfl)).mono ?_
  rintro e w3 ⟨v3, rfl, ho3, hb3⟩
  have HB3 := Lib.hid (below_on HB2.out (below_on HBa.out hb3))
  have HO3 := Lib.hid (ho3.low (B' := w.heap.size) (Nat.le_trans HB2.out.size HBa.out.size))
  clear ho3 hb3
  go_wp2
  go_ret
  exact ⟨⟨_, rfl, HO3.out⟩, HB3.out⟩
theorem merge_ids {ds : List Dt} {its : List It} (hd : ds = its.map It.dat) (ha : AreP ds) (t : Tr) {l1 l2 : List It} (h1 : ∀ u ∈ l1, u ∈ its) (h2 : ∀ u ∈ l2, u ∈ its) : idL (l1.filter (fun u => bestB t (l2.map It.dat) u.dat) ++ l2.filter (fun u => bestB t (l1.map It.dat) u.dat)) = mergeL t ds (idL l1) (idL l2) := by
  subst hd
  have e : ∀ {l m : List It}, (∀ u ∈ l, u ∈ its) → (∀ u ∈ m, u ∈ its) → idL (l.filter fun u => bestB t (m.map It.dat) u.dat) = (idL l).filter (fun i => !(idL m).any fun k => btI t (its.map It.dat) k i) := fun {l m} hl hm => by
    rw [← ids_seg, ← ids_seg, ← ids_seg, filt_ids ha t (fun x hx => by obtain ⟨u, hu, rfl⟩ := List.mem_map.1 hx; exact List.mem_map_of_mem (hl u hu)) (fun x hx => by obtain ⟨u, hu, rfl⟩ := List.mem_map.1 hx; exact List.mem_map_of_mem (hm u hu)), List.filter_map]
    congr 2
    apply List.filter_congr
    intro u hu
    rw [bestB_any]
    simp only [Function.comp, List.any_map]
    rfl
  unfold mergeL
  rw [← e h1 h2, ← e h2 h1]
  unfold idL
  rw [List.map_append]
set_option maxRecDepth 20000 in
set_option maxHeartbeats 3200000 in
theorem iMergeBest (w : World) (B : Nat) (A : Option Addr) (n c : Nat) (its : List It) (A2 : Option Addr) (n2 c2 : Nat) (ns : List Nd) (h : InB w B A n its A2 n2 c2 ns)
    (Aa : Option Addr) (na ca : Nat) (xa : List Int) (hxa : Ints w w.heap.size Aa na xa) (hna : na ≤ 1048576)
    (Ab : Option Addr) (nb cb : Nat) (xb : List Int) (hxb : Ints w w.heap.size Ab nb xb) (hnb : nb ≤ 1048576)
    (L : List Int) (hL : MergeP (datN ns) (its.map It.dat) xa xb L) :
    Calls Tryz.prog 17 #[.slice A n c, .slice A2 n2 c2, .slice Aa na ca, .slice Ab nb cb] w fun e w' => (∃ v, e = .returned v ∧ OwnI w' w.heap.size v L) ∧ Below w.heap.size w w' := by
  have HC := Lib.hid (iContest w B A n c its A2 n2 c2 ns h)
  have HXa := Lib.hid hxa
  have HXb := Lib.hid hxb
  have hn := h.hn
  have HL := Lib.hid hL
  clear h hL hxa hxb
  go_enter Tryz.func17, Tryz.ntmps17
  go_wp2_with fail
  refine HC.out.mono ?_
  rintro e w1 ⟨hout, hb1⟩
  have HB1 := Lib.hid hb1
  clear hb1 HC
  -- the contest, or none
  obtain ⟨p, A9, n9, its9, hev, hr9, hn9, hok⟩ : ∃ (p : Nat) (A9 : Option Addr) (n9 : Nat) (its9 : List It), e = .returned (.slice A9 n9 n9) ∧ ReadG (ctCells p) 3 w1 w1.heap.size A9 n9 its9 ∧ n9 ≤ 1048576 ∧
      ((its9 = [] ∧ L = []) ∨ ∃ t, IsE (datN ns) ∧ AreP (its.map It.dat) ∧ Post (datN ns) t ∧ its = its9 ∧ CtIn w1 B w.heap.size p t A9 n9 its) := by
    rcases hout with ⟨t, p, g, he, ha, ht, rfl, hct⟩ | ⟨hno, rfl⟩
    · exact ⟨p, some ⟨g, 0, none⟩, n, its, rfl, hct.r, hn, .inr ⟨t, he, ha, ht, rfl, hct⟩⟩
    · refine ⟨0, none, 0, [], rfl, ReadG.nil _ _ _, by omega, .inl ⟨rfl, ?_⟩⟩
      rcases HL.out with ⟨t, g1, g2, _⟩ | ⟨_, g⟩
      · exact absurd ⟨g1, g2⟩ hno
      · exact g
  subst hev
  have HR9 := Lib.hid hr9
  have HOk := Lib.hid hok
  clear hout hr9 hok
  go_wp2_with fail
  refine (iPick w1 p A9 n9 n9 its9 HR9.out hn9 w.heap.size Aa na ca xa (HXa.out.below HB1.out) HB1.out.size hna).mono ?_
  rintro e w2 ⟨hca, hb2⟩
  have HB2 := Lib.hid (below_on HB1.out hb2)
  have HR92 := Lib.hid ((HR9.out.below hb2).more hb2.size)
  have HBa := Lib.hid hb2
  clear hb2
  obtain ⟨va, la, qa, hea, hoa, hka⟩ : ∃ (va : Value) (la : List It) (qa : Bool), e = .returned (.tuple #[va, .bool qa]) ∧ OwnG 111 (ctCells p) 3 w2 w1.heap.size va la ∧ ((qa = true ∧ Known (its9.map It.dat) xa ∧ idL la = xa ∧ ∀ u ∈ la, u ∈ its9) ∨ (qa = false ∧ ¬ Known (its9.map It.dat) xa)) := by
    rcases hca with ⟨v, l, g1, rfl, g2, g3, g4⟩ | ⟨g1, rfl⟩
    · exact ⟨v, l, true, rfl, g2, .inl ⟨rfl, g1, g3, g4⟩⟩
    · exact ⟨.slice none 0 0, [], false, rfl, OwnG.nil _ _, .inr ⟨rfl, g1⟩⟩
  subst hea
  have HOa := Lib.hid hoa
  have HKa := Lib.hid hka
  clear hca hoa hka
  go_wp2_with fail
  refine (iPick w2 p A9 n9 n9 its9 HR92.out hn9 w.heap.size Ab nb cb xb (HXb.out.below HB2.out) HB2.out.size hnb).mono ?_
  rintro e w3 ⟨hcb, hb3⟩
  have HB3 := Lib.hid (below_on HB2.out hb3)
  have HB13 := Lib.hid (below_on HBa.out hb3)
  have HOa3 := Lib.hid (HOa.out.below hb3)
  clear hb3
  obtain ⟨vb, lb, qb, heb, hob, hkb⟩ : ∃ (vb : Value) (lb : List It) (qb : Bool), e = .returned (.tuple #[vb, .bool qb]) ∧ OwnG 111 (ctCells p) 3 w3 w2.heap.size vb lb ∧ ((qb = true ∧ Known (its9.map It.dat) xb ∧ idL lb = xb ∧ ∀ u ∈ lb, u ∈ its9) ∨ (qb = false ∧ ¬ Known (its9.map It.dat) xb)) := by
    rcases hcb with ⟨v, l, g1, rfl, g2, g3, g4⟩ | ⟨g1, rfl⟩
    · exact ⟨v, l, true, rfl, g2, .inl ⟨rfl, g1, g3, g4⟩⟩
    · exact ⟨.slice none 0 0, [], false, rfl, OwnG.nil _ _, .inr ⟨rfl, g1⟩⟩
  subst heb
  have HOb3 := Lib.hid hob
  have HKb := Lib.hid hkb
  clear hcb hob hkb
  have HNo : Hid (¬ (Known (its9.map It.dat) xa ∧ Known (its9.map It.dat) xb) → L = []) := Lib.hid fun hh => by
    rcases HOk.out with ⟨_, g⟩ | ⟨t, _, _, _, rfl, _⟩
    · exact g
    · rcases HL.out with ⟨_, _, _, g3, g4, _⟩ | ⟨_, g⟩
      · exact absurd ⟨g3, g4⟩ hh
      · exact g
  cases qa
  · have HLn := Lib.hid (HNo.out fun hh => by
      rcases HKa.out with ⟨g, _⟩ | ⟨_, g⟩
      · cases g
      · exact g hh.1)
    obtain rfl := HLn.out
    go_wp2
    go_ret
    exact ⟨⟨_, rfl, ownI_nil _ _⟩, HB3.out⟩
  cases qb
  · have HLn := Lib.hid (HNo.out fun hh => by
      rcases HKb.out with ⟨g, _⟩ | ⟨_, g⟩
      · cases g
      · exact g hh.2)
    obtain rfl := HLn.out
    go_wp2
    go_ret
    exact ⟨⟨_, rfl, ownI_nil _ _⟩, HB3.out⟩
  obtain ⟨ka, ida, ma⟩ : Known (its9.map It.dat) xa ∧ idL la = xa ∧ ∀ u ∈ la, u ∈ its9 := by
    rcases HKa.out with ⟨_, g⟩ | ⟨g, _⟩
    · exact g
    · cases g
  obtain ⟨kb, idb, mb⟩ : Known (its9.map It.dat) xb ∧ idL lb = xb ∧ ∀ u ∈ lb, u ∈ its9 := by
    rcases HKb.out with ⟨_, g⟩ | ⟨g, _⟩
    · exact g
    · cases g
  obtain ⟨A5, c5, rfl, -, -⟩ := HOa3.out.shape
  obtain ⟨A6, c6, rfl, -, -⟩ := HOb3.out.shape
  have hla : la.length ≤ 1048576 := by rw [← idL_len, ida, HXa.out.1]; exact hna
  have hlb : lb.length ≤ 1048576 := by rw [← idL_len, idb, HXb.out.1]; exact hnb
  have HRa := Lib.hid (HOa3.out.read (ctCells_len p))
  have HRb := Lib.hid (HOb3.out.read (ctCells_len p))
  -- the two contests joined
  have HM : Hid (∃ l3 : List It, SortP (idL l3) L ∧ l3.length ≤ 4194304 ∧ Calls Tryz.prog 51 #[.slice A5 la.length c5, .slice A6 lb.length c6] w3 fun e w' => (∃ v, e = .returned v ∧ OwnG 111 (ctCells p) 3 w' w3.heap.size v l3) ∧ Below w3.heap.size w3 w') := Lib.hid (by
    rcases HOk.out with ⟨g1, g2⟩ | ⟨t, he, ha, ht, rfl, hct⟩
    · subst g1 g2
      obtain rfl : la = [] := List.eq_nil_iff_forall_not_mem.2 fun u hu => absurd (ma u hu) (by simp)
      obtain rfl : lb = [] := List.eq_nil_iff_forall_not_mem.2 fun u hu => absurd (mb u hu) (by simp)
      exact ⟨[], ⟨List.Pairwise.nil, .refl _⟩, by simp, iMergeC w3 p A5 0 c5 [] A6 0 c6 [] (ReadG.nil _ _ _) (ReadG.nil _ _ _) (by omega) (by omega) (fun _ => false) (fun _ => false) (fun W hW u hu => absurd hu (by simp)) (fun W hW u hu => absurd hu (by simp))⟩
    · refine ⟨la.filter (fun u => bestB t (lb.map It.dat) u.dat) ++ lb.filter (fun u => bestB t (la.map It.dat) u.dat), ?_, ?_, ?_⟩
      · rw [merge_ids rfl ha t ma mb, ida, idb]
        rcases HL.out with ⟨t', _, _, _, _, g5, g6⟩ | ⟨g, _⟩
        · rwa [ht.one g5]
        · exact absurd ⟨he, ha, ka, kb⟩ g
      · have q1 : (la.filter fun u => bestB t (lb.map It.dat) u.dat).length ≤ la.length := List.length_filter_le _ _
        have q2 : (lb.filter fun u => bestB t (la.map It.dat) u.dat).length ≤ lb.length := List.length_filter_le _ _
        rw [List.length_append]
        omega
      · have hc3 := hct.step HB13.out
        have cin : ∀ W, Below w3.heap.size w3 W → ∀ (A' : Option Addr) (l : List It), ReadG (ctCells p) 3 w3 w3.heap.size A' l.length l → (∀ u ∈ l, u ∈ its) → CtIn W B w.heap.size p t A' l.length l := fun W hW A' l hr hm => CtIn.step ⟨hr, fun u hu => hc3.x u (hm u hu), hc3.t, hc3.hB⟩ hW
        exact iMergeC w3 p A5 la.length c5 la A6 lb.length c6 lb HRa.out HRb.out (by omega) (by omega) _ _
          (fun W hW u hu => iBestOf W B w.heap.size p t A6 lb.length c6 lb (cin W hW A6 lb HRb.out mb) hlb u ((cin W hW A5 la HRa.out ma).x u hu).1 ((cin W hW A5 la HRa.out ma).x u hu).2)
          (fun W hW u hu => iBestOf W B w.heap.size p t A5 la.length c5 la (cin W hW A5 la HRa.out ma) hla u ((cin W hW A6 lb HRb.out mb).x u hu).1 ((cin W hW A6 lb HRb.out mb).x u hu).2))
  obtain ⟨l3, hs3, hl3, hc3⟩ := HM.out
  have HS3 := Lib.hid hs3
  have HC3 := Lib.hid hc3
  clear ka ida ma kb idb mb hs3 hc3 HM HKa HKb HNo HOk HL hla hlb
  go_wp2_with fail
  refine HC3.out.mono ?_
  rintro e w4 ⟨⟨v4, rfl, ho4⟩, hb4⟩
  obtain ⟨A7, c7, rfl, -, -⟩ := ho4.shape
  have HB4 := Lib.hid (below_on HB3.out hb4)
  have HO4 := Lib.hid ho4
  clear ho4 hb4
  go_wp2_with fail
  refine (iSorted w4 p A7 l3.length c7 l3 (HO4.out.read (ctCells_len p)) hl3).mono ?_
  rintro e w5 ⟨⟨v5, s, rfl, hs, ho5⟩, hb5⟩
  have HB5 := Lib.hid (below_on HB4.out hb5)
  have HO5 := Lib.hid (ownI_lower ho5 HB4.out.size)
  have HSs : Hid (s = L) := Lib.hid (hs.one HS3.out (.refl _))
  clear hs ho5 hb5
  go_wp2
  go_ret
  obtain rfl := HSs.out
  exact ⟨⟨_, rfl, HO5.out⟩, HB5.out⟩
end Go.Proofs.YtclpnhdpojkjpaaGreat.num
