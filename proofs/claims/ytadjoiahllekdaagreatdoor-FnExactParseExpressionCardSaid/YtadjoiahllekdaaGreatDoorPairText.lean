/-
  The text of pairs, and pairs read back from it. Plain mathematics.
-/
import Derived.Test.YtadjoiahllekdaaGreatDoorPairSpecC
import Derived.Test.YtadjoiahllekdaaGreatDoorPieceMath
namespace Go.Proofs.YtadjoiahllekdaaGreatDoor.num
set_option maxRecDepth 20000
open Go.RowKit
set_option linter.unusedVariables false
set_option linter.unusedSimpArgs false

def pairT (p : Int × Int) : List UInt8 := Lib.itoa p.1 ++ 62 :: Lib.itoa p.2
def noneT : List UInt8 := [110, 111, 110, 101]
def pairsT (ps : List (Int × Int)) : List UInt8 := if ps = [] then noneT else Lib.join (ps.map pairT) [44]
/-- What FormatPairs answers. -/
def fmtP (ps : List (Int × Int)) (q : Bool) : ByteArray := if q then ⟨(pairsT ps).toArray⟩ else ⟨#[]⟩
theorem inR2 {n : Int} (h : InR n) : 0 ≤ n ∧ n ≤ 99 := by unfold InR at h; omega
theorem itoa_small {n : Int} (h : InR n) : (Lib.itoa n).length ≤ 2 := by
  have := fmt_small n (inR2 h).1 (inR2 h).2
  simpa [fmtB, ByteArray.size] using this
theorem pairT_len {p : Int × Int} (h : InR p.1 ∧ InR p.2) : (pairT p).length ≤ 5 := by
  have h1 := itoa_small h.1
  have h2 := itoa_small h.2
  simp only [pairT, List.length_append, List.length_cons]
  omega
theorem pieces62 {p : Int × Int} (h : InR p.1 ∧ InR p.2) : pieces 62 (pairT p) = [Lib.itoa p.1, Lib.itoa p.2] := by
  unfold pairT
  rw [pieces_app (itoa_not h.1.1 62 (by decide)), pieces_none (itoa_not h.2.1 62 (by decide))]
theorem cut62 {p : Int × Int} (h : InR p.1 ∧ InR p.2) : Lib.cut (pairT p) [62] = (Lib.itoa p.1, Lib.itoa p.2, true) := cut_app (itoa_not h.1.1 62 (by decide))
theorem pairT_not {p : Int × Int} (h : InR p.1 ∧ InR p.2) : ∀ x ∈ pairT p, x ≠ 44 := fun x hx => by
  unfold pairT at hx
  rcases List.mem_append.1 hx with hx | hx
  · exact itoa_not h.1.1 44 (by decide) x hx
  · rcases List.mem_cons.1 hx with rfl | hx
    · decide
    · exact itoa_not h.2.1 44 (by decide) x hx
theorem pieces44 : ∀ {ps : List (Int × Int)}, ps ≠ [] → (∀ p, p ∈ ps → InR p.1 ∧ InR p.2) → pieces 44 (Lib.join (ps.map pairT) [44]) = ps.map pairT
  | [], h, _ => absurd rfl h
  | [p], _, h => by
    rw [List.map_cons, List.map_nil, Lib.join_one]
    exact pieces_none (pairT_not (h p (by simp)))
  | p :: p' :: r, _, h => by
    have ih := pieces44 (ps := p' :: r) (by simp) fun x hx => h x (List.mem_cons_of_mem _ hx)
    rw [List.map_cons] at ih
    rw [List.map_cons, List.map_cons, join_cons2, pieces_app (pairT_not (h p (by simp))), ih]
theorem pairsT_pieces {ps : List (Int × Int)} (hn : ps ≠ []) (h : ∀ p, p ∈ ps → InR p.1 ∧ InR p.2) : pieces 44 (pairsT ps) = ps.map pairT := by
  unfold pairsT
  rw [if_neg hn]
  exact pieces44 hn h
theorem join_snoc (a : List UInt8) (c : UInt8) : ∀ l : List (List UInt8), l ≠ [] → Lib.join (l ++ [a]) [c] = Lib.join l [c] ++ c :: a
  | [], h => absurd rfl h
  | [b], _ => by
    show Lib.join (b :: a :: []) [c] = _
    rw [join_cons2, Lib.join_one, Lib.join_one]
  | b :: d :: r, _ => by
    have ih := join_snoc a c (d :: r) (by simp)
    show Lib.join (b :: d :: (r ++ [a])) [c] = _
    rw [join_cons2, join_cons2]
    rw [List.cons_append] at ih
    rw [ih]
    simp

/-! ### the model's text, pair by pair -/
def preP (ps : List (Int × Int)) (k : Nat) : ByteArray := ⟨(Lib.join ((ps.take k).map pairT) [44]).toArray⟩
theorem preP_zero (ps : List (Int × Int)) : preP ps 0 = ⟨#[]⟩ := rfl
theorem preP_list (ps : List (Int × Int)) (k : Nat) : (preP ps k).data.toList = Lib.join ((ps.take k).map pairT) [44] := rfl
theorem preP_one {ps : List (Int × Int)} {x y : Int} (h : ps[0]? = some (x, y)) : ((⟨#[]⟩ : ByteArray) ++ fmtB x ++ ⟨#[62]⟩ ++ fmtB y) = preP ps 1 := by
  apply bytes_ext
  rw [preP_list, ptake_at (k := 0) h]
  simp [Lib.join_one, pairT, fmtB, ByteArray.data_append]
theorem preP_step {ps : List (Int × Int)} {k : Nat} {x y : Int} (hk : 0 < k) (h : ps[k]? = some (x, y)) : (preP ps k ++ ⟨#[44]⟩ ++ fmtB x ++ ⟨#[62]⟩ ++ fmtB y) = preP ps (k + 1) := by
  have hlt : k < ps.length := by
    rcases Nat.lt_or_ge k ps.length with h' | h'
    · exact h'
    · rw [List.getElem?_eq_none h'] at h; cases h
  apply bytes_ext
  rw [preP_list, ptake_at h, List.map_append, List.map_cons, List.map_nil, join_snoc _ _ _ (by
    intro e
    have := congrArg List.length e
    rw [List.length_map, List.length_take, List.length_nil] at this
    omega)]
  simp [preP_list, pairT, fmtB, ByteArray.data_append]
theorem join_le {m : Nat} (c : UInt8) : ∀ l : List (List UInt8), (∀ x, x ∈ l → x.length ≤ m) → (Lib.join l [c]).length ≤ (m + 1) * l.length
  | [], _ => by simp [Lib.join_nil]
  | [a], h => by
    rw [Lib.join_one]
    have := h a (by simp)
    simp only [List.length_cons, List.length_nil]
    omega
  | a :: b :: r, h => by
    have ih := join_le c (b :: r) fun x hx => h x (List.mem_cons_of_mem _ hx)
    have := h a (by simp)
    rw [join_cons2, List.length_append, List.length_cons]
    simp only [List.length_cons] at ih ⊢
    have hm : (m + 1) * (r.length + 1 + 1) = (m + 1) * (r.length + 1) + (m + 1) := Nat.mul_succ _ _
    omega
theorem preP_small {ps : List (Int × Int)} (h : ∀ p, p ∈ ps → InR p.1 ∧ InR p.2) (k : Nat) : (preP ps k).size ≤ 6 * k := by
  have h1 := join_le (m := 5) 44 ((ps.take k).map pairT) fun x hx => by
    obtain ⟨p, hp, rfl⟩ := List.mem_map.1 hx
    exact pairT_len (h p (List.mem_of_mem_take hp))
  have h2 : (preP ps k).size = (Lib.join ((ps.take k).map pairT) [44]).length := by simp [preP, ByteArray.size]
  rw [List.length_map, List.length_take] at h1
  omega
theorem join_ne {ps : List (Int × Int)} (hn : ps ≠ []) : Lib.join (ps.map pairT) [44] ≠ [] := by
  obtain ⟨p, r, rfl⟩ := List.exists_cons_of_ne_nil hn
  intro e
  have := congrArg List.length e
  rw [List.map_cons, Lib.join_cons] at this
  simp [pairT] at this
theorem preP_all {ps : List (Int × Int)} {n : Nat} (hl : ps.length = n) (hn : ps ≠ []) : preP ps n = fmtP ps true ∧ (fmtP ps true).toList.isEmpty = false ∧ ((fmtP ps true).toList == []) = false := by
  have he : preP ps n = ⟨(Lib.join (ps.map pairT) [44]).toArray⟩ := by unfold preP; rw [ptake_all hl]
  have hf : fmtP ps true = ⟨(Lib.join (ps.map pairT) [44]).toArray⟩ := by unfold fmtP pairsT; rw [if_pos rfl, if_neg hn]
  have hd : (fmtP ps true).toList = Lib.join (ps.map pairT) [44] := by rw [hf, ByteArray.toList_eq]
  have hne := join_ne hn
  refine ⟨he.trans hf.symm, ?_, ?_⟩
  · rw [hd]
    cases e : Lib.join (ps.map pairT) [44] with
    | nil => exact absurd e hne
    | cons a r => rfl
  · rw [hd, beq_eq_false_iff_ne]
    exact hne

/-! ### reading back -/
def ParsedP (s : List UInt8) (ps : List (Int × Int)) (ok : Bool) : Prop := (ok = true ∧ OkP ps ∧ pairsT ps = s) ∨ (ok = false ∧ ps = [] ∧ ∀ ps', OkP ps' → pairsT ps' ≠ s)
theorem pieces_noneT : pieces 44 noneT = [noneT] := pieces_none (by decide)
theorem pairsT_ne {ps : List (Int × Int)} (hn : ps ≠ []) (h : ∀ p, p ∈ ps → InR p.1 ∧ InR p.2) : pairsT ps ≠ noneT := fun e => by
  have h1 := pairsT_pieces hn h
  rw [e, pieces_noneT] at h1
  obtain ⟨p, r, rfl⟩ := List.exists_cons_of_ne_nil hn
  rw [List.map_cons] at h1
  have h2 : noneT = pairT p := (List.cons.inj h1).1
  have h3 := pieces62 (h p (by simp))
  rw [← h2, show pieces 62 noneT = [noneT] from pieces_none (by decide)] at h3
  have := congrArg List.length h3
  simp at this
def numP (c : List UInt8) : Int × Int := (numS ((pieces 62 c).getD 0 []), numS ((pieces 62 c).getD 1 []))
theorem numP_pairT {p : Int × Int} (h : InR p.1 ∧ InR p.2) : numP (pairT p) = p := by
  unfold numP
  rw [pieces62 h]
  simp only [List.getD_cons_zero, List.getD_cons_succ]
  rw [numS_itoa (inR2 h.1).1 (inR2 h.1).2, numS_itoa (inR2 h.2).1 (inR2 h.2).2]
theorem map_back {f : List UInt8 → Int × Int} {ps : List (Int × Int)} (h : ∀ p, p ∈ ps → f (pairT p) = p) : (ps.map pairT).map f = ps := by
  rw [List.map_map]
  have : ∀ l : List (Int × Int), (∀ p, p ∈ l → f (pairT p) = p) → l.map (f ∘ pairT) = l := by
    intro l
    induction l with
    | nil => intro _; rfl
    | cons a r ih =>
      intro h
      rw [List.map_cons, ih fun x hx => h x (List.mem_cons_of_mem _ hx)]
      show f (pairT a) :: r = _
      rw [h a (by simp)]
  exact this ps h
theorem pairsT_inj {ps ps' : List (Int × Int)} (h : OkP ps) (h' : OkP ps') (e : pairsT ps = pairsT ps') : ps = ps' := by
  by_cases hn : ps = []
  · subst hn
    by_cases hn' : ps' = []
    · exact hn'.symm
    · exact absurd e.symm (pairsT_ne hn' h'.1.rng)
  · by_cases hn' : ps' = []
    · subst hn'
      exact absurd e (pairsT_ne hn h.1.rng)
    · have h1 := pairsT_pieces hn h.1.rng
      have h2 := pairsT_pieces hn' h'.1.rng
      rw [e, h2] at h1
      have h3 := congrArg (List.map numP) h1
      rw [map_back fun p hp => numP_pairT (h'.1.rng p hp), map_back fun p hp => numP_pairT (h.1.rng p hp)] at h3
      exact h3.symm
theorem ParsedP.one {s : List UInt8} {ps ps' : List (Int × Int)} {ok ok' : Bool} (h : ParsedP s ps ok) (h' : ParsedP s ps' ok') : ps = ps' ∧ ok = ok' := by
  rcases h with ⟨rfl, h1, h2⟩ | ⟨rfl, rfl, h2⟩ <;> rcases h' with ⟨rfl, g1, g2⟩ | ⟨rfl, rfl, g2⟩
  · exact ⟨pairsT_inj h1 g1 (h2.trans g2.symm), rfl⟩
  · exact absurd h2 (g2 _ h1)
  · exact absurd g2 (h2 _ g1)
  · exact ⟨rfl, rfl⟩
theorem ParsedP.len {s : List UInt8} {ps : List (Int × Int)} {ok : Bool} (h : ParsedP s ps ok) : ps.length ≤ 8 := by
  rcases h with ⟨_, h, _⟩ | ⟨_, rfl, _⟩
  · exact h.2
  · simp
theorem ok_nilP : OkP [] := ⟨Good.nil, by simp⟩
theorem parsedP_none : ParsedP noneT [] true := .inl ⟨rfl, ok_nilP, rfl⟩
/-- A text that stands for pairs, other than 'none', is theirs piece by piece. -/
theorem pieces_of {s : List UInt8} (hs : s ≠ noneT) {ps : List (Int × Int)} (h : OkP ps) (e : pairsT ps = s) : pieces 44 s = ps.map pairT := by
  have hn : ps ≠ [] := fun hn => by subst hn; exact hs (e.symm.trans rfl)
  rw [← e]
  exact pairsT_pieces hn h.1.rng
def twoB (c : List UInt8) : Bool := (pieces 62 c).length == 2
theorem twoB_pairT {p : Int × Int} (h : InR p.1 ∧ InR p.2) : twoB (pairT p) = true := by unfold twoB; rw [pieces62 h]; rfl
theorem spec_no1 {s c : List UInt8} (hs : s ≠ noneT) (hc : c ∈ pieces 44 s) (h2 : twoB c = false) : ParsedP s [] false :=
  .inr ⟨rfl, rfl, fun ps' h e => by
    rw [pieces_of hs h e] at hc
    obtain ⟨p, hp, rfl⟩ := List.mem_map.1 hc
    rw [twoB_pairT (h.1.rng p hp)] at h2
    cases h2⟩
theorem spec_no2 {s : ByteArray} {q : Bool} (hs : s.data.toList ≠ noneT) (hq : q = true ↔ OkP ((pieces 44 s.data.toList).map numP)) (h : fmtP ((pieces 44 s.data.toList).map numP) q ≠ s) : ParsedP s.data.toList [] false :=
  .inr ⟨rfl, rfl, fun ps' h' e => by
    have hp := pieces_of hs h' e
    have hm : (pieces 44 s.data.toList).map numP = ps' := by rw [hp]; exact map_back fun p hp => numP_pairT (h'.1.rng p hp)
    rw [hm] at h hq
    have := hq.2 h'
    subst this
    refine h (bytes_ext ?_)
    show pairsT ps' = _
    exact e⟩
theorem spec_yesP {s : ByteArray} {q : Bool} (hs : s.data.toList ≠ noneT) (hall : ∀ c ∈ pieces 44 s.data.toList, twoB c = true) (hq : q = true ↔ OkP ((pieces 44 s.data.toList).map numP)) (h : fmtP ((pieces 44 s.data.toList).map numP) q = s) : ParsedP s.data.toList ((pieces 44 s.data.toList).map numP) true := by
  cases q
  · have he : s.data.toList = [] := by rw [← h]; rfl
    have := hall [] (by rw [he]; simp [pieces])
    simp [twoB, pieces] at this
  · refine .inl ⟨rfl, hq.1 rfl, ?_⟩
    have := congrArg (fun b => b.data.toList) h
    exact this
def okC (c : List UInt8) : Bool := pOk (Lib.cut c [62]).1 && pOk (Lib.cut c [62]).2.1
def valC (c : List UInt8) : Int × Int := (pVal (Lib.cut c [62]).1, pVal (Lib.cut c [62]).2.1)
theorem okC_back {c : List UInt8} (h : okC c = true) : pairT (valC c) = c := by
  unfold okC at h
  rw [Bool.and_eq_true] at h
  rcases cut_back 62 c with ⟨_, e⟩ | ⟨_, e⟩
  · unfold pairT valC
    rw [ok_back h.1, ok_back h.2]
    exact e.symm
  · rw [e, ok_nil] at h
    cases h.2
theorem okC_pairT {p : Int × Int} (h : InR p.1 ∧ InR p.2) : okC (pairT p) = true ∧ valC (pairT p) = p := by
  unfold okC valC
  rw [cut62 h]
  obtain ⟨h1, h2⟩ := ok_itoa (inR2 h.1).1 (inR2 h.1).2
  obtain ⟨h3, h4⟩ := ok_itoa (inR2 h.2).1 (inR2 h.2).2
  simp only
  rw [h1, h2, h3, h4]
  exact ⟨rfl, rfl⟩
theorem impl_yesP {s : List UInt8} (hall : (pieces 44 s).all okC = true) (hok : OkP ((pieces 44 s).map valC)) : ParsedP s ((pieces 44 s).map valC) true := by
  refine .inl ⟨rfl, hok, ?_⟩
  obtain ⟨a, r, hp⟩ := pieces_ne 44 s
  have hne : (pieces 44 s).map valC ≠ [] := by rw [hp]; simp
  unfold pairsT
  rw [if_neg hne]
  have hb : ((pieces 44 s).map valC).map pairT = pieces 44 s := by
    rw [List.map_map]
    have : ∀ l : List (List UInt8), l.all okC = true → l.map (pairT ∘ valC) = l := by
      intro l
      induction l with
      | nil => intro _; rfl
      | cons a r ih =>
        intro h
        rw [List.all_cons, Bool.and_eq_true] at h
        rw [List.map_cons, ih h.2]
        show pairT (valC a) :: r = _
        rw [okC_back h.1]
    exact this _ hall
  rw [hb]
  exact join_pieces 44 s
theorem impl_noP {s : List UInt8} (hs : s ≠ noneT) (h : ¬ ((pieces 44 s).all okC = true ∧ OkP ((pieces 44 s).map valC))) : ParsedP s [] false :=
  .inr ⟨rfl, rfl, fun ps' h' e => by
    have hp := pieces_of hs h' e
    refine h ⟨?_, ?_⟩
    · rw [hp, List.all_eq_true]
      intro c hc
      obtain ⟨p, hp, rfl⟩ := List.mem_map.1 hc
      exact (okC_pairT (h'.1.rng p hp)).1
    · rw [hp, map_back fun p hp => (okC_pairT (h'.1.rng p hp)).2]
      exact h'⟩
/-- Where each piece holds something, there are few. -/
theorem few {s : List UInt8} (h : ∀ c ∈ pieces 44 s, 1 ≤ c.length) : 2 * (pieces 44 s).length ≤ s.length + 1 := by
  have h1 := pieces_len 44 s
  have : ∀ l : List (List UInt8), (∀ c ∈ l, 1 ≤ c.length) → l.length ≤ (l.map List.length).sum := by
    intro l
    induction l with
    | nil => intro _; simp
    | cons a r ih =>
      intro h
      have := ih fun c hc => h c (List.mem_cons_of_mem _ hc)
      have := h a (by simp)
      simp only [List.map_cons, List.sum_cons, List.length_cons]
      omega
  have := this _ h
  omega
theorem two_len {c : List UInt8} (h : twoB c = true) : 1 ≤ c.length := by
  cases c with
  | nil => simp [twoB, pieces] at h
  | cons a r => simp
theorem okC_len {c : List UInt8} (h : okC c = true) : 1 ≤ c.length := by
  cases c with
  | nil =>
    unfold okC at h
    rcases cut_back 62 [] with ⟨_, e⟩ | ⟨_, e⟩
    · have := congrArg List.length e; simp at this
    · rw [e, ok_nil] at h; simp at h
  | cons a r => simp
end Go.Proofs.YtadjoiahllekdaaGreatDoor.num
