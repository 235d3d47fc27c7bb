/-
  A text cut at each separator; an item's text read back. Plain mathematics.
-/
import Derived.Test.YtadjoiahllekdaaGreatDoorParseMath
import Derived.Test.YtadjoiahllekdaaGreatDoorItemFmt
import Derived.Lib.SplitLaws
import Derived.Lib.IndexBytes
namespace Go.Proofs.YtadjoiahllekdaaGreatDoor.num
set_option maxRecDepth 20000
open Go.RowKit
set_option linter.unusedVariables false

/-- The pieces between the separators. -/
def pieces (c : UInt8) : List UInt8 → List (List UInt8)
  | [] => [[]]
  | x :: r => if x = c then [] :: pieces c r else match pieces c r with
    | [] => [[x]]
    | h :: t => (x :: h) :: t
theorem pieces_ne (c : UInt8) (l : List UInt8) : ∃ h t, pieces c l = h :: t := by
  cases l with
  | nil => exact ⟨[], [], rfl⟩
  | cons x r =>
    unfold pieces
    split
    · exact ⟨_, _, rfl⟩
    · split <;> exact ⟨_, _, rfl⟩
theorem pieces_hit (c : UInt8) (r : List UInt8) : pieces c (c :: r) = [] :: pieces c r := by rw [pieces, if_pos rfl]
theorem pieces_miss {c x : UInt8} {r h : List UInt8} {t : List (List UInt8)} (hx : x ≠ c) (hr : pieces c r = h :: t) : pieces c (x :: r) = (x :: h) :: t := by
  rw [pieces, if_neg hx, hr]
theorem pieces_snoc (c x : UInt8) : ∀ (l : List UInt8) (o : List (List UInt8)) (p : List UInt8), pieces c l = o ++ [p] → pieces c (l ++ [x]) = if x = c then o ++ [p] ++ [[]] else o ++ [p ++ [x]] := by
  intro l
  induction l with
  | nil =>
    intro o p h
    have h' : ([[]] : List (List UInt8)) = o ++ [p] := h
    have ho : o = [] := by
      cases o with
      | nil => rfl
      | cons a o => simp at h'
    subst ho
    have hp : p = [] := by simpa using h'.symm
    subst hp
    by_cases e : x = c
    · subst e; rw [if_pos rfl]; simp [pieces]
    · rw [if_neg e]; simp [pieces, e]
  | cons b l ih =>
    intro o p h
    by_cases hb : b = c
    · subst hb
      rw [pieces_hit] at h
      cases o with
      | nil =>
        have : pieces b l = [] := by simpa using (List.cons.inj h).2
        obtain ⟨h1, t1, e⟩ := pieces_ne b l
        rw [e] at this; cases this
      | cons a o =>
        obtain ⟨e1, e2⟩ := List.cons.inj h
        rw [List.cons_append, pieces_hit, ih o p e2, ← e1]
        split <;> simp
    · obtain ⟨h1, t1, e⟩ := pieces_ne c l
      rw [pieces_miss hb e] at h
      cases o with
      | nil =>
        obtain ⟨e1, e2⟩ := List.cons.inj h
        have e' : pieces c l = [] ++ [h1] := by rw [e, e2]; rfl
        have := ih [] h1 e'
        rw [List.cons_append]
        by_cases hx : x = c
        · rw [if_pos hx] at this ⊢
          rw [pieces_miss hb this, ← e1]; rfl
        · rw [if_neg hx] at this ⊢
          rw [pieces_miss hb this, ← e1]; rfl
      | cons a o =>
        obtain ⟨e1, e2⟩ := List.cons.inj h
        have e' : pieces c l = (h1 :: o) ++ [p] := by rw [e, e2]; rfl
        have := ih (h1 :: o) p e'
        rw [List.cons_append]
        by_cases hx : x = c
        · rw [if_pos hx] at this ⊢
          rw [pieces_miss hb this, ← e1]; rfl
        · rw [if_neg hx] at this ⊢
          rw [pieces_miss hb this, ← e1]; rfl
theorem pieces_none {c : UInt8} : ∀ {l : List UInt8}, (∀ x ∈ l, x ≠ c) → pieces c l = [l]
  | [], _ => rfl
  | x :: r, h => pieces_miss (h x List.mem_cons_self) (pieces_none fun y hy => h y (List.mem_cons_of_mem _ hy))
theorem pieces_app {c : UInt8} {r : List UInt8} : ∀ {a : List UInt8}, (∀ x ∈ a, x ≠ c) → pieces c (a ++ c :: r) = a :: pieces c r
  | [], _ => pieces_hit c r
  | x :: a, h => pieces_miss (h x List.mem_cons_self) (pieces_app fun y hy => h y (List.mem_cons_of_mem _ hy))
theorem join_cons2 (a b : List UInt8) (t : List (List UInt8)) (c : UInt8) : Lib.join (a :: b :: t) [c] = a ++ c :: Lib.join (b :: t) [c] := by
  rw [Lib.join_cons, Lib.join_cons]
  simp [Lib.joinTail]
theorem join_pieces (c : UInt8) : ∀ l : List UInt8, Lib.join (pieces c l) [c] = l
  | [] => by simp [pieces, Lib.join_one]
  | x :: r => by
    have ih := join_pieces c r
    obtain ⟨h, t, e⟩ := pieces_ne c r
    by_cases hx : x = c
    · subst hx
      rw [pieces_hit, e, join_cons2, ← e, ih]; rfl
    · rw [pieces_miss hx e]
      rw [e] at ih
      rw [← ih, Lib.join_cons, Lib.join_cons]; rfl
theorem pieces_len (c : UInt8) : ∀ l : List UInt8, ((pieces c l).map List.length).sum + (pieces c l).length = l.length + 1
  | [] => rfl
  | x :: r => by
    have ih := pieces_len c r
    obtain ⟨h, t, e⟩ := pieces_ne c r
    by_cases hx : x = c
    · subst hx
      rw [pieces_hit]
      simp only [List.map_cons, List.sum_cons, List.length_cons, List.length_nil]
      omega
    · rw [pieces_miss hx e]
      rw [e] at ih
      simp only [List.map_cons, List.sum_cons, List.length_cons] at ih ⊢
      omega
/-- The library's pieces are these. -/
theorem split_pieces (c : UInt8) : ∀ l : List UInt8, Lib.splitK [c] 0 (l.count c) l = pieces c l
  | [] => rfl
  | b :: l => by
    have ih := split_pieces c l
    obtain ⟨h, t, e⟩ := pieces_ne c l
    by_cases hb : b = c
    · subst hb
      have hix : Lib.index (b :: l) [b] = ((0 : Nat) : Int) := by rw [Lib.index]; simp [List.isPrefixOf]
      rw [pieces_hit, List.count_cons_self, Lib.splitK, if_neg (by rw [hix]; decide), hix]
      simp [ih]
    · have hix : Lib.index (b :: l) [c] = if Lib.index l [c] == -1 then -1 else Lib.index l [c] + 1 := by
        have hp : ([c] : List UInt8).isPrefixOf (b :: l) = false := by simp [List.isPrefixOf, Ne.symm hb]
        rw [Lib.index, hp]; simp
      rw [List.count_cons_of_ne hb, pieces_miss hb e]
      rw [e] at ih
      cases hk : l.count c with
      | zero =>
        rw [hk] at ih
        have : [l] = h :: t := ih
        obtain ⟨e1, e2⟩ := List.cons.inj this
        rw [Lib.splitK, ← e1, ← e2]
      | succ k =>
        rw [hk] at ih
        have hge := Lib.index_ge l [c]
        by_cases hm : Lib.index l [c] = -1
        · rw [Lib.splitK, if_pos (by rw [hm]; rfl)] at ih
          obtain ⟨e1, e2⟩ := List.cons.inj ih
          rw [Lib.splitK, if_pos (by rw [hix, hm]; rfl), ← e1, ← e2]
        · obtain ⟨j, hj⟩ : ∃ j : Nat, Lib.index l [c] = j := ⟨(Lib.index l [c]).toNat, by omega⟩
          have hix' : Lib.index (b :: l) [c] = ((j + 1 : Nat) : Int) := by rw [hix, if_neg (fun e => hm (beq_iff_eq.1 e)), hj]; omega
          rw [Lib.splitK, if_neg (fun e => hm (beq_iff_eq.1 e)), hj] at ih
          rw [Lib.splitK, if_neg (fun e => by have := beq_iff_eq.1 e; omega), hix']
          simp only [Int.toNat_natCast, Nat.add_zero, List.length_cons, List.length_nil, List.take_succ_cons, List.drop_succ_cons] at ih ⊢
          obtain ⟨e1, e2⟩ := List.cons.inj ih
          rw [← e1, ← e2]
theorem splitB_pieces (c : UInt8) (s : ByteArray) : (Lib.splitB ⟨#[c]⟩ 0 (Lib.countB s ⟨#[c]⟩) s).map (·.data.toList) = pieces c s.data.toList := by
  rw [Lib.splitB_data]
  show Lib.splitK [c] 0 (Lib.count s.data.toList [c]) s.data.toList = _
  rw [Lib.count_one, split_pieces]
theorem cut_cons (c b : UInt8) (l : List UInt8) : Lib.cut (b :: l) [c] = if b = c then ([], l, true) else if (Lib.cut l [c]).2.2 then (b :: (Lib.cut l [c]).1, (Lib.cut l [c]).2.1, true) else (b :: l, [], false) := by
  by_cases hb : b = c
  · subst hb
    have hix : Lib.index (b :: l) [b] = ((0 : Nat) : Int) := by rw [Lib.index]; simp [List.isPrefixOf]
    rw [if_pos rfl, Lib.cut, if_pos (by omega), hix]; simp
  · have hix : Lib.index (b :: l) [c] = if Lib.index l [c] == -1 then -1 else Lib.index l [c] + 1 := by
      have hp : ([c] : List UInt8).isPrefixOf (b :: l) = false := by simp [List.isPrefixOf, Ne.symm hb]
      rw [Lib.index, hp]; simp
    rw [if_neg hb]
    have hge := Lib.index_ge l [c]
    by_cases hm : Lib.index l [c] = -1
    · have h1 : Lib.cut l [c] = (l, [], false) := by rw [Lib.cut, if_neg (by omega)]
      rw [h1, if_neg (by simp), Lib.cut, hix, hm]; simp
    · obtain ⟨j, hj⟩ : ∃ j : Nat, Lib.index l [c] = j := ⟨(Lib.index l [c]).toNat, by omega⟩
      have h1 : Lib.cut l [c] = (l.take j, l.drop (j + 1), true) := by rw [Lib.cut, if_pos (by omega), hj]; simp
      have hix' : Lib.index (b :: l) [c] = ((j + 1 : Nat) : Int) := by rw [hix, if_neg (fun e => hm (beq_iff_eq.1 e)), hj]; omega
      rw [h1, if_pos rfl, Lib.cut, hix', if_pos (by omega)]; simp
theorem cut_app {c : UInt8} {r : List UInt8} : ∀ {a : List UInt8}, (∀ x ∈ a, x ≠ c) → Lib.cut (a ++ c :: r) [c] = (a, r, true)
  | [], _ => by rw [List.nil_append, cut_cons, if_pos rfl]
  | x :: a, h => by rw [List.cons_append, cut_cons, if_neg (h x List.mem_cons_self), cut_app (fun y hy => h y (List.mem_cons_of_mem _ hy))]; rfl
theorem cut_back (c : UInt8) : ∀ l : List UInt8, ((Lib.cut l [c]).2.2 = true ∧ l = (Lib.cut l [c]).1 ++ c :: (Lib.cut l [c]).2.1) ∨ ((Lib.cut l [c]).2.2 = false ∧ (Lib.cut l [c]).2.1 = [])
  | [] => .inr (by simp [Lib.cut, Lib.index])
  | b :: l => by
    rw [cut_cons]
    by_cases hb : b = c
    · rw [if_pos hb]; exact .inl ⟨rfl, by rw [hb]; rfl⟩
    · rw [if_neg hb]
      rcases cut_back c l with ⟨h1, h2⟩ | ⟨h1, h2⟩
      · rw [h1, if_pos rfl]
        refine .inl ⟨rfl, ?_⟩
        show b :: l = b :: (Lib.cut l [c]).1 ++ c :: (Lib.cut l [c]).2.1
        rw [List.cons_append, ← h2]
      · rw [h1, if_neg (by simp)]
        exact .inr ⟨rfl, rfl⟩

theorem itoa_nat (m : Int) (h : 0 ≤ m) : Lib.itoa m = Lib.decDigits m.natAbs := by
  have h1 := dgs_itoa m
  have h2 := dash_itoa m
  unfold dgs at h1
  rw [h2, if_neg (by simp; omega)] at h1
  exact h1
theorem itoa_digits {m : Int} (h : 0 ≤ m) : ∀ x ∈ Lib.itoa m, 48 ≤ x.toNat ∧ x.toNat ≤ 57 := fun x hx => by
  rw [itoa_nat m h] at hx
  have := List.all_eq_true.1 (dec_all m.natAbs) x hx
  exact of_decide_eq_true this
theorem itoa_not {m : Int} (h : 0 ≤ m) (c : UInt8) (hc : c.toNat < 48 ∨ 57 < c.toNat) : ∀ x ∈ Lib.itoa m, x ≠ c := fun x hx e => by
  have := itoa_digits h x hx
  subst e; omega
theorem ok_itoa {m : Int} (h0 : 0 ≤ m) (h1 : m ≤ 99) : pOk (Lib.itoa m) = true ∧ pVal (Lib.itoa m) = m := by
  have h := pOk_itoa m
  have ho : pOk (Lib.itoa m) = true := by rw [h.1]; exact decide_eq_true (by omega)
  exact ⟨ho, h.2 ho⟩
theorem ok_back {l : List UInt8} (h : pOk l = true) : Lib.itoa (pVal l) = l := by
  have h' := of_decide_eq_true (p := (dgs l).length ≤ 9 ∧ (dgs l).all isD = true ∧ Lib.itoa (signed l (scanV (dgs l))) = l) h
  rw [pVal, if_pos h]
  exact h'.2.2
theorem ok_nil : pOk [] = false := by
  cases h : pOk [] with
  | false => rfl
  | true =>
    have h1 := ok_back h
    have h2 : Lib.itoa (pVal []) ≠ [] := by
      have h3 : pVal [] = 0 := by rw [pVal, if_pos h]; rfl
      rw [h3]
      simp [Lib.itoa, Lib.decDigits]
    exact absurd h1 h2
/-- An item's text, as bytes. -/
def textL (d : Int × List Int) : List UInt8 := Lib.itoa d.1 ++ 58 :: Lib.join (d.2.map Lib.itoa) [44]
theorem textB_list {d : Int × List Int} (h : IsP d) : (textB d).data.toList = textL d := by
  rw [textB_yes h]
  unfold textL listB fmtB
  simp [ByteArray.mk_append_mk]
/-- Read back of an item's own text. -/
theorem parts {d : Int × List Int} (h : IsP d) : pieces 58 (textL d) = [Lib.itoa d.1, Lib.join (d.2.map Lib.itoa) [44]] ∧ Lib.cut (textL d) [58] = (Lib.itoa d.1, Lib.join (d.2.map Lib.itoa) [44], true) ∧ pieces 44 (Lib.join (d.2.map Lib.itoa) [44]) = d.2.map Lib.itoa := by
  obtain ⟨id, xs⟩ := d
  obtain ⟨a, b, c, rfl⟩ := three_of h.2.2
  obtain ⟨⟨h1, h2⟩, ⟨ha, _⟩, ⟨hb, _⟩, ⟨hc, _⟩⟩ := isP_parts h
  have e : Lib.join ([a, b, c].map Lib.itoa) [44] = Lib.itoa a ++ 44 :: (Lib.itoa b ++ 44 :: Lib.itoa c) := by
    rw [List.map_cons, List.map_cons, List.map_cons, List.map_nil, join_cons2, join_cons2, Lib.join_one]
  have n58 : ∀ x ∈ Lib.join ([a, b, c].map Lib.itoa) [44], x ≠ 58 := by
    rw [e]
    intro x hx
    simp only [List.mem_append, List.mem_cons] at hx
    rcases hx with hx | rfl | hx | rfl | hx
    · exact itoa_not ha 58 (by decide) x hx
    · decide
    · exact itoa_not hb 58 (by decide) x hx
    · decide
    · exact itoa_not hc 58 (by decide) x hx
  refine ⟨?_, cut_app (itoa_not h1 58 (by decide)), ?_⟩
  · unfold textL
    rw [pieces_app (itoa_not h1 58 (by decide)), pieces_none n58]
  · rw [e, pieces_app (itoa_not ha 44 (by decide)), pieces_app (itoa_not hb 44 (by decide)), pieces_none (itoa_not hc 44 (by decide))]; rfl
def numS (l : List UInt8) : Int := if pOk l then pVal l else -100000
theorem numS_itoa {m : Int} (h0 : 0 ≤ m) (h1 : m ≤ 99) : numS (Lib.itoa m) = m := by
  unfold numS; rw [if_pos (ok_itoa h0 h1).1, (ok_itoa h0 h1).2]
/-- What the model makes of a text. -/
def specD (s : List UInt8) : Int × List Int := (numS ((pieces 58 s).getD 0 []), if (pieces 58 s).length = 2 then (pieces 44 ((pieces 58 s).getD 1 [])).map numS else [])
theorem specD_text {d : Int × List Int} (h : IsP d) : specD (textL d) = d := by
  obtain ⟨h1, _, h3⟩ := parts h
  unfold specD
  rw [h1]
  obtain ⟨id, xs⟩ := d
  obtain ⟨a, b, c, rfl⟩ := three_of h.2.2
  obtain ⟨⟨i1, i2⟩, ⟨ha, ha'⟩, ⟨hb, hb'⟩, ⟨hc, hc'⟩⟩ := isP_parts h
  simp only [List.getD_cons_zero, List.getD_cons_succ, List.length_cons, List.length_nil]
  rw [if_pos trivial, h3]
  simp only [List.map_cons, List.map_nil]
  rw [numS_itoa i1 i2, numS_itoa ha (by omega), numS_itoa hb (by omega), numS_itoa hc (by omega)]
/-- What both functions answer at the text s. -/
def Parsed (s : List UInt8) (d : Int × List Int) (ok : Bool) : Prop := (ok = true ∧ IsP d ∧ textL d = s) ∨ (ok = false ∧ d = (0, []) ∧ ∀ d', IsP d' → textL d' ≠ s)
theorem Parsed.one {s : List UInt8} {d d' : Int × List Int} {ok ok' : Bool} (h : Parsed s d ok) (g : Parsed s d' ok') : d = d' ∧ ok = ok' := by
  rcases h with ⟨rfl, h1, h2⟩ | ⟨rfl, rfl, h2⟩ <;> rcases g with ⟨rfl, g1, g2⟩ | ⟨rfl, rfl, g2⟩
  · exact ⟨by rw [← specD_text h1, ← specD_text g1, h2, g2], rfl⟩
  · exact absurd h2 (g2 d h1)
  · exact absurd g2 (h2 d' g1)
  · exact ⟨rfl, rfl⟩
theorem bytes_ext {a b : ByteArray} (h : a.data.toList = b.data.toList) : a = b := by
  obtain ⟨⟨x⟩⟩ := a
  obtain ⟨⟨y⟩⟩ := b
  have : x = y := h
  rw [this]
theorem parsed_spec_yes {s : ByteArray} (h0 : s.data.toList ≠ []) (h : textB (specD s.data.toList) = s) : Parsed s.data.toList (specD s.data.toList) true := by
  by_cases hp : IsP (specD s.data.toList)
  · exact .inl ⟨rfl, hp, by rw [← textB_list hp, h]⟩
  · rw [textB_no hp] at h
    exact absurd (by rw [← h]) h0
theorem parsed_spec_no {s : ByteArray} (h : s.data.toList = [] ∨ textB (specD s.data.toList) ≠ s) : Parsed s.data.toList (0, []) false := by
  refine .inr ⟨rfl, rfl, fun d hd e => ?_⟩
  rcases h with h | h
  · rw [h] at e
    unfold textL at e
    simp at e
  · apply h
    rw [← e, specD_text hd]
    have h1 := textB_list hd
    rw [e] at h1
    exact bytes_ext h1
def allOk (l : List (List UInt8)) : Bool := l.all pOk
theorem parsed_impl_yes {s : List UInt8} {d : Int × List Int} (h1 : pOk (Lib.cut s [58]).1 = true) (h2 : allOk (pieces 44 (Lib.cut s [58]).2.1) = true) (hd : d = (pVal (Lib.cut s [58]).1, (pieces 44 (Lib.cut s [58]).2.1).map pVal)) (hp : IsP d) : Parsed s d true := by
  rcases cut_back 58 s with ⟨_, e⟩ | ⟨_, e⟩
  · refine .inl ⟨rfl, hp, ?_⟩
    rw [e]
    unfold textL
    rw [hd, ok_back h1]
    have hm : ((pieces 44 (Lib.cut s [58]).2.1).map pVal).map Lib.itoa = pieces 44 (Lib.cut s [58]).2.1 := by
      rw [List.map_map]
      conv => rhs; rw [← List.map_id (pieces 44 (Lib.cut s [58]).2.1)]
      exact List.map_congr_left fun x hx => ok_back (List.all_eq_true.1 h2 x hx)
    show (Lib.cut s [58]).1 ++ 58 :: Lib.join (((pieces 44 (Lib.cut s [58]).2.1).map pVal).map Lib.itoa) [44] = _
    rw [hm, join_pieces, ← e]
  · rw [e] at h2
    have : pOk [] = true := List.all_eq_true.1 h2 [] (by simp [pieces])
    rw [ok_nil] at this; cases this
theorem parsed_impl_no {s : List UInt8} (h : ¬ (pOk (Lib.cut s [58]).1 = true ∧ allOk (pieces 44 (Lib.cut s [58]).2.1) = true ∧ IsP (pVal (Lib.cut s [58]).1, (pieces 44 (Lib.cut s [58]).2.1).map pVal))) : Parsed s (0, []) false := by
  refine .inr ⟨rfl, rfl, fun d hd e => h ?_⟩
  obtain ⟨_, h2, h3⟩ := parts hd
  rw [← e, h2]
  obtain ⟨id, xs⟩ := d
  obtain ⟨a, b, c, rfl⟩ := three_of hd.2.2
  obtain ⟨⟨i1, i2⟩, ⟨ha, ha'⟩, ⟨hb, hb'⟩, ⟨hc, hc'⟩⟩ := isP_parts hd
  have oi := ok_itoa i1 i2
  have oa := ok_itoa ha (by omega)
  have ob := ok_itoa hb (by omega)
  have oc := ok_itoa hc (by omega)
  show pOk (Lib.itoa id) = true ∧ allOk (pieces 44 (Lib.join ([a, b, c].map Lib.itoa) [44])) = true ∧ IsP (pVal (Lib.itoa id), (pieces 44 (Lib.join ([a, b, c].map Lib.itoa) [44])).map pVal)
  rw [h3, oi.2]
  simp only [List.map_cons, List.map_nil]
  rw [oa.2, ob.2, oc.2]
  refine ⟨oi.1, ?_, hd⟩
  simp [allOk, oa.1, ob.1, oc.1]
end Go.Proofs.YtadjoiahllekdaaGreatDoor.num
