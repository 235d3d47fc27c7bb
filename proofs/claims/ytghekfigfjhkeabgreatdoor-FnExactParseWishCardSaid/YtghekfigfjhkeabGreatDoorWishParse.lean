/-
  The text of a wish and back: what a reader of its pieces must find, and that the answer is one.
-/
import Derived.Test.YtghekfigfjhkeabGreatDoorWishText
namespace Go.Proofs.YtghekfigfjhkeabGreatDoor.num
open Go.RowKit
set_option linter.unusedVariables false
set_option linter.unusedSimpArgs false

/-- What stands behind the second space. -/
def argT (d : WD) : List UInt8 := if d.kind = 2 then Lib.itoa d.value else if d.kind = 3 then intsT d.ls else if d.kind = 4 then pairsT d.ps else []
/-- The word of the field. -/
def bodyT (d : WD) : List UInt8 := 102 :: Lib.itoa d.field
def kwOf (d : WD) : List UInt8 := kwT.getD d.kind.toNat []
theorem restT_arg (d : WD) (h : 0 ≤ d.kind ∧ d.kind ≤ 4) : restT d = if d.kind < 2 then [] else 32 :: argT d := by
  unfold restT argT
  rcases (show d.kind = 0 ∨ d.kind = 1 ∨ d.kind = 2 ∨ d.kind = 3 ∨ d.kind = 4 by omega) with e | e | e | e | e <;> simp [e]
theorem wishT_eq (d : WD) : wishT d = kwOf d ++ 32 :: (bodyT d ++ restT d) := rfl
theorem kw_not {k : Nat} : ∀ x ∈ kwT.getD k [], x ≠ (32 : UInt8) := by
  rcases (show k = 0 ∨ k = 1 ∨ k = 2 ∨ k = 3 ∨ k = 4 ∨ 5 ≤ k by omega) with rfl | rfl | rfl | rfl | rfl | h
  iterate 5 decide
  intro x hx
  rw [List.getD_eq_getElem?_getD, List.getElem?_eq_none (by show 5 ≤ k; omega)] at hx
  simp at hx
theorem kwOf_not (d : WD) : ∀ x ∈ kwOf d, x ≠ 32 := kw_not
theorem body_not {d : WD} (h : IsW d) : ∀ x ∈ bodyT d, x ≠ 32 := by
  intro x hx
  rcases List.mem_cons.1 hx with rfl | hx
  · decide
  · exact itoa_not h.f.1 32 (by decide) x hx
theorem join_not {c e : UInt8} (he : e ≠ c) : ∀ l : List (List UInt8), (∀ a ∈ l, ∀ x ∈ a, x ≠ c) → ∀ x ∈ Lib.join l [e], x ≠ c := by
  intro l
  induction l with
  | nil => intro _ x hx; simp [Lib.join] at hx
  | cons a t ih =>
    intro h x hx
    cases t with
    | nil => rw [Lib.join_one] at hx; exact h a (by simp) x hx
    | cons b t =>
      rw [join_cons2] at hx
      simp only [List.mem_append, List.mem_cons] at hx
      rcases hx with hx | rfl | hx
      · exact h a (by simp) x hx
      · exact he
      · exact ih (fun a' ha' => h a' (List.mem_cons_of_mem _ ha')) x (by simpa using hx)
theorem ints_not {l : List Int} (h : ∀ v ∈ l, InR v) : ∀ x ∈ intsT l, x ≠ 32 := by
  refine join_not (by decide) _ fun a ha => ?_
  obtain ⟨v, hv, rfl⟩ := List.mem_map.1 ha
  exact itoa_not (h v hv).1 32 (by decide)
theorem pairs_not {ps : List (Int × Int)} (h : ∀ p, p ∈ ps → InR p.1 ∧ InR p.2) : ∀ x ∈ pairsT ps, x ≠ 32 := by
  unfold pairsT
  split
  · decide
  · refine join_not (by decide) _ fun a ha => ?_
    obtain ⟨p, hp, rfl⟩ := List.mem_map.1 ha
    intro x hx
    unfold pairT at hx
    simp only [List.mem_append, List.mem_cons] at hx
    rcases hx with hx | rfl | hx
    · exact itoa_not (h p hp).1.1 32 (by decide) x hx
    · decide
    · exact itoa_not (h p hp).2.1 32 (by decide) x hx
theorem arg_not {d : WD} (h : IsW d) : ∀ x ∈ argT d, x ≠ 32 := by
  have h1 := h.v
  have h2 := h.l
  have h3 := h.p
  unfold argT
  split
  · rename_i e
    rw [if_pos e] at h1
    exact itoa_not h1.1 32 (by decide)
  · split
    · rename_i e
      rw [if_pos e] at h2
      exact ints_not h2.2.1
    · split
      · rename_i e
        rw [if_pos e] at h3
        exact pairs_not h3.1.rng
      · intro x hx; simp at hx
theorem wish_pieces {d : WD} (h : IsW d) : pieces 32 (wishT d) = kwOf d :: bodyT d :: (if d.kind < 2 then [] else [argT d]) := by
  rw [wishT_eq, pieces_app (kwOf_not d), restT_arg d h.k]
  split
  · rw [List.append_nil, pieces_none (body_not h)]
  · rw [pieces_app (body_not h), pieces_none (arg_not h)]
theorem cut_none {c : UInt8} : ∀ {l : List UInt8}, (∀ x ∈ l, x ≠ c) → Lib.cut l [c] = (l, [], false)
  | [], _ => rfl
  | b :: l, h => by
    rw [cut_cons, if_neg (h b (by simp)), cut_none fun x hx => h x (List.mem_cons_of_mem _ hx)]
    rfl
theorem wish_cut {d : WD} (h : IsW d) : (Lib.cut (wishT d) [32]).1 = kwOf d ∧ (Lib.cut (Lib.cut (wishT d) [32]).2.1 [32]).1 = bodyT d ∧ (Lib.cut (Lib.cut (wishT d) [32]).2.1 [32]).2.1 = argT d := by
  rw [wishT_eq, cut_app (kwOf_not d), restT_arg d h.k]
  refine ⟨rfl, ?_⟩
  show (Lib.cut (bodyT d ++ if d.kind < 2 then [] else 32 :: argT d) [32]).1 = bodyT d ∧ (Lib.cut (bodyT d ++ if d.kind < 2 then [] else 32 :: argT d) [32]).2.1 = argT d
  split
  · rename_i e
    rw [List.append_nil, cut_none (body_not h)]
    refine ⟨rfl, ?_⟩
    unfold argT
    rw [if_neg (by omega), if_neg (by omega), if_neg (by omega)]
  · rw [cut_app (body_not h)]
    exact ⟨rfl, rfl⟩
theorem ints_pieces : ∀ {l : List Int}, l ≠ [] → (∀ v ∈ l, InR v) → pieces 44 (intsT l) = l.map Lib.itoa
  | [a], _, h => by
    show pieces 44 (Lib.join [Lib.itoa a] [44]) = _
    rw [Lib.join_one, pieces_none (itoa_not (h a (by simp)).1 44 (by decide))]; rfl
  | a :: b :: t, _, h => by
    have e : intsT (a :: b :: t) = Lib.itoa a ++ 44 :: intsT (b :: t) := by
      unfold intsT
      rw [List.map_cons, List.map_cons, join_cons2]
    rw [e, pieces_app (itoa_not (h a (by simp)).1 44 (by decide)), ints_pieces (by simp) fun v hv => h v (List.mem_cons_of_mem _ hv)]
    rfl
/-- The answer to a text. -/
def ParsedW (s : List UInt8) (d : WD) (ok : Bool) : Prop := (ok = true ∧ IsW d ∧ wishT d = s) ∨ (ok = false ∧ d = ⟨0, 0, 0, [], []⟩ ∧ ∀ d', IsW d' → wishT d' ≠ s)
/-- The kind that the model reads. -/
def kindS (p : List UInt8) : Int := if p = kwT.getD 1 [] then 1 else if p = kwT.getD 2 [] then 2 else if p = kwT.getD 3 [] then 3 else if p = kwT.getD 4 [] then 4 else 0
theorem kindS_kw {k : Int} (h : 0 ≤ k ∧ k ≤ 4) : kindS (kwT.getD k.toNat []) = k := by
  rcases (show k = 0 ∨ k = 1 ∨ k = 2 ∨ k = 3 ∨ k = 4 by omega) with rfl | rfl | rfl | rfl | rfl <;> decide
/-- The field that the model reads. -/
def fS (p : List UInt8) : Int := if p.length < 2 ∨ p.head? ≠ some 102 then -1 else numS p.tail
theorem itoa_ne {m : Int} (h0 : 0 ≤ m) (h1 : m ≤ 99) : Lib.itoa m ≠ [] := fun e => by
  have h := (ok_itoa h0 h1).1
  rw [e, ok_nil] at h
  cases h
theorem fS_body {d : WD} (h : IsW d) : fS (bodyT d) = d.field := by
  have hf := h.f
  have hn := List.length_pos_iff.2 (itoa_ne hf.1 (show d.field ≤ 99 by omega))
  unfold fS bodyT
  rw [if_neg (by simp; omega)]
  exact numS_itoa hf.1 (by omega)
/-- What the model makes of a text: its pieces. -/
def argS (s : List UInt8) : List UInt8 := if (pieces 32 s).length = 3 then (pieces 32 s).getD 2 [] else []
structure SpecW (s : List UInt8) (d : WD) : Prop where
  k : d.kind = kindS ((pieces 32 s).getD 0 [])
  f : d.field = fS ((pieces 32 s).getD 1 [])
  v : d.value = if d.kind = 2 then numS (argS s) else 0
  l : d.ls = if d.kind = 3 then (pieces 44 (argS s)).map numS else []
  p : if d.kind = 4 then ∃ ok, ParsedP (argS s) d.ps ok else d.ps = []
theorem argS_text {d : WD} (h : IsW d) : argS (wishT d) = argT d := by
  unfold argS
  rw [wish_pieces h]
  by_cases e : d.kind < 2
  · have e2 : ¬ d.kind = 2 := by omega
    have e3 : ¬ d.kind = 3 := by omega
    have e4 : ¬ d.kind = 4 := by omega
    have ea : argT d = [] := by unfold argT; rw [if_neg e2, if_neg e3, if_neg e4]
    rw [if_pos e, ea]; rfl
  · rw [if_neg e]; rfl
theorem argT2 {d : WD} (e : d.kind = 2) : argT d = Lib.itoa d.value := by unfold argT; rw [if_pos e]
theorem argT3 {d : WD} (e : d.kind = 3) : argT d = intsT d.ls := by unfold argT; rw [if_neg (by omega), if_pos e]
theorem argT4 {d : WD} (e : d.kind = 4) : argT d = pairsT d.ps := by unfold argT; rw [if_neg (by omega), if_neg (by omega), if_pos e]
theorem map_numS {l : List Int} (h : ∀ v ∈ l, InR v) : (l.map Lib.itoa).map numS = l := by
  rw [List.map_map]
  refine (List.map_congr_left (g := id) fun v hv => ?_).trans (List.map_id _)
  exact numS_itoa (h v hv).1 (by have := (h v hv).2; omega)
theorem specW_self {d : WD} (h : IsW d) : SpecW (wishT d) d := by
  have hk : kindS ((pieces 32 (wishT d)).getD 0 []) = d.kind := by rw [wish_pieces h]; exact kindS_kw h.k
  have h1 := h.v
  have h2 := h.l
  have h3 := h.p
  refine ⟨hk.symm, ?_, ?_, ?_, ?_⟩
  · rw [wish_pieces h]; exact (fS_body h).symm
  · rw [argS_text h]
    by_cases e : d.kind = 2
    · rw [if_pos e] at h1 ⊢
      rw [argT2 e, numS_itoa h1.1 (by have := h1.2; omega)]
    · rw [if_neg e] at h1 ⊢; exact h1
  · rw [argS_text h]
    by_cases e : d.kind = 3
    · rw [if_pos e] at h2 ⊢
      rw [argT3 e, ints_pieces h2.1 h2.2.1, map_numS h2.2.1]
    · rw [if_neg e] at h2 ⊢; exact h2
  · rw [argS_text h]
    by_cases e : d.kind = 4
    · rw [if_pos e] at h3 ⊢
      exact ⟨true, .inl ⟨rfl, h3, (argT4 e).symm⟩⟩
    · rw [if_neg e] at h3 ⊢; exact h3
theorem SpecW.one {s : List UInt8} {d d' : WD} (h : SpecW s d) (g : SpecW s d') : d = d' := by
  obtain ⟨k, f, v, l, p⟩ := d
  obtain ⟨k', f', v', l', p'⟩ := d'
  obtain ⟨h1, h2, h3, h4, h5⟩ := h
  obtain ⟨g1, g2, g3, g4, g5⟩ := g
  dsimp only at *
  obtain rfl : k = k' := h1.trans g1.symm
  obtain rfl : f = f' := h2.trans g2.symm
  obtain rfl : v = v' := h3.trans g3.symm
  obtain rfl : l = l' := h4.trans g4.symm
  have : p = p' := by
    by_cases e : k = 4
    · rw [if_pos e] at h5 g5
      obtain ⟨o1, q1⟩ := h5
      obtain ⟨o2, q2⟩ := g5
      exact (q1.one q2).1
    · rw [if_neg e] at h5 g5
      rw [h5, g5]
  rw [this]
theorem wishT_inj {d d' : WD} (h : IsW d) (h' : IsW d') (e : wishT d = wishT d') : d = d' := (specW_self h).one (e ▸ specW_self h')
theorem ParsedW.one {s : List UInt8} {d d' : WD} {ok ok' : Bool} (h : ParsedW s d ok) (g : ParsedW s d' ok') : d = d' ∧ ok = ok' := by
  rcases h with ⟨rfl, h1, h2⟩ | ⟨rfl, h1, h2⟩ <;> rcases g with ⟨rfl, g1, g2⟩ | ⟨rfl, g1, g2⟩
  · exact ⟨wishT_inj h1 g1 (h2.trans g2.symm), rfl⟩
  · exact (g2 _ h1 h2).elim
  · exact (h2 _ g1 g2).elim
  · exact ⟨h1.trans g1.symm, rfl⟩
theorem SpecW.no {s : List UInt8} {d : WD} (h : SpecW s d) (hn : ¬ (IsW d ∧ wishT d = s)) : ParsedW s ⟨0, 0, 0, [], []⟩ false :=
  .inr ⟨rfl, rfl, fun d' h' e => hn (by obtain rfl := h.one (e ▸ specW_self h'); exact ⟨h', e⟩)⟩
/-- The kind that the program reads. -/
def kindI (p : List UInt8) : Int := if p = kwT.getD 0 [] then 0 else if p = kwT.getD 1 [] then 1 else if p = kwT.getD 2 [] then 2 else if p = kwT.getD 3 [] then 3 else if p = kwT.getD 4 [] then 4 else -1
theorem kindI_kw {k : Int} (h : 0 ≤ k ∧ k ≤ 4) : kindI (kwT.getD k.toNat []) = k := by
  rcases (show k = 0 ∨ k = 1 ∨ k = 2 ∨ k = 3 ∨ k = 4 by omega) with rfl | rfl | rfl | rfl | rfl <;> decide
def readWd (s : List UInt8) : List UInt8 := (Lib.cut s [32]).1
def readFd (s : List UInt8) : List UInt8 := (Lib.cut (Lib.cut s [32]).2.1 [32]).1
def readAr (s : List UInt8) : List UInt8 := (Lib.cut (Lib.cut s [32]).2.1 [32]).2.1
/-- What the program makes of a text. -/
structure ImplW (s : List UInt8) (d : WD) : Prop where
  k : d.kind = kindI (readWd s)
  f : d.field = pVal (Lib.trimPrefix (readFd s) [102])
  v : d.value = if d.kind = 2 then pVal (readAr s) else 0
  l : if d.kind = 3 then (allOk (pieces 44 (readAr s)) = true → d.ls = (pieces 44 (readAr s)).map pVal) else d.ls = []
  p : if d.kind = 4 then ∃ ok, ParsedP (readAr s) d.ps ok else d.ps = []
theorem map_pVal {l : List Int} (h : ∀ v ∈ l, InR v) : allOk (l.map Lib.itoa) = true ∧ (l.map Lib.itoa).map pVal = l := by
  refine ⟨?_, ?_⟩
  · unfold allOk
    rw [List.all_eq_true]
    intro a ha
    obtain ⟨v, hv, rfl⟩ := List.mem_map.1 ha
    exact (ok_itoa (h v hv).1 (by have := (h v hv).2; omega)).1
  · rw [List.map_map]
    refine (List.map_congr_left (g := id) fun v hv => ?_).trans (List.map_id _)
    exact (ok_itoa (h v hv).1 (by have := (h v hv).2; omega)).2
theorem trim_body (d : WD) : Lib.trimPrefix (bodyT d) [102] = Lib.itoa d.field := by
  unfold bodyT Lib.trimPrefix Lib.hasPrefix
  simp
theorem implW_text {d d' : WD} (h : IsW d') (g : ImplW (wishT d') d) : d = d' := by
  obtain ⟨c1, c2, c3⟩ := wish_cut h
  obtain ⟨k, f, v, l, p⟩ := d
  obtain ⟨g1, g2, g3, g4, g5⟩ := g
  unfold readWd at g1
  unfold readFd at g2
  unfold readAr at g3 g4 g5
  rw [c1] at g1
  rw [c2, trim_body] at g2
  rw [c3] at g3 g4 g5
  have h1 := h.v
  have h2 := h.l
  have h3 := h.p
  have hk := h.k
  have hf := h.f
  obtain ⟨k', f', v', l', p'⟩ := d'
  dsimp only at *
  obtain rfl : k = k' := g1.trans (kindI_kw hk)
  obtain rfl : f = f' := g2.trans (ok_itoa hf.1 (by omega)).2
  have e1 : v = v' := by
    by_cases e : k = 2
    · rw [if_pos e] at h1 g3
      rw [g3, argT2 e]
      exact (ok_itoa h1.1 (by have := h1.2; omega)).2
    · rw [if_neg e] at h1 g3
      rw [g3, h1]
  have e2 : l = l' := by
    by_cases e : k = 3
    · rw [if_pos e] at h2 g4
      rw [argT3 e] at g4
      dsimp only at g4
      rw [ints_pieces h2.1 h2.2.1] at g4
      obtain ⟨m1, m2⟩ := map_pVal h2.2.1
      rw [g4 m1, m2]
    · rw [if_neg e] at h2 g4
      rw [g4, h2]
  have e3 : p = p' := by
    by_cases e : k = 4
    · rw [if_pos e] at h3 g5
      obtain ⟨ok, q⟩ := g5
      rw [argT4 e] at q
      exact (q.one (.inl ⟨rfl, h3, rfl⟩)).1
    · rw [if_neg e] at h3 g5
      rw [g5, h3]
  rw [e1, e2, e3]
theorem ImplW.no {s : List UInt8} {d : WD} (h : ImplW s d) (hn : ¬ (IsW d ∧ wishT d = s)) : ParsedW s ⟨0, 0, 0, [], []⟩ false :=
  .inr ⟨rfl, rfl, fun d' h' e => hn (by obtain rfl := implW_text h' (e ▸ h); exact ⟨h', e⟩)⟩
/-- A text of other than two or three pieces is no wish's. -/
theorem count_no {s : List UInt8} (h : (pieces 32 s).length < 2 ∨ 3 < (pieces 32 s).length) : ParsedW s ⟨0, 0, 0, [], []⟩ false :=
  .inr ⟨rfl, rfl, fun d' h' e => by
    rw [← e, wish_pieces h'] at h
    split at h <;> simp at h⟩
theorem wishT_ne {d : WD} : wishT d ≠ [] := fun e => by
  rw [wishT_eq] at e
  simp at e
end Go.Proofs.YtghekfigfjhkeabGreatDoor.num
