/-
  l2Cut and l2Num, the model's: contracts.
-/
import Derived.Test.YtghekfigfjhkeabGreatDoorPieceMath
import Derived.Test.YtghekfigfjhkeabGreatDoorParseS
namespace Go.Proofs.YtghekfigfjhkeabGreatDoor.num
open Go.RowKit
set_option linter.unusedVariables false

/-- A slice of strings of the call's own. -/
def OwnS (w : World) (B : Nat) (v : Value) (l : List ByteArray) : Prop := w.ownsRow B 9 1 v l.length (l.map Value.string)
theorem OwnS.empty (w : World) (B : Nat) (hB : B ≤ w.heap.size) : OwnS (w.alloc (.cells #[] 9)) B (.slice (some ⟨w.heap.size, 0, none⟩) 0 0) [] :=
  World.ownsRow_made w #[] 0 hB (Nat.zero_le _) (by simp)
/-- A slice of strings that reads as l, below block B. -/
def Strs (w : World) (Lo B : Nat) (A : Option Addr) (n : Nat) (l : List ByteArray) : Prop := l.length = n ∧ ∀ k p, l[k]? = some p → ∃ b off : Nat, A = some ⟨b, off, none⟩ ∧ Lo ≤ b ∧ b < B ∧ w.cell? ⟨b, off + k, none⟩ = some (.string p)
theorem Strs.below {w w' : World} {Lo B : Nat} {A : Option Addr} {n : Nat} {l : List ByteArray} (h : Strs w Lo B A n l) (hb : Below B w w') : Strs w' Lo B A n l :=
  ⟨h.1, fun k p hk => by
    obtain ⟨b, off, ha, hL, hB, hc⟩ := h.2 k p hk
    exact ⟨b, off, ha, hL, hB, (hb.cell (p := ⟨b, off + k, none⟩) hB).trans hc⟩⟩
theorem OwnS.strs {w : World} {B : Nat} {v : Value} {l : List ByteArray} (h : OwnS w B v l) : ∃ A n c, v = .slice A n c ∧ Strs w B w.heap.size A n l := by
  have h0 := h
  rcases h.2 with ⟨rfl, hl⟩ | ⟨g, cap, cur, rfl, hgB, hg, _⟩
  · obtain rfl : l = [] := List.eq_nil_of_length_eq_zero hl
    exact ⟨none, 0, 0, rfl, rfl, fun k p hk => by simp at hk⟩
  · refine ⟨some ⟨g, 0, none⟩, l.length, cap, rfl, rfl, fun k p hk => ⟨g, 0, rfl, hgB, lt_of_block hg, ?_⟩⟩
    have hlt : k < l.length := by
      rcases Nat.lt_or_ge k l.length with h' | h'
      · exact h'
      · rw [List.getElem?_eq_none h'] at hk; cases hk
    rw [Nat.zero_add, World.ownsRow.cellAt h0 k (by omega), List.getElem?_map, hk]; rfl
theorem wp_appS {ops : Array Oper} {rest : List Oper} {o : Oper} {a : Act} {Q : Exit → Act → World → Prop} (w : World) (hgd : o.guard = none) (s x : Operand)
    (ho : o.op = .call { callee := .builtin .append, args := #[s, x], argTypes := #[31, 31] })
    (B : Nat) (v : Value) (l : List ByteArray) (hs : a.eval s = v) (hown : OwnS w B v l) (cs : Array Value) (new : List ByteArray) (hcs : cs = (new.map Value.string).toArray) (n c : Nat) (hn : n = new.length)
    (hx : a.eval x = .slice (some ⟨w.heap.size, 0, none⟩) n c) (hlen : (l.length + new.length) * 16 ≤ 140737488355328) (hB : B ≤ w.heap.size)
    (h : ∀ v' w', OwnS w' B v' (l ++ new) → Below B w w' → wpList Tryz.prog ops Q rest (a.put o.dst v') w') :
    wpList Tryz.prog ops Q (o :: rest) a (w.alloc (.cells cs 9)) := by
  obtain ⟨i0, hi, hz0, hz1, hz2⟩ := info_parts info_string
  subst hcs hn
  refine wpList_append_own _ hgd s x 31 ho B 9 i0 (.string ⟨#[]⟩) 1 16 Tryz.underlying31 hi hz0 hz1 hz2 rfl (by decide) v l.length (l.map Value.string) hs (World.ownsRow.alloc hown _) ⟨w.heap.size, 0, none⟩ new.length c (new.map Value.string) hx (by simp) ?_ ?_ (by unfold maxLen; omega) (by omega) (by simp; omega) ?_
  · intro j u hj
    have e : (⟨w.heap.size, 0, none⟩ : Addr).add j = ⟨w.heap.size, j, none⟩ := by unfold Addr.add; split <;> simp_all
    rw [e, World.cell?_alloc_at _ _ _ _ rfl]
    simpa using hj
  · intro u hu
    obtain ⟨b, _, rfl⟩ := List.mem_map.1 hu
    rfl
  · intro v' w' hown' hg _
    refine h v' w' ?_ (((Below.refl B w).alloc hB _).grown hg (by simp; omega) (fun k hk => ?_))
    · have e : (l ++ new).length = l.length + new.length := by simp
      unfold OwnS
      rw [e, List.map_append]
      exact hown'
    · exact (World.ownsRow.lt hown k hk).1

theorem list_len (s : ByteArray) : s.data.toList.length = s.size := by rw [Array.length_toList]; rfl
theorem one_extract (s : ByteArray) (k : Nat) (h : k < s.size) : (s.extract k (k + 1)).data.toList = [s[k]] := by
  rw [Lib.extract_data]
  have h1 := take_snoc s k h
  have e : s.data.toList[k]? = some s[k] := by
    have : k < s.data.toList.length := by rw [list_len]; exact h
    rw [List.getElem?_eq_getElem this]; simp; rfl
  have h2 : k < s.data.toList.length := by rw [list_len]; exact h
  have e2 : s.data.toList[k] = s[k] := by rw [List.getElem?_eq_getElem h2] at e; exact Option.some.inj e
  first
    | (rw [show k + 1 - k = 1 by omega, List.drop_eq_getElem_cons h2, e2]; rfl)
    | (simp [List.drop_eq_getElem_cons h2, e2])
    | (rw [List.drop_take, show k + 1 - k = 1 by omega, List.drop_eq_getElem_cons h2, e2]; rfl)

set_option maxRecDepth 20000 in
theorem sCut2 (s : ByteArray) (hs : s.size ≤ 1048576) (c : UInt8) (w : World) :
    Calls Tryz.prog 9 #[.string s, .int .u8 (c.toNat : Int)] w fun e w' => (∃ A n cc l, e = .returned (.slice A n cc) ∧ Strs w' w.heap.size w'.heap.size A n l ∧ l.map (·.data.toList) = pieces c s.data.toList) ∧ Below w.heap.size w w' := by
  go_enter Tryz.func9, Tryz.ntmps9
  go_wp2
  go_loopw [5, 6, 7] (fun v p i wr => ∃ (k : Nat) (ps : List ByteArray) (part : ByteArray), k ≤ s.size ∧ i = .int .i64 k ∧ OwnS wr w.heap.size v ps ∧ p = .string part ∧ pieces c (s.data.toList.take k) = ps.map (·.data.toList) ++ [part.data.toList] ∧ Below w.heap.size w wr) (fun _ _ i _ => s.size - (intOf i).toNat)
  case atStart => exact ⟨0, [], ⟨#[]⟩, Nat.zero_le _, rfl, OwnS.empty w _ (Nat.le_refl _), rfl, rfl, (Below.refl _ _).alloc (Nat.le_refl _) _⟩
  case round =>
    obtain ⟨k, ps, part, hk, rfl, hown, rfl, hpc, hbel⟩ := hrel
    have HO := Lib.hid hown
    have HPc := Lib.hid hpc
    have HB := Lib.hid hbel
    have hbnd := pieces_len c (s.data.toList.take k)
    rw [hpc] at hbnd
    simp only [List.map_append, List.map_cons, List.map_nil, List.sum_append, List.sum_cons, List.sum_nil, List.length_append, List.length_cons, List.length_nil, List.length_map] at hbnd
    have htk := List.length_take_le k s.data.toList
    have hpart : part.size ≤ 1048576 := by rw [← list_len part]; omega
    have H4 : Hid ((ps.length + [part].length) * 16 ≤ 140737488355328) := Lib.hid (by simp only [List.length_cons, List.length_nil]; omega)
    clear hown hpc hbnd htk
    by_cases hlt : k < s.size
    · by_cases he : s[k] = c
      · have hq : ((s[k].toNat : Int) == (c.toNat : Int)) = true := by rw [he]; simp
        have HE := Lib.hid he
        clear he hbel
        go_wp2_with (at_builtin; refine wp_appS wr (by rfl) (.tmp 20) (.tmp 22) (by rfl) w.heap.size _ _ (by rfl) HO.out _ [part] (by rfl) 1 1 rfl (by rfl) H4.out HB.out.size ?_)
        intro v1 w2 hown2 hb2
        have HO2 := Lib.hid hown2
        have HB2 := Lib.hid (HB.out.trans hb2)
        clear hown2 hb2
        go_wp2
        go_roundw
        case rel =>
          refine ⟨k + 1, ps ++ [part], ⟨#[]⟩, by omega, by go_num, HO2.out, rfl, ?_, HB2.out⟩
          rw [take_snoc s k hlt, pieces_snoc c _ _ _ _ HPc.out, if_pos HE.out]
          simp
        case measure => simp [intOf]; omega
      · have hq : ((s[k].toNat : Int) == (c.toNat : Int)) = false := by
          rw [beq_eq_false_iff_ne]
          intro h
          exact he (UInt8.toNat_inj.1 (by omega))
        have HE := Lib.hid he
        clear he hbel
        go_wp2
        go_roundw
        case rel =>
          refine ⟨k + 1, ps, part ++ s.extract k (k + 1), by omega, by go_num, HO.out, by first | rfl | go_num, ?_, HB.out⟩
          rw [take_snoc s k hlt, pieces_snoc c _ _ _ _ HPc.out, if_neg HE.out, ← one_extract s k hlt]
          simp
        case measure => simp [intOf]; omega
    · obtain rfl : k = s.size := by omega
      have HPc' : Hid (pieces c s.data.toList = ps.map (·.data.toList) ++ [part.data.toList]) := Lib.hid (by have := HPc.out; rwa [take_all (list_len s)] at this)
      clear hbel
      go_wp2_with (at_builtin; refine wp_appS wr (by rfl) (.tmp 31) (.tmp 33) (by rfl) w.heap.size _ _ (by rfl) HO.out _ [part] (by rfl) 1 1 rfl (by rfl) H4.out HB.out.size ?_)
      intro v1 w2 hown2 hb2
      obtain ⟨A, n, cc, rfl, hst⟩ := hown2.strs
      have HS := Lib.hid hst
      have HB2 := Lib.hid (HB.out.trans hb2)
      clear hown2 hb2 hst
      go_wp2
      go_ret
      exact ⟨⟨A, n, cc, ps ++ [part], rfl, HS.out, by rw [HPc'.out]; simp⟩, HB2.out⟩

theorem sNum (s : ByteArray) (hs : s.size ≤ 1048576) (w : World) :
    Calls Tryz.prog 11 #[.string s] w fun e w' => e = .returned (.int .i64 (numS s.data.toList)) ∧ Below w.heap.size w w' := by
  generalize hv : pVal s.data.toList = v
  generalize ho : pOk s.data.toList = ok
  have HV := Lib.hid hv
  have HO := Lib.hid ho
  have HN : Hid (numS s.data.toList = if ok then v else -100000) := Lib.hid (by unfold numS; rw [ho, hv])
  clear hv ho
  go_enter Tryz.func11, Tryz.ntmps11
  go_wp2_with fail
  refine (sParse s hs w).mono ?_
  rintro e w1 ⟨rfl, hb⟩
  rw [HV.out, HO.out]
  cases ok
  · go_wp2
    go_ret
    exact ⟨by rw [HN.out]; rfl, hb⟩
  · go_wp2
    go_ret
    exact ⟨by rw [HN.out]; rfl, hb⟩
end Go.Proofs.YtghekfigfjhkeabGreatDoor.num
