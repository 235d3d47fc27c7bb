/- What the law FnExactFormatWish leans on, part 3: contracts of the functions that it calls. -/
import Derived.Test.YtghekfigfjhkeabDoorFormatWishP1
import Derived.Test.YtghekfigfjhkeabDoorFormatWishP2
namespace Go.Proofs.YtghekfigfjhkeabDoor.num
open Go.RowKit

theorem dash_at (s : ByteArray) (h : 0 < s.size) : ((s[0].toNat : Int) == 45) = dash s.data.toList := by
  obtain ⟨⟨l⟩⟩ := s
  cases l with
  | nil => exact absurd h (by show ¬ 0 < 0; omega)
  | cons b l =>
    show (((b.toNat : Int)) == 45) = (some b == some 45)
    by_cases hb : b = 45
    · subst hb; rfl
    · have h1 : ((b.toNat : Int) == 45) = false := by
        rw [beq_eq_false_iff_ne]
        intro e
        exact hb (UInt8.toNat_inj.1 (by show b.toNat = 45; omega))
      have h2 : (some b == some (45 : UInt8)) = false := by
        rw [beq_eq_false_iff_ne]
        intro e
        injection e with e
        exact hb e
      rw [h1, h2]
theorem dash_nil (s : ByteArray) (h : s.size = 0) : dash s.data.toList = false := by
  have : s.data.toList = [] := List.eq_nil_of_length_eq_zero (by rw [Array.length_toList]; exact h)
  rw [this]; rfl
theorem len_le (s : ByteArray) (h : s.size ≤ 10) : s.data.toList.length ≤ 10 := by rw [Array.length_toList]; exact h

set_option maxRecDepth 20000 in
set_option maxHeartbeats 800000 in
theorem sParse (s : ByteArray) (hs : s.size ≤ 1048576) (w : World) :
    Calls Tryd.prog 35 #[.string s] w fun e w' => e = .returned (.tuple #[.int .i64 (pVal s.data.toList), .bool (pOk s.data.toList)]) ∧ Below w.heap.size w w' := by
  go_enter Tryd.func35, Tryd.ntmps35
  go_wp2
  go_loop [4, 5, 6] (fun v cn i => ∃ k m c : Nat, k ≤ 11 ∧ k ≤ s.size ∧ i = .int .i64 k ∧ v = .int .i64 m ∧ cn = .int .i64 c ∧ m ≤ 99999999999 ∧ c ≤ 11 ∧ Hid (m = scanV (s.data.toList.take k)) ∧ Hid (c = scanK (s.data.toList.take k))) (fun _ _ i => 11 - (intOf i).toNat)
  case atStart => exact ⟨0, 0, 0, Nat.zero_le _, Nat.zero_le _, rfl, rfl, rfl, by omega, by omega, rfl, rfl⟩
  case round =>
    obtain ⟨k, m, c, hk11, hks, rfl, rfl, rfl, hm, hc, HM, HC⟩ := hrel
    by_cases hlt : k < 11 ∧ k < s.size
    · obtain ⟨hk, hl⟩ := hlt
      have hd : decide ((k : Int) < 11) = true := by simp; omega
      have hl1 := List.length_take_le (k + 1) s.data.toList
      have hs1 := scanV_le12 (s.data.toList.take (k + 1)) (by omega)
      have hs2 := scanK_le (s.data.toList.take (k + 1))
      have hc2 : scanK (s.data.toList.take (k + 1)) ≤ 11 := by omega
      have e1 := scanV_snoc (s.data.toList.take k) s[k]
      have e2 := scanK_snoc (s.data.toList.take k) s[k]
      rw [← take_snoc s k hl, ← HM.out] at e1
      rw [← take_snoc s k hl, ← HC.out] at e2
      rw [e1] at hs1
      rw [e2] at hc2
      cases hx : isD s[k]
      · have HX : Hid (dstep m s[k] = m) := by show _ = _; rw [dstep, hx]; rfl
        have hnd : ¬ (48 ≤ s[k].toNat ∧ s[k].toNat ≤ 57) := of_decide_eq_false hx
        have E1 := Lib.hid e1
        have E2 : Hid (scanK (s.data.toList.take (k + 1)) = c) := by show _ = _; rw [e2, hx]; rfl
        clear e1 e2 hx hs1 hc2 hs2 hl1
        by_cases h48 : 48 ≤ s[k].toNat
        · have h57 : 57 < s[k].toNat := by omega
          clear hnd
          go_wp2
          go_round
          case rel => exact ⟨k + 1, m, c, by omega, by omega, by go_num, rfl, rfl, hm, hc, by show _ = _; rw [E1.out, HX.out], E2.out.symm⟩
          case measure => simp [intOf]; omega
        · clear hnd
          go_wp2
          go_round
          case rel => exact ⟨k + 1, m, c, by omega, by omega, by go_num, rfl, rfl, hm, hc, by show _ = _; rw [E1.out, HX.out], E2.out.symm⟩
          case measure => simp [intOf]; omega
      · have hdi : 48 ≤ s[k].toNat ∧ s[k].toNat ≤ 57 := of_decide_eq_true hx
        obtain ⟨hd1, hd2⟩ := hdi
        have e3 : dstep m s[k] = 10 * m + (s[k].toNat - 48) := by rw [dstep, hx]; rfl
        rw [e3] at hs1 e1
        have E1 := Lib.hid e1
        have e4 : scanK (s.data.toList.take (k + 1)) = c + 1 := by rw [e2, hx]; rfl
        have hcc : c + 1 ≤ 11 := by rw [← e4]; omega
        have E2 := Lib.hid e4
        clear e1 e2 e3 e4 hx hc2 hs2 hl1
        go_wp2
        go_round
        case rel => exact ⟨k + 1, 10 * m + (s[k].toNat - 48), c + 1, by omega, by omega, by go_num, by go_num, by go_num, hs1, hcc, E1.out.symm, E2.out.symm⟩
        case measure => simp [intOf]; omega
    · by_cases hbig : 10 < s.size
      · have HU := Lib.hid (pOk_long s.data.toList (by rw [Array.length_toList]; exact hbig))
        have hpos : 0 < s.size := by omega
        have h45 := dash_at s hpos
        generalize dash s.data.toList = d at h45
        by_cases hc9 : 9 < c
        · cases d
          all_goals
            go_wp2
            all_goals
              go_ret2
              refine ⟨?_, Below.refl _ _⟩
              rw [HU.out.1, HU.out.2]; rfl
        · cases d
          all_goals
            go_wp2
            all_goals
              go_ret2
              refine ⟨?_, Below.refl _ _⟩
              rw [HU.out.1, HU.out.2]; rfl
      · obtain rfl : k = s.size := by omega
        have hfull : s.data.toList.take s.size = s.data.toList := List.take_of_length_le (by rw [Array.length_toList]; exact Nat.le_refl _)
        have HM2 : Hid (m = scanV s.data.toList) := by show _ = _; rw [HM.out, hfull]
        have HC2 : Hid (c = scanK s.data.toList) := by show _ = _; rw [HC.out, hfull]
        clear hfull HM HC
        by_cases hc9 : 9 < c
        · have HU := Lib.hid (pOk_no s.data.toList (fun h => by have := h.2.1; rw [← HC2.out] at this; omega))
          by_cases hz : s.size = 0
          · have hz' : ¬ 0 < s.size := by omega
            clear hz
            go_wp2
            go_ret2
            refine ⟨?_, Below.refl _ _⟩
            rw [HU.out.1, HU.out.2]; rfl
          · have hpos : 0 < s.size := by omega
            have h45 := dash_at s hpos
            generalize dash s.data.toList = d at h45
            clear hz
            cases d
            all_goals
              go_wp2
              go_ret2
              refine ⟨?_, Below.refl _ _⟩
              rw [HU.out.1, HU.out.2]; rfl
        · by_cases hz : s.size = 0
          · have hz' : ¬ 0 < s.size := by omega
            have HD := Lib.hid (dash_nil s hz)
            clear hz
            have hsg : signed s.data.toList (scanV s.data.toList) = (m : Int) := by unfold signed; rw [HD.out, ← HM2.out]; rfl
            by_cases hb : Lib.itoa ((m : Int)) = s.data.toList
            · have hq := eq_text ((m : Int)) s true (by simp [hb])
              have HU := Lib.hid (pOk_model s.data.toList (by rw [← HC2.out]; omega) (by rw [hsg]; exact hb))
              have HG := Lib.hid hsg
              clear hb hsg
              go_wp2_with fail
              refine (sFormat ((m : Int)) (by omega) (by omega) _).mono ?_
              rintro e wb ⟨rfl, hb1⟩
              go_wp2
              go_ret2
              refine ⟨?_, hb1⟩
              rw [HU.out.1, HU.out.2, HG.out]; rfl
            · have hq := eq_text ((m : Int)) s false (by simp [hb])
              have HU := Lib.hid (pOk_no s.data.toList (fun h => hb (by have := h.2.2; rw [hsg] at this; exact this)))
              have HG := Lib.hid hsg
              clear hb hsg
              go_wp2_with fail
              refine (sFormat ((m : Int)) (by omega) (by omega) _).mono ?_
              rintro e wb ⟨rfl, hb1⟩
              go_wp2
              go_ret2
              refine ⟨?_, hb1⟩
              rw [HU.out.1, HU.out.2]; rfl
          · have hpos : 0 < s.size := by omega
            have h45 := dash_at s hpos
            clear hz
            cases hd : dash s.data.toList
            · rw [hd] at h45
              have HD := Lib.hid hd
              clear hd
              have hsg : signed s.data.toList (scanV s.data.toList) = (m : Int) := by unfold signed; rw [HD.out, ← HM2.out]; rfl
              by_cases hb : Lib.itoa ((m : Int)) = s.data.toList
              · have hq := eq_text ((m : Int)) s true (by simp [hb])
                have HU := Lib.hid (pOk_model s.data.toList (by rw [← HC2.out]; omega) (by rw [hsg]; exact hb))
                have HG := Lib.hid hsg
                clear hb hsg
                go_wp2_with fail
                refine (sFormat ((m : Int)) (by omega) (by omega) _).mono ?_
                rintro e wb ⟨rfl, hb1⟩
                go_wp2
                go_ret2
                refine ⟨?_, hb1⟩
                rw [HU.out.1, HU.out.2, HG.out]; rfl
              · have hq := eq_text ((m : Int)) s false (by simp [hb])
                have HU := Lib.hid (pOk_no s.data.toList (fun h => hb (by have := h.2.2; rw [hsg] at this; exact this)))
                have HG := Lib.hid hsg
                clear hb hsg
                go_wp2_with fail
                refine (sFormat ((m : Int)) (by omega) (by omega) _).mono ?_
                rintro e wb ⟨rfl, hb1⟩
                go_wp2
                go_ret2
                refine ⟨?_, hb1⟩
                rw [HU.out.1, HU.out.2]; rfl
            · rw [hd] at h45
              have HD := Lib.hid hd
              clear hd
              have hsg : signed s.data.toList (scanV s.data.toList) = -(m : Int) := by unfold signed; rw [HD.out, ← HM2.out]; rfl
              by_cases hb : Lib.itoa (-(m : Int)) = s.data.toList
              · have hq := eq_text (-(m : Int)) s true (by simp [hb])
                have HU := Lib.hid (pOk_model s.data.toList (by rw [← HC2.out]; omega) (by rw [hsg]; exact hb))
                have HG := Lib.hid hsg
                clear hb hsg
                go_wp2_with fail
                refine (sFormat (-(m : Int)) (by omega) (by omega) _).mono ?_
                rintro e wb ⟨rfl, hb1⟩
                go_wp2
                go_ret2
                refine ⟨?_, hb1⟩
                rw [HU.out.1, HU.out.2, HG.out]; rfl
              · have hq := eq_text (-(m : Int)) s false (by simp [hb])
                have HU := Lib.hid (pOk_no s.data.toList (fun h => hb (by have := h.2.2; rw [hsg] at this; exact this)))
                have HG := Lib.hid hsg
                clear hb hsg
                go_wp2_with fail
                refine (sFormat (-(m : Int)) (by omega) (by omega) _).mono ?_
                rintro e wb ⟨rfl, hb1⟩
                go_wp2
                go_ret2
                refine ⟨?_, hb1⟩
                rw [HU.out.1, HU.out.2]; rfl
end Go.Proofs.YtghekfigfjhkeabDoor.num
namespace Go.Proofs.YtghekfigfjhkeabDoor.num
open Go.RowKit
set_option linter.unusedVariables false

/-- A slice of strings of the call's own. -/
def OwnS (w : World) (B : Nat) (v : Value) (l : List ByteArray) : Prop := w.ownsRow B 9 1 v l.length (l.map Value.string)
theorem OwnS.empty (w : World) (B : Nat) (hB : B ≤ w.heap.size) : OwnS (w.alloc (.cells #[] 9)) B (.slice (some ⟨w.heap.size, 0, none⟩) 0 0) [] :=
  World.ownsRow_made w #[] 0 hB (Nat.zero_le _) (by simp)
/-- A slice of strings that reads as l, below block B. -/
def Strs (w : World) (Lo B : Nat) (A : Option Addr) (n : Nat) (l : List ByteArray) : Prop := l.length = n ∧ ∀ k p, l[k]? = some p → ∃ b off : Nat, A = some ⟨b, off, none⟩ ∧ Lo ≤ b ∧ b < B ∧ w.cell? ⟨b, off + k, none⟩ = some (.string p)
theorem Strs.below {w w' : World} {Lo B : Nat} {A : Option Addr} {n : Nat} {l : List ByteArray} (h : Strs w Lo B A n l) (hb : Below B w w') : Strs w' Lo B A n l :=
  ⟨h.1, fun k p hk => by
    obtain ⟨b, off, ha, hL, hB, hc⟩ := h.2 k p hk
    exact ⟨b, off, ha, hL, hB, (hb.cell (p := ⟨b, off + k, none⟩) hB).trans hc⟩⟩
theorem OwnS.strs {w : World} {B : Nat} {v : Value} {l : List ByteArray} (h : OwnS w B v l) : ∃ A n c, v = .slice A n c ∧ Strs w B w.heap.size A n l := by
  have h0 := h
  rcases h.2 with ⟨rfl, hl⟩ | ⟨g, cap, cur, rfl, hgB, hg, _⟩
  · obtain rfl : l = [] := List.eq_nil_of_length_eq_zero hl
    exact ⟨none, 0, 0, rfl, rfl, fun k p hk => by simp at hk⟩
  · refine ⟨some ⟨g, 0, none⟩, l.length, cap, rfl, rfl, fun k p hk => ⟨g, 0, rfl, hgB, lt_of_block hg, ?_⟩⟩
    have hlt : k < l.length := by
      rcases Nat.lt_or_ge k l.length with h' | h'
      · exact h'
      · rw [List.getElem?_eq_none h'] at hk; cases hk
    rw [Nat.zero_add, World.ownsRow.cellAt h0 k (by omega), List.getElem?_map, hk]; rfl
theorem wp_appS {ops : Array Oper} {rest : List Oper} {o : Oper} {a : Act} {Q : Exit → Act → World → Prop} (w : World) (hgd : o.guard = none) (s x : Operand)
    (ho : o.op = .call { callee := .builtin .append, args := #[s, x], argTypes := #[39, 39] })
    (B : Nat) (v : Value) (l : List ByteArray) (hs : a.eval s = v) (hown : OwnS w B v l) (cs : Array Value) (new : List ByteArray) (hcs : cs = (new.map Value.string).toArray) (n c : Nat) (hn : n = new.length)
    (hx : a.eval x = .slice (some ⟨w.heap.size, 0, none⟩) n c) (hlen : (l.length + new.length) * 16 ≤ 140737488355328) (hB : B ≤ w.heap.size)
    (h : ∀ v' w', OwnS w' B v' (l ++ new) → Below B w w' → wpList Tryd.prog ops Q rest (a.put o.dst v') w') :
    wpList Tryd.prog ops Q (o :: rest) a (w.alloc (.cells cs 9)) := by
  obtain ⟨i0, hi, hz0, hz1, hz2⟩ := info_parts info_string
  subst hcs hn
  refine wpList_append_own _ hgd s x 39 ho B 9 i0 (.string ⟨#[]⟩) 1 16 Tryd.underlying39 hi hz0 hz1 hz2 rfl (by decide) v l.length (l.map Value.string) hs (World.ownsRow.alloc hown _) ⟨w.heap.size, 0, none⟩ new.length c (new.map Value.string) hx (by simp) ?_ ?_ (by unfold maxLen; omega) (by omega) (by simp; omega) ?_
  · intro j u hj
    have e : (⟨w.heap.size, 0, none⟩ : Addr).add j = ⟨w.heap.size, j, none⟩ := by unfold Addr.add; split <;> simp_all
    rw [e, World.cell?_alloc_at _ _ _ _ rfl]
    simpa using hj
  · intro u hu
    obtain ⟨b, _, rfl⟩ := List.mem_map.1 hu
    rfl
  · intro v' w' hown' hg _
    refine h v' w' ?_ (((Below.refl B w).alloc hB _).grown hg (by simp; omega) (fun k hk => ?_))
    · have e : (l ++ new).length = l.length + new.length := by simp
      unfold OwnS
      rw [e, List.map_append]
      exact hown'
    · exact (World.ownsRow.lt hown k hk).1

theorem list_len (s : ByteArray) : s.data.toList.length = s.size := by rw [Array.length_toList]; rfl
theorem one_extract (s : ByteArray) (k : Nat) (h : k < s.size) : (s.extract k (k + 1)).data.toList = [s[k]] := by
  rw [Lib.extract_data]
  have h1 := take_snoc s k h
  have e : s.data.toList[k]? = some s[k] := by
    have : k < s.data.toList.length := by rw [list_len]; exact h
    rw [List.getElem?_eq_getElem this]; simp; rfl
  have h2 : k < s.data.toList.length := by rw [list_len]; exact h
  have e2 : s.data.toList[k] = s[k] := by rw [List.getElem?_eq_getElem h2] at e; exact Option.some.inj e
  first
    | (rw [show k + 1 - k = 1 by omega, List.drop_eq_getElem_cons h2, e2]; rfl)
    | (simp [List.drop_eq_getElem_cons h2, e2])
    | (rw [List.drop_take, show k + 1 - k = 1 by omega, List.drop_eq_getElem_cons h2, e2]; rfl)

set_option maxRecDepth 20000 in
theorem sCut2 (s : ByteArray) (hs : s.size ≤ 1048576) (c : UInt8) (w : World) :
    Calls Tryd.prog 15 #[.string s, .int .u8 (c.toNat : Int)] w fun e w' => (∃ A n cc l, e = .returned (.slice A n cc) ∧ Strs w' w.heap.size w'.heap.size A n l ∧ l.map (·.data.toList) = pieces c s.data.toList) ∧ Below w.heap.size w w' := by
  go_enter Tryd.func15, Tryd.ntmps15
  go_wp2
  go_loopw [5, 6, 7] (fun v p i wr => ∃ (k : Nat) (ps : List ByteArray) (part : ByteArray), k ≤ s.size ∧ i = .int .i64 k ∧ OwnS wr w.heap.size v ps ∧ p = .string part ∧ pieces c (s.data.toList.take k) = ps.map (·.data.toList) ++ [part.data.toList] ∧ Below w.heap.size w wr) (fun _ _ i _ => s.size - (intOf i).toNat)
  case atStart => exact ⟨0, [], ⟨#[]⟩, Nat.zero_le _, rfl, OwnS.empty w _ (Nat.le_refl _), rfl, rfl, (Below.refl _ _).alloc (Nat.le_refl _) _⟩
  case round =>
    obtain ⟨k, ps, part, hk, rfl, hown, rfl, hpc, hbel⟩ := hrel
    have HO := Lib.hid hown
    have HPc := Lib.hid hpc
    have HB := Lib.hid hbel
    have hbnd := pieces_len c (s.data.toList.take k)
    rw [hpc] at hbnd
    simp only [List.map_append, List.map_cons, List.map_nil, List.sum_append, List.sum_cons, List.sum_nil, List.length_append, List.length_cons, List.length_nil, List.length_map] at hbnd
    have htk := List.length_take_le k s.data.toList
    have hpart : part.size ≤ 1048576 := by rw [← list_len part]; omega
    have H4 : Hid ((ps.length + [part].length) * 16 ≤ 140737488355328) := Lib.hid (by simp only [List.length_cons, List.length_nil]; omega)
    clear hown hpc hbnd htk
    by_cases hlt : k < s.size
    · by_cases he : s[k] = c
      · have hq : ((s[k].toNat : Int) == (c.toNat : Int)) = true := by rw [he]; simp
        have HE := Lib.hid he
        clear he hbel
        go_wp2_with (at_builtin; refine wp_appS wr (by rfl) (.tmp 20) (.tmp 22) (by rfl) w.heap.size _ _ (by rfl) HO.out _ [part] (by rfl) 1 1 rfl (by rfl) H4.out HB.out.size ?_)
        intro v1 w2 hown2 hb2
        have HO2 := Lib.hid hown2
        have HB2 := Lib.hid (HB.out.trans hb2)
        clear hown2 hb2
        go_wp2
        go_roundw
        case rel =>
          refine ⟨k + 1, ps ++ [part], ⟨#[]⟩, by omega, by go_num, HO2.out, rfl, ?_, HB2.out⟩
          rw [take_snoc s k hlt, pieces_snoc c _ _ _ _ HPc.out, if_pos HE.out]
          simp
        case measure => simp [intOf]; omega
      · have hq : ((s[k].toNat : Int) == (c.toNat : Int)) = false := by
          rw [beq_eq_false_iff_ne]
          intro h
          exact he (UInt8.toNat_inj.1 (by omega))
        have HE := Lib.hid he
        clear he hbel
        go_wp2
        go_roundw
        case rel =>
          refine ⟨k + 1, ps, part ++ s.extract k (k + 1), by omega, by go_num, HO.out, by first | rfl | go_num, ?_, HB.out⟩
          rw [take_snoc s k hlt, pieces_snoc c _ _ _ _ HPc.out, if_neg HE.out, ← one_extract s k hlt]
          simp
        case measure => simp [intOf]; omega
    · obtain rfl : k = s.size := by omega
      have HPc' : Hid (pieces c s.data.toList = ps.map (·.data.toList) ++ [part.data.toList]) := Lib.hid (by have := HPc.out; rwa [take_all (list_len s)] at this)
      clear hbel
      go_wp2_with (at_builtin; refine wp_appS wr (by rfl) (.tmp 31) (.tmp 33) (by rfl) w.heap.size _ _ (by rfl) HO.out _ [part] (by rfl) 1 1 rfl (by rfl) H4.out HB.out.size ?_)
      intro v1 w2 hown2 hb2
      obtain ⟨A, n, cc, rfl, hst⟩ := hown2.strs
      have HS := Lib.hid hst
      have HB2 := Lib.hid (HB.out.trans hb2)
      clear hown2 hb2 hst
      go_wp2
      go_ret
      exact ⟨⟨A, n, cc, ps ++ [part], rfl, HS.out, by rw [HPc'.out]; simp⟩, HB2.out⟩

theorem sNum (s : ByteArray) (hs : s.size ≤ 1048576) (w : World) :
    Calls Tryd.prog 16 #[.string s] w fun e w' => e = .returned (.int .i64 (numS s.data.toList)) ∧ Below w.heap.size w w' := by
  generalize hv : pVal s.data.toList = v
  generalize ho : pOk s.data.toList = ok
  have HV := Lib.hid hv
  have HO := Lib.hid ho
  have HN : Hid (numS s.data.toList = if ok then v else -100000) := Lib.hid (by unfold numS; rw [ho, hv])
  clear hv ho
  go_enter Tryd.func16, Tryd.ntmps16
  go_wp2_with fail
  refine (sParse s hs w).mono ?_
  rintro e w1 ⟨rfl, hb⟩
  rw [HV.out, HO.out]
  cases ok
  · go_wp2
    go_ret
    exact ⟨by rw [HN.out]; rfl, hb⟩
  · go_wp2
    go_ret
    exact ⟨by rw [HN.out]; rfl, hb⟩
end Go.Proofs.YtghekfigfjhkeabDoor.num
namespace Go.Proofs.YtghekfigfjhkeabDoor.num
open Go.RowKit Go.Maps
set_option linter.unusedVariables false
set_option linter.unusedSimpArgs false

theorem OwnS.two (w : World) (B : Nat) (hB : B ≤ w.heap.size) (a b : ByteArray) : OwnS (w.alloc (.cells #[.string a, .string b] 9)) B (.slice (some ⟨w.heap.size, 0, none⟩) 2 2) [a, b] :=
  ⟨rfl, .inr ⟨w.heap.size, 2, _, rfl, hB, heap_alloc_new w _, Nat.le_refl _, by decide, rfl, rfl⟩⟩
theorem OwnS.below {w w' : World} {B : Nat} {v : Value} {l : List ByteArray} (h : OwnS w B v l) (hb : Below w.heap.size w w') : OwnS w' B v l :=
  ⟨h.1, h.2.imp id fun ⟨g, cap, cur, h1, h2, h3, h4⟩ => ⟨g, cap, cur, h1, h2, (hb.block g (lt_of_block h3)).trans h3, h4⟩⟩
/-- Strings of the call's own, joined. -/
theorem join_own (w : World) (B : Nat) (v : Value) (l : List ByteArray) (sep : ByteArray) (h : OwnS w B v l) (hne : l ≠ []) (hl : l.length ≤ 10) (hj : (Lib.join (l.map (·.data.toList)) sep.data.toList).length ≤ 140737488355328) :
    Calls Tryd.prog 33 #[v, .string sep] w fun e w' => e = .returned (.string ⟨(Lib.join (l.map (·.data.toList)) sep.data.toList).toArray⟩) ∧ Below w.heap.size w w' := by
  have h0 := h
  rcases h.2 with ⟨rfl, hl0⟩ | ⟨g, cap, cur, rfl, hgB, hg, hcap, _⟩
  · exact absurd (List.eq_nil_of_length_eq_zero hl0) hne
  · refine Tryd.strings_Join g 0 cap l sep w (fun j x hx => ?_) (lt_of_block hg) (by omega) hcap hj
    have hlt : j < l.length := (List.getElem?_eq_some_iff.1 hx).1
    rw [Nat.zero_add, World.ownsRow.cellAt h0 j (by omega), List.getElem?_map, hx]; rfl
theorem kwB_size (i : Nat) : (kwB i).size ≤ 5 := by
  unfold kwB
  show (kwT.getD i []).toArray.size ≤ 5
  rw [List.size_toArray]
  rcases (show i = 0 ∨ i = 1 ∨ i = 2 ∨ i = 3 ∨ i = 4 ∨ 5 ≤ i by omega) with rfl | rfl | rfl | rfl | rfl | h
  · decide
  · decide
  · decide
  · decide
  · decide
  · rw [List.getD_eq_getElem?_getD, List.getElem?_eq_none (by simpa [kwT] using h)]
    decide
theorem join2 (a b : List UInt8) (c : UInt8) : Lib.join [a, b] [c] = a ++ c :: b := by rw [join_cons2, Lib.join_one]
theorem join3 (a b d : List UInt8) (c : UInt8) : Lib.join [a, b, d] [c] = a ++ c :: (b ++ c :: d) := by rw [join_cons2, join_cons2, Lib.join_one]
theorem fldB_list (f : Int) : (⟨#[102]⟩ ++ fmtB f : ByteArray).data.toList = 102 :: Lib.itoa f := by simp [fmtB, ByteArray.data_append]
theorem words2 {k : Nat} {f v : Int} {ls : List Int} {ps : List (Int × Int)} (hr : restT ⟨k, f, v, ls, ps⟩ = []) : (⟨(Lib.join ([kwB k, (⟨#[102]⟩ ++ fmtB f : ByteArray)].map (·.data.toList)) (⟨#[32]⟩ : ByteArray).data.toList).toArray⟩ : ByteArray) = fmtW ⟨k, f, v, ls, ps⟩ true := by
  apply fmtW_ext
  show Lib.join [(kwB k).data.toList, (⟨#[102]⟩ ++ fmtB f : ByteArray).data.toList] [32] = _
  rw [join2, fldB_list]
  unfold wishT
  rw [hr, List.append_nil]
  rfl
theorem words3 {k : Nat} {f v : Int} {ls : List Int} {ps : List (Int × Int)} {x : ByteArray} (hr : restT ⟨k, f, v, ls, ps⟩ = 32 :: x.data.toList) : (⟨(Lib.join ([kwB k, (⟨#[102]⟩ ++ fmtB f : ByteArray), x].map (·.data.toList)) (⟨#[32]⟩ : ByteArray).data.toList).toArray⟩ : ByteArray) = fmtW ⟨k, f, v, ls, ps⟩ true := by
  apply fmtW_ext
  show Lib.join [(kwB k).data.toList, (⟨#[102]⟩ ++ fmtB f : ByteArray).data.toList, x.data.toList] [32] = _
  rw [join3, fldB_list]
  unfold wishT
  rw [hr]
  simp [kwB]
theorem words_len (l : List ByteArray) (m : Nat) (hm : ∀ x ∈ l, x.size ≤ m) (hl : l.length ≤ 3) (h : m ≤ 4194304) : (Lib.join (l.map (·.data.toList)) (⟨#[32]⟩ : ByteArray).data.toList).length ≤ 140737488355328 := by
  have := join_le (m := m) 32 (l.map (·.data.toList)) fun x hx => by
    obtain ⟨b, hb, rfl⟩ := List.mem_map.1 hx
    rw [list_len]
    exact hm b hb
  rw [List.length_map] at this
  show (Lib.join (l.map (·.data.toList)) [32]).length ≤ _
  have h3 : (m + 1) * l.length ≤ (m + 1) * 3 := Nat.mul_le_mul_left _ hl
  omega

set_option maxRecDepth 20000 in
set_option maxHeartbeats 3200000 in
theorem iFmtW (w : World) (B : Nat) (t : Wi) (hi : WiIn w B t) (hB : B ≤ w.heap.size) (hn : t.Short) (q : Bool) (hq : q = true ↔ IsW t.dat) (hpow : Pow w) (hkw : Kw w) :
    Calls Tryd.prog 13 #[t.val] w fun e w' => e = .returned (.string (fmtW t.dat q)) ∧ Below w.heap.size w w' := by
  have HI := Lib.hid hi
  have HQ := Lib.hid hq
  have HPw := Lib.hid hpow
  have HKw := Lib.hid hkw
  have HB1 : Hid (∀ o : Obj, Below B w (w.alloc o)) := Lib.hid fun o => (Below.refl B w).alloc hB _
  have HW1 : Hid (∀ o : Obj, Below w.heap.size w (w.alloc o)) := Lib.hid fun o => (Below.refl _ w).alloc (Nat.le_refl _) _
  have HS : Hid (∀ w1 : World, WiIn w1 B t → B ≤ w1.heap.size → Calls Tryd.prog 29 #[t.val] w1 fun e w' => e = .returned (.bool q) ∧ Below w1.heap.size w1 w') := Lib.hid fun w1 h1 h2 => iIsWish w1 B t h1 h2 hn q hq
  have HN := Lib.hid hn
  clear hi hq hn hpow hkw
  obtain ⟨k, f, v, LA, Ln, Lc, ls, PA, Pn, Pc, ps⟩ := t
  unfold Wi.val at HS ⊢
  simp only [Wi.dat] at HQ ⊢
  cases q
  · go_enter Tryd.func13, Tryd.ntmps13
    go_wp2_with fail
    refine (HS.out _ (HI.out.below (HB1.out _)) (by simp; omega)).mono ?_
    rintro e w1 ⟨rfl, hb1⟩
    have HBB := Lib.hid ((HW1.out _).trans (hb1.mono (by simp)))
    clear hb1
    go_wp2
    go_ret
    exact ⟨rfl, HBB.out⟩
  · have HW := Lib.hid (HQ.out.1 rfl)
    have hk := HW.out.k
    have hf := HW.out.f
    have hv : k = 2 → InR v := fun h => HW.out.val2 h
    have ha : k = 3 → Asc ls := fun h => HW.out.asc h
    have ho : k = 4 → OkP ps := fun h => HW.out.okp h
    have HP : Hid (Pairs w B PA Pn ps) := Lib.hid HI.out.p
    have HL : Hid (Ints w B LA Ln ls) := Lib.hid HI.out.l
    have HNN : Hid (Ln ≤ 1048576 ∧ Pn ≤ 1048576) := Lib.hid HN.out
    have hff : (fmtB f).size ≤ 2 := fmt_R' ⟨hf.1, by have := hf.2; dsimp only at this; omega⟩
    have hf1 : -9223372036854775808 ≤ f := by have := hf.1; dsimp only at this; omega
    have hf2 : f ≤ 9223372036854775807 := by have := hf.2; dsimp only at this; omega
    have hfs : (⟨#[102]⟩ ++ fmtB f : ByteArray).size ≤ 3 := by
      have : (⟨#[102]⟩ ++ fmtB f : ByteArray).size = 1 + (fmtB f).size := by rw [ByteArray.size_append]; rfl
      omega
    dsimp only at hk
    clear hf HQ HN
    rcases (show k = 0 ∨ k = 1 ∨ k = 2 ∨ k = 3 ∨ k = 4 by omega) with rfl | rfl | rfl | rfl | rfl
    · clear hk hv ha ho
      have hwl : ∀ x ∈ [kwB 0, (⟨#[102]⟩ ++ fmtB f : ByteArray)], x.size ≤ 5 := by
        intro x hx
        simp only [List.mem_cons, List.not_mem_nil, or_false] at hx
        rcases hx with rfl | rfl
        · have := kwB_size 0; omega
        · omega
      go_enter Tryd.func13, Tryd.ntmps13
      go_wp2_with fail
      refine (HS.out _ (HI.out.below (HB1.out _)) (by simp; omega)).mono ?_
      rintro e w1 ⟨rfl, hb1⟩
      obtain ⟨c0, c1, c2, c3, c4, hg⟩ := box5 hb1
      have HBB := Lib.hid (And.intro ((HW1.out _).trans (hb1.mono (by simp))) ((HB1.out _).trans (hb1.mono (by simp; omega))))
      clear hb1
      obtain ⟨kb, ko, kc, k0, kg, kh, kk⟩ := HKw.out.below HBB.out.1
      have k1 : w1.cell? ⟨kb, ko, none⟩ = some (.string (kwB 0)) := kk 0 (by decide)
      clear kk
      have hc8 : ¬ (9223372036854775807 < 1 + (fmtB f).size) := by omega
      go_wp2
      have hs0 : (fun w' => Below w1.heap.size w1 w' ∧ w'.cell? ⟨w.heap.size, 0, none⟩ = some (.int .i64 0) ∧ w'.cell? ⟨w.heap.size, 1, none⟩ = some (.int .i64 f) ∧ w'.cell? ⟨w.heap.size, 2, none⟩ = some (.int .i64 v) ∧ w'.cell? ⟨w.heap.size, 3, none⟩ = some (.slice LA Ln Lc) ∧ w'.cell? ⟨w.heap.size, 4, none⟩ = some (.slice PA Pn Pc) ∧ w'.cell? ⟨0, 0, none⟩ = some (.slice (some ⟨kb, ko, none⟩) 5 kc) ∧ w'.cell? ⟨kb, ko, none⟩ = some (.string (kwB 0))) w1.drew := ⟨(Below.refl _ _).drew, c0, c1, c2, c3, c4, k0, k1⟩
      refine wp_region_held (S := fun w' => Below w1.heap.size w1 w' ∧ w'.cell? ⟨w.heap.size, 0, none⟩ = some (.int .i64 0) ∧ w'.cell? ⟨w.heap.size, 1, none⟩ = some (.int .i64 f) ∧ w'.cell? ⟨w.heap.size, 2, none⟩ = some (.int .i64 v) ∧ w'.cell? ⟨w.heap.size, 3, none⟩ = some (.slice LA Ln Lc) ∧ w'.cell? ⟨w.heap.size, 4, none⟩ = some (.slice PA Pn Pc) ∧ w'.cell? ⟨0, 0, none⟩ = some (.slice (some ⟨kb, ko, none⟩) 5 kc) ∧ w'.cell? ⟨kb, ko, none⟩ = some (.string (kwB 0))) (by kernel_rfl) ?_
      change wpAnyH _ _ _ _ _ _ _ _ (World.drew _)
      refine takeY 7 (i := 0) (v := ?v0d) rfl rfl (by kernel_rfl) (by kernel_rfl) (by kernel_rfl) (fun _ _ _ h => h) (by kernel_rfl) ?y0d hs0 ?_
      case y0d =>
        intro w' hw'; (try dsimp only at hw'); obtain ⟨e0, e1, e2, e3, e4, e5, e6, e7⟩ := hw'; go_simp; try with_reducible rfl
      simp only [Act.put, List.setIfInBounds_toArray, List.set_cons_zero, List.set_cons_succ]
      refine takeY 8 (i := 1) (v := ?v1d) rfl rfl (by kernel_rfl) (by kernel_rfl) (by kernel_rfl) (fun _ _ _ h => h) (by kernel_rfl) ?y1d hs0 ?_
      case y1d =>
        intro w' hw'; (try dsimp only at hw'); obtain ⟨e0, e1, e2, e3, e4, e5, e6, e7⟩ := hw'; go_simp; try with_reducible rfl
      simp only [Act.put, List.setIfInBounds_toArray, List.set_cons_zero, List.set_cons_succ]
      refine takeY 9 (i := 2) (v := ?v2d) rfl rfl (by kernel_rfl) (by kernel_rfl) (by kernel_rfl) (fun _ _ _ h => h) (by kernel_rfl) ?y2d hs0 ?_
      case y2d =>
        intro w' hw'; (try dsimp only at hw'); obtain ⟨e0, e1, e2, e3, e4, e5, e6, e7⟩ := hw'; go_simp; try with_reducible rfl
      simp only [Act.put, List.setIfInBounds_toArray, List.set_cons_zero, List.set_cons_succ]
      refine takeY 10 (i := 3) (v := ?v3d) rfl rfl (by kernel_rfl) (by kernel_rfl) (by kernel_rfl) (fun _ _ _ h => h) (by kernel_rfl) ?y3d hs0 ?_
      case y3d =>
        intro w' hw'; (try dsimp only at hw'); obtain ⟨e0, e1, e2, e3, e4, e5, e6, e7⟩ := hw'; go_simp; try with_reducible rfl
      simp only [Act.put, List.setIfInBounds_toArray, List.set_cons_zero, List.set_cons_succ]
      refine takeY 11 (i := 4) (v := ?v4d) rfl rfl (by kernel_rfl) (by kernel_rfl) (by kernel_rfl) (fun _ _ _ h => h) (by kernel_rfl) ?y4d hs0 ?_
      case y4d =>
        intro w' hw'; (try dsimp only at hw'); obtain ⟨e0, e1, e2, e3, e4, e5, e6, e7⟩ := hw'; go_simp; try with_reducible rfl
      simp only [Act.put, List.setIfInBounds_toArray, List.set_cons_zero, List.set_cons_succ]
      refine takeY 12 (i := 5) (v := ?v5d) rfl rfl (by kernel_rfl) (by kernel_rfl) (by kernel_rfl) (fun _ _ _ h => h) (by kernel_rfl) ?y5d hs0 ?_
      case y5d =>
        intro w' hw'; (try dsimp only at hw'); obtain ⟨e0, e1, e2, e3, e4, e5, e6, e7⟩ := hw'; go_simp; try with_reducible rfl
      simp only [Act.put, List.setIfInBounds_toArray, List.set_cons_zero, List.set_cons_succ]
      refine takeY 13 (i := 6) (v := ?v6d) rfl rfl (by kernel_rfl) (by kernel_rfl) (by kernel_rfl) (fun _ _ _ h => h) (by kernel_rfl) ?y6d hs0 ?_
      case y6d =>
        intro w' hw'; (try dsimp only at hw'); obtain ⟨e0, e1, e2, e3, e4, e5, e6, e7⟩ := hw'; go_simp; try with_reducible rfl
      simp only [Act.put, List.setIfInBounds_toArray, List.set_cons_zero, List.set_cons_succ]
      refine wpAnyH_ready (rs := [7]) (by kernel_rfl) (by simp) ?_
      refine AllReadyH.cons rfl (fun K hK => ?_) AllReadyH.nil
      go_simp; go_at_call 30; refine (iFormat f hf1 hf2 _ (HPw.out.below HBB.out.1.drew)).mono ?_; rintro e w2 ⟨rfl, hz⟩; replace hz := (Below.refl w1.heap.size w1).drew.trans (hz.mono (Nat.le_refl _))
      refine hK.out _ _ ⟨hz, (hz.cell (p := ⟨w.heap.size, 0, none⟩) hg).trans c0, (hz.cell (p := ⟨w.heap.size, 1, none⟩) hg).trans c1, (hz.cell (p := ⟨w.heap.size, 2, none⟩) hg).trans c2, (hz.cell (p := ⟨w.heap.size, 3, none⟩) hg).trans c3, (hz.cell (p := ⟨w.heap.size, 4, none⟩) hg).trans c4, (hz.cell (p := ⟨0, 0, none⟩) kg).trans k0, (hz.cell (p := ⟨kb, ko, none⟩) kh).trans k1⟩ (fun hS1 => ?_)
      clear hK K
      try simp only [Act.put, List.setIfInBounds_toArray, List.set_cons_zero, List.set_cons_succ]
      refine takeY 15 (i := 8) (v := ?v8d) rfl rfl (by kernel_rfl) (by kernel_rfl) (by kernel_rfl) (fun _ _ _ h => h) (by kernel_rfl) ?y8d hS1 ?_
      case y8d =>
        intro w' hw'; (try dsimp only at hw'); obtain ⟨e0, e1, e2, e3, e4, e5, e6, e7⟩ := hw'; go_simp; try with_reducible rfl
      simp only [Act.put, List.setIfInBounds_toArray, List.set_cons_zero, List.set_cons_succ]
      refine wpAnyH_ready (rs := [9]) (by kernel_rfl) (by simp) ?_
      refine AllReadyH.cons rfl (fun K hK => ?_) AllReadyH.nil
      go_simp
      refine hK.out _ _ ⟨(hz.alloc hz.size _), ((hz.alloc hz.size _).cell (p := ⟨w.heap.size, 0, none⟩) hg).trans c0, ((hz.alloc hz.size _).cell (p := ⟨w.heap.size, 1, none⟩) hg).trans c1, ((hz.alloc hz.size _).cell (p := ⟨w.heap.size, 2, none⟩) hg).trans c2, ((hz.alloc hz.size _).cell (p := ⟨w.heap.size, 3, none⟩) hg).trans c3, ((hz.alloc hz.size _).cell (p := ⟨w.heap.size, 4, none⟩) hg).trans c4, ((hz.alloc hz.size _).cell (p := ⟨0, 0, none⟩) kg).trans k0, ((hz.alloc hz.size _).cell (p := ⟨kb, ko, none⟩) kh).trans k1⟩ (fun hS2 => ?_)
      clear hK K
      try simp only [Act.put, List.setIfInBounds_toArray, List.set_cons_zero, List.set_cons_succ]
      refine takeY 3 (i := 10) (v := ?v10d) rfl rfl (by kernel_rfl) (by kernel_rfl) (by kernel_rfl) (fun _ _ _ h => h) (by kernel_rfl) ?y10d hS2 ?_
      case y10d =>
        intro w' hw'; (try dsimp only at hw'); obtain ⟨e0, e1, e2, e3, e4, e5, e6, e7⟩ := hw'; go_simp; try with_reducible rfl
      simp only [Act.put, List.setIfInBounds_toArray, List.set_cons_zero, List.set_cons_succ]
      refine wpAnyH_done (by kernel_rfl) ?_ _
      have HZ := Lib.hid (below_on HBB.out.1 hz)
      have HZs := Lib.hid hz.size
      have HZ2 := Lib.hid (HBB.out.2.trans (hz.mono (Nat.le_trans hB HBB.out.1.size)))
      have hz5 := hz.alloc hz.size (.cells #[.string (kwB 0), .string (⟨#[102]⟩ ++ fmtB f : ByteArray)] 9)
      have d0 := (hz5.cell (p := ⟨w.heap.size, 0, none⟩) hg).trans c0
      have d2 := (hz5.cell (p := ⟨w.heap.size, 2, none⟩) hg).trans c2
      have d3 := (hz5.cell (p := ⟨w.heap.size, 3, none⟩) hg).trans c3
      have d4 := (hz5.cell (p := ⟨w.heap.size, 4, none⟩) hg).trans c4
      have HO := Lib.hid (OwnS.two w2 w1.heap.size hz.size (kwB 0) (⟨#[102]⟩ ++ fmtB f : ByteArray))
      have HY : Hid (Below w.heap.size w (w2.alloc (.cells #[.string (kwB 0), .string (⟨#[102]⟩ ++ fmtB f : ByteArray)] 9))) := Lib.hid (HZ.out.alloc HZ.out.size _)
      have HY2 : Hid (Below B w (w2.alloc (.cells #[.string (kwB 0), .string (⟨#[102]⟩ ++ fmtB f : ByteArray)] 9))) := Lib.hid (HZ2.out.alloc (Nat.le_trans hB HZ.out.size) _)
      clear hz hz5 hs0 hS1 c0 c1 c2 c3 c4 k0 k1 kg kh
      go_wp2_with fail
      refine (join_own _ w1.heap.size _ _ ⟨#[32]⟩ HO.out (by simp) (by simp) (words_len _ 5 hwl (by simp) (by decide))).mono ?_
      rintro e w3 ⟨rfl, hb3⟩
      have HB3 := Lib.hid (below_on HY.out hb3)
      clear hb3 d0 d2 d3 d4 hwl
      rw [words2 (k := 0) (v := v) (ls := ls) (ps := ps) rfl]
      go_wp2
      go_ret
      exact ⟨rfl, HB3.out⟩
    · clear hk hv ha ho
      have hwl : ∀ x ∈ [kwB 1, (⟨#[102]⟩ ++ fmtB f : ByteArray)], x.size ≤ 5 := by
        intro x hx
        simp only [List.mem_cons, List.not_mem_nil, or_false] at hx
        rcases hx with rfl | rfl
        · have := kwB_size 1; omega
        · omega
      go_enter Tryd.func13, Tryd.ntmps13
      go_wp2_with fail
      refine (HS.out _ (HI.out.below (HB1.out _)) (by simp; omega)).mono ?_
      rintro e w1 ⟨rfl, hb1⟩
      obtain ⟨c0, c1, c2, c3, c4, hg⟩ := box5 hb1
      have HBB := Lib.hid (And.intro ((HW1.out _).trans (hb1.mono (by simp))) ((HB1.out _).trans (hb1.mono (by simp; omega))))
      clear hb1
      obtain ⟨kb, ko, kc, k0, kg, kh, kk⟩ := HKw.out.below HBB.out.1
      have k1 : w1.cell? ⟨kb, ko + 1, none⟩ = some (.string (kwB 1)) := kk 1 (by decide)
      clear kk
      have hc8 : ¬ (9223372036854775807 < 1 + (fmtB f).size) := by omega
      go_wp2
      have hs0 : (fun w' => Below w1.heap.size w1 w' ∧ w'.cell? ⟨w.heap.size, 0, none⟩ = some (.int .i64 1) ∧ w'.cell? ⟨w.heap.size, 1, none⟩ = some (.int .i64 f) ∧ w'.cell? ⟨w.heap.size, 2, none⟩ = some (.int .i64 v) ∧ w'.cell? ⟨w.heap.size, 3, none⟩ = some (.slice LA Ln Lc) ∧ w'.cell? ⟨w.heap.size, 4, none⟩ = some (.slice PA Pn Pc) ∧ w'.cell? ⟨0, 0, none⟩ = some (.slice (some ⟨kb, ko, none⟩) 5 kc) ∧ w'.cell? ⟨kb, ko + 1, none⟩ = some (.string (kwB 1))) w1.drew := ⟨(Below.refl _ _).drew, c0, c1, c2, c3, c4, k0, k1⟩
      refine wp_region_held (S := fun w' => Below w1.heap.size w1 w' ∧ w'.cell? ⟨w.heap.size, 0, none⟩ = some (.int .i64 1) ∧ w'.cell? ⟨w.heap.size, 1, none⟩ = some (.int .i64 f) ∧ w'.cell? ⟨w.heap.size, 2, none⟩ = some (.int .i64 v) ∧ w'.cell? ⟨w.heap.size, 3, none⟩ = some (.slice LA Ln Lc) ∧ w'.cell? ⟨w.heap.size, 4, none⟩ = some (.slice PA Pn Pc) ∧ w'.cell? ⟨0, 0, none⟩ = some (.slice (some ⟨kb, ko, none⟩) 5 kc) ∧ w'.cell? ⟨kb, ko + 1, none⟩ = some (.string (kwB 1))) (by kernel_rfl) ?_
      change wpAnyH _ _ _ _ _ _ _ _ (World.drew _)
      refine takeY 7 (i := 0) (v := ?v0e) rfl rfl (by kernel_rfl) (by kernel_rfl) (by kernel_rfl) (fun _ _ _ h => h) (by kernel_rfl) ?y0e hs0 ?_
      case y0e =>
        intro w' hw'; (try dsimp only at hw'); obtain ⟨e0, e1, e2, e3, e4, e5, e6, e7⟩ := hw'; go_simp; try with_reducible rfl
      simp only [Act.put, List.setIfInBounds_toArray, List.set_cons_zero, List.set_cons_succ]
      refine takeY 8 (i := 1) (v := ?v1e) rfl rfl (by kernel_rfl) (by kernel_rfl) (by kernel_rfl) (fun _ _ _ h => h) (by kernel_rfl) ?y1e hs0 ?_
      case y1e =>
        intro w' hw'; (try dsimp only at hw'); obtain ⟨e0, e1, e2, e3, e4, e5, e6, e7⟩ := hw'; go_simp; try with_reducible rfl
      simp only [Act.put, List.setIfInBounds_toArray, List.set_cons_zero, List.set_cons_succ]
      refine takeY 9 (i := 2) (v := ?v2e) rfl rfl (by kernel_rfl) (by kernel_rfl) (by kernel_rfl) (fun _ _ _ h => h) (by kernel_rfl) ?y2e hs0 ?_
      case y2e =>
        intro w' hw'; (try dsimp only at hw'); obtain ⟨e0, e1, e2, e3, e4, e5, e6, e7⟩ := hw'; go_simp; try with_reducible rfl
      simp only [Act.put, List.setIfInBounds_toArray, List.set_cons_zero, List.set_cons_succ]
      refine takeY 10 (i := 3) (v := ?v3e) rfl rfl (by kernel_rfl) (by kernel_rfl) (by kernel_rfl) (fun _ _ _ h => h) (by kernel_rfl) ?y3e hs0 ?_
      case y3e =>
        intro w' hw'; (try dsimp only at hw'); obtain ⟨e0, e1, e2, e3, e4, e5, e6, e7⟩ := hw'; go_simp; try with_reducible rfl
      simp only [Act.put, List.setIfInBounds_toArray, List.set_cons_zero, List.set_cons_succ]
      refine takeY 11 (i := 4) (v := ?v4e) rfl rfl (by kernel_rfl) (by kernel_rfl) (by kernel_rfl) (fun _ _ _ h => h) (by kernel_rfl) ?y4e hs0 ?_
      case y4e =>
        intro w' hw'; (try dsimp only at hw'); obtain ⟨e0, e1, e2, e3, e4, e5, e6, e7⟩ := hw'; go_simp; try with_reducible rfl
      simp only [Act.put, List.setIfInBounds_toArray, List.set_cons_zero, List.set_cons_succ]
      refine takeY 12 (i := 5) (v := ?v5e) rfl rfl (by kernel_rfl) (by kernel_rfl) (by kernel_rfl) (fun _ _ _ h => h) (by kernel_rfl) ?y5e hs0 ?_
      case y5e =>
        intro w' hw'; (try dsimp only at hw'); obtain ⟨e0, e1, e2, e3, e4, e5, e6, e7⟩ := hw'; go_simp; try with_reducible rfl
      simp only [Act.put, List.setIfInBounds_toArray, List.set_cons_zero, List.set_cons_succ]
      refine takeY 13 (i := 6) (v := ?v6e) rfl rfl (by kernel_rfl) (by kernel_rfl) (by kernel_rfl) (fun _ _ _ h => h) (by kernel_rfl) ?y6e hs0 ?_
      case y6e =>
        intro w' hw'; (try dsimp only at hw'); obtain ⟨e0, e1, e2, e3, e4, e5, e6, e7⟩ := hw'; go_simp; try with_reducible rfl
      simp only [Act.put, List.setIfInBounds_toArray, List.set_cons_zero, List.set_cons_succ]
      refine wpAnyH_ready (rs := [7]) (by kernel_rfl) (by simp) ?_
      refine AllReadyH.cons rfl (fun K hK => ?_) AllReadyH.nil
      go_simp; go_at_call 30; refine (iFormat f hf1 hf2 _ (HPw.out.below HBB.out.1.drew)).mono ?_; rintro e w2 ⟨rfl, hz⟩; replace hz := (Below.refl w1.heap.size w1).drew.trans (hz.mono (Nat.le_refl _))
      refine hK.out _ _ ⟨hz, (hz.cell (p := ⟨w.heap.size, 0, none⟩) hg).trans c0, (hz.cell (p := ⟨w.heap.size, 1, none⟩) hg).trans c1, (hz.cell (p := ⟨w.heap.size, 2, none⟩) hg).trans c2, (hz.cell (p := ⟨w.heap.size, 3, none⟩) hg).trans c3, (hz.cell (p := ⟨w.heap.size, 4, none⟩) hg).trans c4, (hz.cell (p := ⟨0, 0, none⟩) kg).trans k0, (hz.cell (p := ⟨kb, ko + 1, none⟩) kh).trans k1⟩ (fun hS1 => ?_)
      clear hK K
      try simp only [Act.put, List.setIfInBounds_toArray, List.set_cons_zero, List.set_cons_succ]
      refine takeY 15 (i := 8) (v := ?v8e) rfl rfl (by kernel_rfl) (by kernel_rfl) (by kernel_rfl) (fun _ _ _ h => h) (by kernel_rfl) ?y8e hS1 ?_
      case y8e =>
        intro w' hw'; (try dsimp only at hw'); obtain ⟨e0, e1, e2, e3, e4, e5, e6, e7⟩ := hw'; go_simp; try with_reducible rfl
      simp only [Act.put, List.setIfInBounds_toArray, List.set_cons_zero, List.set_cons_succ]
      refine wpAnyH_ready (rs := [9]) (by kernel_rfl) (by simp) ?_
      refine AllReadyH.cons rfl (fun K hK => ?_) AllReadyH.nil
      go_simp
      refine hK.out _ _ ⟨(hz.alloc hz.size _), ((hz.alloc hz.size _).cell (p := ⟨w.heap.size, 0, none⟩) hg).trans c0, ((hz.alloc hz.size _).cell (p := ⟨w.heap.size, 1, none⟩) hg).trans c1, ((hz.alloc hz.size _).cell (p := ⟨w.heap.size, 2, none⟩) hg).trans c2, ((hz.alloc hz.size _).cell (p := ⟨w.heap.size, 3, none⟩) hg).trans c3, ((hz.alloc hz.size _).cell (p := ⟨w.heap.size, 4, none⟩) hg).trans c4, ((hz.alloc hz.size _).cell (p := ⟨0, 0, none⟩) kg).trans k0, ((hz.alloc hz.size _).cell (p := ⟨kb, ko + 1, none⟩) kh).trans k1⟩ (fun hS2 => ?_)
      clear hK K
      try simp only [Act.put, List.setIfInBounds_toArray, List.set_cons_zero, List.set_cons_succ]
      refine takeY 3 (i := 10) (v := ?v10e) rfl rfl (by kernel_rfl) (by kernel_rfl) (by kernel_rfl) (fun _ _ _ h => h) (by kernel_rfl) ?y10e hS2 ?_
      case y10e =>
        intro w' hw'; (try dsimp only at hw'); obtain ⟨e0, e1, e2, e3, e4, e5, e6, e7⟩ := hw'; go_simp; try with_reducible rfl
      simp only [Act.put, List.setIfInBounds_toArray, List.set_cons_zero, List.set_cons_succ]
      refine wpAnyH_done (by kernel_rfl) ?_ _
      have HZ := Lib.hid (below_on HBB.out.1 hz)
      have HZs := Lib.hid hz.size
      have HZ2 := Lib.hid (HBB.out.2.trans (hz.mono (Nat.le_trans hB HBB.out.1.size)))
      have hz5 := hz.alloc hz.size (.cells #[.string (kwB 1), .string (⟨#[102]⟩ ++ fmtB f : ByteArray)] 9)
      have d0 := (hz5.cell (p := ⟨w.heap.size, 0, none⟩) hg).trans c0
      have d2 := (hz5.cell (p := ⟨w.heap.size, 2, none⟩) hg).trans c2
      have d3 := (hz5.cell (p := ⟨w.heap.size, 3, none⟩) hg).trans c3
      have d4 := (hz5.cell (p := ⟨w.heap.size, 4, none⟩) hg).trans c4
      have HO := Lib.hid (OwnS.two w2 w1.heap.size hz.size (kwB 1) (⟨#[102]⟩ ++ fmtB f : ByteArray))
      have HY : Hid (Below w.heap.size w (w2.alloc (.cells #[.string (kwB 1), .string (⟨#[102]⟩ ++ fmtB f : ByteArray)] 9))) := Lib.hid (HZ.out.alloc HZ.out.size _)
      have HY2 : Hid (Below B w (w2.alloc (.cells #[.string (kwB 1), .string (⟨#[102]⟩ ++ fmtB f : ByteArray)] 9))) := Lib.hid (HZ2.out.alloc (Nat.le_trans hB HZ.out.size) _)
      clear hz hz5 hs0 hS1 c0 c1 c2 c3 c4 k0 k1 kg kh
      go_wp2_with fail
      refine (join_own _ w1.heap.size _ _ ⟨#[32]⟩ HO.out (by simp) (by simp) (words_len _ 5 hwl (by simp) (by decide))).mono ?_
      rintro e w3 ⟨rfl, hb3⟩
      have HB3 := Lib.hid (below_on HY.out hb3)
      clear hb3 d0 d2 d3 d4 hwl
      rw [words2 (k := 1) (v := v) (ls := ls) (ps := ps) rfl]
      go_wp2
      go_ret
      exact ⟨rfl, HB3.out⟩
    · obtain ⟨v0, v9⟩ := hv rfl
      clear hk hv ha ho
      have hfv : (fmtB v).size ≤ 2 := fmt_R' ⟨v0, v9⟩
      have hwl : ∀ x ∈ [kwB 2, (⟨#[102]⟩ ++ fmtB f : ByteArray), fmtB v], x.size ≤ 5 := by
        intro x hx
        simp only [List.mem_cons, List.not_mem_nil, or_false] at hx
        rcases hx with rfl | rfl | rfl
        · have := kwB_size 2; omega
        · omega
        · omega
      go_enter Tryd.func13, Tryd.ntmps13
      go_wp2_with fail
      refine (HS.out _ (HI.out.below (HB1.out _)) (by simp; omega)).mono ?_
      rintro e w1 ⟨rfl, hb1⟩
      obtain ⟨c0, c1, c2, c3, c4, hg⟩ := box5 hb1
      have HBB := Lib.hid (And.intro ((HW1.out _).trans (hb1.mono (by simp))) ((HB1.out _).trans (hb1.mono (by simp; omega))))
      clear hb1
      obtain ⟨kb, ko, kc, k0, kg, kh, kk⟩ := HKw.out.below HBB.out.1
      have k1 : w1.cell? ⟨kb, ko + 2, none⟩ = some (.string (kwB 2)) := kk 2 (by decide)
      clear kk
      have hc8 : ¬ (9223372036854775807 < 1 + (fmtB f).size) := by omega
      go_wp2
      have hs0 : (fun w' => Below w1.heap.size w1 w' ∧ w'.cell? ⟨w.heap.size, 0, none⟩ = some (.int .i64 2) ∧ w'.cell? ⟨w.heap.size, 1, none⟩ = some (.int .i64 f) ∧ w'.cell? ⟨w.heap.size, 2, none⟩ = some (.int .i64 v) ∧ w'.cell? ⟨w.heap.size, 3, none⟩ = some (.slice LA Ln Lc) ∧ w'.cell? ⟨w.heap.size, 4, none⟩ = some (.slice PA Pn Pc) ∧ w'.cell? ⟨0, 0, none⟩ = some (.slice (some ⟨kb, ko, none⟩) 5 kc) ∧ w'.cell? ⟨kb, ko + 2, none⟩ = some (.string (kwB 2))) w1.drew := ⟨(Below.refl _ _).drew, c0, c1, c2, c3, c4, k0, k1⟩
      refine wp_region_held (S := fun w' => Below w1.heap.size w1 w' ∧ w'.cell? ⟨w.heap.size, 0, none⟩ = some (.int .i64 2) ∧ w'.cell? ⟨w.heap.size, 1, none⟩ = some (.int .i64 f) ∧ w'.cell? ⟨w.heap.size, 2, none⟩ = some (.int .i64 v) ∧ w'.cell? ⟨w.heap.size, 3, none⟩ = some (.slice LA Ln Lc) ∧ w'.cell? ⟨w.heap.size, 4, none⟩ = some (.slice PA Pn Pc) ∧ w'.cell? ⟨0, 0, none⟩ = some (.slice (some ⟨kb, ko, none⟩) 5 kc) ∧ w'.cell? ⟨kb, ko + 2, none⟩ = some (.string (kwB 2))) (by kernel_rfl) ?_
      change wpAnyH _ _ _ _ _ _ _ _ (World.drew _)
      refine takeY 7 (i := 0) (v := ?v0a) rfl rfl (by kernel_rfl) (by kernel_rfl) (by kernel_rfl) (fun _ _ _ h => h) (by kernel_rfl) ?y0a hs0 ?_
      case y0a =>
        intro w' hw'; (try dsimp only at hw'); obtain ⟨e0, e1, e2, e3, e4, e5, e6, e7⟩ := hw'; go_simp; try with_reducible rfl
      simp only [Act.put, List.setIfInBounds_toArray, List.set_cons_zero, List.set_cons_succ]
      refine takeY 8 (i := 1) (v := ?v1a) rfl rfl (by kernel_rfl) (by kernel_rfl) (by kernel_rfl) (fun _ _ _ h => h) (by kernel_rfl) ?y1a hs0 ?_
      case y1a =>
        intro w' hw'; (try dsimp only at hw'); obtain ⟨e0, e1, e2, e3, e4, e5, e6, e7⟩ := hw'; go_simp; try with_reducible rfl
      simp only [Act.put, List.setIfInBounds_toArray, List.set_cons_zero, List.set_cons_succ]
      refine takeY 9 (i := 2) (v := ?v2a) rfl rfl (by kernel_rfl) (by kernel_rfl) (by kernel_rfl) (fun _ _ _ h => h) (by kernel_rfl) ?y2a hs0 ?_
      case y2a =>
        intro w' hw'; (try dsimp only at hw'); obtain ⟨e0, e1, e2, e3, e4, e5, e6, e7⟩ := hw'; go_simp; try with_reducible rfl
      simp only [Act.put, List.setIfInBounds_toArray, List.set_cons_zero, List.set_cons_succ]
      refine takeY 10 (i := 3) (v := ?v3a) rfl rfl (by kernel_rfl) (by kernel_rfl) (by kernel_rfl) (fun _ _ _ h => h) (by kernel_rfl) ?y3a hs0 ?_
      case y3a =>
        intro w' hw'; (try dsimp only at hw'); obtain ⟨e0, e1, e2, e3, e4, e5, e6, e7⟩ := hw'; go_simp; try with_reducible rfl
      simp only [Act.put, List.setIfInBounds_toArray, List.set_cons_zero, List.set_cons_succ]
      refine takeY 11 (i := 4) (v := ?v4a) rfl rfl (by kernel_rfl) (by kernel_rfl) (by kernel_rfl) (fun _ _ _ h => h) (by kernel_rfl) ?y4a hs0 ?_
      case y4a =>
        intro w' hw'; (try dsimp only at hw'); obtain ⟨e0, e1, e2, e3, e4, e5, e6, e7⟩ := hw'; go_simp; try with_reducible rfl
      simp only [Act.put, List.setIfInBounds_toArray, List.set_cons_zero, List.set_cons_succ]
      refine takeY 12 (i := 5) (v := ?v5a) rfl rfl (by kernel_rfl) (by kernel_rfl) (by kernel_rfl) (fun _ _ _ h => h) (by kernel_rfl) ?y5a hs0 ?_
      case y5a =>
        intro w' hw'; (try dsimp only at hw'); obtain ⟨e0, e1, e2, e3, e4, e5, e6, e7⟩ := hw'; go_simp; try with_reducible rfl
      simp only [Act.put, List.setIfInBounds_toArray, List.set_cons_zero, List.set_cons_succ]
      refine takeY 13 (i := 6) (v := ?v6a) rfl rfl (by kernel_rfl) (by kernel_rfl) (by kernel_rfl) (fun _ _ _ h => h) (by kernel_rfl) ?y6a hs0 ?_
      case y6a =>
        intro w' hw'; (try dsimp only at hw'); obtain ⟨e0, e1, e2, e3, e4, e5, e6, e7⟩ := hw'; go_simp; try with_reducible rfl
      simp only [Act.put, List.setIfInBounds_toArray, List.set_cons_zero, List.set_cons_succ]
      refine wpAnyH_ready (rs := [7]) (by kernel_rfl) (by simp) ?_
      refine AllReadyH.cons rfl (fun K hK => ?_) AllReadyH.nil
      go_simp; go_at_call 30; refine (iFormat f hf1 hf2 _ (HPw.out.below HBB.out.1.drew)).mono ?_; rintro e w2 ⟨rfl, hz⟩; replace hz := (Below.refl w1.heap.size w1).drew.trans (hz.mono (Nat.le_refl _))
      refine hK.out _ _ ⟨hz, (hz.cell (p := ⟨w.heap.size, 0, none⟩) hg).trans c0, (hz.cell (p := ⟨w.heap.size, 1, none⟩) hg).trans c1, (hz.cell (p := ⟨w.heap.size, 2, none⟩) hg).trans c2, (hz.cell (p := ⟨w.heap.size, 3, none⟩) hg).trans c3, (hz.cell (p := ⟨w.heap.size, 4, none⟩) hg).trans c4, (hz.cell (p := ⟨0, 0, none⟩) kg).trans k0, (hz.cell (p := ⟨kb, ko + 2, none⟩) kh).trans k1⟩ (fun hS1 => ?_)
      clear hK K
      try simp only [Act.put, List.setIfInBounds_toArray, List.set_cons_zero, List.set_cons_succ]
      refine takeY 15 (i := 8) (v := ?v8a) rfl rfl (by kernel_rfl) (by kernel_rfl) (by kernel_rfl) (fun _ _ _ h => h) (by kernel_rfl) ?y8a hS1 ?_
      case y8a =>
        intro w' hw'; (try dsimp only at hw'); obtain ⟨e0, e1, e2, e3, e4, e5, e6, e7⟩ := hw'; go_simp; try with_reducible rfl
      simp only [Act.put, List.setIfInBounds_toArray, List.set_cons_zero, List.set_cons_succ]
      refine wpAnyH_ready (rs := [9]) (by kernel_rfl) (by simp) ?_
      refine AllReadyH.cons rfl (fun K hK => ?_) AllReadyH.nil
      go_simp
      refine hK.out _ _ ⟨(hz.alloc hz.size _), ((hz.alloc hz.size _).cell (p := ⟨w.heap.size, 0, none⟩) hg).trans c0, ((hz.alloc hz.size _).cell (p := ⟨w.heap.size, 1, none⟩) hg).trans c1, ((hz.alloc hz.size _).cell (p := ⟨w.heap.size, 2, none⟩) hg).trans c2, ((hz.alloc hz.size _).cell (p := ⟨w.heap.size, 3, none⟩) hg).trans c3, ((hz.alloc hz.size _).cell (p := ⟨w.heap.size, 4, none⟩) hg).trans c4, ((hz.alloc hz.size _).cell (p := ⟨0, 0, none⟩) kg).trans k0, ((hz.alloc hz.size _).cell (p := ⟨kb, ko + 2, none⟩) kh).trans k1⟩ (fun hS2 => ?_)
      clear hK K
      try simp only [Act.put, List.setIfInBounds_toArray, List.set_cons_zero, List.set_cons_succ]
      refine takeY 3 (i := 10) (v := ?v10a) rfl rfl (by kernel_rfl) (by kernel_rfl) (by kernel_rfl) (fun _ _ _ h => h) (by kernel_rfl) ?y10a hS2 ?_
      case y10a =>
        intro w' hw'; (try dsimp only at hw'); obtain ⟨e0, e1, e2, e3, e4, e5, e6, e7⟩ := hw'; go_simp; try with_reducible rfl
      simp only [Act.put, List.setIfInBounds_toArray, List.set_cons_zero, List.set_cons_succ]
      refine wpAnyH_done (by kernel_rfl) ?_ _
      have HZ := Lib.hid (below_on HBB.out.1 hz)
      have HZs := Lib.hid hz.size
      have HZ2 := Lib.hid (HBB.out.2.trans (hz.mono (Nat.le_trans hB HBB.out.1.size)))
      have hz5 := hz.alloc hz.size (.cells #[.string (kwB 2), .string (⟨#[102]⟩ ++ fmtB f : ByteArray)] 9)
      have d0 := (hz5.cell (p := ⟨w.heap.size, 0, none⟩) hg).trans c0
      have d2 := (hz5.cell (p := ⟨w.heap.size, 2, none⟩) hg).trans c2
      have d3 := (hz5.cell (p := ⟨w.heap.size, 3, none⟩) hg).trans c3
      have d4 := (hz5.cell (p := ⟨w.heap.size, 4, none⟩) hg).trans c4
      have HO := Lib.hid (OwnS.two w2 w1.heap.size hz.size (kwB 2) (⟨#[102]⟩ ++ fmtB f : ByteArray))
      have HY : Hid (Below w.heap.size w (w2.alloc (.cells #[.string (kwB 2), .string (⟨#[102]⟩ ++ fmtB f : ByteArray)] 9))) := Lib.hid (HZ.out.alloc HZ.out.size _)
      have HY2 : Hid (Below B w (w2.alloc (.cells #[.string (kwB 2), .string (⟨#[102]⟩ ++ fmtB f : ByteArray)] 9))) := Lib.hid (HZ2.out.alloc (Nat.le_trans hB HZ.out.size) _)
      clear hz hz5 hs0 hS1 c0 c1 c2 c3 c4 k0 k1 kg kh
      go_wp2_with fail
      refine (iFormat v (by omega) (by omega) _ (HPw.out.below HY.out)).mono ?_
      rintro e w3 ⟨rfl, hb3⟩
      have HO3 := Lib.hid (OwnS.below HO.out hb3)
      have HB3 := Lib.hid (below_on HY.out hb3)
      have HS3 : Hid (w1.heap.size ≤ w3.heap.size) := Lib.hid (by have h1 := HZs.out; have h2 := hb3.size; simp at h2; omega)
      clear hb3 d0 d2 d3 d4
      go_wp2_with (at_builtin; refine wp_appS w3 (by rfl) (.tmp 21) (.tmp 25) (by rfl) w1.heap.size _ _ (by rfl) HO3.out _ [fmtB v] (by rfl) 1 1 rfl (by rfl) (by simp) HS3.out ?_)
      intro v1 w4 hown hb4
      have HO4 := Lib.hid hown
      have HB4 := Lib.hid (HB3.out.trans (hb4.mono HBB.out.1.size))
      clear hown hb4
      go_wp2_with fail
      refine (join_own w4 w1.heap.size _ _ ⟨#[32]⟩ HO4.out (by simp) (by simp) (words_len _ 5 hwl (by simp) (by decide))).mono ?_
      rintro e w5 ⟨rfl, hb5⟩
      have HB5 := Lib.hid (below_on HB4.out hb5)
      clear hb5 hwl
      rw [words3 (k := 2) (f := f) (v := v) (ls := ls) (ps := ps) (x := fmtB v) (by simp [restT, fmtB])]
      go_wp2
      go_ret
      exact ⟨rfl, HB5.out⟩
    · have hasc := ha rfl
      have HA := Lib.hid hasc.2.1
      have hln := HNN.out.1
      have hlen := HL.out.1
      have hT := intsT_len HA.out
      clear hk hv ha ho hasc
      have hsx : (⟨(intsT ls).toArray⟩ : ByteArray).size ≤ 3145728 := by
        show (intsT ls).toArray.size ≤ _
        rw [List.size_toArray]
        omega
      have hwl : ∀ x ∈ [kwB 3, (⟨#[102]⟩ ++ fmtB f : ByteArray), ⟨(intsT ls).toArray⟩], x.size ≤ 3145728 := by
        intro x hx
        simp only [List.mem_cons, List.not_mem_nil, or_false] at hx
        rcases hx with rfl | rfl | rfl
        · have := kwB_size 3; omega
        · omega
        · exact hsx
      go_enter Tryd.func13, Tryd.ntmps13
      go_wp2_with fail
      refine (HS.out _ (HI.out.below (HB1.out _)) (by simp; omega)).mono ?_
      rintro e w1 ⟨rfl, hb1⟩
      obtain ⟨c0, c1, c2, c3, c4, hg⟩ := box5 hb1
      have HBB := Lib.hid (And.intro ((HW1.out _).trans (hb1.mono (by simp))) ((HB1.out _).trans (hb1.mono (by simp; omega))))
      clear hb1
      obtain ⟨kb, ko, kc, k0, kg, kh, kk⟩ := HKw.out.below HBB.out.1
      have k1 : w1.cell? ⟨kb, ko + 3, none⟩ = some (.string (kwB 3)) := kk 3 (by decide)
      clear kk
      have hc8 : ¬ (9223372036854775807 < 1 + (fmtB f).size) := by omega
      go_wp2
      have hs0 : (fun w' => Below w1.heap.size w1 w' ∧ w'.cell? ⟨w.heap.size, 0, none⟩ = some (.int .i64 3) ∧ w'.cell? ⟨w.heap.size, 1, none⟩ = some (.int .i64 f) ∧ w'.cell? ⟨w.heap.size, 2, none⟩ = some (.int .i64 v) ∧ w'.cell? ⟨w.heap.size, 3, none⟩ = some (.slice LA Ln Lc) ∧ w'.cell? ⟨w.heap.size, 4, none⟩ = some (.slice PA Pn Pc) ∧ w'.cell? ⟨0, 0, none⟩ = some (.slice (some ⟨kb, ko, none⟩) 5 kc) ∧ w'.cell? ⟨kb, ko + 3, none⟩ = some (.string (kwB 3))) w1.drew := ⟨(Below.refl _ _).drew, c0, c1, c2, c3, c4, k0, k1⟩
      refine wp_region_held (S := fun w' => Below w1.heap.size w1 w' ∧ w'.cell? ⟨w.heap.size, 0, none⟩ = some (.int .i64 3) ∧ w'.cell? ⟨w.heap.size, 1, none⟩ = some (.int .i64 f) ∧ w'.cell? ⟨w.heap.size, 2, none⟩ = some (.int .i64 v) ∧ w'.cell? ⟨w.heap.size, 3, none⟩ = some (.slice LA Ln Lc) ∧ w'.cell? ⟨w.heap.size, 4, none⟩ = some (.slice PA Pn Pc) ∧ w'.cell? ⟨0, 0, none⟩ = some (.slice (some ⟨kb, ko, none⟩) 5 kc) ∧ w'.cell? ⟨kb, ko + 3, none⟩ = some (.string (kwB 3))) (by kernel_rfl) ?_
      change wpAnyH _ _ _ _ _ _ _ _ (World.drew _)
      refine takeY 7 (i := 0) (v := ?v0b) rfl rfl (by kernel_rfl) (by kernel_rfl) (by kernel_rfl) (fun _ _ _ h => h) (by kernel_rfl) ?y0b hs0 ?_
      case y0b =>
        intro w' hw'; (try dsimp only at hw'); obtain ⟨e0, e1, e2, e3, e4, e5, e6, e7⟩ := hw'; go_simp; try with_reducible rfl
      simp only [Act.put, List.setIfInBounds_toArray, List.set_cons_zero, List.set_cons_succ]
      refine takeY 8 (i := 1) (v := ?v1b) rfl rfl (by kernel_rfl) (by kernel_rfl) (by kernel_rfl) (fun _ _ _ h => h) (by kernel_rfl) ?y1b hs0 ?_
      case y1b =>
        intro w' hw'; (try dsimp only at hw'); obtain ⟨e0, e1, e2, e3, e4, e5, e6, e7⟩ := hw'; go_simp; try with_reducible rfl
      simp only [Act.put, List.setIfInBounds_toArray, List.set_cons_zero, List.set_cons_succ]
      refine takeY 9 (i := 2) (v := ?v2b) rfl rfl (by kernel_rfl) (by kernel_rfl) (by kernel_rfl) (fun _ _ _ h => h) (by kernel_rfl) ?y2b hs0 ?_
      case y2b =>
        intro w' hw'; (try dsimp only at hw'); obtain ⟨e0, e1, e2, e3, e4, e5, e6, e7⟩ := hw'; go_simp; try with_reducible rfl
      simp only [Act.put, List.setIfInBounds_toArray, List.set_cons_zero, List.set_cons_succ]
      refine takeY 10 (i := 3) (v := ?v3b) rfl rfl (by kernel_rfl) (by kernel_rfl) (by kernel_rfl) (fun _ _ _ h => h) (by kernel_rfl) ?y3b hs0 ?_
      case y3b =>
        intro w' hw'; (try dsimp only at hw'); obtain ⟨e0, e1, e2, e3, e4, e5, e6, e7⟩ := hw'; go_simp; try with_reducible rfl
      simp only [Act.put, List.setIfInBounds_toArray, List.set_cons_zero, List.set_cons_succ]
      refine takeY 11 (i := 4) (v := ?v4b) rfl rfl (by kernel_rfl) (by kernel_rfl) (by kernel_rfl) (fun _ _ _ h => h) (by kernel_rfl) ?y4b hs0 ?_
      case y4b =>
        intro w' hw'; (try dsimp only at hw'); obtain ⟨e0, e1, e2, e3, e4, e5, e6, e7⟩ := hw'; go_simp; try with_reducible rfl
      simp only [Act.put, List.setIfInBounds_toArray, List.set_cons_zero, List.set_cons_succ]
      refine takeY 12 (i := 5) (v := ?v5b) rfl rfl (by kernel_rfl) (by kernel_rfl) (by kernel_rfl) (fun _ _ _ h => h) (by kernel_rfl) ?y5b hs0 ?_
      case y5b =>
        intro w' hw'; (try dsimp only at hw'); obtain ⟨e0, e1, e2, e3, e4, e5, e6, e7⟩ := hw'; go_simp; try with_reducible rfl
      simp only [Act.put, List.setIfInBounds_toArray, List.set_cons_zero, List.set_cons_succ]
      refine takeY 13 (i := 6) (v := ?v6b) rfl rfl (by kernel_rfl) (by kernel_rfl) (by kernel_rfl) (fun _ _ _ h => h) (by kernel_rfl) ?y6b hs0 ?_
      case y6b =>
        intro w' hw'; (try dsimp only at hw'); obtain ⟨e0, e1, e2, e3, e4, e5, e6, e7⟩ := hw'; go_simp; try with_reducible rfl
      simp only [Act.put, List.setIfInBounds_toArray, List.set_cons_zero, List.set_cons_succ]
      refine wpAnyH_ready (rs := [7]) (by kernel_rfl) (by simp) ?_
      refine AllReadyH.cons rfl (fun K hK => ?_) AllReadyH.nil
      go_simp; go_at_call 30; refine (iFormat f hf1 hf2 _ (HPw.out.below HBB.out.1.drew)).mono ?_; rintro e w2 ⟨rfl, hz⟩; replace hz := (Below.refl w1.heap.size w1).drew.trans (hz.mono (Nat.le_refl _))
      refine hK.out _ _ ⟨hz, (hz.cell (p := ⟨w.heap.size, 0, none⟩) hg).trans c0, (hz.cell (p := ⟨w.heap.size, 1, none⟩) hg).trans c1, (hz.cell (p := ⟨w.heap.size, 2, none⟩) hg).trans c2, (hz.cell (p := ⟨w.heap.size, 3, none⟩) hg).trans c3, (hz.cell (p := ⟨w.heap.size, 4, none⟩) hg).trans c4, (hz.cell (p := ⟨0, 0, none⟩) kg).trans k0, (hz.cell (p := ⟨kb, ko + 3, none⟩) kh).trans k1⟩ (fun hS1 => ?_)
      clear hK K
      try simp only [Act.put, List.setIfInBounds_toArray, List.set_cons_zero, List.set_cons_succ]
      refine takeY 15 (i := 8) (v := ?v8b) rfl rfl (by kernel_rfl) (by kernel_rfl) (by kernel_rfl) (fun _ _ _ h => h) (by kernel_rfl) ?y8b hS1 ?_
      case y8b =>
        intro w' hw'; (try dsimp only at hw'); obtain ⟨e0, e1, e2, e3, e4, e5, e6, e7⟩ := hw'; go_simp; try with_reducible rfl
      simp only [Act.put, List.setIfInBounds_toArray, List.set_cons_zero, List.set_cons_succ]
      refine wpAnyH_ready (rs := [9]) (by kernel_rfl) (by simp) ?_
      refine AllReadyH.cons rfl (fun K hK => ?_) AllReadyH.nil
      go_simp
      refine hK.out _ _ ⟨(hz.alloc hz.size _), ((hz.alloc hz.size _).cell (p := ⟨w.heap.size, 0, none⟩) hg).trans c0, ((hz.alloc hz.size _).cell (p := ⟨w.heap.size, 1, none⟩) hg).trans c1, ((hz.alloc hz.size _).cell (p := ⟨w.heap.size, 2, none⟩) hg).trans c2, ((hz.alloc hz.size _).cell (p := ⟨w.heap.size, 3, none⟩) hg).trans c3, ((hz.alloc hz.size _).cell (p := ⟨w.heap.size, 4, none⟩) hg).trans c4, ((hz.alloc hz.size _).cell (p := ⟨0, 0, none⟩) kg).trans k0, ((hz.alloc hz.size _).cell (p := ⟨kb, ko + 3, none⟩) kh).trans k1⟩ (fun hS2 => ?_)
      clear hK K
      try simp only [Act.put, List.setIfInBounds_toArray, List.set_cons_zero, List.set_cons_succ]
      refine takeY 3 (i := 10) (v := ?v10b) rfl rfl (by kernel_rfl) (by kernel_rfl) (by kernel_rfl) (fun _ _ _ h => h) (by kernel_rfl) ?y10b hS2 ?_
      case y10b =>
        intro w' hw'; (try dsimp only at hw'); obtain ⟨e0, e1, e2, e3, e4, e5, e6, e7⟩ := hw'; go_simp; try with_reducible rfl
      simp only [Act.put, List.setIfInBounds_toArray, List.set_cons_zero, List.set_cons_succ]
      refine wpAnyH_done (by kernel_rfl) ?_ _
      have HZ := Lib.hid (below_on HBB.out.1 hz)
      have HZs := Lib.hid hz.size
      have HZ2 := Lib.hid (HBB.out.2.trans (hz.mono (Nat.le_trans hB HBB.out.1.size)))
      have hz5 := hz.alloc hz.size (.cells #[.string (kwB 3), .string (⟨#[102]⟩ ++ fmtB f : ByteArray)] 9)
      have d0 := (hz5.cell (p := ⟨w.heap.size, 0, none⟩) hg).trans c0
      have d2 := (hz5.cell (p := ⟨w.heap.size, 2, none⟩) hg).trans c2
      have d3 := (hz5.cell (p := ⟨w.heap.size, 3, none⟩) hg).trans c3
      have d4 := (hz5.cell (p := ⟨w.heap.size, 4, none⟩) hg).trans c4
      have HO := Lib.hid (OwnS.two w2 w1.heap.size hz.size (kwB 3) (⟨#[102]⟩ ++ fmtB f : ByteArray))
      have HY : Hid (Below w.heap.size w (w2.alloc (.cells #[.string (kwB 3), .string (⟨#[102]⟩ ++ fmtB f : ByteArray)] 9))) := Lib.hid (HZ.out.alloc HZ.out.size _)
      have HY2 : Hid (Below B w (w2.alloc (.cells #[.string (kwB 3), .string (⟨#[102]⟩ ++ fmtB f : ByteArray)] 9))) := Lib.hid (HZ2.out.alloc (Nat.le_trans hB HZ.out.size) _)
      clear hz hz5 hs0 hS1 c0 c1 c2 c3 c4 k0 k1 kg kh
      go_wp2_with fail
      refine (iInts _ B LA Ln Lc ls (HL.out.below HY2.out) (Nat.le_trans hB HY.out.size) HNN.out.1 HA.out (HPw.out.below HY.out)).mono ?_
      rintro e w3 ⟨rfl, hb3⟩
      have HO3 := Lib.hid (OwnS.below HO.out hb3)
      have HB3 := Lib.hid (below_on HY.out hb3)
      have HS3 : Hid (w1.heap.size ≤ w3.heap.size) := Lib.hid (by have h1 := HZs.out; have h2 := hb3.size; simp at h2; omega)
      clear hb3 d0 d2 d3 d4
      go_wp2_with (at_builtin; refine wp_appS w3 (by rfl) (.tmp 29) (.tmp 33) (by rfl) w1.heap.size _ _ (by rfl) HO3.out _ [⟨(intsT ls).toArray⟩] (by rfl) 1 1 rfl (by rfl) (by simp) HS3.out ?_)
      intro v1 w4 hown hb4
      have HO4 := Lib.hid hown
      have HB4 := Lib.hid (HB3.out.trans (hb4.mono HBB.out.1.size))
      clear hown hb4
      go_wp2_with fail
      refine (join_own w4 w1.heap.size _ _ ⟨#[32]⟩ HO4.out (by simp) (by simp) (words_len _ 3145728 hwl (by simp) (by decide))).mono ?_
      rintro e w5 ⟨rfl, hb5⟩
      have HB5 := Lib.hid (below_on HB4.out hb5)
      clear hb5 hwl
      rw [words3 (k := 3) (f := f) (v := v) (ls := ls) (ps := ps) (x := ⟨(intsT ls).toArray⟩) (by simp [restT])]
      go_wp2
      go_ret
      exact ⟨rfl, HB5.out⟩
    · have hok := ho rfl
      have HOk := Lib.hid hok
      have hT := pairsT_len hok
      clear hk hv ha ho hok
      have hsx : (fmtP ps true).size ≤ 60 := by
        show (pairsT ps).toArray.size ≤ _
        rw [List.size_toArray]
        omega
      have hwl : ∀ x ∈ [kwB 4, (⟨#[102]⟩ ++ fmtB f : ByteArray), fmtP ps true], x.size ≤ 60 := by
        intro x hx
        simp only [List.mem_cons, List.not_mem_nil, or_false] at hx
        rcases hx with rfl | rfl | rfl
        · have := kwB_size 4; omega
        · omega
        · exact hsx
      go_enter Tryd.func13, Tryd.ntmps13
      go_wp2_with fail
      refine (HS.out _ (HI.out.below (HB1.out _)) (by simp; omega)).mono ?_
      rintro e w1 ⟨rfl, hb1⟩
      obtain ⟨c0, c1, c2, c3, c4, hg⟩ := box5 hb1
      have HBB := Lib.hid (And.intro ((HW1.out _).trans (hb1.mono (by simp))) ((HB1.out _).trans (hb1.mono (by simp; omega))))
      clear hb1
      obtain ⟨kb, ko, kc, k0, kg, kh, kk⟩ := HKw.out.below HBB.out.1
      have k1 : w1.cell? ⟨kb, ko + 4, none⟩ = some (.string (kwB 4)) := kk 4 (by decide)
      clear kk
      have hc8 : ¬ (9223372036854775807 < 1 + (fmtB f).size) := by omega
      go_wp2
      have hs0 : (fun w' => Below w1.heap.size w1 w' ∧ w'.cell? ⟨w.heap.size, 0, none⟩ = some (.int .i64 4) ∧ w'.cell? ⟨w.heap.size, 1, none⟩ = some (.int .i64 f) ∧ w'.cell? ⟨w.heap.size, 2, none⟩ = some (.int .i64 v) ∧ w'.cell? ⟨w.heap.size, 3, none⟩ = some (.slice LA Ln Lc) ∧ w'.cell? ⟨w.heap.size, 4, none⟩ = some (.slice PA Pn Pc) ∧ w'.cell? ⟨0, 0, none⟩ = some (.slice (some ⟨kb, ko, none⟩) 5 kc) ∧ w'.cell? ⟨kb, ko + 4, none⟩ = some (.string (kwB 4))) w1.drew := ⟨(Below.refl _ _).drew, c0, c1, c2, c3, c4, k0, k1⟩
      refine wp_region_held (S := fun w' => Below w1.heap.size w1 w' ∧ w'.cell? ⟨w.heap.size, 0, none⟩ = some (.int .i64 4) ∧ w'.cell? ⟨w.heap.size, 1, none⟩ = some (.int .i64 f) ∧ w'.cell? ⟨w.heap.size, 2, none⟩ = some (.int .i64 v) ∧ w'.cell? ⟨w.heap.size, 3, none⟩ = some (.slice LA Ln Lc) ∧ w'.cell? ⟨w.heap.size, 4, none⟩ = some (.slice PA Pn Pc) ∧ w'.cell? ⟨0, 0, none⟩ = some (.slice (some ⟨kb, ko, none⟩) 5 kc) ∧ w'.cell? ⟨kb, ko + 4, none⟩ = some (.string (kwB 4))) (by kernel_rfl) ?_
      change wpAnyH _ _ _ _ _ _ _ _ (World.drew _)
      refine takeY 7 (i := 0) (v := ?v0c) rfl rfl (by kernel_rfl) (by kernel_rfl) (by kernel_rfl) (fun _ _ _ h => h) (by kernel_rfl) ?y0c hs0 ?_
      case y0c =>
        intro w' hw'; (try dsimp only at hw'); obtain ⟨e0, e1, e2, e3, e4, e5, e6, e7⟩ := hw'; go_simp; try with_reducible rfl
      simp only [Act.put, List.setIfInBounds_toArray, List.set_cons_zero, List.set_cons_succ]
      refine takeY 8 (i := 1) (v := ?v1c) rfl rfl (by kernel_rfl) (by kernel_rfl) (by kernel_rfl) (fun _ _ _ h => h) (by kernel_rfl) ?y1c hs0 ?_
      case y1c =>
        intro w' hw'; (try dsimp only at hw'); obtain ⟨e0, e1, e2, e3, e4, e5, e6, e7⟩ := hw'; go_simp; try with_reducible rfl
      simp only [Act.put, List.setIfInBounds_toArray, List.set_cons_zero, List.set_cons_succ]
      refine takeY 9 (i := 2) (v := ?v2c) rfl rfl (by kernel_rfl) (by kernel_rfl) (by kernel_rfl) (fun _ _ _ h => h) (by kernel_rfl) ?y2c hs0 ?_
      case y2c =>
        intro w' hw'; (try dsimp only at hw'); obtain ⟨e0, e1, e2, e3, e4, e5, e6, e7⟩ := hw'; go_simp; try with_reducible rfl
      simp only [Act.put, List.setIfInBounds_toArray, List.set_cons_zero, List.set_cons_succ]
      refine takeY 10 (i := 3) (v := ?v3c) rfl rfl (by kernel_rfl) (by kernel_rfl) (by kernel_rfl) (fun _ _ _ h => h) (by kernel_rfl) ?y3c hs0 ?_
      case y3c =>
        intro w' hw'; (try dsimp only at hw'); obtain ⟨e0, e1, e2, e3, e4, e5, e6, e7⟩ := hw'; go_simp; try with_reducible rfl
      simp only [Act.put, List.setIfInBounds_toArray, List.set_cons_zero, List.set_cons_succ]
      refine takeY 11 (i := 4) (v := ?v4c) rfl rfl (by kernel_rfl) (by kernel_rfl) (by kernel_rfl) (fun _ _ _ h => h) (by kernel_rfl) ?y4c hs0 ?_
      case y4c =>
        intro w' hw'; (try dsimp only at hw'); obtain ⟨e0, e1, e2, e3, e4, e5, e6, e7⟩ := hw'; go_simp; try with_reducible rfl
      simp only [Act.put, List.setIfInBounds_toArray, List.set_cons_zero, List.set_cons_succ]
      refine takeY 12 (i := 5) (v := ?v5c) rfl rfl (by kernel_rfl) (by kernel_rfl) (by kernel_rfl) (fun _ _ _ h => h) (by kernel_rfl) ?y5c hs0 ?_
      case y5c =>
        intro w' hw'; (try dsimp only at hw'); obtain ⟨e0, e1, e2, e3, e4, e5, e6, e7⟩ := hw'; go_simp; try with_reducible rfl
      simp only [Act.put, List.setIfInBounds_toArray, List.set_cons_zero, List.set_cons_succ]
      refine takeY 13 (i := 6) (v := ?v6c) rfl rfl (by kernel_rfl) (by kernel_rfl) (by kernel_rfl) (fun _ _ _ h => h) (by kernel_rfl) ?y6c hs0 ?_
      case y6c =>
        intro w' hw'; (try dsimp only at hw'); obtain ⟨e0, e1, e2, e3, e4, e5, e6, e7⟩ := hw'; go_simp; try with_reducible rfl
      simp only [Act.put, List.setIfInBounds_toArray, List.set_cons_zero, List.set_cons_succ]
      refine wpAnyH_ready (rs := [7]) (by kernel_rfl) (by simp) ?_
      refine AllReadyH.cons rfl (fun K hK => ?_) AllReadyH.nil
      go_simp; go_at_call 30; refine (iFormat f hf1 hf2 _ (HPw.out.below HBB.out.1.drew)).mono ?_; rintro e w2 ⟨rfl, hz⟩; replace hz := (Below.refl w1.heap.size w1).drew.trans (hz.mono (Nat.le_refl _))
      refine hK.out _ _ ⟨hz, (hz.cell (p := ⟨w.heap.size, 0, none⟩) hg).trans c0, (hz.cell (p := ⟨w.heap.size, 1, none⟩) hg).trans c1, (hz.cell (p := ⟨w.heap.size, 2, none⟩) hg).trans c2, (hz.cell (p := ⟨w.heap.size, 3, none⟩) hg).trans c3, (hz.cell (p := ⟨w.heap.size, 4, none⟩) hg).trans c4, (hz.cell (p := ⟨0, 0, none⟩) kg).trans k0, (hz.cell (p := ⟨kb, ko + 4, none⟩) kh).trans k1⟩ (fun hS1 => ?_)
      clear hK K
      try simp only [Act.put, List.setIfInBounds_toArray, List.set_cons_zero, List.set_cons_succ]
      refine takeY 15 (i := 8) (v := ?v8c) rfl rfl (by kernel_rfl) (by kernel_rfl) (by kernel_rfl) (fun _ _ _ h => h) (by kernel_rfl) ?y8c hS1 ?_
      case y8c =>
        intro w' hw'; (try dsimp only at hw'); obtain ⟨e0, e1, e2, e3, e4, e5, e6, e7⟩ := hw'; go_simp; try with_reducible rfl
      simp only [Act.put, List.setIfInBounds_toArray, List.set_cons_zero, List.set_cons_succ]
      refine wpAnyH_ready (rs := [9]) (by kernel_rfl) (by simp) ?_
      refine AllReadyH.cons rfl (fun K hK => ?_) AllReadyH.nil
      go_simp
      refine hK.out _ _ ⟨(hz.alloc hz.size _), ((hz.alloc hz.size _).cell (p := ⟨w.heap.size, 0, none⟩) hg).trans c0, ((hz.alloc hz.size _).cell (p := ⟨w.heap.size, 1, none⟩) hg).trans c1, ((hz.alloc hz.size _).cell (p := ⟨w.heap.size, 2, none⟩) hg).trans c2, ((hz.alloc hz.size _).cell (p := ⟨w.heap.size, 3, none⟩) hg).trans c3, ((hz.alloc hz.size _).cell (p := ⟨w.heap.size, 4, none⟩) hg).trans c4, ((hz.alloc hz.size _).cell (p := ⟨0, 0, none⟩) kg).trans k0, ((hz.alloc hz.size _).cell (p := ⟨kb, ko + 4, none⟩) kh).trans k1⟩ (fun hS2 => ?_)
      clear hK K
      try simp only [Act.put, List.setIfInBounds_toArray, List.set_cons_zero, List.set_cons_succ]
      refine takeY 3 (i := 10) (v := ?v10c) rfl rfl (by kernel_rfl) (by kernel_rfl) (by kernel_rfl) (fun _ _ _ h => h) (by kernel_rfl) ?y10c hS2 ?_
      case y10c =>
        intro w' hw'; (try dsimp only at hw'); obtain ⟨e0, e1, e2, e3, e4, e5, e6, e7⟩ := hw'; go_simp; try with_reducible rfl
      simp only [Act.put, List.setIfInBounds_toArray, List.set_cons_zero, List.set_cons_succ]
      refine wpAnyH_done (by kernel_rfl) ?_ _
      have HZ := Lib.hid (below_on HBB.out.1 hz)
      have HZs := Lib.hid hz.size
      have HZ2 := Lib.hid (HBB.out.2.trans (hz.mono (Nat.le_trans hB HBB.out.1.size)))
      have hz5 := hz.alloc hz.size (.cells #[.string (kwB 4), .string (⟨#[102]⟩ ++ fmtB f : ByteArray)] 9)
      have d0 := (hz5.cell (p := ⟨w.heap.size, 0, none⟩) hg).trans c0
      have d2 := (hz5.cell (p := ⟨w.heap.size, 2, none⟩) hg).trans c2
      have d3 := (hz5.cell (p := ⟨w.heap.size, 3, none⟩) hg).trans c3
      have d4 := (hz5.cell (p := ⟨w.heap.size, 4, none⟩) hg).trans c4
      have HO := Lib.hid (OwnS.two w2 w1.heap.size hz.size (kwB 4) (⟨#[102]⟩ ++ fmtB f : ByteArray))
      have HY : Hid (Below w.heap.size w (w2.alloc (.cells #[.string (kwB 4), .string (⟨#[102]⟩ ++ fmtB f : ByteArray)] 9))) := Lib.hid (HZ.out.alloc HZ.out.size _)
      have HY2 : Hid (Below B w (w2.alloc (.cells #[.string (kwB 4), .string (⟨#[102]⟩ ++ fmtB f : ByteArray)] 9))) := Lib.hid (HZ2.out.alloc (Nat.le_trans hB HZ.out.size) _)
      clear hz hz5 hs0 hS1 c0 c1 c2 c3 c4 k0 k1 kg kh
      go_wp2_with fail
      refine (iFmtP _ B PA Pn Pc ps (HP.out.below HY2.out) (Nat.le_trans hB HY.out.size) HNN.out.2 true ⟨fun _ => HOk.out, fun _ => rfl⟩ (HPw.out.below HY.out)).mono ?_
      rintro e w3 ⟨rfl, hb3⟩
      have HO3 := Lib.hid (OwnS.below HO.out hb3)
      have HB3 := Lib.hid (below_on HY.out hb3)
      have HS3 : Hid (w1.heap.size ≤ w3.heap.size) := Lib.hid (by have h1 := HZs.out; have h2 := hb3.size; simp at h2; omega)
      clear hb3 d0 d2 d3 d4
      go_wp2_with (at_builtin; refine wp_appS w3 (by rfl) (.tmp 37) (.tmp 41) (by rfl) w1.heap.size _ _ (by rfl) HO3.out _ [fmtP ps true] (by rfl) 1 1 rfl (by rfl) (by simp) HS3.out ?_)
      intro v1 w4 hown hb4
      have HO4 := Lib.hid hown
      have HB4 := Lib.hid (HB3.out.trans (hb4.mono HBB.out.1.size))
      clear hown hb4
      go_wp2_with fail
      refine (join_own w4 w1.heap.size _ _ ⟨#[32]⟩ HO4.out (by simp) (by simp) (words_len _ 60 hwl (by simp) (by decide))).mono ?_
      rintro e w5 ⟨rfl, hb5⟩
      have HB5 := Lib.hid (below_on HB4.out hb5)
      clear hb5 hwl
      rw [words3 (k := 4) (f := f) (v := v) (ls := ls) (ps := ps) (x := fmtP ps true) (by simp [restT, fmtP])]
      go_wp2
      go_ret
      exact ⟨rfl, HB5.out⟩
end Go.Proofs.YtghekfigfjhkeabDoor.num
