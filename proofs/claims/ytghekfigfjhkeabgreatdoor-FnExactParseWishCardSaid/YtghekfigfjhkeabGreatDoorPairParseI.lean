/-
  ParsePairs, the program's: contract.
-/
import Derived.Test.YtghekfigfjhkeabGreatDoorPairText
import Derived.Test.YtghekfigfjhkeabGreatDoorPairProg
import Derived.Test.YtghekfigfjhkeabGreatDoorPairMark
import Derived.Test.YtghekfigfjhkeabGreatDoorItemParseI
namespace Go.Proofs.YtghekfigfjhkeabGreatDoor.num
open Go.RowKit Go.Maps
set_option linter.unusedVariables false
set_option linter.unusedSimpArgs false

set_option maxRecDepth 20000 in
set_option maxHeartbeats 1600000 in
theorem iParsePair (s : ByteArray) (hs : s.size ≤ 1048576) (w : World) (hpow : Pow w) (hmx : Mx w) :
    Calls Tryz.prog 48 #[.string s] w fun e w' => e = .returned (.tuple #[.agg #[.int .i64 (valC s.data.toList).1, .int .i64 (valC s.data.toList).2], .bool (okC s.data.toList)]) ∧ Below w.heap.size w w' := by
  have HP := Lib.hid hpow
  have HM := Lib.hid hmx
  have hcl := cut_le 62 s.data.toList
  rw [size_list] at hcl
  have hdef : valC s.data.toList = (pVal (Lib.cut s.data.toList [62]).1, pVal (Lib.cut s.data.toList [62]).2.1) ∧ okC s.data.toList = (pOk (Lib.cut s.data.toList [62]).1 && pOk (Lib.cut s.data.toList [62]).2.1) := ⟨rfl, rfl⟩
  obtain ⟨vc, hvc⟩ : ∃ vc, vc = valC s.data.toList := ⟨_, rfl⟩
  obtain ⟨oc, hoc⟩ : ∃ oc, oc = okC s.data.toList := ⟨_, rfl⟩
  rw [← hvc, ← hoc] at hdef ⊢
  obtain ⟨h, hh⟩ : ∃ h, h = (Lib.cut s.data.toList [62]).1 := ⟨_, rfl⟩
  obtain ⟨tl, htl⟩ : ∃ tl, tl = (Lib.cut s.data.toList [62]).2.1 := ⟨_, rfl⟩
  obtain ⟨fd, hfd⟩ : ∃ fd, fd = (Lib.cut s.data.toList [62]).2.2 := ⟨_, rfl⟩
  rw [← hh, ← htl] at hcl hdef
  have HCl : Hid ((⟨h.toArray⟩ : ByteArray).size ≤ 1048576 ∧ (⟨tl.toArray⟩ : ByteArray).size ≤ 1048576) := Lib.hid (by rw [size_mk, size_mk]; omega)
  have hcut : ∀ w, Mx w → Calls Tryz.prog 27 #[.string s, .string ⟨#[62]⟩] w fun e w' => e = .returned (.tuple #[.string ⟨h.toArray⟩, .string ⟨tl.toArray⟩, .bool fd]) ∧ Below w.heap.size w w' := fun w ⟨m, hm⟩ => by
    refine (Tryz.strings_Cut s ⟨#[62]⟩ m w (by omega) hm).mono fun e w' ⟨he, n, hw⟩ => ⟨?_, hw ▸ below_drewN (Below.refl _ _) n⟩
    rw [he, hh, htl, hfd]
  have HCut := Lib.hid hcut
  obtain ⟨x, hx⟩ : ∃ x, x = pVal h := ⟨_, rfl⟩
  obtain ⟨y, hy⟩ : ∃ y, y = pVal tl := ⟨_, rfl⟩
  obtain ⟨o1, ho1⟩ : ∃ o1, o1 = pOk h := ⟨_, rfl⟩
  obtain ⟨o2, ho2⟩ : ∃ o2, o2 = pOk tl := ⟨_, rfl⟩
  rw [← hx, ← hy, ← ho1, ← ho2] at hdef
  obtain ⟨rfl, rfl⟩ := hdef
  have HV := Lib.hid (And.intro hx (And.intro hy (And.intro ho1 ho2)))
  clear hpow hmx hcl hh htl hfd hcut hvc hoc hx hy ho1 ho2
  go_enter Tryz.func48, Tryz.ntmps48
  go_wp2_with fail
  have hx := (Below.refl w.heap.size w).alloc (Nat.le_refl _) (.cells #[.int .i64 0, .int .i64 0] 45)
  refine ((HCut : ∀ w, Mx w → Calls Tryz.prog 27 #[.string s, .string ⟨#[62]⟩] w fun e w' => e = .returned (.tuple #[.string ⟨h.toArray⟩, .string ⟨tl.toArray⟩, .bool fd]) ∧ Below w.heap.size w w') _ (HM.out.below hx)).mono ?_
  rintro e w1 ⟨rfl, hb1⟩
  have HR1 : Hid (w1.heap[w.heap.size]? = some (.cells #[.int .i64 0, .int .i64 0] 45 (0, 0))) := Lib.hid ((hb1.block w.heap.size (by simp)).trans (heap_alloc_new w _))
  have HB1 := Lib.hid (hx.trans (hb1.mono hx.size))
  clear hb1 hx
  go_wp2_with fail
  refine (iParse ⟨h.toArray⟩ HCl.out.1 w1 (HP.out.below HB1.out)).mono ?_
  rintro e w2 ⟨rfl, hb2⟩
  have hv1 : pVal (⟨h.toArray⟩ : ByteArray).data.toList = x := HV.out.1.symm
  have hv2 : pOk (⟨h.toArray⟩ : ByteArray).data.toList = o1 := HV.out.2.2.1.symm
  rw [hv1, hv2]
  have HR2 := Lib.hid ((hb2.block w.heap.size (lt_of_block HR1.out)).trans HR1.out)
  have HB2 := Lib.hid (HB1.out.trans (hb2.mono HB1.out.size))
  clear hb2 hv1 hv2
  go_wp2_with fail
  refine (iParse ⟨tl.toArray⟩ HCl.out.2 w2 (HP.out.below HB2.out)).mono ?_
  rintro e w3 ⟨rfl, hb3⟩
  have hv1 : pVal (⟨tl.toArray⟩ : ByteArray).data.toList = y := HV.out.2.1.symm
  have hv2 : pOk (⟨tl.toArray⟩ : ByteArray).data.toList = o2 := HV.out.2.2.2.symm
  rw [hv1, hv2]
  have HR3 := Lib.hid ((hb3.block w.heap.size (lt_of_block HR2.out)).trans HR2.out)
  have HB3 := Lib.hid (HB2.out.trans (hb3.mono HB2.out.size))
  clear hb3 hv1 hv2
  have d0 : w3.cell? ⟨w.heap.size, 0, none⟩ = some (.int .i64 0) := cell_of_row w3 _ 0 _ _ (0, 0) HR3.out
  have d1 : w3.cell? ⟨w.heap.size, 1, none⟩ = some (.int .i64 0) := cell_of_row w3 _ 1 _ _ (0, 0) HR3.out
  have g0 : w3.frozen? ⟨w.heap.size, 0, none⟩ = false := frozen_of_row w3 _ 0 _ _ HR3.out
  have g1 : w3.frozen? ⟨w.heap.size, 1, none⟩ = false := frozen_of_row w3 _ 1 _ _ HR3.out
  cases o1
  all_goals
    go_wp2
    refine bodyPost_ret_by (results_row_tmp rfl _ _ w.heap.size 45 _ (0, 0) _ rfl (two_set HR3.out) Tryz.underlying45 rfl (by kernel_rfl)) rfl ?_
    exact ⟨rfl, (HB3.out.setCell (Nat.le_refl _) _).setCell (Nat.le_refl _) _⟩

theorem make_pairsL (n : Nat) (hn : n ≤ 2000000) (w : World) :
    (Instr.makeSlice 23 (.int .i64 (n : Int)) (.int .i64 (n : Int))).run Tryz.prog w = .ok (.slice (some ⟨w.heap.size, 0, none⟩) n n) (w.alloc (.cells (madeCells #[.int .i64 0, .int .i64 0] (n * 2)) 45)) := by
  obtain ⟨i, hi, hzz⟩ := Option.map_eq_some_iff.1 info_pair
  simp only [Prod.mk.injEq] at hzz
  obtain ⟨hz, hs, hb⟩ := hzz
  have hr := run_make (P := Tryz.prog) w _ _ i _ Tryz.underlying23 hi hz .i64 .i64 n n (by omega) (Int.le_refl _) (by rw [hb]; omega) (by omega)
  rw [hs] at hr
  simp only [Int.toNat_natCast] at hr
  exact hr
theorem all_step {L : List (List UInt8)} {k : Nat} {p : List UInt8} (hp : L[k]? = some p) (h : (L.take k).all okC = true) (h1 : okC p = true) : (L.take (k + 1)).all okC = true := by
  rw [ptake_at hp, List.all_append, h, List.all_cons, h1]; rfl
/-- What splitList hands back. -/
def ValsP (w : World) (B : Nat) (L : List (List UInt8)) (v : Value) (ok : Bool) : Prop :=
  (ok = false ∧ L.all okC = false ∧ v = .slice none 0 0) ∨ (ok = true ∧ L.all okC = true ∧ ∃ b, v = .slice (some ⟨b, 0, none⟩) L.length L.length ∧ B ≤ b ∧ PairRow w b (L.map valC))
set_option maxRecDepth 20000 in
set_option maxHeartbeats 1600000 in
theorem splitPairs (s : ByteArray) (hs : s.size ≤ 1048576) (w : World) (hpow : Pow w) (hmx : Mx w) (L : List (List UInt8)) (hL : pieces 44 s.data.toList = L) :
    Calls Tryz.prog 47 #[.string s, .string ⟨#[44]⟩, .func (.func 48) #[] #[]] w fun e w' => (∃ v ok, e = .returned (.tuple #[v, .bool ok]) ∧ ValsP w' w.heap.size L v ok) ∧ Below w.heap.size w w' := by
  have HP := Lib.hid hpow
  have HM := Lib.hid hmx
  have HL0 := Lib.hid hL
  clear hpow hmx hL
  go_enter Tryz.func47, Tryz.ntmps47
  go_wp2_with fail
  refine (split_c s hs w HM.out).mono ?_
  rintro e w0 ⟨ps, hps, rfl, rfl⟩
  have hL := HL0.out
  rw [hL] at hps
  have hlen : L.length ≤ 1048577 := by
    rw [← hL]
    have h1 := pieces_count 44 s.data.toList
    have h2 : s.data.toList.length = s.size := by rw [Array.length_toList]; rfl
    omega
  have hle : ∀ p ∈ L, p.length ≤ 1048576 := by
    intro p hp
    rw [← hL] at hp
    have h1 := piece_le hp
    have h2 : s.data.toList.length = s.size := by rw [Array.length_toList]; rfl
    omega
  have hpl : L.length = ps.length := by rw [← hps, List.length_map]
  obtain ⟨n, hn⟩ : ∃ n, ps.length = n := ⟨_, rfl⟩
  rw [hn] at hpl
  have HLn := Lib.hid hpl
  have hnb : n ≤ 1048577 := by omega
  rw [hn]
  have HPS := Lib.hid hps
  have HN := Lib.hid hn
  have HLe := Lib.hid hle
  obtain ⟨ws, hws⟩ : ∃ ws, ws = w.alloc (.cells (ps.map Value.string).toArray 9) := ⟨_, rfl⟩
  have hsz : w.heap.size < ws.heap.size := by rw [hws]; simp
  have HW0 := Lib.hid (show Below w.heap.size w ws by rw [hws]; exact (Below.refl _ w).alloc (Nat.le_refl _) _)
  have HC : Hid (∀ k p, ps[k]? = some p → ws.cell? ⟨w.heap.size, k, none⟩ = some (.string p)) := Lib.hid fun k p hp => by
    rw [hws, World.cell?_alloc_at _ _ _ _ rfl]
    simp [hp]
  have hmk := make_pairsL n (by omega)
  rw [← hws]
  clear hL hlen hle hpl hps hn hws
  go_wp2
  clear hmk
  go_loopw [22] (fun i wr => ∃ k : Nat, k ≤ n ∧ i = .int .i64 k ∧ wr.rowIs ws.heap.size 45 (n * 2) (pairCell ((L.take k).map valC)) ∧ (L.take k).all okC = true ∧ Below ws.heap.size ws wr) (fun i _ => n - (intOf i).toNat)
  case atStart =>
    exact ⟨0, Nat.zero_le _, rfl, made_pairs ws n, rfl, (Below.refl _ _).alloc (Nat.le_refl _) _⟩
  case round =>
    obtain ⟨k, hk, rfl, hrow, hall, hbel⟩ := hrel
    have HR := Lib.hid hrow
    have HA := Lib.hid hall
    have HB := Lib.hid hbel
    have HBw := Lib.hid (HW0.out.trans (hbel.mono HW0.out.size))
    clear hall
    by_cases hlt : k < n
    · obtain ⟨p, hp1, hp2⟩ := str_at HPS.out (k := k) (by rw [HN.out]; exact hlt)
      have f1 : wr.cell? ⟨w.heap.size, k, none⟩ = some (.string p) := (hbel.cell (p := ⟨w.heap.size, k, none⟩) hsz).trans (HC.out k p hp1)
      have HP2 := Lib.hid hp2
      have hpsz : Hid (p.size ≤ 1048576) := Lib.hid (by
        have h1 := HLe.out _ (mem_of_at hp2)
        have h2 : p.data.toList.length = p.size := by rw [Array.length_toList]; rfl
        omega)
      obtain ⟨x, hx⟩ : ∃ x, x = (valC p.data.toList).1 := ⟨_, rfl⟩
      obtain ⟨y, hy⟩ : ∃ y, y = (valC p.data.toList).2 := ⟨_, rfl⟩
      obtain ⟨ok, ho⟩ : ∃ ok, ok = okC p.data.toList := ⟨_, rfl⟩
      have HV : Hid (valC p.data.toList = (x, y)) := Lib.hid (by rw [hx, hy])
      have HO := Lib.hid ho
      have hlk : Hid (((L.take k).map valC).length = k) := Lib.hid (by rw [List.length_map, List.length_take, HLn.out]; omega)
      have hlt' : (k : Int) < (n : Int) := by omega
      clear hp1 hp2 hrow hbel hx hy ho
      go_wp2_with fail
      refine (iParsePair p hpsz.out wr (HP.out.below HBw.out) (HM.out.below HBw.out)).mono ?_
      rintro e w1 ⟨rfl, hb⟩
      rw [HV.out, ← HO.out]
      obtain ⟨ob, hob⟩ : ∃ ob : Obj, ob = .cells #[.int .i64 x, .int .i64 y] 45 := ⟨_, rfl⟩
      have hb2 : Below wr.heap.size wr (w1.alloc ob) := hb.alloc hb.size ob
      have hrow1 := rowIs_below HR.out hb2 (World.rowIs.lt HR.out)
      have q1 : (w1.alloc ob).cell? ⟨ws.heap.size, k * 2, none⟩ = some (.int .i64 0) := by rw [World.rowIs.cell hrow1 (by omega), pairCell_none (by rw [hlk.out]; omega)]
      have q2 : (w1.alloc ob).cell? ⟨ws.heap.size, k * 2 + 1, none⟩ = some (.int .i64 0) := by rw [World.rowIs.cell hrow1 (by omega), pairCell_none (by rw [hlk.out]; omega)]
      have q3 := World.rowIs.frozen hrow1 (k * 2)
      have q4 := World.rowIs.frozen hrow1 (k * 2 + 1)
      have HR1 := Lib.hid hrow1
      have HB1 := Lib.hid (HB.out.trans (hb2.mono HB.out.size))
      clear hb hb2 hrow1 f1
      rw [hob] at q1 q2 q3 q4
      cases ok
      · have HF : Hid (L.all okC = false) := Lib.hid (by
          cases h : L.all okC with
          | false => rfl
          | true =>
            have := List.all_eq_true.1 h _ (mem_of_at HP2.out)
            rw [← HO.out] at this; cases this)
        clear q1 q2 q3 q4
        go_wp2
        go_ret2
        first
        | exact ⟨⟨_, _, rfl, .inl ⟨rfl, HF.out, rfl⟩⟩, HW0.out.trans ((by rw [hob] at HB1; exact HB1.out : Below ws.heap.size ws _).mono HW0.out.size)⟩
      · go_wp2
        go_roundw
        case rel =>
          refine ⟨k + 1, by omega, by go_num, ?_, all_step HP2.out HA.out HO.out.symm, ?_⟩
          · rw [ptake_at HP2.out, List.map_append, List.map_cons, List.map_nil, HV.out, ← hob]
            exact (World.rowIs.set (World.rowIs.set HR1.out (k * 2) (.int .i64 x)) (k * 2 + 1) (.int .i64 y)).congr (fun j _ => pairCell_snoc hlk.out (x, y) j)
          · rw [← hob]; exact (HB1.out.setCell (Nat.le_refl _) _).setCell (Nat.le_refl _) _
        case measure => simp [intOf]; omega
    · obtain rfl : k = n := by omega
      have HT : Hid (L.all okC = true) := Lib.hid (by have := HA.out; rwa [ptake_all HLn.out] at this)
      clear hrow hbel
      go_wp2
      go_ret2
      refine ⟨⟨_, _, rfl, .inr ⟨rfl, HT.out, ws.heap.size, by rw [HLn.out]; rfl, by omega, ?_⟩⟩, HBw.out⟩
      have h := HR.out
      rw [ptake_all HLn.out] at h
      unfold PairRow
      rw [List.length_map, HLn.out]
      exact h

/-- What ParsePairs answers: pairs of the call's own. -/
def OutParse (s : ByteArray) (w : World) (e : Ending) (w' : World) : Prop := (∃ v ps ok, e = .returned (.tuple #[v, .bool ok]) ∧ OwnP w' w.heap.size v ps ∧ ParsedP s.data.toList ps ok) ∧ Below w.heap.size w w'
set_option maxRecDepth 20000 in
set_option maxHeartbeats 1600000 in
theorem iParsePairs (s : ByteArray) (hs : s.size ≤ 1048576) (w : World) (hpow : Pow w) (hmx : Mx w) :
    Calls Tryz.prog 32 #[.string s] w (OutParse s w) := by
  obtain ⟨q0, hq0⟩ := bool_of (s.data.toList = noneT)
  have hc1 : (s.toList == [110, 111, 110, 101]) = q0 := by
    rw [ByteArray.toList_eq, Bool.eq_iff_iff, beq_iff_eq, hq0]
    exact Iff.rfl
  have hc2 : (s.toList == (⟨#[110, 111, 110, 101]⟩ : ByteArray).toList) = q0 := by
    rw [ByteArray.toList_eq, ByteArray.toList_eq, Bool.eq_iff_iff, beq_iff_eq, hq0]
    exact Iff.rfl
  have HQ0 := Lib.hid hq0
  clear hq0
  cases q0
  · have HNe : Hid (s.data.toList ≠ noneT) := Lib.hid fun h => by have := HQ0.out.2 h; cases this
    obtain ⟨L, hL⟩ : ∃ L, L = pieces 44 s.data.toList := ⟨_, rfl⟩
    have HL := Lib.hid hL
    go_enter Tryz.func32, Tryz.ntmps32
    go_wp2_with fail
    refine (splitPairs s hs w hpow hmx L hL.symm).mono ?_
    rintro e w1 ⟨⟨u, ok, rfl, hvals⟩, hb1⟩
    have HB1 := Lib.hid hb1
    clear hpow hmx hb1 hL
    rcases hvals with ⟨rfl, hall, rfl⟩ | ⟨rfl, hall, b, rfl, hbb, hrow⟩
    · have HNo : Hid (ParsedP s.data.toList [] false) := Lib.hid (impl_noP HNe.out fun h => by rw [← HL.out, hall] at h; cases h.1)
      clear hall hc1 hc2
      go_wp2
      go_ret2
      exact ⟨⟨_, [], false, rfl, OwnP.nil _ _, HNo.out⟩, HB1.out⟩
    · obtain ⟨n, hn⟩ : ∃ n, n = L.length := ⟨_, rfl⟩
      have hn8 : n ≤ 1048576 := by
        have h1 := few (s := s.data.toList) (by
          rw [← HL.out]
          exact fun c hc => okC_len (List.all_eq_true.1 hall c hc))
        rw [← HL.out, ← hn, size_list] at h1
        omega
      rw [← hn]
      have HRow := Lib.hid hrow
      have HAll := Lib.hid hall
      have HBb := Lib.hid hbb
      have HN := Lib.hid hn
      have hlm : (L.map valC).length = n := by rw [List.length_map, hn]
      have hp : Pairs w1 w1.heap.size (some ⟨b, 0, none⟩) n (L.map valC) := hlm ▸ hrow.pairs hrow.lt
      have HPr := Lib.hid hp
      have HLm := Lib.hid hlm
      obtain ⟨q, hq⟩ := bool_of (OkP (L.map valC))
      have HQ := Lib.hid hq
      clear hall hrow hbb hn hlm hp hq hc1 hc2
      go_wp2_with fail
      refine (iArePairs w1 w1.heap.size (some ⟨b, 0, none⟩) n n (L.map valC) HPr.out (Nat.le_refl _) hn8 q HQ.out).mono ?_
      rintro e w2 ⟨rfl, hb2⟩
      have HB2 := Lib.hid (HB1.out.trans (hb2.mono HB1.out.size))
      have HRow2 := Lib.hid (HRow.out.below hb2 HRow.out.lt)
      clear hb2
      cases q
      · have HNo : Hid (ParsedP s.data.toList [] false) := Lib.hid (impl_noP HNe.out fun h => by rw [← HL.out] at h; have := HQ.out.2 h.2; cases this)
        go_wp2
        go_ret2
        exact ⟨⟨_, [], false, rfl, OwnP.nil _ _, HNo.out⟩, HB2.out⟩
      · have HY : Hid (ParsedP s.data.toList (L.map valC) true) := Lib.hid (by
          have h1 := HAll.out
          have h2 := HQ.out.1 (by first | rfl | trivial)
          rw [HL.out] at h1 h2 ⊢
          exact impl_yesP h1 h2)
        go_wp2
        go_ret2
        exact ⟨⟨_, L.map valC, true, rfl, HRow2.out.own HBb.out HLm.out hn8, HY.out⟩, HB2.out⟩
  · have HE : Hid (s.data.toList = noneT) := Lib.hid (HQ0.out.1 (by first | rfl | trivial))
    clear hpow hmx
    go_enter Tryz.func32, Tryz.ntmps32
    go_wp2
    go_ret2
    exact ⟨⟨_, [], true, rfl, OwnP.nil _ _, by rw [HE.out]; exact parsedP_none⟩, Below.refl _ _⟩
end Go.Proofs.YtghekfigfjhkeabGreatDoor.num
