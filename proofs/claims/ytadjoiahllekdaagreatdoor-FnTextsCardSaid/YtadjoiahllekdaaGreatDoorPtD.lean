/- Contracts of functions that the laws of this chapter call, packed. -/
import Derived.Test.YtadjoiahllekdaaGreatDoorPtC
import Derived.Test.YtadjoiahllekdaaGreatDoorPtA
import Derived.Test.YtadjoiahllekdaaGreatDoorItemImpl
import Derived.Test.YtadjoiahllekdaaGreatDoorPtB
import Derived.Test.YtadjoiahllekdaaGreatDoorItemRow
import Derived.Test.YtadjoiahllekdaaGreatDoorItemIds
namespace Go.Proofs.YtadjoiahllekdaaGreatDoor.num
set_option maxRecDepth 20000
open Go.RowKit
set_option linter.unusedVariables false
set_option linter.unusedSimpArgs false

theorem join_len2 : ∀ {L : List (List UInt8)}, L ≠ [] → (∀ p ∈ L, p.length ≤ (Lib.join L [59, 32]).length) ∧ 2 * L.length ≤ (Lib.join L [59, 32]).length + 2
  | [], h => absurd rfl h
  | [a], _ => by rw [Lib.join_one]; exact ⟨fun p hp => by rw [List.mem_singleton.1 hp]; exact Nat.le_refl _, by simp⟩
  | a :: b :: r, _ => by
    obtain ⟨h1, h2⟩ := join_len2 (L := b :: r) (by simp)
    rw [joinL_cons a (by simp)]
    simp only [List.length_append, List.length_cons, List.length_nil] at h2 ⊢
    refine ⟨fun p hp => ?_, by omega⟩
    rcases List.mem_cons.1 hp with rfl | hp
    · omega
    · have := h1 p hp; omega
theorem wordsE_len (s : List UInt8) : (∀ p ∈ wordsE s, p.length ≤ s.length) ∧ 2 * (wordsE s).length ≤ s.length + 2 := by
  have h := join_len2 (wordsE_ne s)
  rwa [wordsE_back] at h
theorem split_e (s : ByteArray) (hs : s.size ≤ 1048576) (w : World) (hm : Mx w) :
    Calls Tryz.prog 100 #[.string s, .string ⟨#[59, 32]⟩] w fun e w' => ∃ ps : List ByteArray, ps.map (·.data.toList) = wordsE s.data.toList ∧ e = .returned (.slice (some ⟨w.heap.size, 0, none⟩) ps.length ps.length) ∧ w.alloc (.cells (ps.map Value.string).toArray 9) = w' := by
  obtain ⟨m, hm⟩ := hm
  refine (Tryz.strings_Split s ⟨#[59, 32]⟩ m w (by omega) hm (by decide)).mono fun e w' ⟨he, hw⟩ => ?_
  refine ⟨Lib.splitB ⟨#[59, 32]⟩ 0 (Lib.countB s ⟨#[59, 32]⟩) s, splitB_words s, ?_, hw.symm⟩
  rw [he, Lib.splitB_all ⟨#[59, 32]⟩ (by decide) 0 _ s rfl]
/-- What splitList hands back. -/
def ValsN (w : World) (B : Nat) (L : List (List UInt8)) (v : Value) (ok : Bool) : Prop :=
  (ok = false ∧ v = .slice none 0 0 ∧ ∃ (k : Nat) (p : List UInt8) (nd : ND), L[k]? = some p ∧ ParsedN p nd false) ∨
  (ok = true ∧ ∃ (b : Nat) (ns : List Nd), v = .slice (some ⟨b, 0, none⟩) L.length L.length ∧ ns.length = L.length ∧ (∀ (j : Nat) (p : List UInt8) (x : Nd), L[j]? = some p → ns[j]? = some x → ParsedN p x.dat true) ∧ ShortN ns ∧ OwnN w B (.slice (some ⟨b, 0, none⟩) L.length L.length) ns)

set_option maxHeartbeats 3200000 in
theorem splitNodes (s : ByteArray) (hs : s.size ≤ 1048576) (w : World) (hpow : Pow w) (hmx : Mx w) (hkw : Kw w) (how : Ow w) (L : List (List UInt8)) (hL : wordsE s.data.toList = L) :
    Calls Tryz.prog 69 #[.string s, .string ⟨#[59, 32]⟩, .func (.func 70) #[] #[]] w fun e w' => (∃ v ok, e = .returned (.tuple #[v, .bool ok]) ∧ ValsN w' w.heap.size L v ok) ∧ Below w.heap.size w w' := by
  have HP := Lib.hid hpow
  have HM := Lib.hid hmx
  have HKw := Lib.hid hkw
  have HOw := Lib.hid how
  have HL0 := Lib.hid hL
  clear hpow hmx hkw how hL
  go_enter Tryz.func69, Tryz.ntmps69
  go_wp2_with fail
  refine (split_e s hs w HM.out).mono ?_
  rintro e w0 ⟨ps, hps, rfl, rfl⟩
  have hL := HL0.out
  rw [hL] at hps
  have hsl : s.data.toList.length = s.size := by rw [Array.length_toList]; rfl
  have hlen : L.length ≤ 1048576 := by
    rw [← hL]
    have h1 := (wordsE_len s.data.toList).2
    omega
  have hle : ∀ p ∈ L, p.length ≤ 1048576 := by
    intro p hp
    rw [← hL] at hp
    have h1 := (wordsE_len s.data.toList).1 p hp
    omega
  have hpl : L.length = ps.length := by rw [← hps, List.length_map]
  obtain ⟨n, hn⟩ : ∃ n, ps.length = n := ⟨_, rfl⟩
  rw [hn] at hpl
  have HLn := Lib.hid hpl
  have hnb : n ≤ 1048576 := by omega
  rw [hn]
  have HPS := Lib.hid hps
  have HN := Lib.hid hn
  have HLe := Lib.hid hle
  obtain ⟨ws, hws⟩ : ∃ ws, ws = w.alloc (.cells (ps.map Value.string).toArray 9) := ⟨_, rfl⟩
  have hsz : w.heap.size < ws.heap.size := by rw [hws]; simp
  have HW0 := Lib.hid (show Below w.heap.size w ws by rw [hws]; exact (Below.refl _ w).alloc (Nat.le_refl _) _)
  have HC : Hid (∀ k p, ps[k]? = some p → ws.cell? ⟨w.heap.size, k, none⟩ = some (.string p)) := Lib.hid fun k p hp => by
    rw [hws, World.cell?_alloc_at _ _ _ _ rfl]
    simp [hp]
  have hmk := make_nodes n hnb
  rw [← hws]
  clear hL hlen hle hpl hps hn hws hsl
  go_wp2
  clear hmk
  go_loopw [22] (fun i wr => ∃ (k : Nat) (ns' : List Nd), k ≤ n ∧ i = .int .i64 k ∧ ns'.length = k ∧ (∀ (j : Nat) (p : List UInt8) (x : Nd), L[j]? = some p → ns'[j]? = some x → ParsedN p x.dat true) ∧ ShortN ns' ∧ wr.rowIs ws.heap.size 92 (n * 6) (nodeCell ns') ∧ (∀ (k : Nat) (x : Nd), ns'[k]? = some x → (Lit.int .i64 x.op).wf = true ∧ WiO wr (ws.heap.size + 1) x.t) ∧
    (∀ (i j : Nat) (x y : Nd) (b : Nat), i < j → ns'[i]? = some x → ns'[j]? = some y → x.t.has b → ¬ y.t.has b) ∧ Below ws.heap.size ws wr) (fun i _ => n - (intOf i).toNat)
  case atStart => exact ⟨0, [], Nat.zero_le _, rfl, rfl, by simp, by simp [ShortN], made_nodes ws n, by simp, by simp, (Below.refl _ _).alloc (Nat.le_refl _) _⟩
  case round =>
    obtain ⟨k, ns', hk, rfl, hlen, hrd, hsh, hrow, hx, hdd, hbel⟩ := hrel
    have HD := Lib.hid hrd
    have HL := Lib.hid hlen
    have HS := Lib.hid hsh
    have HR := Lib.hid hrow
    have HXs := Lib.hid hx
    have HDd := Lib.hid hdd
    have HB := Lib.hid hbel
    have HBw := Lib.hid (HW0.out.trans (hbel.mono HW0.out.size))
    clear hrd hlen hsh hx hdd
    by_cases hlt : k < n
    · obtain ⟨p, hp1, hp2⟩ := str_at HPS.out (k := k) (by rw [HN.out]; exact hlt)
      have f1 : wr.cell? ⟨w.heap.size, k, none⟩ = some (.string p) := (hbel.cell (p := ⟨w.heap.size, k, none⟩) hsz).trans (HC.out k p hp1)
      have HP2 := Lib.hid hp2
      have hpsz : Hid (p.size ≤ 1048576) := Lib.hid (by
        have h1 := HLe.out _ (mem_of_at hp2)
        have h2 : p.data.toList.length = p.size := by rw [Array.length_toList]; rfl
        omega)
      have hlt' : (k : Int) < (n : Int) := by omega
      have hbs := hrow.lt
      clear hp1 hp2 hrow hbel
      go_wp2_with fail
      refine (iParseNode p hpsz.out wr (HP.out.below HBw.out) (HM.out.below HBw.out) (HKw.out.below HBw.out) (HOw.out.below HBw.out)).mono ?_
      rintro e w1 ⟨⟨x', ok, rfl, hpn, hop', ho', hs'⟩, hb⟩
      unfold Nd.val
      obtain ⟨ob, hob⟩ : ∃ ob : Obj, ob = .cells #[.int .i64 x'.op, .int .i64 x'.t.kind, .int .i64 x'.t.field, .int .i64 x'.t.value, .slice x'.t.LA x'.t.Ln x'.t.Lc, .slice x'.t.PA x'.t.Pn x'.t.Pc] 92 := ⟨_, rfl⟩
      have hb2 : Below wr.heap.size wr (w1.alloc ob) := hb.alloc hb.size ob
      have hrow1 := World.rowIs.of_block HR.out (hb2.block _ hbs)
      have q : ∀ i, i < 6 → (w1.alloc ob).cell? ⟨ws.heap.size, k * 6 + i, none⟩ = some (zN i) := fun i hi => by
        rw [World.rowIs.cell hrow1 (by omega)]
        congr 1
        show cellG nodeCells zN ns' _ = _
        rw [cellG_none nodeCells_len zN (by rw [HL.out]; omega)]
        unfold zN
        rw [show (k * 6 + i) % 6 = i % 6 by omega]
      have q0 : (w1.alloc ob).cell? ⟨ws.heap.size, k * 6, none⟩ = some (.int .i64 0) := q 0 (by decide)
      have q1 : (w1.alloc ob).cell? ⟨ws.heap.size, k * 6 + 1, none⟩ = some (.int .i64 0) := q 1 (by decide)
      have q2 : (w1.alloc ob).cell? ⟨ws.heap.size, k * 6 + 2, none⟩ = some (.int .i64 0) := q 2 (by decide)
      have q3 : (w1.alloc ob).cell? ⟨ws.heap.size, k * 6 + 3, none⟩ = some (.int .i64 0) := q 3 (by decide)
      have q4 : (w1.alloc ob).cell? ⟨ws.heap.size, k * 6 + 4, none⟩ = some (.slice none 0 0) := q 4 (by decide)
      have q5 : (w1.alloc ob).cell? ⟨ws.heap.size, k * 6 + 5, none⟩ = some (.slice none 0 0) := q 5 (by decide)
      have p0 := World.rowIs.frozen hrow1 (k * 6)
      have p1 := World.rowIs.frozen hrow1 (k * 6 + 1)
      have p2 := World.rowIs.frozen hrow1 (k * 6 + 2)
      have p3 := World.rowIs.frozen hrow1 (k * 6 + 3)
      have p4 := World.rowIs.frozen hrow1 (k * 6 + 4)
      have p5 := World.rowIs.frozen hrow1 (k * 6 + 5)
      have HR1 := Lib.hid hrow1
      have HB1 := Lib.hid hb2
      have HO1 := Lib.hid (WiO.blocks ho' (fun b hb' => heap_alloc_old w1 ob (ho'.has_in hb').2))
      have HPn := Lib.hid hpn
      have HS1 := Lib.hid hs'
      have HOp := Lib.hid hop'
      have HBs := Lib.hid hbs
      clear hrow1 hb hb2 ho' hpn hs' hop' q hbs f1
      rw [hob] at q0 q1 q2 q3 q4 q5 p0 p1 p2 p3 p4 p5
      cases ok
      · clear q0 q1 q2 q3 q4 q5 p0 p1 p2 p3 p4 p5
        go_wp2
        go_ret2
        exact ⟨⟨_, _, rfl, .inl ⟨rfl, rfl, k, _, _, HP2.out, HPn.out⟩⟩, HW0.out.trans ((by rw [hob] at HB1; exact below_on HB.out HB1.out : Below ws.heap.size ws _).mono HW0.out.size)⟩
      · go_wp2
        go_roundw
        case rel =>
          rw [← hob]
          have hk2 : ∀ b, b ≠ ws.heap.size → ∀ v0 v1 v2 v3 v4 v5, (((((((w1.alloc ob).setCell ⟨ws.heap.size, k * 6, none⟩ v0).setCell ⟨ws.heap.size, k * 6 + 1, none⟩ v1).setCell ⟨ws.heap.size, k * 6 + 2, none⟩ v2).setCell ⟨ws.heap.size, k * 6 + 3, none⟩ v3).setCell ⟨ws.heap.size, k * 6 + 4, none⟩ v4).setCell ⟨ws.heap.size, k * 6 + 5, none⟩ v5).heap[b]? = (w1.alloc ob).heap[b]? := fun b hb v0 v1 v2 v3 v4 v5 => by
            repeat rw [heap_setCell_other _ _ _ _ (by simp; omega)]
          refine ⟨k + 1, ns' ++ [x'], by omega, by go_num, by rw [List.length_append, HL.out]; rfl, ?_, ?_, ?_, ?_, ?_, ?_⟩
          · intro j u y hu hy
            rcases get_snoc HL.out hy with ⟨_, h⟩ | ⟨rfl, rfl⟩
            · exact HD.out j u y hu h
            · have hu' := HP2.out
              rw [hu] at hu'
              rw [Option.some.inj hu']; exact HPn.out
          · intro y hy
            rcases List.mem_append.1 hy with h | h
            · exact HS.out y h
            · rw [List.mem_singleton.1 h]; exact HS1.out
          · exact (World.rowIs.set (World.rowIs.set (World.rowIs.set (World.rowIs.set (World.rowIs.set (World.rowIs.set HR1.out (k * 6) _) (k * 6 + 1) _) (k * 6 + 2) _) (k * 6 + 3) _) (k * 6 + 4) _) (k * 6 + 5) _).congr (fun j _ => nodeCell_snoc HL.out x' j)
          · intro i y hy
            rcases get_snoc HL.out hy with ⟨_, h⟩ | ⟨_, rfl⟩
            · obtain ⟨e1, e2⟩ := HXs.out i y h
              refine ⟨e1, WiO.blocks (e2.below HB1.out) fun b hb => hk2 b ?_ _ _ _ _ _ _⟩
              have := (e2.has_in hb).1
              omega
            · refine ⟨HOp.out, (WiO.blocks HO1.out fun b hb => hk2 b ?_ _ _ _ _ _ _).low (by have := HBs.out; omega)⟩
              have := (HO1.out.has_in hb).1
              have := HBs.out
              omega
          · intro i j y z b hij hy hz hb
            rcases get_snoc HL.out hz with ⟨hj, h⟩ | ⟨_, rfl⟩
            · rcases get_snoc HL.out hy with ⟨_, h'⟩ | ⟨e, _⟩
              · exact HDd.out i j y z b hij h' h hb
              · omega
            · rcases get_snoc HL.out hy with ⟨_, h'⟩ | ⟨e, _⟩
              · intro hb'
                have g1 := ((HXs.out i y h').2.has_in hb).2
                have g2 := (HO1.out.has_in hb').1
                omega
              · omega
          · exact ((((((below_on HB.out HB1.out).setCell (Nat.le_refl _) _).setCell (Nat.le_refl _) _).setCell (Nat.le_refl _) _).setCell (Nat.le_refl _) _).setCell (Nat.le_refl _) _).setCell (Nat.le_refl _) _
        case measure => simp [intOf]; omega
    · obtain rfl : k = n := by omega
      clear hbel hrow
      go_wp2
      go_ret2
      refine ⟨⟨_, _, rfl, .inr ⟨rfl, ws.heap.size, ns', by rw [HLn.out]; rfl, by rw [HLn.out]; exact HL.out, HD.out, HS.out, ?_⟩⟩, HBw.out⟩
      rw [HLn.out]
      exact OwnN.of_row (by omega) HL.out hnb HR.out HXs.out HDd.out
/-- What ParseExpression hands back: nodes of the call's own. -/
def OutParseE (s : ByteArray) (w : World) (e : Ending) (w' : World) : Prop := (∃ (v : Value) (ns : List Nd) (ok : Bool), e = .returned (.tuple #[v, .bool ok]) ∧ OwnN w' w.heap.size v ns ∧ ShortN ns ∧ ParsedE s.data.toList (datN ns) ok) ∧ Below w.heap.size w w'
theorem read_all {L : List (List UInt8)} {ns : List Nd} (hl : ns.length = L.length) (h : ∀ (j : Nat) (p : List UInt8) (x : Nd), L[j]? = some p → ns[j]? = some x → ParsedN p x.dat true) : ReadE L (datN ns) (List.replicate L.length true) :=
  ⟨by unfold datN; rw [List.length_map, hl], by simp, fun k p nd ok h1 h2 h3 => by
    unfold datN at h2
    rw [List.getElem?_map] at h2
    obtain ⟨x, hx, rfl⟩ := Option.map_eq_some_iff.1 h2
    have h4 := List.mem_of_getElem? h3
    rw [(List.mem_replicate.1 h4).2]
    exact h k p x h1 hx⟩
set_option maxHeartbeats 1600000 in
theorem iParseE (s : ByteArray) (hs : s.size ≤ 1048576) (w : World) (hpow : Pow w) (hmx : Mx w) (hkw : Kw w) (how : Ow w) :
    Calls Tryz.prog 21 #[.string s] w (OutParseE s w) := by
  obtain ⟨L, hL⟩ : ∃ L, wordsE s.data.toList = L := ⟨_, rfl⟩
  go_enter Tryz.func21, Tryz.ntmps21
  go_wp2_with fail
  refine (splitNodes s hs w hpow hmx hkw how L hL).mono ?_
  rintro e w1 ⟨⟨v, ok, rfl, hv⟩, hb1⟩
  have HB1 := Lib.hid hb1
  clear hpow hmx hkw how
  rcases hv with ⟨rfl, rfl, k, p, nd, hk, hp⟩ | ⟨rfl, b, ns, rfl, hlen, hrd, hsh, hown⟩
  · have HNo : Hid (ParsedE s.data.toList [] false) := Lib.hid (impl_stop (by rw [hL]; exact hk) hp)
    clear hk hp hb1 hL
    go_wp2
    go_ret2
    exact ⟨⟨_, [], false, rfl, OwnN.nil _ _, by simp [ShortN], HNo.out⟩, HB1.out⟩
  · have hsl : s.data.toList.length = s.size := by rw [Array.length_toList]; rfl
    have hln : L.length ≤ 1048576 := by
      rw [← hL]
      have h1 := (wordsE_len s.data.toList).2
      omega
    obtain ⟨q, hq⟩ := bool_of (IsE (datN ns))
    have HC := Lib.hid (iIsEW w1 w1.heap.size (some ⟨b, 0, none⟩) L.length L.length ns hown.nodes (Nat.le_refl _) (Nat.le_refl _) (by omega) hsh q hq)
    have hre := read_all hlen hrd
    rw [← hL] at hre
    have hno : q = false → ParsedE s.data.toList [] false := fun e => impl_no hre fun h => by have := hq.2 h.2; rw [e] at this; cases this
    have hyes : q = true → ParsedE s.data.toList (datN ns) true := fun e => impl_yes hre (fun ok hok => (List.mem_replicate.1 hok).2) (hq.1 e)
    have HNo := Lib.hid hno
    have HYes := Lib.hid hyes
    have HO := Lib.hid hown
    have HS := Lib.hid hsh
    obtain ⟨n, hn⟩ : ∃ n, L.length = n := ⟨_, rfl⟩
    rw [hn] at HC HO ⊢
    clear hb1 hlen hrd hsh hown hq hre hno hyes hsl hln hL hn
    go_wp2_with fail
    refine HC.out.mono ?_
    rintro e w2 ⟨rfl, hb2⟩
    have HB2 := Lib.hid hb2
    have HB := Lib.hid (below_on HB1.out hb2)
    clear hb2 HC
    cases q
    · go_wp2
      go_ret2
      exact ⟨⟨_, [], false, rfl, OwnN.nil _ _, by simp [ShortN], HNo.out (by first | rfl | trivial)⟩, HB.out⟩
    · go_wp2
      go_ret2
      exact ⟨⟨_, ns, true, rfl, HO.out.below HB2.out, HS.out, HYes.out (by first | rfl | trivial)⟩, HB.out⟩
end Go.Proofs.YtadjoiahllekdaaGreatDoor.num
namespace Go.Proofs.YtadjoiahllekdaaGreatDoor.num
set_option maxRecDepth 20000
open Go.RowKit
set_option linter.unusedVariables false
set_option linter.unusedSimpArgs false

theorem ascUp_le {l : List Int} (h : AscUp l) : ∀ (i : Nat) (x : Int), l[i]? = some x → (i : Int) ≤ x
  | 0, x, hx => (h.1 x (List.mem_of_getElem? hx)).1
  | i + 1, x, hx => by
    have hi : i < l.length := by have := (List.getElem?_eq_some_iff.1 hx).1; omega
    have h1 := ascUp_le h i l[i] (List.getElem?_eq_getElem hi)
    have h2 := h.2 i _ x (List.getElem?_eq_getElem hi) hx
    omega
theorem ascUp_ten {l : List Int} (h : AscUp l) : l.length ≤ 10 := by
  rcases Nat.eq_zero_or_pos l.length with e | e
  · omega
  · have hi : l.length - 1 < l.length := by omega
    have h1 := ascUp_le h (l.length - 1) _ (List.getElem?_eq_getElem hi)
    have h2 := (h.1 _ (List.getElem_mem hi)).2
    omega
theorem isW_len {d : WD} (h : IsW d) : d.ls.length ≤ 10 := by
  have h1 := h.l
  split at h1
  · exact ascUp_ten h1.2
  · rw [h1]; simp
theorem wishT_len {d : WD} (hw : IsW d) : (wishT d).length ≤ 80 := by
  unfold wishT
  have h1 : (kwT.getD d.kind.toNat []).length ≤ 5 := by
    have hk := hw.k
    rcases (show d.kind = 0 ∨ d.kind = 1 ∨ d.kind = 2 ∨ d.kind = 3 ∨ d.kind = 4 by omega) with e | e | e | e | e <;> rw [e] <;> decide
  have h2 : (Lib.itoa d.field).length ≤ 2 := itoa_small (by have := hw.f; unfold InR; omega)
  have h3 : (restT d).length ≤ 61 := by
    unfold restT
    split
    · next e =>
      have hv := hw.v
      rw [if_pos e] at hv
      have := itoa_small hv
      rw [List.length_cons]
      omega
    · split
      · next e =>
        have h4 := intsT_len (hw.asc e).2.1
        have h5 := isW_len hw
        rw [List.length_cons]
        omega
      · split
        · next e =>
          have := pairsT_len (hw.okp e)
          rw [List.length_cons]
          omega
        · simp
  rw [List.length_append, List.length_cons, List.length_cons, List.length_append]
  omega
theorem exprT_len1 {nds : List ND} (h : IsE nds) : (exprT nds).length ≤ 800 := by
  have h1 := joinS_le (m := 80) [59, 32] (nds.map nodeT) fun x hx => by
    obtain ⟨nd, hnd, rfl⟩ := List.mem_map.1 hx
    obtain ⟨i, hi, rfl⟩ := List.getElem_of_mem hnd
    rcases h.node (List.getElem?_eq_getElem hi) with ⟨h0, hw⟩ | ⟨h0, _⟩
    · rw [nodeT, if_pos h0]; exact wishT_len hw
    · unfold nodeT
      rcases h0 with e | e | e | e <;> rw [e, if_neg (by decide)] <;> decide
  have h2 : (nds.map nodeT).length ≤ 9 := by rw [List.length_map]; exact h.1
  have h3 := Nat.mul_le_mul_left (80 + [59, 32].length) h2
  unfold exprT
  exact Nat.le_trans h1 (Nat.le_trans h3 (by decide))
theorem size_listT (s : ByteArray) : s.size = s.data.toList.length := by rw [Array.length_toList]; rfl
theorem textB_len (d : Int × List Int) : (textB d).size ≤ 1048576 := by
  by_cases h : IsP d
  · rw [size_listT, textB_list h]
    unfold textL
    obtain ⟨h1, h2, h3⟩ := h
    have e1 := fmt_small d.1 h2.1 h2.2
    have e2 : (Lib.itoa d.1).length ≤ 2 := by simpa [fmtB, ByteArray.size] using e1
    have e3 := join_le (m := 2) 44 (d.2.map Lib.itoa) fun x hx => by
      obtain ⟨v, hv, rfl⟩ := List.mem_map.1 hx
      exact itoa_small (h1 v hv)
    rw [List.length_map, h3] at e3
    rw [List.length_append, List.length_cons]
    omega
  · rw [textB_no h]; decide
theorem fmtP_len {ps : List (Int × Int)} {q : Bool} (hq : q = true ↔ OkP ps) : (fmtP ps q).size ≤ 1048576 := by
  cases q
  · exact (by decide : (⟨#[]⟩ : ByteArray).size ≤ 1048576)
  · have := pairsT_len (hq.1 rfl)
    show (pairsT ps).toArray.size ≤ _
    rw [List.size_toArray]; omega
theorem fmtW_len {d : WD} {q : Bool} (hq : q = true ↔ IsW d) : (fmtW d q).size ≤ 1048576 := by
  cases q
  · exact (by decide : (⟨#[]⟩ : ByteArray).size ≤ 1048576)
  · have := wishT_len (hq.1 rfl)
    show (wishT d).toArray.size ≤ _
    rw [List.size_toArray]; omega
theorem fmtE_len {nds : List ND} {q : Bool} (hq : q = true ↔ IsE nds) : (fmtE nds q).size ≤ 1048576 := by
  cases q
  · exact (by decide : (⟨#[]⟩ : ByteArray).size ≤ 1048576)
  · have := exprT_len1 (hq.1 rfl)
    show (exprT nds).toArray.size ≤ _
    rw [List.size_toArray]; omega
theorem pairsT_some (ps : List (Int × Int)) : pairsT ps ≠ [] := by
  unfold pairsT
  split
  · decide
  · rename_i h
    cases ps with
    | nil => exact absurd rfl h
    | cons p r =>
      rw [List.map_cons, Lib.join_cons]
      unfold pairT
      simp
theorem textL_some (d : Int × List Int) : textL d ≠ [] := by unfold textL; simp
theorem backI {d d' : Int × List Int} {ok q : Bool} (hq : q = true ↔ IsP d) (h : Parsed (textB d).data.toList d' ok) : ok = q ∧ (q = true → d' = d) := by
  cases q
  · have hn : ¬ IsP d := fun h => by have := hq.2 h; cases this
    rw [textB_no hn] at h
    rcases h with ⟨_, h1, h2⟩ | ⟨h1, _⟩
    · exact absurd h2 (textL_some _)
    · exact ⟨h1, fun h => by cases h⟩
  · have hp := hq.1 rfl
    rw [textB_list hp] at h
    have g : Parsed (textL d) d true := .inl ⟨rfl, hp, rfl⟩
    obtain ⟨e1, e2⟩ := h.one g
    exact ⟨e2, fun _ => e1⟩
theorem backP {ps ps' : List (Int × Int)} {ok q : Bool} (hq : q = true ↔ OkP ps) (h : ParsedP (fmtP ps q).data.toList ps' ok) : ok = q ∧ (q = true → ps' = ps) := by
  cases q
  · rcases h with ⟨_, h1, h2⟩ | ⟨h1, _⟩
    · exact absurd h2 (pairsT_some _)
    · exact ⟨h1, fun h => by cases h⟩
  · have g : ParsedP (fmtP ps true).data.toList ps true := .inl ⟨rfl, hq.1 rfl, rfl⟩
    obtain ⟨e1, e2⟩ := h.one g
    exact ⟨e2, fun _ => e1⟩
theorem backW {d d' : WD} {ok q : Bool} (hq : q = true ↔ IsW d) (h : ParsedW (fmtW d q).data.toList d' ok) : ok = q ∧ (q = true → d' = d) := by
  cases q
  · rcases h with ⟨_, h1, h2⟩ | ⟨h1, _⟩
    · exact absurd h2 wishT_ne
    · exact ⟨h1, fun h => by cases h⟩
  · have g : ParsedW (fmtW d true).data.toList d true := .inl ⟨rfl, hq.1 rfl, rfl⟩
    obtain ⟨e1, e2⟩ := h.one g
    exact ⟨e2, fun _ => e1⟩
theorem backE {nds nds' : List ND} {ok q : Bool} (hq : q = true ↔ IsE nds) (h : ParsedE (fmtE nds q).data.toList nds' ok) : ok = q ∧ (q = true → nds' = nds) := by
  cases q
  · rcases h with ⟨_, h1, h2⟩ | ⟨h1, _⟩
    · exact absurd h2 (exprT_ne h1)
    · exact ⟨h1, fun h => by cases h⟩
  · have g : ParsedE (fmtE nds true).data.toList nds true := .inl ⟨rfl, hq.1 rfl, rfl⟩
    obtain ⟨e1, e2⟩ := h.one g
    exact ⟨e2, fun _ => e1⟩
theorem Pairs.stepT {w w' : World} {A : Option Addr} {n : Nat} {ps : List (Int × Int)} (h : Pairs w w.heap.size A n ps) (hb : Below w.heap.size w w') : Pairs w' w'.heap.size A n ps := (h.below hb).more hb.size
theorem Items.moreT {w : World} {B B' : Nat} {A : Option Addr} {n : Nat} {its : List It} (h : Items w B A n its) (hB : B ≤ B') : Items w B' A n its :=
  ⟨h.1, fun k hk => by
    obtain ⟨b, off, ha, hb, h1, h2, h3⟩ := h.2 k hk
    exact ⟨b, off, ha, by omega, h1, h2, h3.more hB⟩⟩
theorem Items.stepT {w w' : World} {A : Option Addr} {n : Nat} {its : List It} (h : Items w w.heap.size A n its) (hb : Below w.heap.size w w') : Items w' w'.heap.size A n its := (h.below hb).moreT hb.size
theorem Made.ints {w : World} {B : Nat} {t : It} {ok : Bool} (h : Made w B t ok) : Ints w w.heap.size t.A t.n t.xs ∧ t.n ≤ 3 := by
  rcases h with ⟨_, rfl⟩ | ⟨_, b, h1, h2, h3, _, h4⟩
  · exact ⟨⟨rfl, fun k hk => absurd hk (Nat.not_lt_zero k)⟩, by show 0 ≤ 3; omega⟩
  · exact ⟨by rw [h1, h2, ← h3]; exact h4.ints h4.lt, by omega⟩
theorem ReadW.wiT {w : World} {B : Nat} {t : Wi} {s : List UInt8} {ok : Bool} (h : ReadW w B t) (g : ParsedW s t.dat ok) : WiIn w w.heap.size t ∧ t.Short := by
  have g1 := ParsedW.wf g
  have h1 := ownI_at h.l
  have h2 := h.p.at
  exact ⟨⟨g1.1, g1.2.1, g1.2.2, h1, h2⟩, by have := h.nl; have e := h1.1; show t.Ln ≤ 1048576; omega, by have := h.np; have e := h2.1; show t.Pn ≤ 1048576; omega⟩
end Go.Proofs.YtadjoiahllekdaaGreatDoor.num
namespace Go.Proofs.YtadjoiahllekdaaGreatDoor.num
set_option maxRecDepth 20000
open Go.RowKit
set_option linter.unusedVariables false
set_option linter.unusedSimpArgs false

theorem IsE.len9 {ns : List Nd} (h : IsE (datN ns)) : ns.length ≤ 9 := by have := h.1; unfold datN at this; rwa [List.length_map] at this
theorem ownN_empty (w w0 : World) (hle : w0.heap.size ≤ w.heap.size) : OwnN (w.alloc (.cells #[] 92)) w0.heap.size (.slice (some ⟨w.heap.size, 0, none⟩) 0 0) [] := ⟨OwnG.empty w _ hle, by simp, by simp, by simp⟩
/-- Three worlds: two slices of nodes copied, then both in one row, then an operator behind them. -/
theorem joinN_own {w2 w3 w4 w5 w6 : World} {lo : Nat} {v1 v2 v3 v4 : Value} {k1 k2 : List Nd} {op : Int} (hop : (Lit.int .i64 op).wf = true) (h1 : OwnN w3 lo v1 k1) (hb : Below w3.heap.size w3 w4) (h2 : OwnN w4 w3.heap.size v2 k2) (hlo : lo ≤ w3.heap.size)
    (hg5 : w4.grownBy w5 v1.ownBlock) (ha5 : v3.ownBlock = v1.ownBlock ∨ v3.ownBlock = some w4.heap.size) (hg6 : w5.grownBy w6 v3.ownBlock) (ha6 : v4.ownBlock = v3.ownBlock ∨ v4.ownBlock = some (w5.heap.size + 1)) (hr : OwnG 92 nodeCells 6 w6 lo v4 (k1 ++ k2 ++ [bareN op])) : OwnN w6 lo v4 (k1 ++ k2 ++ [bareN op]) := by
  have n1 : NodesO w4 lo k1 := (h1.below hb).no
  have n2 : NodesO w4 w3.heap.size k2 := h2.no
  have t1 : ∀ x ∈ k1, ∀ b, x.t.has b → b < w3.heap.size := fun x hx b h => (h1.no.has_in hx h).2
  have n12 := n1.cat n2 hlo t1
  have ne1 : ∀ x ∈ k1 ++ k2, ∀ b, x.t.has b → some b ≠ v1.ownBlock := fun x hx b h e => by
    rcases List.mem_append.1 hx with hx | hx
    · obtain ⟨i, hi, rfl⟩ := List.getElem_of_mem hx
      exact h1.a i _ b (List.getElem?_eq_getElem hi) h e.symm
    · have q1 := (n2.has_in hx h).1
      have q2 := h1.r.tops b e.symm
      omega
  have lt1 : ∀ x ∈ k1 ++ k2, ∀ b, x.t.has b → b < w4.heap.size := fun x hx b h => (n12.has_in hx h).2
  have ne3 : ∀ x ∈ k1 ++ k2, ∀ b, x.t.has b → some b ≠ v3.ownBlock := fun x hx b h e => by
    rcases ha5 with q | q
    · exact ne1 x hx b h (e.trans q)
    · rw [q] at e
      have := Option.some.inj e
      have := lt1 x hx b h
      omega
  have n5 : NodesO w5 lo (k1 ++ k2) := n12.blocks fun x hx b h => hg5.block b (lt1 x hx b h) (ne1 x hx b h)
  have lt5 : ∀ x ∈ k1 ++ k2, ∀ b, x.t.has b → b < w5.heap.size := fun x hx b h => (n5.has_in hx h).2
  have n6 : NodesO w6 lo (k1 ++ k2) := n5.blocks fun x hx b h => hg6.block b (lt5 x hx b h) (ne3 x hx b h)
  have n7 : NodesO w6 lo (k1 ++ k2 ++ [bareN op]) := n6.cat (NodesO.bare w6 (max lo w6.heap.size) hop) (Nat.le_max_left _ _) fun x hx b h => Nat.lt_of_lt_of_le (n6.has_in hx h).2 (Nat.le_max_right _ _)
  refine OwnN.of hr n7 fun x hx b h e => ?_
  rcases List.mem_append.1 hx with hx | hx
  · rcases ha6 with q | q
    · exact ne3 x hx b h (by rw [← q, e])
    · rw [q] at e
      have h9 := Option.some.inj e
      have := lt5 x hx b h
      omega
  · rw [List.mem_singleton.1 hx] at h
    exact bare_has op b h

set_option maxRecDepth 20000 in
set_option maxHeartbeats 3200000 in
theorem sJoin (w : World) (B : Nat) (A1 A2 : Option Addr) (n1 n2 c1 c2 : Nat) (ns1 ns2 : List Nd) (op : Int) (hi1 : Nodes w B A1 n1 ns1) (hi2 : Nodes w B A2 n2 ns2) (hB : B ≤ w.heap.size) (hN1 : ShortN ns1) (hN2 : ShortN ns2) (hop : (Lit.int .i64 op).wf = true) (hn1 : n1 ≤ 1048576) (hn2 : n2 ≤ 1048576) (r : Bool) (hr : r = true ↔ IsE (datN ns1) ∧ IsE (datN ns2) ∧ Bin op ∧ n1 + n2 < 9) :
    Calls Tryz.prog 30 #[.slice A1 n1 c1, .slice A2 n2 c2, .int .i64 op] w fun e w' => ∃ v ns', e = .returned (.tuple #[v, .bool r]) ∧ datN ns' = joinD r (datN ns1) (datN ns2) op ∧ ShortN ns' ∧ OwnN w' w.heap.size v ns' ∧ Below w.heap.size w w' := by
  obtain ⟨qa, hqa⟩ := bool_of (IsE (datN ns1))
  obtain ⟨qb, hqb⟩ := bool_of (IsE (datN ns2))
  have HQa := Lib.hid hqa
  have HQb := Lib.hid hqb
  have HR := Lib.hid hr
  have HNo : Hid (¬ (IsE (datN ns1) ∧ IsE (datN ns2) ∧ Bin op ∧ n1 + n2 < 9) → r = false) := Lib.hid fun h => by
    cases r
    · rfl
    · exact absurd (hr.1 rfl) h
  have HI1 : Hid (∀ w1, Below w.heap.size w w1 → Calls Tryz.prog 25 #[.slice A1 n1 c1] w1 fun e w' => e = .returned (.bool qa) ∧ Below w1.heap.size w1 w') := Lib.hid fun w1 h => sIsE w1 B A1 n1 c1 ns1 (hi1.below (h.mono hB)) (Nat.le_trans hB h.size) hn1 hN1 qa hqa
  have HC1 : Hid (∀ w1, Below w.heap.size w w1 → Calls Tryz.prog 77 #[.slice A1 n1 c1] w1 fun e w' => ∃ v ns', e = .returned v ∧ datN ns' = datN ns1 ∧ ShortN ns' ∧ OwnN w' w1.heap.size v ns' ∧ Below w1.heap.size w1 w') := Lib.hid fun w1 h => sCopyN_c w1 B A1 n1 c1 ns1 (hi1.below (h.mono hB)) (Nat.le_trans hB h.size) hn1 hN1
  have HI2 : Hid (∀ w1, Below w.heap.size w w1 → Calls Tryz.prog 25 #[.slice A2 n2 c2] w1 fun e w' => e = .returned (.bool qb) ∧ Below w1.heap.size w1 w') := Lib.hid fun w1 h => sIsE w1 B A2 n2 c2 ns2 (hi2.below (h.mono hB)) (Nat.le_trans hB h.size) hn2 hN2 qb hqb
  have HC2 : Hid (∀ w1, Below w.heap.size w w1 → Calls Tryz.prog 77 #[.slice A2 n2 c2] w1 fun e w' => ∃ v ns', e = .returned v ∧ datN ns' = datN ns2 ∧ ShortN ns' ∧ OwnN w' w1.heap.size v ns' ∧ Below w1.heap.size w1 w') := Lib.hid fun w1 h => sCopyN_c w1 B A2 n2 c2 ns2 (hi2.below (h.mono hB)) (Nat.le_trans hB h.size) hn2 hN2
  have HLn : Hid (ns1.length = n1 ∧ ns2.length = n2) := Lib.hid ⟨hi1.len, hi2.len⟩
  have HOp := Lib.hid hop
  clear hi1 hi2 hN1 hN2 hr hqa hqb hop
  go_enter Tryz.func30, Tryz.ntmps30
  go_wp2_with fail
  refine (HI1.out _ (Below.refl _ _)).mono ?_
  rintro e w1 ⟨rfl, hb1⟩
  have HB1 := Lib.hid hb1
  clear hb1
  cases qa
  · obtain rfl := HNo.out fun h => by have := HQa.out.2 h.1; cases this
    have HE := Lib.hid (ownN_empty w1 w HB1.out.size)
    have HBe := Lib.hid (HB1.out.alloc HB1.out.size (.cells #[] 92))
    go_wp2
    go_ret2
    exact ⟨_, [], rfl, rfl, by simp [ShortN], HE.out, HBe.out⟩
  go_wp2_with fail
  refine (HI2.out _ HB1.out).mono ?_
  rintro e w2 ⟨rfl, hb2⟩
  have HB2 := Lib.hid (below_on HB1.out hb2)
  clear hb2
  have HE := Lib.hid (ownN_empty w2 w HB2.out.size)
  have HBe := Lib.hid (HB2.out.alloc HB2.out.size (.cells #[] 92))
  cases qb
  · obtain rfl := HNo.out fun h => by have := HQb.out.2 h.2.1; cases this
    go_wp2
    go_ret2
    exact ⟨_, [], rfl, rfl, by simp [ShortN], HE.out, HBe.out⟩
  by_cases hbin : op = 1 ∨ op = 2 ∨ op = 4
  · have HBin : Hid (Bin op) := Lib.hid hbin
    by_cases h9 : n1 + n2 < 9
    · have hd : decide ((9 : Int) ≤ (n1 : Int) + (n2 : Int)) = false := by simp; omega
      have hd' : ¬ ((9 : Int) ≤ (n1 : Int) + (n2 : Int)) := by omega
      have hw : IntKind.i64.wrap ((n1 : Int) + (n2 : Int)) = (n1 : Int) + (n2 : Int) := IntWalk.i64_in _ ⟨by omega, by omega⟩
      obtain rfl : r = true := HR.out.2 ⟨HQa.out.1 (by first | rfl | trivial), HQb.out.1 (by first | rfl | trivial), hbin, h9⟩
      have H9 := Lib.hid h9
      clear h9
      rcases hbin with rfl | rfl | rfl
      · go_wp2_with fail
        refine (HC1.out _ HB2.out).mono ?_
        rintro e w3 ⟨v1, k1, rfl, hd1, hs1, ho1, hb3⟩
        have HO1 := Lib.hid ho1
        have HD1 := Lib.hid hd1
        have HS1 := Lib.hid hs1
        have HB3 := Lib.hid (below_on HB2.out hb3)
        clear hd1 hs1 ho1 hb3
        go_wp2_with fail
        refine (HC2.out _ HB3.out).mono ?_
        rintro e w4 ⟨v2, k2, rfl, hd2, hs2, ho2, hb4⟩
        obtain ⟨A2', c2', rfl, -, -⟩ := ho2.r.shape
        have HO2 := Lib.hid ho2
        have HD2 := Lib.hid hd2
        have HS2 := Lib.hid hs2
        have HB34 := Lib.hid hb4
        have HB4 := Lib.hid (below_on HB3.out hb4)
        have HO1' := Lib.hid ((HO1.out.below hb4).low HB2.out.size)
        have HK : Hid (k1.length = n1 ∧ k2.length = n2) := Lib.hid ⟨(datN_len HD1.out).trans HLn.out.1, (datN_len HD2.out).trans HLn.out.2⟩
        clear hd2 hs2 ho2 hb4
        obtain ⟨v3, w5, hr5, ho5, hg5, hat5⟩ := run_spreadG nodeCells_len nodeCells_one (ty := 44) (c := c2') Tryz.underlying44 info_node rfl (by decide) (by decide) HO1'.out.r HO2.out.nodes.r (by have h1 := HK.out.1; have h2 := HK.out.2; have h3 := H9.out; omega) HB4.out.size
        have HO5 := Lib.hid ho5
        have HG5 := Lib.hid hg5
        have HA5 := Lib.hid hat5
        have HB5 := Lib.hid (HB4.out.grown hg5 HB4.out.size (fun k hk => HO1'.out.r.lows k hk))
        clear ho5 hg5 hat5
        obtain ⟨v4, w6, hr6, ho6, hg6, hat6⟩ := run_oneG nodeCells_len nodeCells_one (ty := 44) (c := 1) Tryz.underlying44 info_node rfl (by decide) (by decide) (bareN 1) (cs := #[.int .i64 1, .int .i64 0, .int .i64 0, .int .i64 0, .slice none 0 0, .slice none 0 0]) rfl HO5.out rfl (by have h1 := HK.out.1; have h2 := HK.out.2; have h3 := H9.out; rw [List.length_append]; omega) HB5.out.size
        have HO6 := Lib.hid ho6
        have HG6 := Lib.hid hg6
        have HA6 := Lib.hid hat6
        have HB6 := Lib.hid (HB5.out.grown hg6 HB5.out.size (fun k hk => HO5.out.lows k hk))
        clear ho6 hg6 hat6
        go_wp2_with (at_builtin; first | (refine Go.Lib.wpList_append_run_sl _ (by rfl) (.tmp 39) (.tmp 41) 44 (by rfl) _ _ (by rfl) (by rfl) hr5 ?_) | (refine Go.Lib.wpList_append_run_sl _ (by rfl) (.tmp 43) (.tmp 46) 44 (by rfl) _ _ (by rfl) (by rfl) hr6 ?_))
        clear hr5 hr6
        go_wp2
        go_ret2
        refine ⟨_, _, rfl, ?_, short_app (short_app HS1.out HS2.out) (short_bare _), joinN_own (w2 := w2) HOp.out (HO1.out.low HB2.out.size) HB34.out HO2.out HB3.out.size HG5.out HA5.out HG6.out HA6.out HO6.out, HB6.out⟩
        rw [datN_app, datN_app, HD1.out, HD2.out]
        rfl
      · go_wp2_with fail
        refine (HC1.out _ HB2.out).mono ?_
        rintro e w3 ⟨v1, k1, rfl, hd1, hs1, ho1, hb3⟩
        have HO1 := Lib.hid ho1
        have HD1 := Lib.hid hd1
        have HS1 := Lib.hid hs1
        have HB3 := Lib.hid (below_on HB2.out hb3)
        clear hd1 hs1 ho1 hb3
        go_wp2_with fail
        refine (HC2.out _ HB3.out).mono ?_
        rintro e w4 ⟨v2, k2, rfl, hd2, hs2, ho2, hb4⟩
        obtain ⟨A2', c2', rfl, -, -⟩ := ho2.r.shape
        have HO2 := Lib.hid ho2
        have HD2 := Lib.hid hd2
        have HS2 := Lib.hid hs2
        have HB34 := Lib.hid hb4
        have HB4 := Lib.hid (below_on HB3.out hb4)
        have HO1' := Lib.hid ((HO1.out.below hb4).low HB2.out.size)
        have HK : Hid (k1.length = n1 ∧ k2.length = n2) := Lib.hid ⟨(datN_len HD1.out).trans HLn.out.1, (datN_len HD2.out).trans HLn.out.2⟩
        clear hd2 hs2 ho2 hb4
        obtain ⟨v3, w5, hr5, ho5, hg5, hat5⟩ := run_spreadG nodeCells_len nodeCells_one (ty := 44) (c := c2') Tryz.underlying44 info_node rfl (by decide) (by decide) HO1'.out.r HO2.out.nodes.r (by have h1 := HK.out.1; have h2 := HK.out.2; have h3 := H9.out; omega) HB4.out.size
        have HO5 := Lib.hid ho5
        have HG5 := Lib.hid hg5
        have HA5 := Lib.hid hat5
        have HB5 := Lib.hid (HB4.out.grown hg5 HB4.out.size (fun k hk => HO1'.out.r.lows k hk))
        clear ho5 hg5 hat5
        obtain ⟨v4, w6, hr6, ho6, hg6, hat6⟩ := run_oneG nodeCells_len nodeCells_one (ty := 44) (c := 1) Tryz.underlying44 info_node rfl (by decide) (by decide) (bareN 2) (cs := #[.int .i64 2, .int .i64 0, .int .i64 0, .int .i64 0, .slice none 0 0, .slice none 0 0]) rfl HO5.out rfl (by have h1 := HK.out.1; have h2 := HK.out.2; have h3 := H9.out; rw [List.length_append]; omega) HB5.out.size
        have HO6 := Lib.hid ho6
        have HG6 := Lib.hid hg6
        have HA6 := Lib.hid hat6
        have HB6 := Lib.hid (HB5.out.grown hg6 HB5.out.size (fun k hk => HO5.out.lows k hk))
        clear ho6 hg6 hat6
        go_wp2_with (at_builtin; first | (refine Go.Lib.wpList_append_run_sl _ (by rfl) (.tmp 39) (.tmp 41) 44 (by rfl) _ _ (by rfl) (by rfl) hr5 ?_) | (refine Go.Lib.wpList_append_run_sl _ (by rfl) (.tmp 43) (.tmp 46) 44 (by rfl) _ _ (by rfl) (by rfl) hr6 ?_))
        clear hr5 hr6
        go_wp2
        go_ret2
        refine ⟨_, _, rfl, ?_, short_app (short_app HS1.out HS2.out) (short_bare _), joinN_own (w2 := w2) HOp.out (HO1.out.low HB2.out.size) HB34.out HO2.out HB3.out.size HG5.out HA5.out HG6.out HA6.out HO6.out, HB6.out⟩
        rw [datN_app, datN_app, HD1.out, HD2.out]
        rfl
      · go_wp2_with fail
        refine (HC1.out _ HB2.out).mono ?_
        rintro e w3 ⟨v1, k1, rfl, hd1, hs1, ho1, hb3⟩
        have HO1 := Lib.hid ho1
        have HD1 := Lib.hid hd1
        have HS1 := Lib.hid hs1
        have HB3 := Lib.hid (below_on HB2.out hb3)
        clear hd1 hs1 ho1 hb3
        go_wp2_with fail
        refine (HC2.out _ HB3.out).mono ?_
        rintro e w4 ⟨v2, k2, rfl, hd2, hs2, ho2, hb4⟩
        obtain ⟨A2', c2', rfl, -, -⟩ := ho2.r.shape
        have HO2 := Lib.hid ho2
        have HD2 := Lib.hid hd2
        have HS2 := Lib.hid hs2
        have HB34 := Lib.hid hb4
        have HB4 := Lib.hid (below_on HB3.out hb4)
        have HO1' := Lib.hid ((HO1.out.below hb4).low HB2.out.size)
        have HK : Hid (k1.length = n1 ∧ k2.length = n2) := Lib.hid ⟨(datN_len HD1.out).trans HLn.out.1, (datN_len HD2.out).trans HLn.out.2⟩
        clear hd2 hs2 ho2 hb4
        obtain ⟨v3, w5, hr5, ho5, hg5, hat5⟩ := run_spreadG nodeCells_len nodeCells_one (ty := 44) (c := c2') Tryz.underlying44 info_node rfl (by decide) (by decide) HO1'.out.r HO2.out.nodes.r (by have h1 := HK.out.1; have h2 := HK.out.2; have h3 := H9.out; omega) HB4.out.size
        have HO5 := Lib.hid ho5
        have HG5 := Lib.hid hg5
        have HA5 := Lib.hid hat5
        have HB5 := Lib.hid (HB4.out.grown hg5 HB4.out.size (fun k hk => HO1'.out.r.lows k hk))
        clear ho5 hg5 hat5
        obtain ⟨v4, w6, hr6, ho6, hg6, hat6⟩ := run_oneG nodeCells_len nodeCells_one (ty := 44) (c := 1) Tryz.underlying44 info_node rfl (by decide) (by decide) (bareN 4) (cs := #[.int .i64 4, .int .i64 0, .int .i64 0, .int .i64 0, .slice none 0 0, .slice none 0 0]) rfl HO5.out rfl (by have h1 := HK.out.1; have h2 := HK.out.2; have h3 := H9.out; rw [List.length_append]; omega) HB5.out.size
        have HO6 := Lib.hid ho6
        have HG6 := Lib.hid hg6
        have HA6 := Lib.hid hat6
        have HB6 := Lib.hid (HB5.out.grown hg6 HB5.out.size (fun k hk => HO5.out.lows k hk))
        clear ho6 hg6 hat6
        go_wp2_with (at_builtin; first | (refine Go.Lib.wpList_append_run_sl _ (by rfl) (.tmp 39) (.tmp 41) 44 (by rfl) _ _ (by rfl) (by rfl) hr5 ?_) | (refine Go.Lib.wpList_append_run_sl _ (by rfl) (.tmp 43) (.tmp 46) 44 (by rfl) _ _ (by rfl) (by rfl) hr6 ?_))
        clear hr5 hr6
        go_wp2
        go_ret2
        refine ⟨_, _, rfl, ?_, short_app (short_app HS1.out HS2.out) (short_bare _), joinN_own (w2 := w2) HOp.out (HO1.out.low HB2.out.size) HB34.out HO2.out HB3.out.size HG5.out HA5.out HG6.out HA6.out HO6.out, HB6.out⟩
        rw [datN_app, datN_app, HD1.out, HD2.out]
        rfl
    · obtain rfl := HNo.out fun h => h9 h.2.2.2
      have hd : decide ((9 : Int) ≤ (n1 : Int) + (n2 : Int)) = true := by simp; omega
      have hd' : (9 : Int) ≤ (n1 : Int) + (n2 : Int) := by omega
      have hw : IntKind.i64.wrap ((n1 : Int) + (n2 : Int)) = (n1 : Int) + (n2 : Int) := IntWalk.i64_in _ ⟨by omega, by omega⟩
      clear h9
      rcases hbin with rfl | rfl | rfl
      · go_wp2
        go_ret2
        exact ⟨_, [], rfl, rfl, by simp [ShortN], HE.out, HBe.out⟩
      · go_wp2
        go_ret2
        exact ⟨_, [], rfl, rfl, by simp [ShortN], HE.out, HBe.out⟩
      · go_wp2
        go_ret2
        exact ⟨_, [], rfl, rfl, by simp [ShortN], HE.out, HBe.out⟩
  · obtain rfl := HNo.out fun h => hbin h.2.2.1
    have f1 : (op != 1) = true := by simp; omega
    have f2 : (op != 2) = true := by simp; omega
    have f4 : (op != 4) = true := by simp; omega
    clear hbin
    go_wp2
    go_ret2
    exact ⟨_, [], rfl, rfl, by simp [ShortN], HE.out, HBe.out⟩

set_option maxRecDepth 20000 in
set_option maxHeartbeats 3200000 in
theorem iJoin2W (w : World) (B : Nat) (A1 A2 : Option Addr) (n1 n2 c1 c2 : Nat) (ns1 ns2 : List Nd) (op : Int) (hi1 : Nodes w B A1 n1 ns1) (hi2 : Nodes w B A2 n2 ns2) (hB : B ≤ w.heap.size) (hN1 : ShortN ns1) (hN2 : ShortN ns2) (hop : (Lit.int .i64 op).wf = true) (hnc1 : n1 ≤ c1) (hnc2 : n2 ≤ c2) (hc1 : c1 ≤ 9223372036854775807) (hc2 : c2 ≤ 9223372036854775807) (hn1 : n1 ≤ 1048576) (hn2 : n2 ≤ 1048576) (r : Bool) (hr : r = true ↔ IsE (datN ns1) ∧ IsE (datN ns2) ∧ Bin op ∧ n1 + n2 < 9) :
    Calls Tryz.prog 29 #[.slice A1 n1 c1, .slice A2 n2 c2, .int .i64 op] w fun e w' => ∃ v ns', e = .returned (.tuple #[v, .bool r]) ∧ datN ns' = joinD r (datN ns1) (datN ns2) op ∧ ShortN ns' ∧ OwnN w' w.heap.size v ns' ∧ Below w.heap.size w w' := by
  obtain ⟨qa, hqa⟩ := bool_of (IsE (datN ns1))
  obtain ⟨qb, hqb⟩ := bool_of (IsE (datN ns2))
  have HQa := Lib.hid hqa
  have HQb := Lib.hid hqb
  have HR := Lib.hid hr
  have HNo : Hid (¬ (IsE (datN ns1) ∧ IsE (datN ns2) ∧ Bin op ∧ n1 + n2 < 9) → r = false) := Lib.hid fun h => by
    cases r
    · rfl
    · exact absurd (hr.1 rfl) h
  have HI1 : Hid (∀ w1, Below w.heap.size w w1 → Calls Tryz.prog 33 #[.slice A1 n1 c1] w1 fun e w' => e = .returned (.bool qa) ∧ Below w1.heap.size w1 w') := Lib.hid fun w1 h => iIsEW w1 B A1 n1 c1 ns1 (hi1.below (h.mono hB)) (Nat.le_trans hB h.size) hnc1 hc1 hN1 qa hqa
  have HC1 : Hid (∀ w1, Below w.heap.size w w1 → Calls Tryz.prog 80 #[.slice A1 n1 c1] w1 fun e w' => ∃ v ns', e = .returned v ∧ datN ns' = datN ns1 ∧ ShortN ns' ∧ OwnN w' w1.heap.size v ns' ∧ Below w1.heap.size w1 w') := Lib.hid fun w1 h => copyNodes_c w1 B A1 n1 c1 ns1 (hi1.below (h.mono hB)) (Nat.le_trans hB h.size) hn1 hN1
  have HI2 : Hid (∀ w1, Below w.heap.size w w1 → Calls Tryz.prog 33 #[.slice A2 n2 c2] w1 fun e w' => e = .returned (.bool qb) ∧ Below w1.heap.size w1 w') := Lib.hid fun w1 h => iIsEW w1 B A2 n2 c2 ns2 (hi2.below (h.mono hB)) (Nat.le_trans hB h.size) hnc2 hc2 hN2 qb hqb
  have HC2 : Hid (∀ w1, Below w.heap.size w w1 → Calls Tryz.prog 80 #[.slice A2 n2 c2] w1 fun e w' => ∃ v ns', e = .returned v ∧ datN ns' = datN ns2 ∧ ShortN ns' ∧ OwnN w' w1.heap.size v ns' ∧ Below w1.heap.size w1 w') := Lib.hid fun w1 h => copyNodes_c w1 B A2 n2 c2 ns2 (hi2.below (h.mono hB)) (Nat.le_trans hB h.size) hn2 hN2
  have HLn : Hid (ns1.length = n1 ∧ ns2.length = n2) := Lib.hid ⟨hi1.len, hi2.len⟩
  have HOp := Lib.hid hop
  clear hi1 hi2 hN1 hN2 hr hqa hqb hop
  go_enter Tryz.func29, Tryz.ntmps29
  go_wp2_with fail
  refine (HI1.out _ (Below.refl _ _)).mono ?_
  rintro e w1 ⟨rfl, hb1⟩
  have HB1 := Lib.hid hb1
  clear hb1
  cases qa
  · obtain rfl := HNo.out fun h => by have := HQa.out.2 h.1; cases this
    go_wp2
    go_ret2
    exact ⟨_, [], rfl, rfl, by simp [ShortN], .nil _ _, HB1.out⟩
  go_wp2_with fail
  refine (HI2.out _ HB1.out).mono ?_
  rintro e w2 ⟨rfl, hb2⟩
  have HB2 := Lib.hid (below_on HB1.out hb2)
  clear hb2
  cases qb
  · obtain rfl := HNo.out fun h => by have := HQb.out.2 h.2.1; cases this
    go_wp2
    go_ret2
    exact ⟨_, [], rfl, rfl, by simp [ShortN], .nil _ _, HB2.out⟩
  have HE1 : Hid (IsE (datN ns1)) := Lib.hid (HQa.out.1 (by first | rfl | trivial))
  have HE2 : Hid (IsE (datN ns2)) := Lib.hid (HQb.out.1 (by first | rfl | trivial))
  go_wp2_with fail
  refine (HC1.out _ HB2.out).mono ?_
  rintro e w3 ⟨v1, k1, rfl, hd1, hs1, ho1, hb3⟩
  obtain ⟨A1', c1', rfl, -, -⟩ := ho1.r.shape
  have HO1 := Lib.hid ho1
  have HD1 := Lib.hid hd1
  have HS1 := Lib.hid hs1
  have HB3 := Lib.hid (below_on HB2.out hb3)
  clear hd1 hs1 ho1 hb3
  go_wp2_with fail
  refine (HC2.out _ HB3.out).mono ?_
  rintro e w4 ⟨v2, k2, rfl, hd2, hs2, ho2, hb4⟩
  obtain ⟨A2', c2', rfl, -, -⟩ := ho2.r.shape
  have HO2 := Lib.hid ho2
  have HD2 := Lib.hid hd2
  have HS2 := Lib.hid hs2
  have HB34 := Lib.hid hb4
  have HB4 := Lib.hid (below_on HB3.out hb4)
  have HO1' := Lib.hid ((HO1.out.below hb4).low HB2.out.size)
  have HK : Hid (k1.length = n1 ∧ k2.length = n2 ∧ n1 ≤ 9 ∧ n2 ≤ 9) := Lib.hid ⟨(datN_len HD1.out).trans HLn.out.1, (datN_len HD2.out).trans HLn.out.2, by have := HE1.out.len9; rw [HLn.out.1] at this; exact this, by have := HE2.out.len9; rw [HLn.out.2] at this; exact this⟩
  clear hd2 hs2 ho2 hb4
  have hb5 : Below w4.heap.size w4 (w4.alloc (.cells #[.int .i64 op, .int .i64 0, .int .i64 0, .int .i64 0, .slice none 0 0, .slice none 0 0] 92)) := (Below.refl _ _).alloc (Nat.le_refl _) _
  have hb6 : Below w4.heap.size w4 ((w4.alloc (.cells #[.int .i64 op, .int .i64 0, .int .i64 0, .int .i64 0, .slice none 0 0, .slice none 0 0] 92)).alloc (.cells #[.slice A1' k1.length c1', .slice A2' k2.length c2', .slice (some ⟨w4.heap.size, 0, none⟩) 1 1] 44)) := hb5.alloc (by simp) _
  have r1 : ReadG nodeCells 6 ((w4.alloc (.cells #[.int .i64 op, .int .i64 0, .int .i64 0, .int .i64 0, .slice none 0 0, .slice none 0 0] 92)).alloc (.cells #[.slice A1' k1.length c1', .slice A2' k2.length c2', .slice (some ⟨w4.heap.size, 0, none⟩) 1 1] 44)) (w4.heap.size + 1) A1' k1.length k1 := ((HO1'.out.nodes.r).below hb6).more (by omega)
  have r2 : ReadG nodeCells 6 ((w4.alloc (.cells #[.int .i64 op, .int .i64 0, .int .i64 0, .int .i64 0, .slice none 0 0, .slice none 0 0] 92)).alloc (.cells #[.slice A1' k1.length c1', .slice A2' k2.length c2', .slice (some ⟨w4.heap.size, 0, none⟩) 1 1] 44)) (w4.heap.size + 1) A2' k2.length k2 := ((HO2.out.nodes.r).below hb6).more (by omega)
  have r3 : ReadG nodeCells 6 ((w4.alloc (.cells #[.int .i64 op, .int .i64 0, .int .i64 0, .int .i64 0, .slice none 0 0, .slice none 0 0] 92)).alloc (.cells #[.slice A1' k1.length c1', .slice A2' k2.length c2', .slice (some ⟨w4.heap.size, 0, none⟩) 1 1] 44)) (w4.heap.size + 1) (some ⟨w4.heap.size, 0, none⟩) 1 [bareN op] := by
    refine ⟨rfl, fun k x hk => ?_⟩
    rcases k with _ | k
    · simp at hk
      subst hk
      refine ⟨w4.heap.size, 0, rfl, by omega, fun j v hv => ?_⟩
      rw [World.cell?_of_block (a := ⟨w4.heap.size, 0 + 0 * 6 + j, none⟩) (Below.heap_alloc _ _ _ (by simp)), World.cell?_alloc_at _ _ _ _ rfl]
      simp only [Nat.zero_mul, Nat.zero_add]
      simpa [nodeCells, bareN] using hv
    · simp at hk
  have HCt := Lib.hid (concatN _ _ (w4.heap.size + 1) 3 A1' A2' (some ⟨w4.heap.size, 0, none⟩) k1.length k2.length 1 c1' c2' 1 k1 k2 [bareN op] r1 r2 r3 (by simp) (by simp) (by have h := HK.out; omega)
    (by rw [show w4.heap.size + 1 = (w4.alloc (.cells #[.int .i64 op, .int .i64 0, .int .i64 0, .int .i64 0, .slice none 0 0, .slice none 0 0] 92)).heap.size by simp]; exact World.cell?_alloc_at _ _ _ _ rfl)
    (by rw [show w4.heap.size + 1 = (w4.alloc (.cells #[.int .i64 op, .int .i64 0, .int .i64 0, .int .i64 0, .slice none 0 0, .slice none 0 0] 92)).heap.size by simp]; exact World.cell?_alloc_at _ _ _ _ rfl)
    (by rw [show w4.heap.size + 1 = (w4.alloc (.cells #[.int .i64 op, .int .i64 0, .int .i64 0, .int .i64 0, .slice none 0 0, .slice none 0 0] 92)).heap.size by simp]; exact World.cell?_alloc_at _ _ _ _ rfl))
  have HB6 := Lib.hid hb6
  clear hb5 hb6 r1 r2 r3
  go_wp2_with fail
  refine HCt.out.mono ?_
  rintro e w7 ⟨v, rfl, ho7, hb7⟩
  obtain ⟨A', c', rfl, hlc, hcm⟩ := ho7.shape
  have HB47 := Lib.hid (below_on HB6.out hb7)
  have HB7 := Lib.hid (below_on HB4.out HB47.out)
  have HN7 : Hid (OwnN w7 w.heap.size (.slice A' (k1 ++ k2 ++ [bareN op]).length c') (k1 ++ k2 ++ [bareN op])) := Lib.hid (by
    have n1 : NodesO w4 w.heap.size k1 := HO1'.out.no
    have n2 : NodesO w4 w3.heap.size k2 := HO2.out.no
    have n12 := n1.cat n2 HB3.out.size (fun x hx b h => (HO1.out.no.has_in hx h).2)
    have n7 : NodesO w7 w.heap.size (k1 ++ k2) := n12.blocks fun x hx b h => HB47.out.block b (n12.has_in hx h).2
    have n8 := n7.cat (NodesO.bare w7 (max w.heap.size w7.heap.size) HOp.out) (Nat.le_max_left _ _) fun x hx b h => Nat.lt_of_lt_of_le (n7.has_in hx h).2 (Nat.le_max_right _ _)
    refine OwnN.of (ho7.low (Nat.le_trans HB4.out.size HB6.out.size)) n8 fun x hx b h e => ?_
    rcases List.mem_append.1 hx with hx | hx
    · have q1 := (n12.has_in hx h).2
      have q2 := ho7.lows b e
      have q3 := HB6.out.size
      omega
    · rw [List.mem_singleton.1 hx] at h
      exact bare_has op b h)
  have HDt : Hid (datN (k1 ++ k2 ++ [bareN op]) = datN ns1 ++ datN ns2 ++ [⟨op, zeroWD⟩]) := Lib.hid (by rw [datN_app, datN_app, HD1.out, HD2.out]; rfl)
  have HSh : Hid (ShortN (k1 ++ k2 ++ [bareN op])) := Lib.hid (short_app (short_app HS1.out HS2.out) (short_bare _))
  have hq : r = true ↔ IsE (datN (k1 ++ k2 ++ [bareN op])) := by
    rw [HDt.out, joinE HE1.out HE2.out noW_zero, HR.out]
    have l1 : (datN ns1).length = n1 := by unfold datN; rw [List.length_map, HLn.out.1]
    have l2 : (datN ns2).length = n2 := by unfold datN; rw [List.length_map, HLn.out.2]
    rw [l1, l2]
    exact ⟨fun h => h.2.2, fun h => ⟨HE1.out, HE2.out, h⟩⟩
  have HFin := Lib.hid (iIsEW w7 w7.heap.size A' _ c' _ HN7.out.nodes (Nat.le_refl _) hlc (by unfold maxLen at hcm; omega) HSh.out r hq)
  have hln : (k1 ++ k2 ++ [bareN op]).length ≤ 1048576 := by rw [List.length_append, List.length_append]; have h := HK.out; simp; omega
  have HJD : Hid (r = true → joinD r (datN ns1) (datN ns2) op = datN (k1 ++ k2 ++ [bareN op])) := Lib.hid fun h => by rw [h, HDt.out]; rfl
  generalize k1 ++ k2 ++ [bareN op] = K at *
  obtain ⟨m, hm⟩ : ∃ m, K.length = m := ⟨_, rfl⟩
  rw [hm] at hlc hln HN7 HFin ⊢
  clear ho7 hb7 hq HCt hm
  go_wp2_with fail
  refine HFin.out.mono ?_
  rintro e w8 ⟨rfl, hb8⟩
  have HB8 := Lib.hid (below_on HB7.out hb8)
  have HN8 := Lib.hid (HN7.out.below hb8)
  clear hb8
  cases r
  · go_wp2
    go_ret2
    exact ⟨_, [], rfl, rfl, by simp [ShortN], .nil _ _, HB8.out⟩
  · go_wp2
    go_ret2
    exact ⟨_, _, rfl, (HJD.out (by first | rfl | trivial)).symm, HSh.out, HN8.out, HB8.out⟩
end Go.Proofs.YtadjoiahllekdaaGreatDoor.num
namespace Go.Proofs.YtadjoiahllekdaaGreatDoor.num
set_option maxRecDepth 20000
open Go.RowKit
set_option linter.unusedSimpArgs false

/-- IsItem in a world that still bears what held of w0 below its end. -/
theorem iIsItem_in (w0 w : World) (B : Nat) (t : It) (hi : Ints w0 B t.A t.n t.xs) (hB : B ≤ w0.heap.size) (hw : Below w0.heap.size w0 w) (b : Bool) (hb : b = true ↔ IsP t.dat) :
    Calls Tryz.prog 45 #[t.val] w fun e w' => e = .returned (.bool b) ∧ Below w0.heap.size w0 w' :=
  (iIsItem w B t (hi.below (hw.mono hB)) (Nat.le_trans hB hw.size) b hb).mono fun _ _ ⟨he, h⟩ => ⟨he, hw.trans (h.mono hw.size)⟩

set_option maxRecDepth 20000 in
set_option maxHeartbeats 1600000 in
theorem iAre (w : World) (B : Nat) (A : Option Addr) (n c : Nat) (its : List It) (hi : Items w B A n its) (hB : B ≤ w.heap.size) (b : Bool) (hb : b = true ↔ AreP (its.map It.dat)) :
    Calls Tryz.prog 34 #[.slice A n c] w fun e w' => e = .returned (.bool b) ∧ Below w.heap.size w w' := by
  by_cases hn : n ≤ 16
  case neg =>
    obtain rfl : b = false := by
      cases b
      · rfl
      · have := (hb.1 rfl).2.2
        rw [List.length_map, hi.1] at this
        exact absurd this hn
    clear hi hb
    have hgt : (16 : Int) < (n : Int) := by omega
    go_enter Tryz.func34, Tryz.ntmps34
    go_wp2
    go_ret
    exact ⟨rfl, Below.refl _ _⟩
  have HX := Lib.hid hi
  have HBo := Lib.hid hb
  clear hi hb
  have hle16 : ¬ ((16 : Int) < (n : Int)) := by omega
  go_enter Tryz.func34, Tryz.ntmps34
  go_wp2
  clear hle16
  go_loopw [10] (fun i wr => ∃ k : Nat, k ≤ n ∧ i = .int .i64 k ∧ (∀ t ∈ its.take k, IsP t.dat) ∧ Rise ((its.map It.dat).map (·.1)) k ∧ Below w.heap.size w wr) (fun i _ => n - (intOf i).toNat)
  case atStart => exact ⟨0, Nat.zero_le _, rfl, by simp, Rise.zero _, Below.refl _ _⟩
  case round =>
    obtain ⟨k, hk, rfl, hall, hrise, hbel⟩ := hrel
    have HA := Lib.hid hall
    have HR := Lib.hid hrise
    have HB := Lib.hid hbel
    clear hall hrise
    by_cases hlt : k < n
    · obtain ⟨b1, off, t, hA1, hb1, hat, hc1, hd1, hx⟩ := HX.out.at k hlt
      have f1 := (hbel.cell (p := ⟨b1, off + k * 2, none⟩) (by exact Nat.lt_of_lt_of_le hb1 hB)).trans hc1
      have f2 := (hbel.cell (p := ⟨b1, off + k * 2 + 1, none⟩) (by exact Nat.lt_of_lt_of_le hb1 hB)).trans hd1
      have HI0 := Lib.hid hx
      have HAt := Lib.hid hat
      have hsz0 := Lib.hid hbel.size
      have hlt' : (k : Int) < (n : Int) := by omega
      obtain ⟨q, hq⟩ := bool_of (IsP t.dat)
      have HQ := Lib.hid hq
      clear hc1 hd1 hx hat hq
      cases q
      · have HF : Hid (b = false) := by
          show _ = _
          cases b
          · rfl
          · exact absurd ((HBo.out.1 rfl).1 _ (dat_mem HAt.out)) (fun h => by have := HQ.out.2 h; cases this)
        subst hA1
        clear hbel
        go_wp2
        generalize hW : World.alloc wr _ = wg
        obtain ⟨g, hgw⟩ : ∃ g, g = wr.heap.size := ⟨_, rfl⟩
        rw [← hgw]
        have HBg : Hid (Below w.heap.size w wg) := Lib.hid (by subst hW; exact HB.out.alloc hsz0.out _)
        have hrow : wg.heap[g]? = some (.cells #[.int .i64 t.id, .slice t.A t.n t.c] 26 (0, 0)) := by subst hW hgw; exact heap_alloc_new wr _
        have hg : g < wg.heap.size := lt_of_block hrow
        have hsz : Hid (w.heap.size ≤ wg.heap.size) := Lib.hid HBg.out.size
        have HI := Lib.hid (HI0.out.below (HBg.out.mono hB))
        have e0 : wg.cell? ⟨g, 0, none⟩ = some (.int .i64 t.id) := cell_of_row wg _ 0 _ _ (0, 0) hrow
        have e1 : wg.cell? ⟨g, 1, none⟩ = some (.slice t.A t.n t.c) := cell_of_row wg _ 1 _ _ (0, 0) hrow
        clear hW hgw hrow
        have hs0 : Below wg.heap.size wg wg.drew ∧ wg.drew.cell? ⟨g, 0, none⟩ = some (.int .i64 t.id) ∧ wg.drew.cell? ⟨g, 1, none⟩ = some (.slice t.A t.n t.c) := ⟨(Below.refl _ _).drew, e0, e1⟩
        refine wp_region_held (S := fun w' => Below wg.heap.size wg w' ∧ w'.cell? ⟨g, 0, none⟩ = some (.int .i64 t.id) ∧ w'.cell? ⟨g, 1, none⟩ = some (.slice t.A t.n t.c)) (by kernel_rfl) ?_
        change wpAnyH _ _ _ _ _ _ _ _ (World.drew _)
        refine takeY 15 (i := 0) (v := ?v0a) rfl rfl (by kernel_rfl) (by kernel_rfl) (by kernel_rfl) (fun _ _ _ h => h) (by kernel_rfl) ?y0a hs0 ?_
        case y0a =>
          intro w' hw'; (try dsimp only at hw'); obtain ⟨x0, x1, x2⟩ := hw'; go_simp; try with_reducible rfl
        simp only [Act.put, List.setIfInBounds_toArray, List.set_cons_zero, List.set_cons_succ]
        refine wpAnyH_ready (rs := [1]) (by kernel_rfl) (by simp) ?_
        refine AllReadyH.cons rfl (fun K hK => ?_) AllReadyH.nil
        go_simp; go_at_call 45; refine (iIsItem_in wg _ B t HI.out (Nat.le_trans hB hsz.out) (Below.refl _ _).drew false HQ.out).mono ?_; rintro e w3 ⟨rfl, hb3⟩
        refine hK.out _ _ ⟨hb3, (hb3.cell (p := ⟨g, 0, none⟩) hg).trans e0, (hb3.cell (p := ⟨g, 1, none⟩) hg).trans e1⟩ (fun hS1 => ?_)
        clear hK K
        try simp only [Act.put, List.setIfInBounds_toArray, List.set_cons_zero, List.set_cons_succ]
        refine takeY 17 (i := 2) (v := ?v2a) rfl rfl (by kernel_rfl) (by kernel_rfl) (by kernel_rfl) (fun _ _ _ h => h) (by kernel_rfl) ?y2a hS1 ?_
        case y2a =>
          intro w' hw'; (try dsimp only at hw'); obtain ⟨x0, x1, x2⟩ := hw'; go_simp; try with_reducible rfl
        simp only [Act.put, List.setIfInBounds_toArray, List.set_cons_zero, List.set_cons_succ]
        refine takeY 18 (i := 3) (v := ?v3a) rfl rfl (by kernel_rfl) (by kernel_rfl) (by kernel_rfl) (fun _ _ _ h => h) (by kernel_rfl) ?y3a hS1 ?_
        case y3a =>
          intro w' hw'; (try dsimp only at hw'); obtain ⟨x0, x1, x2⟩ := hw'; go_simp; try with_reducible rfl
        simp only [Act.put, List.setIfInBounds_toArray, List.set_cons_zero, List.set_cons_succ]
        refine takeU 19 (i := 4) rfl rfl (by kernel_rfl) (by kernel_rfl) (by kernel_rfl) (fun _ _ _ h => h) (by kernel_rfl) hS1 ?_
        simp only [Act.put, List.setIfInBounds_toArray, List.set_cons_zero, List.set_cons_succ]
        refine takeU 20 (i := 5) rfl rfl (by kernel_rfl) (by kernel_rfl) (by kernel_rfl) (fun _ _ _ h => h) (by kernel_rfl) hS1 ?_
        simp only [Act.put, List.setIfInBounds_toArray, List.set_cons_zero, List.set_cons_succ]
        refine takeU 21 (i := 6) rfl rfl (by kernel_rfl) (by kernel_rfl) (by kernel_rfl) (fun _ _ _ h => h) (by kernel_rfl) hS1 ?_
        simp only [Act.put, List.setIfInBounds_toArray, List.set_cons_zero, List.set_cons_succ]
        refine takeU 22 (i := 7) rfl rfl (by kernel_rfl) (by kernel_rfl) (by kernel_rfl) (fun _ _ _ h => h) (by kernel_rfl) hS1 ?_
        simp only [Act.put, List.setIfInBounds_toArray, List.set_cons_zero, List.set_cons_succ]
        refine takeU 23 (i := 8) rfl rfl (by kernel_rfl) (by kernel_rfl) (by kernel_rfl) (fun _ _ _ h => h) (by kernel_rfl) hS1 ?_
        simp only [Act.put, List.setIfInBounds_toArray, List.set_cons_zero, List.set_cons_succ]
        refine takeU 24 (i := 9) rfl rfl (by kernel_rfl) (by kernel_rfl) (by kernel_rfl) (fun _ _ _ h => h) (by kernel_rfl) hS1 ?_
        simp only [Act.put, List.setIfInBounds_toArray, List.set_cons_zero, List.set_cons_succ]
        refine takeU 25 (i := 10) rfl rfl (by kernel_rfl) (by kernel_rfl) (by kernel_rfl) (fun _ _ _ h => h) (by kernel_rfl) hS1 ?_
        simp only [Act.put, List.setIfInBounds_toArray, List.set_cons_zero, List.set_cons_succ]
        refine takeU 26 (i := 11) rfl rfl (by kernel_rfl) (by kernel_rfl) (by kernel_rfl) (fun _ _ _ h => h) (by kernel_rfl) hS1 ?_
        simp only [Act.put, List.setIfInBounds_toArray, List.set_cons_zero, List.set_cons_succ]
        refine takeU 27 (i := 12) rfl rfl (by kernel_rfl) (by kernel_rfl) (by kernel_rfl) (fun _ _ _ h => h) (by kernel_rfl) hS1 ?_
        simp only [Act.put, List.setIfInBounds_toArray, List.set_cons_zero, List.set_cons_succ]
        refine takeU 28 (i := 13) rfl rfl (by kernel_rfl) (by kernel_rfl) (by kernel_rfl) (fun _ _ _ h => h) (by kernel_rfl) hS1 ?_
        simp only [Act.put, List.setIfInBounds_toArray, List.set_cons_zero, List.set_cons_succ]
        refine takeU 29 (i := 14) rfl rfl (by kernel_rfl) (by kernel_rfl) (by kernel_rfl) (fun _ _ _ h => h) (by kernel_rfl) hS1 ?_
        simp only [Act.put, List.setIfInBounds_toArray, List.set_cons_zero, List.set_cons_succ]
        refine takeU 30 (i := 15) rfl rfl (by kernel_rfl) (by kernel_rfl) (by kernel_rfl) (fun _ _ _ h => h) (by kernel_rfl) hS1 ?_
        simp only [Act.put, List.setIfInBounds_toArray, List.set_cons_zero, List.set_cons_succ]
        refine takeU 31 (i := 16) rfl rfl (by kernel_rfl) (by kernel_rfl) (by kernel_rfl) (fun _ _ _ h => h) (by kernel_rfl) hS1 ?_
        simp only [Act.put, List.setIfInBounds_toArray, List.set_cons_zero, List.set_cons_succ]
        refine takeY 32 (i := 17) (v := ?v17a) rfl rfl (by kernel_rfl) (by kernel_rfl) (by kernel_rfl) (fun _ _ _ h => h) (by kernel_rfl) ?y17a hS1 ?_
        case y17a =>
          intro w' hw'; (try dsimp only at hw'); obtain ⟨x0, x1, x2⟩ := hw'; go_simp; try with_reducible rfl
        simp only [Act.put, List.setIfInBounds_toArray, List.set_cons_zero, List.set_cons_succ]
        refine wpAnyH_done (by kernel_rfl) ?_ _
        go_wp2
        go_ret
        exact ⟨HF.out.symm ▸ rfl, HBg.out.trans (hb3.mono hsz.out)⟩
      · have HD := Lib.hid (HQ.out.1 rfl)
        rcases Nat.eq_zero_or_pos k with h0 | h0
        · have HK := Lib.hid h0
          subst hA1
          clear hbel h0
          go_wp2
          generalize hW : World.alloc wr _ = wg
          obtain ⟨g, hgw⟩ : ∃ g, g = wr.heap.size := ⟨_, rfl⟩
          rw [← hgw]
          have HBg : Hid (Below w.heap.size w wg) := Lib.hid (by subst hW; exact HB.out.alloc hsz0.out _)
          have hrow : wg.heap[g]? = some (.cells #[.int .i64 t.id, .slice t.A t.n t.c] 26 (0, 0)) := by subst hW hgw; exact heap_alloc_new wr _
          have hg : g < wg.heap.size := lt_of_block hrow
          have hsz : Hid (w.heap.size ≤ wg.heap.size) := Lib.hid HBg.out.size
          have HI := Lib.hid (HI0.out.below (HBg.out.mono hB))
          have e0 : wg.cell? ⟨g, 0, none⟩ = some (.int .i64 t.id) := cell_of_row wg _ 0 _ _ (0, 0) hrow
          have e1 : wg.cell? ⟨g, 1, none⟩ = some (.slice t.A t.n t.c) := cell_of_row wg _ 1 _ _ (0, 0) hrow
          clear hW hgw hrow
          have hk0 : decide (0 < k) = false := decide_eq_false (by have := HK.out; omega)
          have hs0 : Below wg.heap.size wg wg.drew ∧ wg.drew.cell? ⟨g, 0, none⟩ = some (.int .i64 t.id) ∧ wg.drew.cell? ⟨g, 1, none⟩ = some (.slice t.A t.n t.c) := ⟨(Below.refl _ _).drew, e0, e1⟩
          refine wp_region_held (S := fun w' => Below wg.heap.size wg w' ∧ w'.cell? ⟨g, 0, none⟩ = some (.int .i64 t.id) ∧ w'.cell? ⟨g, 1, none⟩ = some (.slice t.A t.n t.c)) (by kernel_rfl) ?_
          change wpAnyH _ _ _ _ _ _ _ _ (World.drew _)
          refine takeY 15 (i := 0) (v := ?v0b) rfl rfl (by kernel_rfl) (by kernel_rfl) (by kernel_rfl) (fun _ _ _ h => h) (by kernel_rfl) ?y0b hs0 ?_
          case y0b =>
            intro w' hw'; (try dsimp only at hw'); obtain ⟨x0, x1, x2⟩ := hw'; go_simp; try with_reducible rfl
          simp only [Act.put, List.setIfInBounds_toArray, List.set_cons_zero, List.set_cons_succ]
          refine wpAnyH_ready (rs := [1]) (by kernel_rfl) (by simp) ?_
          refine AllReadyH.cons rfl (fun K hK => ?_) AllReadyH.nil
          go_simp; go_at_call 45; refine (iIsItem_in wg _ B t HI.out (Nat.le_trans hB hsz.out) (Below.refl _ _).drew true ⟨fun _ => HD.out, fun _ => rfl⟩).mono ?_; rintro e w3 ⟨rfl, hb3⟩
          refine hK.out _ _ ⟨hb3, (hb3.cell (p := ⟨g, 0, none⟩) hg).trans e0, (hb3.cell (p := ⟨g, 1, none⟩) hg).trans e1⟩ (fun hS1 => ?_)
          clear hK K
          try simp only [Act.put, List.setIfInBounds_toArray, List.set_cons_zero, List.set_cons_succ]
          refine takeY 17 (i := 2) (v := ?v2b) rfl rfl (by kernel_rfl) (by kernel_rfl) (by kernel_rfl) (fun _ _ _ h => h) (by kernel_rfl) ?y2b hS1 ?_
          case y2b =>
            intro w' hw'; (try dsimp only at hw'); obtain ⟨x0, x1, x2⟩ := hw'; go_simp; try with_reducible rfl
          simp only [Act.put, List.setIfInBounds_toArray, List.set_cons_zero, List.set_cons_succ]
          refine takeY 18 (i := 3) (v := ?v3b) rfl rfl (by kernel_rfl) (by kernel_rfl) (by kernel_rfl) (fun _ _ _ h => h) (by kernel_rfl) ?y3b hS1 ?_
          case y3b =>
            intro w' hw'; (try dsimp only at hw'); obtain ⟨x0, x1, x2⟩ := hw'; go_simp; try with_reducible rfl
          simp only [Act.put, List.setIfInBounds_toArray, List.set_cons_zero, List.set_cons_succ]
          refine takeY 19 (i := 4) (v := ?v4b) rfl rfl (by kernel_rfl) (by kernel_rfl) (by kernel_rfl) (fun _ _ _ h => h) (by kernel_rfl) ?y4b hS1 ?_
          case y4b =>
            intro w' hw'; (try dsimp only at hw'); obtain ⟨x0, x1, x2⟩ := hw'; go_simp; try with_reducible rfl
          simp only [Act.put, List.setIfInBounds_toArray, List.set_cons_zero, List.set_cons_succ]
          refine takeY 20 (i := 5) (v := ?v5b) rfl rfl (by kernel_rfl) (by kernel_rfl) (by kernel_rfl) (fun _ _ _ h => h) (by kernel_rfl) ?y5b hS1 ?_
          case y5b =>
            intro w' hw'; (try dsimp only at hw'); obtain ⟨x0, x1, x2⟩ := hw'; go_simp; try with_reducible rfl
          simp only [Act.put, List.setIfInBounds_toArray, List.set_cons_zero, List.set_cons_succ]
          refine takeY 21 (i := 6) (v := ?v6b) rfl rfl (by kernel_rfl) (by kernel_rfl) (by kernel_rfl) (fun _ _ _ h => h) (by kernel_rfl) ?y6b hS1 ?_
          case y6b =>
            intro w' hw'; (try dsimp only at hw'); obtain ⟨x0, x1, x2⟩ := hw'; go_simp; try with_reducible rfl
          simp only [Act.put, List.setIfInBounds_toArray, List.set_cons_zero, List.set_cons_succ]
          refine takeU 22 (i := 7) rfl rfl (by kernel_rfl) (by kernel_rfl) (by kernel_rfl) (fun _ _ _ h => h) (by kernel_rfl) hS1 ?_
          simp only [Act.put, List.setIfInBounds_toArray, List.set_cons_zero, List.set_cons_succ]
          refine takeU 23 (i := 8) rfl rfl (by kernel_rfl) (by kernel_rfl) (by kernel_rfl) (fun _ _ _ h => h) (by kernel_rfl) hS1 ?_
          simp only [Act.put, List.setIfInBounds_toArray, List.set_cons_zero, List.set_cons_succ]
          refine takeU 24 (i := 9) rfl rfl (by kernel_rfl) (by kernel_rfl) (by kernel_rfl) (fun _ _ _ h => h) (by kernel_rfl) hS1 ?_
          simp only [Act.put, List.setIfInBounds_toArray, List.set_cons_zero, List.set_cons_succ]
          refine takeU 25 (i := 10) rfl rfl (by kernel_rfl) (by kernel_rfl) (by kernel_rfl) (fun _ _ _ h => h) (by kernel_rfl) hS1 ?_
          simp only [Act.put, List.setIfInBounds_toArray, List.set_cons_zero, List.set_cons_succ]
          refine takeU 26 (i := 11) rfl rfl (by kernel_rfl) (by kernel_rfl) (by kernel_rfl) (fun _ _ _ h => h) (by kernel_rfl) hS1 ?_
          simp only [Act.put, List.setIfInBounds_toArray, List.set_cons_zero, List.set_cons_succ]
          refine takeU 27 (i := 12) rfl rfl (by kernel_rfl) (by kernel_rfl) (by kernel_rfl) (fun _ _ _ h => h) (by kernel_rfl) hS1 ?_
          simp only [Act.put, List.setIfInBounds_toArray, List.set_cons_zero, List.set_cons_succ]
          refine takeU 28 (i := 13) rfl rfl (by kernel_rfl) (by kernel_rfl) (by kernel_rfl) (fun _ _ _ h => h) (by kernel_rfl) hS1 ?_
          simp only [Act.put, List.setIfInBounds_toArray, List.set_cons_zero, List.set_cons_succ]
          refine takeU 29 (i := 14) rfl rfl (by kernel_rfl) (by kernel_rfl) (by kernel_rfl) (fun _ _ _ h => h) (by kernel_rfl) hS1 ?_
          simp only [Act.put, List.setIfInBounds_toArray, List.set_cons_zero, List.set_cons_succ]
          refine takeU 30 (i := 15) rfl rfl (by kernel_rfl) (by kernel_rfl) (by kernel_rfl) (fun _ _ _ h => h) (by kernel_rfl) hS1 ?_
          simp only [Act.put, List.setIfInBounds_toArray, List.set_cons_zero, List.set_cons_succ]
          refine takeY 31 (i := 16) (v := ?v16b) rfl rfl (by kernel_rfl) (by kernel_rfl) (by kernel_rfl) (fun _ _ _ h => h) (by kernel_rfl) ?y16b hS1 ?_
          case y16b =>
            intro w' hw'; (try dsimp only at hw'); obtain ⟨x0, x1, x2⟩ := hw'; go_simp; try with_reducible rfl
          simp only [Act.put, List.setIfInBounds_toArray, List.set_cons_zero, List.set_cons_succ]
          refine takeY 32 (i := 17) (v := ?v17b) rfl rfl (by kernel_rfl) (by kernel_rfl) (by kernel_rfl) (fun _ _ _ h => h) (by kernel_rfl) ?y17b hS1 ?_
          case y17b =>
            intro w' hw'; (try dsimp only at hw'); obtain ⟨x0, x1, x2⟩ := hw'; go_simp; try with_reducible rfl
          simp only [Act.put, List.setIfInBounds_toArray, List.set_cons_zero, List.set_cons_succ]
          refine wpAnyH_done (by kernel_rfl) ?_ _
          clear hk0
          go_wp2
          go_roundw
          case rel => exact ⟨k + 1, by omega, by go_num, are_step HAt.out HA.out HD.out, HR.out.step (fun h0 => absurd h0 (by have := HK.out; omega)), HBg.out.trans (hb3.mono hsz.out)⟩
          case measure => simp [intOf]; omega
        · obtain ⟨j, hj⟩ : ∃ j, j + 1 = k := ⟨k - 1, by omega⟩
          obtain ⟨b2, off2, t0, hA2, hb2, hat2, hc2, _, _⟩ := HX.out.at j (by omega)
          obtain ⟨rfl, rfl⟩ : b1 = b2 ∧ off = off2 := by rw [hA1] at hA2; injection hA2 with h; injection h with h1 h2; exact ⟨h1, h2⟩
          have F3 := Lib.hid hc2
          have HAt0 := Lib.hid hat2
          have HJ := Lib.hid hj
          have HK0 : Hid ((0 : Int) < (k : Int)) := by show _ < _; omega
          have hkj : (k : Int) - 1 = (j : Int) := by omega
          have hkw : IntKind.i64.wrap ((k : Int) - 1) = (j : Int) := by rw [hkj]; exact IntWalk.i64_in _ ⟨by omega, by omega⟩
          have hjw : IntKind.i64.wrap (j : Int) = (j : Int) := IntWalk.i64_in _ ⟨by omega, by omega⟩
          have hjn : (j : Int) < (n : Int) := by omega
          have hjn' : j < n := by omega
          subst hA1
          clear hbel h0 hj hc2 hat2 hA2
          have HLt : Hid (((its.map It.dat).map (·.1)).getD (k - 1) 0 = t0.id ∧ ((its.map It.dat).map (·.1)).getD k 0 = t.id) := by
            refine ⟨?_, id_at HAt.out⟩
            rw [show k - 1 = j by have := HJ.out; omega]
            exact id_at HAt0.out
          by_cases hle : t.id ≤ t0.id
          · have HF : Hid (b = false) := by
              show _ = _
              cases b
              · rfl
              · have hr := (HBo.out.1 rfl).2.1 k (by omega) (by rw [List.length_map, HX.out.1]; exact hlt)
                rw [HLt.out.1, HLt.out.2] at hr
                omega
            go_wp2
            generalize hW : World.alloc wr _ = wg
            obtain ⟨g, hgw⟩ : ∃ g, g = wr.heap.size := ⟨_, rfl⟩
            rw [← hgw]
            have HBg : Hid (Below w.heap.size w wg) := Lib.hid (by subst hW; exact HB.out.alloc hsz0.out _)
            have hrow : wg.heap[g]? = some (.cells #[.int .i64 t.id, .slice t.A t.n t.c] 26 (0, 0)) := by subst hW hgw; exact heap_alloc_new wr _
            have hg : g < wg.heap.size := lt_of_block hrow
            have hsz : Hid (w.heap.size ≤ wg.heap.size) := Lib.hid HBg.out.size
            have HI := Lib.hid (HI0.out.below (HBg.out.mono hB))
            have e0 : wg.cell? ⟨g, 0, none⟩ = some (.int .i64 t.id) := cell_of_row wg _ 0 _ _ (0, 0) hrow
            have e1 : wg.cell? ⟨g, 1, none⟩ = some (.slice t.A t.n t.c) := cell_of_row wg _ 1 _ _ (0, 0) hrow
            have hb1g : b1 < wg.heap.size := by have := hsz.out; omega
            have f3 : wg.cell? ⟨b1, off + j * 2, none⟩ = some (.int .i64 t0.id) := by
              have h := F3.out
              exact (HBg.out.cell (p := ⟨b1, off + j * 2, none⟩) (by exact Nat.lt_of_lt_of_le hb1 hB)).trans h
            clear hW hgw hrow
            have hk0 : decide (0 < k) = true := decide_eq_true (by have := HK0.out; omega)
            have hs0 : Below wg.heap.size wg wg.drew ∧ wg.drew.cell? ⟨g, 0, none⟩ = some (.int .i64 t.id) ∧ wg.drew.cell? ⟨g, 1, none⟩ = some (.slice t.A t.n t.c) ∧ wg.drew.cell? ⟨b1, off + j * 2, none⟩ = some (.int .i64 t0.id) := ⟨(Below.refl _ _).drew, e0, e1, f3⟩
            refine wp_region_held (S := fun w' => Below wg.heap.size wg w' ∧ w'.cell? ⟨g, 0, none⟩ = some (.int .i64 t.id) ∧ w'.cell? ⟨g, 1, none⟩ = some (.slice t.A t.n t.c) ∧ w'.cell? ⟨b1, off + j * 2, none⟩ = some (.int .i64 t0.id)) (by kernel_rfl) ?_
            change wpAnyH _ _ _ _ _ _ _ _ (World.drew _)
            refine takeY 15 (i := 0) (v := ?v0c) rfl rfl (by kernel_rfl) (by kernel_rfl) (by kernel_rfl) (fun _ _ _ h => h) (by kernel_rfl) ?y0c hs0 ?_
            case y0c =>
              intro w' hw'; (try dsimp only at hw'); obtain ⟨x0, x1, x2, x3⟩ := hw'; go_simp; try with_reducible rfl
            simp only [Act.put, List.setIfInBounds_toArray, List.set_cons_zero, List.set_cons_succ]
            refine wpAnyH_ready (rs := [1]) (by kernel_rfl) (by simp) ?_
            refine AllReadyH.cons rfl (fun K hK => ?_) AllReadyH.nil
            go_simp; go_at_call 45; refine (iIsItem_in wg _ B t HI.out (Nat.le_trans hB hsz.out) (Below.refl _ _).drew true ⟨fun _ => HD.out, fun _ => rfl⟩).mono ?_; rintro e w3 ⟨rfl, hb3⟩
            refine hK.out _ _ ⟨hb3, (hb3.cell (p := ⟨g, 0, none⟩) hg).trans e0, (hb3.cell (p := ⟨g, 1, none⟩) hg).trans e1, (hb3.cell (p := ⟨b1, off + j * 2, none⟩) hb1g).trans f3⟩ (fun hS1 => ?_)
            clear hK K
            try simp only [Act.put, List.setIfInBounds_toArray, List.set_cons_zero, List.set_cons_succ]
            refine takeY 17 (i := 2) (v := ?v2c) rfl rfl (by kernel_rfl) (by kernel_rfl) (by kernel_rfl) (fun _ _ _ h => h) (by kernel_rfl) ?y2c hS1 ?_
            case y2c =>
              intro w' hw'; (try dsimp only at hw'); obtain ⟨x0, x1, x2, x3⟩ := hw'; go_simp; try with_reducible rfl
            simp only [Act.put, List.setIfInBounds_toArray, List.set_cons_zero, List.set_cons_succ]
            refine takeY 18 (i := 3) (v := ?v3c) rfl rfl (by kernel_rfl) (by kernel_rfl) (by kernel_rfl) (fun _ _ _ h => h) (by kernel_rfl) ?y3c hS1 ?_
            case y3c =>
              intro w' hw'; (try dsimp only at hw'); obtain ⟨x0, x1, x2, x3⟩ := hw'; go_simp; try with_reducible rfl
            simp only [Act.put, List.setIfInBounds_toArray, List.set_cons_zero, List.set_cons_succ]
            refine takeY 19 (i := 4) (v := ?v4c) rfl rfl (by kernel_rfl) (by kernel_rfl) (by kernel_rfl) (fun _ _ _ h => h) (by kernel_rfl) ?y4c hS1 ?_
            case y4c =>
              intro w' hw'; (try dsimp only at hw'); obtain ⟨x0, x1, x2, x3⟩ := hw'; go_simp; try with_reducible rfl
            simp only [Act.put, List.setIfInBounds_toArray, List.set_cons_zero, List.set_cons_succ]
            refine takeY 20 (i := 5) (v := ?v5c) rfl rfl (by kernel_rfl) (by kernel_rfl) (by kernel_rfl) (fun _ _ _ h => h) (by kernel_rfl) ?y5c hS1 ?_
            case y5c =>
              intro w' hw'; (try dsimp only at hw'); obtain ⟨x0, x1, x2, x3⟩ := hw'; go_simp; try with_reducible rfl
            simp only [Act.put, List.setIfInBounds_toArray, List.set_cons_zero, List.set_cons_succ]
            refine takeY 21 (i := 6) (v := ?v6c) rfl rfl (by kernel_rfl) (by kernel_rfl) (by kernel_rfl) (fun _ _ _ h => h) (by kernel_rfl) ?y6c hS1 ?_
            case y6c =>
              intro w' hw'; (try dsimp only at hw'); obtain ⟨x0, x1, x2, x3⟩ := hw'; go_simp; try with_reducible rfl
            simp only [Act.put, List.setIfInBounds_toArray, List.set_cons_zero, List.set_cons_succ]
            refine takeY 22 (i := 7) (v := ?v7c) rfl rfl (by kernel_rfl) (by kernel_rfl) (by kernel_rfl) (fun _ _ _ h => h) (by kernel_rfl) ?y7c hS1 ?_
            case y7c =>
              intro w' hw'; (try dsimp only at hw'); obtain ⟨x0, x1, x2, x3⟩ := hw'; go_simp; try with_reducible rfl
            simp only [Act.put, List.setIfInBounds_toArray, List.set_cons_zero, List.set_cons_succ]
            refine takeY 23 (i := 8) (v := ?v8c) rfl rfl (by kernel_rfl) (by kernel_rfl) (by kernel_rfl) (fun _ _ _ h => h) (by kernel_rfl) ?y8c hS1 ?_
            case y8c =>
              intro w' hw'; (try dsimp only at hw'); obtain ⟨x0, x1, x2, x3⟩ := hw'; go_simp; try with_reducible rfl
            simp only [Act.put, List.setIfInBounds_toArray, List.set_cons_zero, List.set_cons_succ]
            refine takeY 24 (i := 9) (v := ?v9c) rfl rfl (by kernel_rfl) (by kernel_rfl) (by kernel_rfl) (fun _ _ _ h => h) (by kernel_rfl) ?y9c hS1 ?_
            case y9c =>
              intro w' hw'; (try dsimp only at hw'); obtain ⟨x0, x1, x2, x3⟩ := hw'; go_simp; try with_reducible rfl
            simp only [Act.put, List.setIfInBounds_toArray, List.set_cons_zero, List.set_cons_succ]
            refine takeY 25 (i := 10) (v := ?v10c) rfl rfl (by kernel_rfl) (by kernel_rfl) (by kernel_rfl) (fun _ _ _ h => h) (by kernel_rfl) ?y10c hS1 ?_
            case y10c =>
              intro w' hw'; (try dsimp only at hw'); obtain ⟨x0, x1, x2, x3⟩ := hw'; go_simp; try with_reducible rfl
            simp only [Act.put, List.setIfInBounds_toArray, List.set_cons_zero, List.set_cons_succ]
            refine takeY 26 (i := 11) (v := ?v11c) rfl rfl (by kernel_rfl) (by kernel_rfl) (by kernel_rfl) (fun _ _ _ h => h) (by kernel_rfl) ?y11c hS1 ?_
            case y11c =>
              intro w' hw'; (try dsimp only at hw'); obtain ⟨x0, x1, x2, x3⟩ := hw'; go_simp; try with_reducible rfl
            simp only [Act.put, List.setIfInBounds_toArray, List.set_cons_zero, List.set_cons_succ]
            refine takeY 27 (i := 12) (v := ?v12c) rfl rfl (by kernel_rfl) (by kernel_rfl) (by kernel_rfl) (fun _ _ _ h => h) (by kernel_rfl) ?y12c hS1 ?_
            case y12c =>
              intro w' hw'; (try dsimp only at hw'); obtain ⟨x0, x1, x2, x3⟩ := hw'; go_simp; try with_reducible rfl
            simp only [Act.put, List.setIfInBounds_toArray, List.set_cons_zero, List.set_cons_succ]
            refine takeY 28 (i := 13) (v := ?v13c) rfl rfl (by kernel_rfl) (by kernel_rfl) (by kernel_rfl) (fun _ _ _ h => h) (by kernel_rfl) ?y13c hS1 ?_
            case y13c =>
              intro w' hw'; (try dsimp only at hw'); obtain ⟨x0, x1, x2, x3⟩ := hw'; go_simp; try with_reducible rfl
            simp only [Act.put, List.setIfInBounds_toArray, List.set_cons_zero, List.set_cons_succ]
            refine takeY 29 (i := 14) (v := ?v14c) rfl rfl (by kernel_rfl) (by kernel_rfl) (by kernel_rfl) (fun _ _ _ h => h) (by kernel_rfl) ?y14c hS1 ?_
            case y14c =>
              intro w' hw'; (try dsimp only at hw'); obtain ⟨x0, x1, x2, x3⟩ := hw'; go_simp; try with_reducible rfl
            simp only [Act.put, List.setIfInBounds_toArray, List.set_cons_zero, List.set_cons_succ]
            refine takeY 30 (i := 15) (v := ?v15c) rfl rfl (by kernel_rfl) (by kernel_rfl) (by kernel_rfl) (fun _ _ _ h => h) (by kernel_rfl) ?y15c hS1 ?_
            case y15c =>
              intro w' hw'; (try dsimp only at hw'); obtain ⟨x0, x1, x2, x3⟩ := hw'; go_simp; try with_reducible rfl
            simp only [Act.put, List.setIfInBounds_toArray, List.set_cons_zero, List.set_cons_succ]
            refine takeY 31 (i := 16) (v := ?v16c) rfl rfl (by kernel_rfl) (by kernel_rfl) (by kernel_rfl) (fun _ _ _ h => h) (by kernel_rfl) ?y16c hS1 ?_
            case y16c =>
              intro w' hw'; (try dsimp only at hw'); obtain ⟨x0, x1, x2, x3⟩ := hw'; go_simp; try with_reducible rfl
            simp only [Act.put, List.setIfInBounds_toArray, List.set_cons_zero, List.set_cons_succ]
            refine takeY 32 (i := 17) (v := ?v17c) rfl rfl (by kernel_rfl) (by kernel_rfl) (by kernel_rfl) (fun _ _ _ h => h) (by kernel_rfl) ?y17c hS1 ?_
            case y17c =>
              intro w' hw'; (try dsimp only at hw'); obtain ⟨x0, x1, x2, x3⟩ := hw'; go_simp; try with_reducible rfl
            simp only [Act.put, List.setIfInBounds_toArray, List.set_cons_zero, List.set_cons_succ]
            refine wpAnyH_done (by kernel_rfl) ?_ _
            clear hk0
            go_wp2
            go_ret
            exact ⟨HF.out.symm ▸ rfl, HBg.out.trans (hb3.mono hsz.out)⟩
          · go_wp2
            generalize hW : World.alloc wr _ = wg
            obtain ⟨g, hgw⟩ : ∃ g, g = wr.heap.size := ⟨_, rfl⟩
            rw [← hgw]
            have HBg : Hid (Below w.heap.size w wg) := Lib.hid (by subst hW; exact HB.out.alloc hsz0.out _)
            have hrow : wg.heap[g]? = some (.cells #[.int .i64 t.id, .slice t.A t.n t.c] 26 (0, 0)) := by subst hW hgw; exact heap_alloc_new wr _
            have hg : g < wg.heap.size := lt_of_block hrow
            have hsz : Hid (w.heap.size ≤ wg.heap.size) := Lib.hid HBg.out.size
            have HI := Lib.hid (HI0.out.below (HBg.out.mono hB))
            have e0 : wg.cell? ⟨g, 0, none⟩ = some (.int .i64 t.id) := cell_of_row wg _ 0 _ _ (0, 0) hrow
            have e1 : wg.cell? ⟨g, 1, none⟩ = some (.slice t.A t.n t.c) := cell_of_row wg _ 1 _ _ (0, 0) hrow
            have hb1g : b1 < wg.heap.size := by have := hsz.out; omega
            have f3 : wg.cell? ⟨b1, off + j * 2, none⟩ = some (.int .i64 t0.id) := by
              have h := F3.out
              exact (HBg.out.cell (p := ⟨b1, off + j * 2, none⟩) (by exact Nat.lt_of_lt_of_le hb1 hB)).trans h
            clear hW hgw hrow
            have hk0 : decide (0 < k) = true := decide_eq_true (by have := HK0.out; omega)
            have hs0 : Below wg.heap.size wg wg.drew ∧ wg.drew.cell? ⟨g, 0, none⟩ = some (.int .i64 t.id) ∧ wg.drew.cell? ⟨g, 1, none⟩ = some (.slice t.A t.n t.c) ∧ wg.drew.cell? ⟨b1, off + j * 2, none⟩ = some (.int .i64 t0.id) := ⟨(Below.refl _ _).drew, e0, e1, f3⟩
            refine wp_region_held (S := fun w' => Below wg.heap.size wg w' ∧ w'.cell? ⟨g, 0, none⟩ = some (.int .i64 t.id) ∧ w'.cell? ⟨g, 1, none⟩ = some (.slice t.A t.n t.c) ∧ w'.cell? ⟨b1, off + j * 2, none⟩ = some (.int .i64 t0.id)) (by kernel_rfl) ?_
            change wpAnyH _ _ _ _ _ _ _ _ (World.drew _)
            refine takeY 15 (i := 0) (v := ?v0d) rfl rfl (by kernel_rfl) (by kernel_rfl) (by kernel_rfl) (fun _ _ _ h => h) (by kernel_rfl) ?y0d hs0 ?_
            case y0d =>
              intro w' hw'; (try dsimp only at hw'); obtain ⟨x0, x1, x2, x3⟩ := hw'; go_simp; try with_reducible rfl
            simp only [Act.put, List.setIfInBounds_toArray, List.set_cons_zero, List.set_cons_succ]
            refine wpAnyH_ready (rs := [1]) (by kernel_rfl) (by simp) ?_
            refine AllReadyH.cons rfl (fun K hK => ?_) AllReadyH.nil
            go_simp; go_at_call 45; refine (iIsItem_in wg _ B t HI.out (Nat.le_trans hB hsz.out) (Below.refl _ _).drew true ⟨fun _ => HD.out, fun _ => rfl⟩).mono ?_; rintro e w3 ⟨rfl, hb3⟩
            refine hK.out _ _ ⟨hb3, (hb3.cell (p := ⟨g, 0, none⟩) hg).trans e0, (hb3.cell (p := ⟨g, 1, none⟩) hg).trans e1, (hb3.cell (p := ⟨b1, off + j * 2, none⟩) hb1g).trans f3⟩ (fun hS1 => ?_)
            clear hK K
            try simp only [Act.put, List.setIfInBounds_toArray, List.set_cons_zero, List.set_cons_succ]
            refine takeY 17 (i := 2) (v := ?v2d) rfl rfl (by kernel_rfl) (by kernel_rfl) (by kernel_rfl) (fun _ _ _ h => h) (by kernel_rfl) ?y2d hS1 ?_
            case y2d =>
              intro w' hw'; (try dsimp only at hw'); obtain ⟨x0, x1, x2, x3⟩ := hw'; go_simp; try with_reducible rfl
            simp only [Act.put, List.setIfInBounds_toArray, List.set_cons_zero, List.set_cons_succ]
            refine takeY 18 (i := 3) (v := ?v3d) rfl rfl (by kernel_rfl) (by kernel_rfl) (by kernel_rfl) (fun _ _ _ h => h) (by kernel_rfl) ?y3d hS1 ?_
            case y3d =>
              intro w' hw'; (try dsimp only at hw'); obtain ⟨x0, x1, x2, x3⟩ := hw'; go_simp; try with_reducible rfl
            simp only [Act.put, List.setIfInBounds_toArray, List.set_cons_zero, List.set_cons_succ]
            refine takeY 19 (i := 4) (v := ?v4d) rfl rfl (by kernel_rfl) (by kernel_rfl) (by kernel_rfl) (fun _ _ _ h => h) (by kernel_rfl) ?y4d hS1 ?_
            case y4d =>
              intro w' hw'; (try dsimp only at hw'); obtain ⟨x0, x1, x2, x3⟩ := hw'; go_simp; try with_reducible rfl
            simp only [Act.put, List.setIfInBounds_toArray, List.set_cons_zero, List.set_cons_succ]
            refine takeY 20 (i := 5) (v := ?v5d) rfl rfl (by kernel_rfl) (by kernel_rfl) (by kernel_rfl) (fun _ _ _ h => h) (by kernel_rfl) ?y5d hS1 ?_
            case y5d =>
              intro w' hw'; (try dsimp only at hw'); obtain ⟨x0, x1, x2, x3⟩ := hw'; go_simp; try with_reducible rfl
            simp only [Act.put, List.setIfInBounds_toArray, List.set_cons_zero, List.set_cons_succ]
            refine takeY 21 (i := 6) (v := ?v6d) rfl rfl (by kernel_rfl) (by kernel_rfl) (by kernel_rfl) (fun _ _ _ h => h) (by kernel_rfl) ?y6d hS1 ?_
            case y6d =>
              intro w' hw'; (try dsimp only at hw'); obtain ⟨x0, x1, x2, x3⟩ := hw'; go_simp; try with_reducible rfl
            simp only [Act.put, List.setIfInBounds_toArray, List.set_cons_zero, List.set_cons_succ]
            refine takeY 22 (i := 7) (v := ?v7d) rfl rfl (by kernel_rfl) (by kernel_rfl) (by kernel_rfl) (fun _ _ _ h => h) (by kernel_rfl) ?y7d hS1 ?_
            case y7d =>
              intro w' hw'; (try dsimp only at hw'); obtain ⟨x0, x1, x2, x3⟩ := hw'; go_simp; try with_reducible rfl
            simp only [Act.put, List.setIfInBounds_toArray, List.set_cons_zero, List.set_cons_succ]
            refine takeY 23 (i := 8) (v := ?v8d) rfl rfl (by kernel_rfl) (by kernel_rfl) (by kernel_rfl) (fun _ _ _ h => h) (by kernel_rfl) ?y8d hS1 ?_
            case y8d =>
              intro w' hw'; (try dsimp only at hw'); obtain ⟨x0, x1, x2, x3⟩ := hw'; go_simp; try with_reducible rfl
            simp only [Act.put, List.setIfInBounds_toArray, List.set_cons_zero, List.set_cons_succ]
            refine takeY 24 (i := 9) (v := ?v9d) rfl rfl (by kernel_rfl) (by kernel_rfl) (by kernel_rfl) (fun _ _ _ h => h) (by kernel_rfl) ?y9d hS1 ?_
            case y9d =>
              intro w' hw'; (try dsimp only at hw'); obtain ⟨x0, x1, x2, x3⟩ := hw'; go_simp; try with_reducible rfl
            simp only [Act.put, List.setIfInBounds_toArray, List.set_cons_zero, List.set_cons_succ]
            refine takeY 25 (i := 10) (v := ?v10d) rfl rfl (by kernel_rfl) (by kernel_rfl) (by kernel_rfl) (fun _ _ _ h => h) (by kernel_rfl) ?y10d hS1 ?_
            case y10d =>
              intro w' hw'; (try dsimp only at hw'); obtain ⟨x0, x1, x2, x3⟩ := hw'; go_simp; try with_reducible rfl
            simp only [Act.put, List.setIfInBounds_toArray, List.set_cons_zero, List.set_cons_succ]
            refine takeY 26 (i := 11) (v := ?v11d) rfl rfl (by kernel_rfl) (by kernel_rfl) (by kernel_rfl) (fun _ _ _ h => h) (by kernel_rfl) ?y11d hS1 ?_
            case y11d =>
              intro w' hw'; (try dsimp only at hw'); obtain ⟨x0, x1, x2, x3⟩ := hw'; go_simp; try with_reducible rfl
            simp only [Act.put, List.setIfInBounds_toArray, List.set_cons_zero, List.set_cons_succ]
            refine takeY 27 (i := 12) (v := ?v12d) rfl rfl (by kernel_rfl) (by kernel_rfl) (by kernel_rfl) (fun _ _ _ h => h) (by kernel_rfl) ?y12d hS1 ?_
            case y12d =>
              intro w' hw'; (try dsimp only at hw'); obtain ⟨x0, x1, x2, x3⟩ := hw'; go_simp; try with_reducible rfl
            simp only [Act.put, List.setIfInBounds_toArray, List.set_cons_zero, List.set_cons_succ]
            refine takeY 28 (i := 13) (v := ?v13d) rfl rfl (by kernel_rfl) (by kernel_rfl) (by kernel_rfl) (fun _ _ _ h => h) (by kernel_rfl) ?y13d hS1 ?_
            case y13d =>
              intro w' hw'; (try dsimp only at hw'); obtain ⟨x0, x1, x2, x3⟩ := hw'; go_simp; try with_reducible rfl
            simp only [Act.put, List.setIfInBounds_toArray, List.set_cons_zero, List.set_cons_succ]
            refine takeY 29 (i := 14) (v := ?v14d) rfl rfl (by kernel_rfl) (by kernel_rfl) (by kernel_rfl) (fun _ _ _ h => h) (by kernel_rfl) ?y14d hS1 ?_
            case y14d =>
              intro w' hw'; (try dsimp only at hw'); obtain ⟨x0, x1, x2, x3⟩ := hw'; go_simp; try with_reducible rfl
            simp only [Act.put, List.setIfInBounds_toArray, List.set_cons_zero, List.set_cons_succ]
            refine takeY 30 (i := 15) (v := ?v15d) rfl rfl (by kernel_rfl) (by kernel_rfl) (by kernel_rfl) (fun _ _ _ h => h) (by kernel_rfl) ?y15d hS1 ?_
            case y15d =>
              intro w' hw'; (try dsimp only at hw'); obtain ⟨x0, x1, x2, x3⟩ := hw'; go_simp; try with_reducible rfl
            simp only [Act.put, List.setIfInBounds_toArray, List.set_cons_zero, List.set_cons_succ]
            refine takeY 31 (i := 16) (v := ?v16d) rfl rfl (by kernel_rfl) (by kernel_rfl) (by kernel_rfl) (fun _ _ _ h => h) (by kernel_rfl) ?y16d hS1 ?_
            case y16d =>
              intro w' hw'; (try dsimp only at hw'); obtain ⟨x0, x1, x2, x3⟩ := hw'; go_simp; try with_reducible rfl
            simp only [Act.put, List.setIfInBounds_toArray, List.set_cons_zero, List.set_cons_succ]
            refine takeY 32 (i := 17) (v := ?v17d) rfl rfl (by kernel_rfl) (by kernel_rfl) (by kernel_rfl) (fun _ _ _ h => h) (by kernel_rfl) ?y17d hS1 ?_
            case y17d =>
              intro w' hw'; (try dsimp only at hw'); obtain ⟨x0, x1, x2, x3⟩ := hw'; go_simp; try with_reducible rfl
            simp only [Act.put, List.setIfInBounds_toArray, List.set_cons_zero, List.set_cons_succ]
            refine wpAnyH_done (by kernel_rfl) ?_ _
            clear hk0
            go_wp2
            go_roundw
            case rel => exact ⟨k + 1, by omega, by go_num, are_step HAt.out HA.out HD.out, HR.out.step (fun h0 => by rw [HLt.out.1, HLt.out.2]; omega), HBg.out.trans (hb3.mono hsz.out)⟩
            case measure => simp [intOf]; omega
    · obtain rfl : k = n := by omega
      clear hbel
      obtain rfl : b = true := HBo.out.2 (by
        have h1 := HA.out
        rw [take_all HX.out.1] at h1
        refine ⟨fun d hd => by obtain ⟨u, hu, rfl⟩ := List.mem_map.1 hd; exact h1 u hu, ?_, ?_⟩
        · rw [List.length_map, HX.out.1]; exact HR.out
        · rw [List.length_map, HX.out.1]; exact hn)
      go_wp2
      go_ret
      exact ⟨rfl, HB.out⟩
end Go.Proofs.YtadjoiahllekdaaGreatDoor.num
namespace Go.Proofs.YtadjoiahllekdaaGreatDoor.num
set_option maxRecDepth 20000
open Go.RowKit

theorem sameInts_of (w : World) (B : Nat) (A A' : Option Addr) (n n' c c' : Nat) (xs ys : List Int) (hx : Ints w B A n xs) (hy : Ints w B A' n' ys) (hn : n ≤ 1048576) (b : Bool) (hb : b = true ↔ xs = ys) :
    Calls Tryz.prog 36 #[.slice A n c, .slice A' n' c'] w fun e w' => e = .returned (.bool b) ∧ ∃ m, w' = w.drewN m := by
  have HX := Lib.hid hx
  have HY := Lib.hid hy
  by_cases hl : n = n'
  · subst hl
    have HB := Lib.hid hb
    clear hx hy hb
    go_enter Tryz.func36, Tryz.ntmps36
    go_wp2
    go_loopw [5] (fun i wr => ∃ k : Nat, k ≤ n ∧ i = .int .i64 k ∧ xs.take k = ys.take k ∧ ∃ m, wr = w.drewN m) (fun i _ => n - (intOf i).toNat)
    case atStart => exact ⟨0, Nat.zero_le _, rfl, rfl, 0, rfl⟩
    case round =>
      obtain ⟨k, hk, rfl, htake, m, rfl⟩ := hrel
      have HT := Lib.hid htake
      clear htake
      by_cases hlt : k < n
      · obtain ⟨b1, off1, rfl, hb1, hc1⟩ := HX.out.2 k hlt
        obtain ⟨b2, off2, rfl, hb2, hc2⟩ := HY.out.2 k hlt
        generalize hv1 : xs.getD k 0 = v1 at *
        generalize hv2 : ys.getD k 0 = v2 at *
        have HV1 := Lib.hid hv1
        have HV2 := Lib.hid hv2
        clear hv1 hv2
        have hlt' : (k : Int) < (n : Int) := by omega
        by_cases he : v1 = v2
        · subst he
          go_wp2
          go_quiet (fail)
          go_wp2
          go_roundw
          case rel => exact ⟨k + 1, by omega, by go_num, by rw [take_snoc_getD HX.out.1 hlt, take_snoc_getD HY.out.1 hlt, HT.out, HV1.out, HV2.out], _, rfl⟩
          case measure => simp [intOf]; omega
        · have hne : (v1 != v2) = true := by simpa using he
          have hxy : xs ≠ ys := ne_at (k := k) (by rw [HV1.out, HV2.out]; exact he)
          obtain rfl : b = false := by
            cases b
            · rfl
            · exact absurd (HB.out.1 rfl) hxy
          have HE := Lib.hid he
          clear he hxy
          go_wp2
          go_quiet (fail)
          go_wp2
          go_ret
          exact ⟨rfl, _, World.drewN_drewN _ _ _⟩
      · obtain rfl : k = n := by omega
        obtain rfl : b = true := HB.out.2 (by
          have h1 := HT.out
          rwa [List.take_of_length_le (by rw [HX.out.1]; exact Nat.le_refl _), List.take_of_length_le (by rw [HY.out.1]; exact Nat.le_refl _)] at h1)
        go_wp2
        go_ret
        exact ⟨rfl, _, rfl⟩
  · obtain rfl : b = false := by
      cases b
      · rfl
      · exact absurd (by rw [← hx.1, hb.1 rfl, hy.1]) hl
    clear hx hy hb
    go_enter Tryz.func36, Tryz.ntmps36
    go_wp2
    go_ret
    exact ⟨rfl, 0, rfl⟩
end Go.Proofs.YtadjoiahllekdaaGreatDoor.num
namespace Go.Proofs.YtadjoiahllekdaaGreatDoor.num
set_option maxRecDepth 20000
open Go.RowKit Go.Maps
set_option linter.unusedVariables false
set_option linter.unusedSimpArgs false

theorem sameInts_t (w : World) (B : Nat) (A A' : Option Addr) (n n' c c' : Nat) (xs ys : List Int) (hx : Ints w B A n xs) (hy : Ints w B A' n' ys) (hn : n ≤ 1048576) (b : Bool) (hb : b = true ↔ xs = ys) :
    Calls Tryz.prog 36 #[.slice A n c, .slice A' n' c'] w fun e w' => e = .returned (.bool b) ∧ Below w.heap.size w w' :=
  (sameInts_of w B A A' n n' c c' xs ys hx hy hn b hb).mono fun _ _ ⟨he, m, hm⟩ => ⟨he, hm ▸ below_drewN (Below.refl _ _) m⟩
set_option maxRecDepth 100000 in
set_option maxHeartbeats 32000000 in
theorem texts_walk (a : Option Addr) (len cap : Nat) (hlm : len ≤ 9223372036854775807) (w : World) (hrow : Row w w.heap.size a len) (hpow : Pow w) (hmx : Mx w) (hkw : Kw w) (how : Ow w) :
    Calls Tryz.prog 3 #[.slice a len cap] w fun e w' => e = .returned (.bool true) ∧ Below w.heap.size w w' := by
  have HR := Lib.hid hrow
  have HP := Lib.hid hpow
  have HM := Lib.hid hmx
  have HK := Lib.hid hkw
  have HO := Lib.hid how
  clear hrow hpow hmx hkw how
  obtain ⟨q0, hq0⟩ := bool_of (1048576 < len)
  go_enter Tryz.func3, Tryz.ntmps3
  go_wp2_with fail
  refine (big_any a len cap q0 hq0 hlm _).mono ?_
  rintro e w1 ⟨rfl, hw1⟩
  have HB1 : Hid (Below w.heap.size w w1) := Lib.hid (by rw [← hw1]; exact Below.refl _ _)
  clear hw1
  cases q0
  case true =>
    go_wp2
    go_ret
    exact ⟨rfl, HB1.out⟩
  have hlen : len ≤ 1048576 := by
    rcases Nat.lt_or_ge 1048576 len with h | h
    · have := hq0.2 h; cases this
    · exact h
  clear hq0
  have HL := Lib.hid hlen
  clear hlen
  go_wp2_with fail
  refine (draw_item w1 a len cap HL.out (HR.out.below HB1.out).wide).mono ?_
  rintro e w2 ⟨t1, rfl, hi, h4, hb2⟩
  have HB2 := Lib.hid (below_on HB1.out hb2)
  have I1_2 := Lib.hid hi
  have N1 : Hid (t1.n ≤ 1048576) := Lib.hid (by omega)
  clear hi h4
  unfold It.val
  clear hb2
  obtain ⟨qi, hqi⟩ := bool_of (IsP t1.dat)
  have HQi := Lib.hid hqi
  clear hqi
  go_wp2_with fail
  refine (iFmt _ _ t1 (I1_2.out.step ((Below.refl _ w2).alloc (Nat.le_refl _) (.cells #[.int .i64 t1.id, .slice t1.A t1.n t1.c] 26))) (Nat.le_refl _) (HP.out.below (HB2.out.alloc HB2.out.size (.cells #[.int .i64 t1.id, .slice t1.A t1.n t1.c] 26)))).mono ?_
  rintro e w3 ⟨rfl, hx3⟩
  have hb3 : Below w2.heap.size w2 w3 := below_on ((Below.refl _ w2).alloc (Nat.le_refl _) (.cells #[.int .i64 t1.id, .slice t1.A t1.n t1.c] 26)) hx3
  have Xx_3 := Lib.hid ((Box2.new w2 t1 26).below hx3)
  have HB3 := Lib.hid (below_on HB2.out hb3)
  have I1_3 := Lib.hid (I1_2.out.step hb3)
  obtain ⟨s1, hs1⟩ : ∃ s, textB t1.dat = s := ⟨_, rfl⟩
  have HS1 := Lib.hid hs1
  have hz1 : s1.size ≤ 1048576 := by rw [← hs1]; exact textB_len _
  have HZ1 := Lib.hid hz1
  rw [hs1]
  clear hs1 hz1
  clear hb3 hx3
  go_wp2_with fail
  refine (iParseItem s1 HZ1.out _ (HP.out.below HB3.out) (HM.out.below HB3.out)).mono ?_
  rintro e w4 ⟨⟨t2, ok1, rfl, hp, hm⟩, hb4⟩
  have HB4 := Lib.hid (below_on HB3.out hb4)
  have I1_4 := Lib.hid (I1_3.out.step hb4)
  have Xx_4 := Lib.hid (Xx_3.out.below hb4)
  obtain ⟨e1, e2⟩ := backI HQi.out (by rw [HS1.out]; exact hp)
  obtain rfl := e1.symm
  have E2 := Lib.hid e2
  have hmi := hm.ints
  have I2_4 := Lib.hid hmi.1
  have N2 : Hid (t2.n ≤ 1048576) := Lib.hid (by have := hmi.2; omega)
  clear e2 hp hm hmi
  unfold It.val
  clear hb4
  go_wp2_with fail
  refine (draw_pairs _ a len cap HL.out (HR.out.below (HB4.out.alloc HB4.out.size (.cells #[.int .i64 t2.id, .slice t2.A t2.n t2.c] 26))).wide).mono ?_
  rintro e w5 ⟨A1, n1, c1, ps, rfl, hp, h5, hx5⟩
  have hb5 : Below w4.heap.size w4 w5 := below_on ((Below.refl _ w4).alloc (Nat.le_refl _) (.cells #[.int .i64 t2.id, .slice t2.A t2.n t2.c] 26)) hx5
  have Xy_5 := Lib.hid ((Box2.new w4 t2 26).below hx5)
  have HB5 := Lib.hid (below_on HB4.out hb5)
  have I1_5 := Lib.hid (I1_4.out.step hb5)
  have I2_5 := Lib.hid (I2_4.out.step hb5)
  have Xx_5 := Lib.hid (Xx_4.out.below hb5)
  have P1_5 := Lib.hid hp
  have NP : Hid (n1 ≤ 1048576) := Lib.hid (by omega)
  clear hp h5
  clear hb5 hx5
  obtain ⟨qp, hqp⟩ := bool_of (OkP ps)
  have HQp := Lib.hid hqp
  clear hqp
  go_wp2_with fail
  refine (iFmtP _ _ A1 n1 c1 ps P1_5.out (Nat.le_refl _) NP.out qp HQp.out (HP.out.below HB5.out)).mono ?_
  rintro e w6 ⟨rfl, hb6⟩
  have HB6 := Lib.hid (below_on HB5.out hb6)
  have I1_6 := Lib.hid (I1_5.out.step hb6)
  have I2_6 := Lib.hid (I2_5.out.step hb6)
  have P1_6 := Lib.hid (P1_5.out.stepT hb6)
  have Xx_6 := Lib.hid (Xx_5.out.below hb6)
  have Xy_6 := Lib.hid (Xy_5.out.below hb6)
  obtain ⟨s2, hs2⟩ : ∃ s, fmtP ps qp = s := ⟨_, rfl⟩
  have HS2 := Lib.hid hs2
  have HZ2 : Hid (s2.size ≤ 1048576) := Lib.hid (by rw [← hs2]; exact fmtP_len HQp.out)
  rw [hs2]
  clear hs2
  clear hb6
  go_wp2_with fail
  refine (iParsePairs s2 HZ2.out _ (HP.out.below HB6.out) (HM.out.below HB6.out)).mono ?_
  rintro e w7 ⟨⟨vq, ps2, ok2, rfl, ho, hp⟩, hb7⟩
  have HB7 := Lib.hid (below_on HB6.out hb7)
  have I1_7 := Lib.hid (I1_6.out.step hb7)
  have I2_7 := Lib.hid (I2_6.out.step hb7)
  have P1_7 := Lib.hid (P1_6.out.stepT hb7)
  have Xx_7 := Lib.hid (Xx_6.out.below hb7)
  have Xy_7 := Lib.hid (Xy_6.out.below hb7)
  obtain ⟨e1, e2⟩ := backP HQp.out (by rw [HS2.out]; exact hp)
  obtain rfl := e1.symm
  have E3 := Lib.hid e2
  obtain ⟨A2, n2, c2, rfl, hpp⟩ := ho.pairs
  have P2_7 := Lib.hid hpp
  clear e2 hp ho hpp
  clear hb7
  obtain ⟨x_g, x_0, x_1⟩ := Xx_7.out
  obtain ⟨y_g, y_0, y_1⟩ := Xy_7.out
  go_upto_region 9 with (fail)
  go_cut [88] from 29 (fun s wx => s = .bool false ∧ Below w7.heap.size w7 wx)
  case first =>
    have T_7 := Lib.hid (Below.refl w7.heap.size w7)
    obtain ⟨x_g, x_0, x_1⟩ := Xx_7.out
    obtain ⟨y_g, y_0, y_1⟩ := Xy_7.out
    go_wp2_with fail
    refine (sFmt _ _ t1 I1_7.out (Nat.le_refl _) N1.out).mono ?_
    rintro e w8 ⟨rfl, hb8⟩
    have HB8 := Lib.hid (below_on HB7.out hb8)
    have I1_8 := Lib.hid (I1_7.out.step hb8)
    have I2_8 := Lib.hid (I2_7.out.step hb8)
    have P1_8 := Lib.hid (P1_7.out.stepT hb8)
    have P2_8 := Lib.hid (P2_7.out.stepT hb8)
    have T_8 := Lib.hid (T_7.out.trans (hb8.mono T_7.out.size))
    have Xx_8 := Lib.hid (Xx_7.out.below hb8)
    have Xy_8 := Lib.hid (Xy_7.out.below hb8)
    clear x_g x_0 x_1 y_g y_0 y_1
    rw [HS1.out]
    clear hb8
    obtain ⟨x_g, x_0, x_1⟩ := Xx_8.out
    obtain ⟨y_g, y_0, y_1⟩ := Xy_8.out
    go_wp2_with fail
    refine (sIsItem _ _ t1 I1_8.out (Nat.le_refl _) N1.out qi HQi.out).mono ?_
    rintro e w9 ⟨rfl, hb9⟩
    have HB9 := Lib.hid (below_on HB8.out hb9)
    have I1_9 := Lib.hid (I1_8.out.step hb9)
    have I2_9 := Lib.hid (I2_8.out.step hb9)
    have P1_9 := Lib.hid (P1_8.out.stepT hb9)
    have P2_9 := Lib.hid (P2_8.out.stepT hb9)
    have T_9 := Lib.hid (T_8.out.trans (hb9.mono T_8.out.size))
    have Xx_9 := Lib.hid (Xx_8.out.below hb9)
    have Xy_9 := Lib.hid (Xy_8.out.below hb9)
    clear x_g x_0 x_1 y_g y_0 y_1
    clear hb9
    cases qi
    · obtain ⟨x_g, x_0, x_1⟩ := Xx_9.out
      obtain ⟨y_g, y_0, y_1⟩ := Xy_9.out
      go_wp2_with fail
      refine (sFmtP _ _ A1 n1 c1 ps P1_9.out (Nat.le_refl _) NP.out qp HQp.out).mono ?_
      rintro e w10 ⟨rfl, hb10⟩
      have HB10 := Lib.hid (below_on HB9.out hb10)
      have I1_10 := Lib.hid (I1_9.out.step hb10)
      have I2_10 := Lib.hid (I2_9.out.step hb10)
      have P1_10 := Lib.hid (P1_9.out.stepT hb10)
      have P2_10 := Lib.hid (P2_9.out.stepT hb10)
      have T_10 := Lib.hid (T_9.out.trans (hb10.mono T_9.out.size))
      have Xx_10 := Lib.hid (Xx_9.out.below hb10)
      have Xy_10 := Lib.hid (Xy_9.out.below hb10)
      clear x_g x_0 x_1 y_g y_0 y_1
      rw [HS2.out]
      clear hb10
      obtain ⟨x_g, x_0, x_1⟩ := Xx_10.out
      obtain ⟨y_g, y_0, y_1⟩ := Xy_10.out
      go_wp2_with fail
      refine (sArePairs _ _ A1 n1 c1 ps P1_10.out (Nat.le_refl _) NP.out qp HQp.out).mono ?_
      rintro e w11 ⟨rfl, hb11⟩
      have HB11 := Lib.hid (below_on HB10.out hb11)
      have I1_11 := Lib.hid (I1_10.out.step hb11)
      have I2_11 := Lib.hid (I2_10.out.step hb11)
      have P1_11 := Lib.hid (P1_10.out.stepT hb11)
      have P2_11 := Lib.hid (P2_10.out.stepT hb11)
      have T_11 := Lib.hid (T_10.out.trans (hb11.mono T_10.out.size))
      have Xx_11 := Lib.hid (Xx_10.out.below hb11)
      have Xy_11 := Lib.hid (Xy_10.out.below hb11)
      clear x_g x_0 x_1 y_g y_0 y_1
      clear hb11
      cases qp
      · obtain ⟨x_g, x_0, x_1⟩ := Xx_11.out
        obtain ⟨y_g, y_0, y_1⟩ := Xy_11.out
        go_wp2_with fail
        go_meet
        exact ⟨rfl, T_11.out⟩
      · have hpe : ps2 = ps := E3.out (by first | rfl | trivial)
        have hn2 : n2 ≤ 1048576 := by have h1 := P2_11.out.1; have h2 := P1_11.out.1; have h3 := NP.out; rw [hpe] at h1; omega
        have HQ2 : Hid (OkP ps2) := Lib.hid (by rw [hpe]; exact HQp.out.1 (by first | rfl | trivial))
        have HSs : Hid (fmtP ps2 true = s2) := Lib.hid (by rw [hpe]; exact HS2.out)
        have HN2 := Lib.hid hn2
        clear hpe hn2
        obtain ⟨x_g, x_0, x_1⟩ := Xx_11.out
        obtain ⟨y_g, y_0, y_1⟩ := Xy_11.out
        go_wp2_with fail
        refine (iFmtP _ _ A2 n2 c2 ps2 P2_11.out (Nat.le_refl _) HN2.out true ⟨fun _ => HQ2.out, fun _ => rfl⟩ (HP.out.below HB11.out)).mono ?_
        rintro e w12 ⟨rfl, hb12⟩
        have HB12 := Lib.hid (below_on HB11.out hb12)
        have I1_12 := Lib.hid (I1_11.out.step hb12)
        have I2_12 := Lib.hid (I2_11.out.step hb12)
        have P1_12 := Lib.hid (P1_11.out.stepT hb12)
        have P2_12 := Lib.hid (P2_11.out.stepT hb12)
        have T_12 := Lib.hid (T_11.out.trans (hb12.mono T_11.out.size))
        have Xx_12 := Lib.hid (Xx_11.out.below hb12)
        have Xy_12 := Lib.hid (Xy_11.out.below hb12)
        clear x_g x_0 x_1 y_g y_0 y_1
        rw [HSs.out]
        clear hb12
        obtain ⟨x_g, x_0, x_1⟩ := Xx_12.out
        obtain ⟨y_g, y_0, y_1⟩ := Xy_12.out
        go_wp2_with fail
        go_meet
        exact ⟨rfl, T_12.out⟩
    · have HSs : Hid (textB t2.dat = s1) := Lib.hid (by rw [E2.out (by first | rfl | trivial)]; exact HS1.out)
      obtain ⟨x_g, x_0, x_1⟩ := Xx_9.out
      obtain ⟨y_g, y_0, y_1⟩ := Xy_9.out
      go_wp2_with fail
      refine (iFmt _ _ t2 I2_9.out (Nat.le_refl _) (HP.out.below HB9.out)).mono ?_
      rintro e w10 ⟨rfl, hb10⟩
      have HB10 := Lib.hid (below_on HB9.out hb10)
      have I1_10 := Lib.hid (I1_9.out.step hb10)
      have I2_10 := Lib.hid (I2_9.out.step hb10)
      have P1_10 := Lib.hid (P1_9.out.stepT hb10)
      have P2_10 := Lib.hid (P2_9.out.stepT hb10)
      have T_10 := Lib.hid (T_9.out.trans (hb10.mono T_9.out.size))
      have Xx_10 := Lib.hid (Xx_9.out.below hb10)
      have Xy_10 := Lib.hid (Xy_9.out.below hb10)
      clear x_g x_0 x_1 y_g y_0 y_1
      rw [HSs.out]
      clear hb10
      obtain ⟨x_g, x_0, x_1⟩ := Xx_10.out
      obtain ⟨y_g, y_0, y_1⟩ := Xy_10.out
      go_wp2_with fail
      refine (sFmtP _ _ A1 n1 c1 ps P1_10.out (Nat.le_refl _) NP.out qp HQp.out).mono ?_
      rintro e w11 ⟨rfl, hb11⟩
      have HB11 := Lib.hid (below_on HB10.out hb11)
      have I1_11 := Lib.hid (I1_10.out.step hb11)
      have I2_11 := Lib.hid (I2_10.out.step hb11)
      have P1_11 := Lib.hid (P1_10.out.stepT hb11)
      have P2_11 := Lib.hid (P2_10.out.stepT hb11)
      have T_11 := Lib.hid (T_10.out.trans (hb11.mono T_10.out.size))
      have Xx_11 := Lib.hid (Xx_10.out.below hb11)
      have Xy_11 := Lib.hid (Xy_10.out.below hb11)
      clear x_g x_0 x_1 y_g y_0 y_1
      rw [HS2.out]
      clear hb11
      obtain ⟨x_g, x_0, x_1⟩ := Xx_11.out
      obtain ⟨y_g, y_0, y_1⟩ := Xy_11.out
      go_wp2_with fail
      refine (sArePairs _ _ A1 n1 c1 ps P1_11.out (Nat.le_refl _) NP.out qp HQp.out).mono ?_
      rintro e w12 ⟨rfl, hb12⟩
      have HB12 := Lib.hid (below_on HB11.out hb12)
      have I1_12 := Lib.hid (I1_11.out.step hb12)
      have I2_12 := Lib.hid (I2_11.out.step hb12)
      have P1_12 := Lib.hid (P1_11.out.stepT hb12)
      have P2_12 := Lib.hid (P2_11.out.stepT hb12)
      have T_12 := Lib.hid (T_11.out.trans (hb12.mono T_11.out.size))
      have Xx_12 := Lib.hid (Xx_11.out.below hb12)
      have Xy_12 := Lib.hid (Xy_11.out.below hb12)
      clear x_g x_0 x_1 y_g y_0 y_1
      clear hb12
      cases qp
      · obtain ⟨x_g, x_0, x_1⟩ := Xx_12.out
        obtain ⟨y_g, y_0, y_1⟩ := Xy_12.out
        go_wp2_with fail
        go_meet
        exact ⟨rfl, T_12.out⟩
      · have hpe : ps2 = ps := E3.out (by first | rfl | trivial)
        have hn2 : n2 ≤ 1048576 := by have h1 := P2_12.out.1; have h2 := P1_12.out.1; have h3 := NP.out; rw [hpe] at h1; omega
        have HQ2 : Hid (OkP ps2) := Lib.hid (by rw [hpe]; exact HQp.out.1 (by first | rfl | trivial))
        have HSs : Hid (fmtP ps2 true = s2) := Lib.hid (by rw [hpe]; exact HS2.out)
        have HN2 := Lib.hid hn2
        clear hpe hn2
        obtain ⟨x_g, x_0, x_1⟩ := Xx_12.out
        obtain ⟨y_g, y_0, y_1⟩ := Xy_12.out
        go_wp2_with fail
        refine (iFmtP _ _ A2 n2 c2 ps2 P2_12.out (Nat.le_refl _) HN2.out true ⟨fun _ => HQ2.out, fun _ => rfl⟩ (HP.out.below HB12.out)).mono ?_
        rintro e w13 ⟨rfl, hb13⟩
        have HB13 := Lib.hid (below_on HB12.out hb13)
        have I1_13 := Lib.hid (I1_12.out.step hb13)
        have I2_13 := Lib.hid (I2_12.out.step hb13)
        have P1_13 := Lib.hid (P1_12.out.stepT hb13)
        have P2_13 := Lib.hid (P2_12.out.stepT hb13)
        have T_13 := Lib.hid (T_12.out.trans (hb13.mono T_12.out.size))
        have Xx_13 := Lib.hid (Xx_12.out.below hb13)
        have Xy_13 := Lib.hid (Xy_12.out.below hb13)
        clear x_g x_0 x_1 y_g y_0 y_1
        rw [HSs.out]
        clear hb13
        obtain ⟨x_g, x_0, x_1⟩ := Xx_13.out
        obtain ⟨y_g, y_0, y_1⟩ := Xy_13.out
        go_wp2_with fail
        go_meet
        exact ⟨rfl, T_13.out⟩
  case rest =>
  obtain ⟨rfl, hb8⟩ := hcut
  revert wc
  intro w8 hb8
  have HB8 := Lib.hid (below_on HB7.out hb8)
  have I1_8 := Lib.hid (I1_7.out.step hb8)
  have I2_8 := Lib.hid (I2_7.out.step hb8)
  have P1_8 := Lib.hid (P1_7.out.stepT hb8)
  have P2_8 := Lib.hid (P2_7.out.stepT hb8)
  have Xx_8 := Lib.hid (Xx_7.out.below hb8)
  have Xy_8 := Lib.hid (Xy_7.out.below hb8)
  clear x_g x_0 x_1 y_g y_0 y_1
  clear hb8
  go_wp2_with fail
  refine (draw_wish w8 a len cap HL.out (HR.out.below HB8.out).wide).mono ?_
  rintro e w9 ⟨t3, rfl, hi, hs, hb9⟩
  have HB9 := Lib.hid (below_on HB8.out hb9)
  have W3_9 := Lib.hid hi
  have S3 := Lib.hid hs
  clear hi hs
  rw [show t3.val = .agg #[.int .i64 t3.kind, .int .i64 t3.field, .int .i64 t3.value, .slice t3.LA t3.Ln t3.Lc, .slice t3.PA t3.Pn t3.Pc] from rfl]
  clear hb9
  obtain ⟨qw, hqw⟩ := bool_of (IsW t3.dat)
  have HQw := Lib.hid hqw
  clear hqw
  go_wp2_with fail
  refine (iFmtW _ _ t3 (W3_9.out.step ((Below.refl _ w9).alloc (Nat.le_refl _) (.cells #[.int .i64 t3.kind, .int .i64 t3.field, .int .i64 t3.value, .slice t3.LA t3.Ln t3.Lc, .slice t3.PA t3.Pn t3.Pc] 39))) (Nat.le_refl _) S3.out qw HQw.out (HP.out.below (HB9.out.alloc HB9.out.size (.cells #[.int .i64 t3.kind, .int .i64 t3.field, .int .i64 t3.value, .slice t3.LA t3.Ln t3.Lc, .slice t3.PA t3.Pn t3.Pc] 39))) (HK.out.below (HB9.out.alloc HB9.out.size (.cells #[.int .i64 t3.kind, .int .i64 t3.field, .int .i64 t3.value, .slice t3.LA t3.Ln t3.Lc, .slice t3.PA t3.Pn t3.Pc] 39)))).mono ?_
  rintro e w10 ⟨rfl, hx10⟩
  have hb10 : Below w9.heap.size w9 w10 := below_on ((Below.refl _ w9).alloc (Nat.le_refl _) (.cells #[.int .i64 t3.kind, .int .i64 t3.field, .int .i64 t3.value, .slice t3.LA t3.Ln t3.Lc, .slice t3.PA t3.Pn t3.Pc] 39)) hx10
  have Xx_10 := Lib.hid ((Box5.new w9 t3 39).below hx10)
  have HB10 := Lib.hid (below_on HB9.out hb10)
  have W3_10 := Lib.hid (W3_9.out.step hb10)
  obtain ⟨s3, hs3⟩ : ∃ s, fmtW t3.dat qw = s := ⟨_, rfl⟩
  have HS3 := Lib.hid hs3
  have HZ3 : Hid (s3.size ≤ 1048576) := Lib.hid (by rw [← hs3]; exact fmtW_len HQw.out)
  rw [hs3]
  clear hs3
  clear hb10 hx10
  go_wp2_with fail
  refine (iParseWish s3 HZ3.out _ (HP.out.below HB10.out) (HM.out.below HB10.out) (HK.out.below HB10.out)).mono ?_
  rintro e w11 ⟨⟨t4, ok3, rfl, hp, hm⟩, hb11⟩
  have HB11 := Lib.hid (below_on HB10.out hb11)
  have W3_11 := Lib.hid (W3_10.out.step hb11)
  have Xx_11 := Lib.hid (Xx_10.out.below hb11)
  obtain ⟨e1, e2⟩ := backW HQw.out (by rw [HS3.out]; exact hp)
  obtain rfl := e1.symm
  have E4 := Lib.hid e2
  have hmi := hm.wiT hp
  have W4_11 := Lib.hid hmi.1
  have S4 := Lib.hid hmi.2
  clear e2 hp hm hmi
  rw [show t4.val = .agg #[.int .i64 t4.kind, .int .i64 t4.field, .int .i64 t4.value, .slice t4.LA t4.Ln t4.Lc, .slice t4.PA t4.Pn t4.Pc] from rfl]
  clear hb11
  go_wp2_with fail
  refine (draw_fexp _ a len cap HL.out (HR.out.below (HB11.out.alloc HB11.out.size (.cells #[.int .i64 t4.kind, .int .i64 t4.field, .int .i64 t4.value, .slice t4.LA t4.Ln t4.Lc, .slice t4.PA t4.Pn t4.Pc] 39))).wide).mono ?_
  rintro e w12 ⟨A3, n3, c3, ns3, rfl, ⟨hN, j1, j2, j3, j4⟩, hx12⟩
  have hb12 : Below w11.heap.size w11 w12 := below_on ((Below.refl _ w11).alloc (Nat.le_refl _) (.cells #[.int .i64 t4.kind, .int .i64 t4.field, .int .i64 t4.value, .slice t4.LA t4.Ln t4.Lc, .slice t4.PA t4.Pn t4.Pc] 39)) hx12
  have Xy_12 := Lib.hid ((Box5.new w11 t4 39).below hx12)
  have HB12 := Lib.hid (below_on HB11.out hb12)
  have W3_12 := Lib.hid (W3_11.out.step hb12)
  have W4_12 := Lib.hid (W4_11.out.step hb12)
  have Xx_12 := Lib.hid (Xx_11.out.below hb12)
  have E3n_12 := Lib.hid hN
  have J3 : Hid (n3 ≤ c3 ∧ c3 ≤ 9223372036854775807 ∧ ShortN ns3 ∧ n3 ≤ 1048576) := Lib.hid ⟨j1, by unfold maxLen at j2; omega, j3, by omega⟩
  clear hN j1 j2 j3 j4
  clear hb12 hx12
  obtain ⟨qe, hqe⟩ := bool_of (IsE (datN ns3))
  have HQe := Lib.hid hqe
  clear hqe
  go_wp2_with fail
  refine (iFmtEW _ _ A3 n3 c3 ns3 E3n_12.out (Nat.le_refl _) J3.out.1 J3.out.2.1 J3.out.2.2.2 J3.out.2.2.1 qe HQe.out (HP.out.below HB12.out) (HK.out.below HB12.out) (HO.out.below HB12.out)).mono ?_
  rintro e w13 ⟨rfl, hb13⟩
  have HB13 := Lib.hid (below_on HB12.out hb13)
  have W3_13 := Lib.hid (W3_12.out.step hb13)
  have W4_13 := Lib.hid (W4_12.out.step hb13)
  have E3n_13 := Lib.hid (E3n_12.out.step hb13)
  have Xx_13 := Lib.hid (Xx_12.out.below hb13)
  have Xy_13 := Lib.hid (Xy_12.out.below hb13)
  obtain ⟨s4, hs4⟩ : ∃ s, fmtE (datN ns3) qe = s := ⟨_, rfl⟩
  have HS4 := Lib.hid hs4
  have HZ4 : Hid (s4.size ≤ 1048576) := Lib.hid (by rw [← hs4]; exact fmtE_len HQe.out)
  rw [hs4]
  clear hs4
  clear hb13
  go_wp2_with fail
  refine (iParseE s4 HZ4.out _ (HP.out.below HB13.out) (HM.out.below HB13.out) (HK.out.below HB13.out) (HO.out.below HB13.out)).mono ?_
  rintro e w14 ⟨⟨v4, ns4, ok4, rfl, ho, hs, hp⟩, hb14⟩
  have HB14 := Lib.hid (below_on HB13.out hb14)
  have W3_14 := Lib.hid (W3_13.out.step hb14)
  have W4_14 := Lib.hid (W4_13.out.step hb14)
  have E3n_14 := Lib.hid (E3n_13.out.step hb14)
  have Xx_14 := Lib.hid (Xx_13.out.below hb14)
  have Xy_14 := Lib.hid (Xy_13.out.below hb14)
  obtain ⟨e1, e2⟩ := backE HQe.out (by rw [HS4.out]; exact hp)
  obtain rfl := e1.symm
  have E5 := Lib.hid e2
  obtain ⟨A4, c4, rfl, -, -⟩ := ho.r.shape
  have J4 : Hid (ns4.length ≤ 1048576 ∧ ShortN ns4) := Lib.hid ⟨Nat.le_trans hp.small (by decide), hs⟩
  have E4n_14 := Lib.hid ho.nodes
  clear e2 hp ho hs
  clear hb14
  obtain ⟨x_g, x_0, x_1, x_2, x_3, x_4⟩ := Xx_14.out
  obtain ⟨y_g, y_0, y_1, y_2, y_3, y_4⟩ := Xy_14.out
  go_upto_region 17 with (fail)
  go_cut [146] from 29 (fun s wx => s = .bool false ∧ Below w14.heap.size w14 wx)
  case first =>
    have T_14 := Lib.hid (Below.refl w14.heap.size w14)
    obtain ⟨x_g, x_0, x_1, x_2, x_3, x_4⟩ := Xx_14.out
    obtain ⟨y_g, y_0, y_1, y_2, y_3, y_4⟩ := Xy_14.out
    go_wp2_with fail
    refine (sFmtW _ _ t3 W3_14.out (Nat.le_refl _) S3.out qw HQw.out).mono ?_
    rintro e w15 ⟨rfl, hb15⟩
    have HB15 := Lib.hid (below_on HB14.out hb15)
    have W3_15 := Lib.hid (W3_14.out.step hb15)
    have W4_15 := Lib.hid (W4_14.out.step hb15)
    have E3n_15 := Lib.hid (E3n_14.out.step hb15)
    have E4n_15 := Lib.hid (E4n_14.out.step hb15)
    have T_15 := Lib.hid (T_14.out.trans (hb15.mono T_14.out.size))
    have Xx_15 := Lib.hid (Xx_14.out.below hb15)
    have Xy_15 := Lib.hid (Xy_14.out.below hb15)
    clear x_g x_0 x_1 x_2 x_3 x_4 y_g y_0 y_1 y_2 y_3 y_4
    rw [HS3.out]
    clear hb15
    obtain ⟨x_g, x_0, x_1, x_2, x_3, x_4⟩ := Xx_15.out
    obtain ⟨y_g, y_0, y_1, y_2, y_3, y_4⟩ := Xy_15.out
    go_wp2_with fail
    refine (sIsWish _ _ t3 W3_15.out (Nat.le_refl _) S3.out qw HQw.out).mono ?_
    rintro e w16 ⟨rfl, hb16⟩
    have HB16 := Lib.hid (below_on HB15.out hb16)
    have W3_16 := Lib.hid (W3_15.out.step hb16)
    have W4_16 := Lib.hid (W4_15.out.step hb16)
    have E3n_16 := Lib.hid (E3n_15.out.step hb16)
    have E4n_16 := Lib.hid (E4n_15.out.step hb16)
    have T_16 := Lib.hid (T_15.out.trans (hb16.mono T_15.out.size))
    have Xx_16 := Lib.hid (Xx_15.out.below hb16)
    have Xy_16 := Lib.hid (Xy_15.out.below hb16)
    clear x_g x_0 x_1 x_2 x_3 x_4 y_g y_0 y_1 y_2 y_3 y_4
    clear hb16
    cases qw
    · obtain ⟨x_g, x_0, x_1, x_2, x_3, x_4⟩ := Xx_16.out
      obtain ⟨y_g, y_0, y_1, y_2, y_3, y_4⟩ := Xy_16.out
      go_wp2_with fail
      refine (sFmtE _ _ A3 n3 c3 ns3 E3n_16.out (Nat.le_refl _) J3.out.2.2.2 J3.out.2.2.1 qe HQe.out).mono ?_
      rintro e w17 ⟨rfl, hb17⟩
      have HB17 := Lib.hid (below_on HB16.out hb17)
      have W3_17 := Lib.hid (W3_16.out.step hb17)
      have W4_17 := Lib.hid (W4_16.out.step hb17)
      have E3n_17 := Lib.hid (E3n_16.out.step hb17)
      have E4n_17 := Lib.hid (E4n_16.out.step hb17)
      have T_17 := Lib.hid (T_16.out.trans (hb17.mono T_16.out.size))
      have Xx_17 := Lib.hid (Xx_16.out.below hb17)
      have Xy_17 := Lib.hid (Xy_16.out.below hb17)
      clear x_g x_0 x_1 x_2 x_3 x_4 y_g y_0 y_1 y_2 y_3 y_4
      rw [HS4.out]
      clear hb17
      obtain ⟨x_g, x_0, x_1, x_2, x_3, x_4⟩ := Xx_17.out
      obtain ⟨y_g, y_0, y_1, y_2, y_3, y_4⟩ := Xy_17.out
      go_wp2_with fail
      refine (sIsE _ _ A3 n3 c3 ns3 E3n_17.out (Nat.le_refl _) J3.out.2.2.2 J3.out.2.2.1 qe HQe.out).mono ?_
      rintro e w18 ⟨rfl, hb18⟩
      have HB18 := Lib.hid (below_on HB17.out hb18)
      have W3_18 := Lib.hid (W3_17.out.step hb18)
      have W4_18 := Lib.hid (W4_17.out.step hb18)
      have E3n_18 := Lib.hid (E3n_17.out.step hb18)
      have E4n_18 := Lib.hid (E4n_17.out.step hb18)
      have T_18 := Lib.hid (T_17.out.trans (hb18.mono T_17.out.size))
      have Xx_18 := Lib.hid (Xx_17.out.below hb18)
      have Xy_18 := Lib.hid (Xy_17.out.below hb18)
      clear x_g x_0 x_1 x_2 x_3 x_4 y_g y_0 y_1 y_2 y_3 y_4
      clear hb18
      cases qe
      · obtain ⟨x_g, x_0, x_1, x_2, x_3, x_4⟩ := Xx_18.out
        obtain ⟨y_g, y_0, y_1, y_2, y_3, y_4⟩ := Xy_18.out
        go_wp2_with fail
        go_meet
        exact ⟨rfl, T_18.out⟩
      · have HEe : Hid (datN ns4 = datN ns3) := Lib.hid (E5.out (by first | rfl | trivial))
        obtain ⟨x_g, x_0, x_1, x_2, x_3, x_4⟩ := Xx_18.out
        obtain ⟨y_g, y_0, y_1, y_2, y_3, y_4⟩ := Xy_18.out
        go_wp2_with fail
        refine (iEqE _ _ A4 A3 ns4.length n3 c4 c3 ns4 ns3 E4n_18.out E3n_18.out (Nat.le_refl _) J4.out.1 J4.out.2 true ⟨fun _ => HEe.out, fun _ => rfl⟩).mono ?_
        rintro e w19 ⟨rfl, hb19⟩
        have HB19 := Lib.hid (below_on HB18.out hb19)
        have W3_19 := Lib.hid (W3_18.out.step hb19)
        have W4_19 := Lib.hid (W4_18.out.step hb19)
        have E3n_19 := Lib.hid (E3n_18.out.step hb19)
        have E4n_19 := Lib.hid (E4n_18.out.step hb19)
        have T_19 := Lib.hid (T_18.out.trans (hb19.mono T_18.out.size))
        have Xx_19 := Lib.hid (Xx_18.out.below hb19)
        have Xy_19 := Lib.hid (Xy_18.out.below hb19)
        clear x_g x_0 x_1 x_2 x_3 x_4 y_g y_0 y_1 y_2 y_3 y_4
        clear hb19
        obtain ⟨x_g, x_0, x_1, x_2, x_3, x_4⟩ := Xx_19.out
        obtain ⟨y_g, y_0, y_1, y_2, y_3, y_4⟩ := Xy_19.out
        go_wp2_with fail
        go_meet
        exact ⟨rfl, T_19.out⟩
    · have HW4 : Hid (IsW t4.dat) := Lib.hid (by rw [E4.out (by first | rfl | trivial)]; exact HQw.out.1 (by first | rfl | trivial))
      have HSs : Hid (fmtW t4.dat true = s3) := Lib.hid (by rw [E4.out (by first | rfl | trivial)]; exact HS3.out)
      obtain ⟨x_g, x_0, x_1, x_2, x_3, x_4⟩ := Xx_16.out
      obtain ⟨y_g, y_0, y_1, y_2, y_3, y_4⟩ := Xy_16.out
      go_wp2_with fail
      refine (iFmtW _ _ t4 W4_16.out (Nat.le_refl _) S4.out true ⟨fun _ => HW4.out, fun _ => rfl⟩ (HP.out.below HB16.out) (HK.out.below HB16.out)).mono ?_
      rintro e w17 ⟨rfl, hb17⟩
      have HB17 := Lib.hid (below_on HB16.out hb17)
      have W3_17 := Lib.hid (W3_16.out.step hb17)
      have W4_17 := Lib.hid (W4_16.out.step hb17)
      have E3n_17 := Lib.hid (E3n_16.out.step hb17)
      have E4n_17 := Lib.hid (E4n_16.out.step hb17)
      have T_17 := Lib.hid (T_16.out.trans (hb17.mono T_16.out.size))
      have Xx_17 := Lib.hid (Xx_16.out.below hb17)
      have Xy_17 := Lib.hid (Xy_16.out.below hb17)
      clear x_g x_0 x_1 x_2 x_3 x_4 y_g y_0 y_1 y_2 y_3 y_4
      rw [HSs.out]
      clear hb17
      obtain ⟨x_g, x_0, x_1, x_2, x_3, x_4⟩ := Xx_17.out
      obtain ⟨y_g, y_0, y_1, y_2, y_3, y_4⟩ := Xy_17.out
      go_wp2_with fail
      refine (sFmtE _ _ A3 n3 c3 ns3 E3n_17.out (Nat.le_refl _) J3.out.2.2.2 J3.out.2.2.1 qe HQe.out).mono ?_
      rintro e w18 ⟨rfl, hb18⟩
      have HB18 := Lib.hid (below_on HB17.out hb18)
      have W3_18 := Lib.hid (W3_17.out.step hb18)
      have W4_18 := Lib.hid (W4_17.out.step hb18)
      have E3n_18 := Lib.hid (E3n_17.out.step hb18)
      have E4n_18 := Lib.hid (E4n_17.out.step hb18)
      have T_18 := Lib.hid (T_17.out.trans (hb18.mono T_17.out.size))
      have Xx_18 := Lib.hid (Xx_17.out.below hb18)
      have Xy_18 := Lib.hid (Xy_17.out.below hb18)
      clear x_g x_0 x_1 x_2 x_3 x_4 y_g y_0 y_1 y_2 y_3 y_4
      rw [HS4.out]
      clear hb18
      obtain ⟨x_g, x_0, x_1, x_2, x_3, x_4⟩ := Xx_18.out
      obtain ⟨y_g, y_0, y_1, y_2, y_3, y_4⟩ := Xy_18.out
      go_wp2_with fail
      refine (sIsE _ _ A3 n3 c3 ns3 E3n_18.out (Nat.le_refl _) J3.out.2.2.2 J3.out.2.2.1 qe HQe.out).mono ?_
      rintro e w19 ⟨rfl, hb19⟩
      have HB19 := Lib.hid (below_on HB18.out hb19)
      have W3_19 := Lib.hid (W3_18.out.step hb19)
      have W4_19 := Lib.hid (W4_18.out.step hb19)
      have E3n_19 := Lib.hid (E3n_18.out.step hb19)
      have E4n_19 := Lib.hid (E4n_18.out.step hb19)
      have T_19 := Lib.hid (T_18.out.trans (hb19.mono T_18.out.size))
      have Xx_19 := Lib.hid (Xx_18.out.below hb19)
      have Xy_19 := Lib.hid (Xy_18.out.below hb19)
      clear x_g x_0 x_1 x_2 x_3 x_4 y_g y_0 y_1 y_2 y_3 y_4
      clear hb19
      cases qe
      · obtain ⟨x_g, x_0, x_1, x_2, x_3, x_4⟩ := Xx_19.out
        obtain ⟨y_g, y_0, y_1, y_2, y_3, y_4⟩ := Xy_19.out
        go_wp2_with fail
        go_meet
        exact ⟨rfl, T_19.out⟩
      · have HEe : Hid (datN ns4 = datN ns3) := Lib.hid (E5.out (by first | rfl | trivial))
        obtain ⟨x_g, x_0, x_1, x_2, x_3, x_4⟩ := Xx_19.out
        obtain ⟨y_g, y_0, y_1, y_2, y_3, y_4⟩ := Xy_19.out
        go_wp2_with fail
        refine (iEqE _ _ A4 A3 ns4.length n3 c4 c3 ns4 ns3 E4n_19.out E3n_19.out (Nat.le_refl _) J4.out.1 J4.out.2 true ⟨fun _ => HEe.out, fun _ => rfl⟩).mono ?_
        rintro e w20 ⟨rfl, hb20⟩
        have HB20 := Lib.hid (below_on HB19.out hb20)
        have W3_20 := Lib.hid (W3_19.out.step hb20)
        have W4_20 := Lib.hid (W4_19.out.step hb20)
        have E3n_20 := Lib.hid (E3n_19.out.step hb20)
        have E4n_20 := Lib.hid (E4n_19.out.step hb20)
        have T_20 := Lib.hid (T_19.out.trans (hb20.mono T_19.out.size))
        have Xx_20 := Lib.hid (Xx_19.out.below hb20)
        have Xy_20 := Lib.hid (Xy_19.out.below hb20)
        clear x_g x_0 x_1 x_2 x_3 x_4 y_g y_0 y_1 y_2 y_3 y_4
        clear hb20
        obtain ⟨x_g, x_0, x_1, x_2, x_3, x_4⟩ := Xx_20.out
        obtain ⟨y_g, y_0, y_1, y_2, y_3, y_4⟩ := Xy_20.out
        go_wp2_with fail
        go_meet
        exact ⟨rfl, T_20.out⟩
  case rest =>
  obtain ⟨rfl, hb15⟩ := hcut
  revert wc
  intro w15 hb15
  have HB15 := Lib.hid (below_on HB14.out hb15)
  have W3_15 := Lib.hid (W3_14.out.step hb15)
  have W4_15 := Lib.hid (W4_14.out.step hb15)
  have E3n_15 := Lib.hid (E3n_14.out.step hb15)
  have E4n_15 := Lib.hid (E4n_14.out.step hb15)
  have Xx_15 := Lib.hid (Xx_14.out.below hb15)
  have Xy_15 := Lib.hid (Xy_14.out.below hb15)
  clear x_g x_0 x_1 x_2 x_3 x_4 y_g y_0 y_1 y_2 y_3 y_4
  clear hb15
  go_wp2_with fail
  refine (draw_eqs w15 a len cap HL.out (HR.out.below HB15.out).wide).mono ?_
  rintro e w16 ⟨A5, n5, c5, ns5, A6, n6, c6, ns6, rfl, ⟨hN, j1, j2, j3, j4⟩, ⟨hM, k1, k2⟩, hb16⟩
  have HB16 := Lib.hid (below_on HB15.out hb16)
  have E5n_16 := Lib.hid hN
  have E6n_16 := Lib.hid hM
  have J5 : Hid (ShortN ns5 ∧ n5 ≤ 1048576) := Lib.hid ⟨j3, by omega⟩
  clear hN hM j1 j2 j3 j4 k1 k2
  clear hb16
  go_wp2_with fail
  refine (draw_join w16 a len cap HL.out (HR.out.below HB16.out).wide).mono ?_
  rintro e w17 ⟨A7, n7, c7, ns7, A8, n8, c8, ns8, op, rfl, ⟨hN, j1, j2, j3, j4⟩, ⟨hM, k1, k2, k3, k4⟩, ho, hb17⟩
  have HB17 := Lib.hid (below_on HB16.out hb17)
  have E5n_17 := Lib.hid (E5n_16.out.step hb17)
  have E6n_17 := Lib.hid (E6n_16.out.step hb17)
  have E7n_17 := Lib.hid hN
  have E8n_17 := Lib.hid hM
  have J7 : Hid (n7 ≤ c7 ∧ c7 ≤ 9223372036854775807 ∧ ShortN ns7 ∧ n7 ≤ 1048576) := Lib.hid ⟨j1, by unfold maxLen at j2; omega, j3, by omega⟩
  have J8 : Hid (n8 ≤ c8 ∧ c8 ≤ 9223372036854775807 ∧ ShortN ns8 ∧ n8 ≤ 1048576) := Lib.hid ⟨k1, by unfold maxLen at k2; omega, k3, by omega⟩
  have JO : Hid ((Lit.int .i64 op).wf = true) := Lib.hid (by simp [Lit.wf, IntKind.min, IntKind.max, IntKind.signed, IntKind.bits]; omega)
  clear hN hM j1 j2 j3 j4 k1 k2 k3 k4 ho
  clear hb17
  obtain ⟨r, hr⟩ := bool_of (IsE (datN ns7) ∧ IsE (datN ns8) ∧ Bin op ∧ n7 + n8 < 9)
  have HRr := Lib.hid hr
  clear hr
  go_wp2_with fail
  refine (iJoin2W _ _ A7 A8 n7 n8 c7 c8 ns7 ns8 op E7n_17.out E8n_17.out (Nat.le_refl _) J7.out.2.2.1 J8.out.2.2.1 JO.out J7.out.1 J8.out.1 J7.out.2.1 J8.out.2.1 J7.out.2.2.2 J8.out.2.2.2 r HRr.out).mono ?_
  rintro e w18 ⟨v9, ns9, rfl, hd, hs, ho, hb18⟩
  have HB18 := Lib.hid (below_on HB17.out hb18)
  have E5n_18 := Lib.hid (E5n_17.out.step hb18)
  have E6n_18 := Lib.hid (E6n_17.out.step hb18)
  have E7n_18 := Lib.hid (E7n_17.out.step hb18)
  have E8n_18 := Lib.hid (E8n_17.out.step hb18)
  obtain ⟨A9, c9, rfl, q1, q2⟩ := ho.r.shape
  have E9n_18 := Lib.hid ho.nodes
  have D9 := Lib.hid hd
  have S9 := Lib.hid hs
  have Q9 : Hid (ns9.length ≤ c9 ∧ c9 ≤ 9223372036854775807) := Lib.hid ⟨q1, by unfold maxLen at q2; omega⟩
  clear hd hs ho q1 q2
  clear hb18
  go_wp2_with fail
  refine (sJoin _ _ A7 A8 n7 n8 c7 c8 ns7 ns8 op E7n_18.out E8n_18.out (Nat.le_refl _) J7.out.2.2.1 J8.out.2.2.1 JO.out J7.out.2.2.2 J8.out.2.2.2 r HRr.out).mono ?_
  rintro e w19 ⟨v10, ns10, rfl, hd, hs, ho, hb19⟩
  have HB19 := Lib.hid (below_on HB18.out hb19)
  have E5n_19 := Lib.hid (E5n_18.out.step hb19)
  have E6n_19 := Lib.hid (E6n_18.out.step hb19)
  have E7n_19 := Lib.hid (E7n_18.out.step hb19)
  have E8n_19 := Lib.hid (E8n_18.out.step hb19)
  have E9n_19 := Lib.hid (E9n_18.out.step hb19)
  obtain ⟨A10, c10, rfl, -, -⟩ := ho.r.shape
  have E10n_19 := Lib.hid ho.nodes
  have D10 := Lib.hid hd
  clear hd hs ho
  clear hb19
  have L9 : Hid (ns9.length ≤ 1048576) := Lib.hid (by
    have h1 := congrArg List.length D9.out
    have h2 := E7n_19.out.len
    have h3 := E8n_19.out.len
    have h4 := J7.out.2.2.2
    have h5 := J8.out.2.2.2
    unfold datN joinD at h1
    split at h1
    · next hrt =>
      have h6 := (HRr.out.1 hrt).2.2.2
      simp at h1
      omega
    · simp at h1
      rw [h1]; simp)
  go_wp2_with fail
  refine (draw_fitems w19 a len cap HL.out (HR.out.below HB19.out).wide).mono ?_
  rintro e w20 ⟨A11, n11, c11, its, rfl, ⟨hI, i1, i2, i3, i4⟩, hb20⟩
  have HB20 := Lib.hid (below_on HB19.out hb20)
  have E5n_20 := Lib.hid (E5n_19.out.step hb20)
  have E6n_20 := Lib.hid (E6n_19.out.step hb20)
  have E7n_20 := Lib.hid (E7n_19.out.step hb20)
  have E8n_20 := Lib.hid (E8n_19.out.step hb20)
  have E9n_20 := Lib.hid (E9n_19.out.step hb20)
  have E10n_20 := Lib.hid (E10n_19.out.step hb20)
  have It_20 := Lib.hid hI
  have J11 : Hid ((∀ t ∈ its, t.n ≤ 1048576) ∧ n11 ≤ 1048576) := Lib.hid ⟨i1, by omega⟩
  clear hI i1 i2 i3 i4
  clear hb20
  obtain ⟨q5, hq5⟩ := bool_of (datN ns5 = datN ns6)
  have HQ5 := Lib.hid hq5
  clear hq5
  obtain ⟨qa, hqa⟩ := bool_of (AreP (its.map It.dat))
  have HQa := Lib.hid hqa
  clear hqa
  have h55 : (q5 == q5) = true := by simp
  have hrr : (r == r) = true := by simp
  have haa : (qa == qa) = true := by simp
  go_wp2_with fail
  refine (iEqE _ _ A5 A6 n5 n6 c5 c6 ns5 ns6 E5n_20.out E6n_20.out (Nat.le_refl _) J5.out.2 J5.out.1 q5 HQ5.out).mono ?_
  rintro e w21 ⟨rfl, hb21⟩
  have HB21 := Lib.hid (below_on HB20.out hb21)
  have E5n_21 := Lib.hid (E5n_20.out.step hb21)
  have E6n_21 := Lib.hid (E6n_20.out.step hb21)
  have E7n_21 := Lib.hid (E7n_20.out.step hb21)
  have E8n_21 := Lib.hid (E8n_20.out.step hb21)
  have E9n_21 := Lib.hid (E9n_20.out.step hb21)
  have E10n_21 := Lib.hid (E10n_20.out.step hb21)
  have It_21 := Lib.hid (It_20.out.stepT hb21)
  clear hb21
  go_wp2_with fail
  refine (sEqE _ _ A5 A6 n5 n6 c5 c6 ns5 ns6 E5n_21.out E6n_21.out (Nat.le_refl _) J5.out.2 J5.out.1 q5 HQ5.out).mono ?_
  rintro e w22 ⟨rfl, hb22⟩
  have HB22 := Lib.hid (below_on HB21.out hb22)
  have E5n_22 := Lib.hid (E5n_21.out.step hb22)
  have E6n_22 := Lib.hid (E6n_21.out.step hb22)
  have E7n_22 := Lib.hid (E7n_21.out.step hb22)
  have E8n_22 := Lib.hid (E8n_21.out.step hb22)
  have E9n_22 := Lib.hid (E9n_21.out.step hb22)
  have E10n_22 := Lib.hid (E10n_21.out.step hb22)
  have It_22 := Lib.hid (It_21.out.stepT hb22)
  clear hb22
  go_wp2_with fail
  refine (sEqE _ _ A9 A10 ns9.length ns10.length c9 c10 ns9 ns10 E9n_22.out E10n_22.out (Nat.le_refl _) L9.out S9.out true ⟨fun _ => D9.out.trans D10.out.symm, fun _ => rfl⟩).mono ?_
  rintro e w23 ⟨rfl, hb23⟩
  have HB23 := Lib.hid (below_on HB22.out hb23)
  have E5n_23 := Lib.hid (E5n_22.out.step hb23)
  have E6n_23 := Lib.hid (E6n_22.out.step hb23)
  have E7n_23 := Lib.hid (E7n_22.out.step hb23)
  have E8n_23 := Lib.hid (E8n_22.out.step hb23)
  have E9n_23 := Lib.hid (E9n_22.out.step hb23)
  have E10n_23 := Lib.hid (E10n_22.out.step hb23)
  have It_23 := Lib.hid (It_22.out.stepT hb23)
  clear hb23
  cases r
  · go_wp2_with fail
    refine (iAre _ _ A11 n11 c11 its It_23.out (Nat.le_refl _) qa HQa.out).mono ?_
    rintro e w24 ⟨rfl, hb24⟩
    have HB24 := Lib.hid (below_on HB23.out hb24)
    have E5n_24 := Lib.hid (E5n_23.out.step hb24)
    have E6n_24 := Lib.hid (E6n_23.out.step hb24)
    have E7n_24 := Lib.hid (E7n_23.out.step hb24)
    have E8n_24 := Lib.hid (E8n_23.out.step hb24)
    have E9n_24 := Lib.hid (E9n_23.out.step hb24)
    have E10n_24 := Lib.hid (E10n_23.out.step hb24)
    have It_24 := Lib.hid (It_23.out.stepT hb24)
    clear hb24
    go_wp2_with fail
    refine (sAre _ _ A11 n11 c11 its It_24.out (Nat.le_refl _) J11.out.2 J11.out.1 qa HQa.out).mono ?_
    rintro e w25 ⟨rfl, hb25⟩
    have HB25 := Lib.hid (below_on HB24.out hb25)
    have E5n_25 := Lib.hid (E5n_24.out.step hb25)
    have E6n_25 := Lib.hid (E6n_24.out.step hb25)
    have E7n_25 := Lib.hid (E7n_24.out.step hb25)
    have E8n_25 := Lib.hid (E8n_24.out.step hb25)
    have E9n_25 := Lib.hid (E9n_24.out.step hb25)
    have E10n_25 := Lib.hid (E10n_24.out.step hb25)
    have It_25 := Lib.hid (It_24.out.stepT hb25)
    clear hb25
    go_wp2_with fail
    refine (iIds _ _ A11 n11 c11 its It_25.out (Nat.le_refl _) J11.out.2).mono ?_
    rintro e w26 ⟨rfl, hg, hb26⟩
    have HB26 := Lib.hid (below_on HB25.out hb26)
    have E5n_26 := Lib.hid (E5n_25.out.step hb26)
    have E6n_26 := Lib.hid (E6n_25.out.step hb26)
    have E7n_26 := Lib.hid (E7n_25.out.step hb26)
    have E8n_26 := Lib.hid (E8n_25.out.step hb26)
    have E9n_26 := Lib.hid (E9n_25.out.step hb26)
    have E10n_26 := Lib.hid (E10n_25.out.step hb26)
    have It_26 := Lib.hid (It_25.out.stepT hb26)
    have hln : (idL its).length = n11 := by rw [idL_len]; exact It_26.out.1
    have hii := hg.ints hg.lt
    rw [hln] at hii
    have Ii_26 := Lib.hid hii
    clear hg hii hln
    clear hb26
    go_wp2_with fail
    refine (sIds _ _ A11 n11 c11 its It_26.out (Nat.le_refl _) J11.out.2).mono ?_
    rintro e w27 ⟨⟨Aj, nj, cj, rfl, hi⟩, hb27⟩
    have HB27 := Lib.hid (below_on HB26.out hb27)
    have E5n_27 := Lib.hid (E5n_26.out.step hb27)
    have E6n_27 := Lib.hid (E6n_26.out.step hb27)
    have E7n_27 := Lib.hid (E7n_26.out.step hb27)
    have E8n_27 := Lib.hid (E8n_26.out.step hb27)
    have E9n_27 := Lib.hid (E9n_26.out.step hb27)
    have E10n_27 := Lib.hid (E10n_26.out.step hb27)
    have It_27 := Lib.hid (It_26.out.stepT hb27)
    have Ii_27 := Lib.hid (Ii_26.out.step hb27)
    have Ij_27 := Lib.hid hi
    clear hi
    clear hb27
    go_wp2_with fail
    refine (sameInts_t _ _ _ _ n11 nj n11 cj (idL its) (idL its) Ii_27.out Ij_27.out J11.out.2 true (by simp)).mono ?_
    rintro e w28 ⟨rfl, hb28⟩
    have HB28 := Lib.hid (below_on HB27.out hb28)
    have E5n_28 := Lib.hid (E5n_27.out.step hb28)
    have E6n_28 := Lib.hid (E6n_27.out.step hb28)
    have E7n_28 := Lib.hid (E7n_27.out.step hb28)
    have E8n_28 := Lib.hid (E8n_27.out.step hb28)
    have E9n_28 := Lib.hid (E9n_27.out.step hb28)
    have E10n_28 := Lib.hid (E10n_27.out.step hb28)
    have It_28 := Lib.hid (It_27.out.stepT hb28)
    have Ii_28 := Lib.hid (Ii_27.out.step hb28)
    have Ij_28 := Lib.hid (Ij_27.out.step hb28)
    clear hb28
    go_wp2
    go_ret
    exact ⟨rfl, HB28.out⟩
  · have HE9 : Hid (IsE (datN ns9)) := Lib.hid (by
      have h1 := HRr.out.1 (by first | rfl | trivial)
      rw [D9.out]
      show IsE (datN ns7 ++ datN ns8 ++ [⟨op, zeroWD⟩])
      refine (joinE' (q := true) (nd := ⟨op, zeroWD⟩) h1.1 h1.2.1 ⟨rfl, rfl, rfl, rfl, rfl⟩ ⟨fun _ => ⟨h1.2.2.1, ?_⟩, fun _ => rfl⟩).1 rfl
      unfold datN
      rw [List.length_map, List.length_map, E7n_23.out.len, E8n_23.out.len]
      exact h1.2.2.2)
    go_wp2_with fail
    refine (iIsEW _ _ A9 ns9.length c9 ns9 E9n_23.out (Nat.le_refl _) Q9.out.1 Q9.out.2 S9.out true ⟨fun _ => HE9.out, fun _ => rfl⟩).mono ?_
    rintro e w24 ⟨rfl, hb24⟩
    have HB24 := Lib.hid (below_on HB23.out hb24)
    have E5n_24 := Lib.hid (E5n_23.out.step hb24)
    have E6n_24 := Lib.hid (E6n_23.out.step hb24)
    have E7n_24 := Lib.hid (E7n_23.out.step hb24)
    have E8n_24 := Lib.hid (E8n_23.out.step hb24)
    have E9n_24 := Lib.hid (E9n_23.out.step hb24)
    have E10n_24 := Lib.hid (E10n_23.out.step hb24)
    have It_24 := Lib.hid (It_23.out.stepT hb24)
    clear hb24
    go_wp2_with fail
    refine (iAre _ _ A11 n11 c11 its It_24.out (Nat.le_refl _) qa HQa.out).mono ?_
    rintro e w25 ⟨rfl, hb25⟩
    have HB25 := Lib.hid (below_on HB24.out hb25)
    have E5n_25 := Lib.hid (E5n_24.out.step hb25)
    have E6n_25 := Lib.hid (E6n_24.out.step hb25)
    have E7n_25 := Lib.hid (E7n_24.out.step hb25)
    have E8n_25 := Lib.hid (E8n_24.out.step hb25)
    have E9n_25 := Lib.hid (E9n_24.out.step hb25)
    have E10n_25 := Lib.hid (E10n_24.out.step hb25)
    have It_25 := Lib.hid (It_24.out.stepT hb25)
    clear hb25
    go_wp2_with fail
    refine (sAre _ _ A11 n11 c11 its It_25.out (Nat.le_refl _) J11.out.2 J11.out.1 qa HQa.out).mono ?_
    rintro e w26 ⟨rfl, hb26⟩
    have HB26 := Lib.hid (below_on HB25.out hb26)
    have E5n_26 := Lib.hid (E5n_25.out.step hb26)
    have E6n_26 := Lib.hid (E6n_25.out.step hb26)
    have E7n_26 := Lib.hid (E7n_25.out.step hb26)
    have E8n_26 := Lib.hid (E8n_25.out.step hb26)
    have E9n_26 := Lib.hid (E9n_25.out.step hb26)
    have E10n_26 := Lib.hid (E10n_25.out.step hb26)
    have It_26 := Lib.hid (It_25.out.stepT hb26)
    clear hb26
    go_wp2_with fail
    refine (iIds _ _ A11 n11 c11 its It_26.out (Nat.le_refl _) J11.out.2).mono ?_
    rintro e w27 ⟨rfl, hg, hb27⟩
    have HB27 := Lib.hid (below_on HB26.out hb27)
    have E5n_27 := Lib.hid (E5n_26.out.step hb27)
    have E6n_27 := Lib.hid (E6n_26.out.step hb27)
    have E7n_27 := Lib.hid (E7n_26.out.step hb27)
    have E8n_27 := Lib.hid (E8n_26.out.step hb27)
    have E9n_27 := Lib.hid (E9n_26.out.step hb27)
    have E10n_27 := Lib.hid (E10n_26.out.step hb27)
    have It_27 := Lib.hid (It_26.out.stepT hb27)
    have hln : (idL its).length = n11 := by rw [idL_len]; exact It_27.out.1
    have hii := hg.ints hg.lt
    rw [hln] at hii
    have Ii_27 := Lib.hid hii
    clear hg hii hln
    clear hb27
    go_wp2_with fail
    refine (sIds _ _ A11 n11 c11 its It_27.out (Nat.le_refl _) J11.out.2).mono ?_
    rintro e w28 ⟨⟨Aj, nj, cj, rfl, hi⟩, hb28⟩
    have HB28 := Lib.hid (below_on HB27.out hb28)
    have E5n_28 := Lib.hid (E5n_27.out.step hb28)
    have E6n_28 := Lib.hid (E6n_27.out.step hb28)
    have E7n_28 := Lib.hid (E7n_27.out.step hb28)
    have E8n_28 := Lib.hid (E8n_27.out.step hb28)
    have E9n_28 := Lib.hid (E9n_27.out.step hb28)
    have E10n_28 := Lib.hid (E10n_27.out.step hb28)
    have It_28 := Lib.hid (It_27.out.stepT hb28)
    have Ii_28 := Lib.hid (Ii_27.out.step hb28)
    have Ij_28 := Lib.hid hi
    clear hi
    clear hb28
    go_wp2_with fail
    refine (sameInts_t _ _ _ _ n11 nj n11 cj (idL its) (idL its) Ii_28.out Ij_28.out J11.out.2 true (by simp)).mono ?_
    rintro e w29 ⟨rfl, hb29⟩
    have HB29 := Lib.hid (below_on HB28.out hb29)
    have E5n_29 := Lib.hid (E5n_28.out.step hb29)
    have E6n_29 := Lib.hid (E6n_28.out.step hb29)
    have E7n_29 := Lib.hid (E7n_28.out.step hb29)
    have E8n_29 := Lib.hid (E8n_28.out.step hb29)
    have E9n_29 := Lib.hid (E9n_28.out.step hb29)
    have E10n_29 := Lib.hid (E10n_28.out.step hb29)
    have It_29 := Lib.hid (It_28.out.stepT hb29)
    have Ii_29 := Lib.hid (Ii_28.out.step hb29)
    have Ij_29 := Lib.hid (Ij_28.out.step hb29)
    clear hb29
    go_wp2
    go_ret
    exact ⟨rfl, HB29.out⟩
end Go.Proofs.YtadjoiahllekdaaGreatDoor.num
