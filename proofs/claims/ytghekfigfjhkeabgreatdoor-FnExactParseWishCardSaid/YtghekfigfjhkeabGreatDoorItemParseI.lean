/-
  ParseItem, the program's: contract.
-/
import Derived.Test.YtghekfigfjhkeabGreatDoorPieceMath
import Derived.Test.YtghekfigfjhkeabGreatDoorParseI
namespace Go.Proofs.YtghekfigfjhkeabGreatDoor.num
open Go.RowKit
set_option linter.unusedVariables false

/-- The library's variable MaxLen holds some int. -/
def Mx (w : World) : Prop := ∃ m, w.cell? ⟨1, 0, none⟩ = some (.int .i64 m)
theorem Mx.below {w w' : World} (h : Mx w) (hb : Below w.heap.size w w') : Mx w' := by
  obtain ⟨m, hm⟩ := h
  exact ⟨m, (hb.cell (p := ⟨1, 0, none⟩) (World.block_lt_of_cell? w _ hm)).trans hm⟩
theorem piece_le {c : UInt8} {l p : List UInt8} (h : p ∈ pieces c l) : p.length ≤ l.length := by
  have h1 := pieces_len c l
  obtain ⟨x, t, e⟩ := pieces_ne c l
  have h2 : ∀ (L : List (List UInt8)), p ∈ L → p.length ≤ (L.map List.length).sum := by
    intro L
    induction L with
    | nil => intro h; cases h
    | cons a L ih =>
      intro h
      simp only [List.map_cons, List.sum_cons]
      rcases List.mem_cons.1 h with rfl | h
      · omega
      · have := ih h; omega
  have h3 := h2 _ h
  rw [e] at h1 h3
  simp only [List.length_cons] at h1
  omega
theorem pieces_count (c : UInt8) (l : List UInt8) : (pieces c l).length ≤ l.length + 1 := by have := pieces_len c l; omega

theorem split_c (s : ByteArray) (hs : s.size ≤ 1048576) (w : World) (hm : Mx w) :
    Calls Tryz.prog 46 #[.string s, .string ⟨#[44]⟩] w fun e w' => ∃ ps : List ByteArray, ps.map (·.data.toList) = pieces 44 s.data.toList ∧ e = .returned (.slice (some ⟨w.heap.size, 0, none⟩) ps.length ps.length) ∧ w.alloc (.cells (ps.map Value.string).toArray 9) = w' := by
  obtain ⟨m, hm⟩ := hm
  refine (Tryz.strings_Split s ⟨#[44]⟩ m w (by omega) hm (by decide)).mono fun e w' ⟨he, hw⟩ => ?_
  refine ⟨Lib.splitB ⟨#[44]⟩ 0 (Lib.countB s ⟨#[44]⟩) s, splitB_pieces 44 s, ?_, hw.symm⟩
  rw [he, Lib.splitB_all ⟨#[44]⟩ (by decide) 0 _ s rfl]

theorem str_at {ps : List ByteArray} {L : List (List UInt8)} (h : ps.map (·.data.toList) = L) {k : Nat} (hk : k < ps.length) : ∃ p, ps[k]? = some p ∧ L[k]? = some p.data.toList := by
  refine ⟨ps[k], List.getElem?_eq_getElem hk, ?_⟩
  rw [← h, List.getElem?_map, List.getElem?_eq_getElem hk]; rfl
theorem int_step {L : List (List UInt8)} {k n : Nat} {p : List UInt8} (hp : L[k]? = some p) (j : Nat) :
    (if j = k then (Value.int .i64 (pVal p)) else if j < k then .int .i64 ((L.map pVal).getD j 0) else .int .i64 0) = (if j < k + 1 then Value.int .i64 ((L.map pVal).getD j 0) else .int .i64 0) := by
  by_cases h1 : j = k
  · subst h1
    rw [if_pos rfl, if_pos (by omega)]
    simp [List.getD_eq_getElem?_getD, hp]
  · by_cases h2 : j < k
    · rw [if_neg h1, if_pos h2, if_pos (by omega)]
    · rw [if_neg h1, if_neg h2, if_neg (by omega)]

/-- What splitInts hands back. -/
def Vals (w : World) (B : Nat) (L : List (List UInt8)) (v : Value) (ok : Bool) : Prop :=
  (ok = false ∧ allOk L = false ∧ v = .slice none 0 0) ∨ (ok = true ∧ allOk L = true ∧ ∃ b, v = .slice (some ⟨b, 0, none⟩) L.length L.length ∧ B ≤ b ∧ IntRow w b (L.map pVal))

set_option maxRecDepth 20000 in
theorem splitInts (s : ByteArray) (hs : s.size ≤ 1048576) (w : World) (hpow : Pow w) (hmx : Mx w) (L : List (List UInt8)) (hL : pieces 44 s.data.toList = L) :
    Calls Tryz.prog 31 #[.string s, .string ⟨#[44]⟩, .func (.func 29) #[] #[]] w fun e w' => (∃ v ok, e = .returned (.tuple #[v, .bool ok]) ∧ Vals w' w.heap.size L v ok) ∧ Below w.heap.size w w' := by
  have HP := Lib.hid hpow
  have HM := Lib.hid hmx
  have HL0 := Lib.hid hL
  clear hpow hmx hL
  go_enter Tryz.func31, Tryz.ntmps31
  go_wp2_with fail
  refine (split_c s hs w HM.out).mono ?_
  rintro e w0 ⟨ps, hps, rfl, rfl⟩
  have hL := HL0.out
  rw [hL] at hps
  have hlen : L.length ≤ 1048577 := by
    rw [← hL]
    have h1 := pieces_count 44 s.data.toList
    have h2 : s.data.toList.length = s.size := by rw [Array.length_toList]; rfl
    omega
  have hle : ∀ p ∈ L, p.length ≤ 1048576 := by
    intro p hp
    rw [← hL] at hp
    have h1 := piece_le hp
    have h2 : s.data.toList.length = s.size := by rw [Array.length_toList]; rfl
    omega
  have hpl : L.length = ps.length := by rw [← hps, List.length_map]
  obtain ⟨n, hn⟩ : ∃ n, ps.length = n := ⟨_, rfl⟩
  rw [hn] at hpl
  have HLn := Lib.hid hpl
  have hnb : n ≤ 1048577 := by omega
  rw [hn]
  have HPS := Lib.hid hps
  have HN := Lib.hid hn
  have HLe := Lib.hid hle
  obtain ⟨ws, hws⟩ : ∃ ws, ws = w.alloc (.cells (ps.map Value.string).toArray 9) := ⟨_, rfl⟩
  have hsz : w.heap.size < ws.heap.size := by rw [hws]; simp
  have HW0 := Lib.hid (show Below w.heap.size w ws by rw [hws]; exact (Below.refl _ w).alloc (Nat.le_refl _) _)
  have HC : Hid (∀ k p, ps[k]? = some p → ws.cell? ⟨w.heap.size, k, none⟩ = some (.string p)) := Lib.hid fun k p hp => by
    rw [hws, World.cell?_alloc_at _ _ _ _ rfl]
    simp [hp]
  have hmk := run_make_row' (P := Tryz.prog) 22 3 (.int .i64 0) 8 Tryz.underlying22 info_int rfl .i64 .i64 n (by omega) (by omega)
  rw [← hws]
  clear hL hlen hle hpl hps hn hws
  go_wp2
  clear hmk
  go_loopw [22] (fun i wr => ∃ k : Nat, k ≤ n ∧ i = .int .i64 k ∧ wr.rowIs ws.heap.size 3 n (fun j => if j < k then .int .i64 ((L.map pVal).getD j 0) else .int .i64 0) ∧ (∀ p ∈ L.take k, pOk p = true) ∧ Below ws.heap.size ws wr) (fun i _ => n - (intOf i).toNat)
  case atStart =>
    exact ⟨0, Nat.zero_le _, rfl, by simpa using World.rowIs_made ws (.int .i64 0) n 3, by simp, (Below.refl _ _).alloc (Nat.le_refl _) _⟩
  case round =>
    obtain ⟨k, hk, rfl, hrow, hall, hbel⟩ := hrel
    have HR := Lib.hid hrow
    have HA := Lib.hid hall
    have HB := Lib.hid hbel
    have HBw := Lib.hid (HW0.out.trans (hbel.mono HW0.out.size))
    clear hall
    by_cases hlt : k < n
    · obtain ⟨p, hp1, hp2⟩ := str_at HPS.out (k := k) (by rw [HN.out]; exact hlt)
      have f1 : wr.cell? ⟨w.heap.size, k, none⟩ = some (.string p) := (hbel.cell (p := ⟨w.heap.size, k, none⟩) hsz).trans (HC.out k p hp1)
      have HP2 := Lib.hid hp2
      have hpsz : Hid (p.size ≤ 1048576) := Lib.hid (by
        have h1 := HLe.out _ (mem_of_at hp2)
        have h2 : p.data.toList.length = p.size := by rw [Array.length_toList]; rfl
        omega)
      generalize hv : pVal p.data.toList = v
      generalize ho : pOk p.data.toList = ok
      have HV := Lib.hid hv
      have HO := Lib.hid ho
      clear hp1 hp2 hrow hbel hv ho
      go_wp2_with fail
      refine (iParse p hpsz.out wr (HP.out.below HBw.out)).mono ?_
      rintro e w1 ⟨rfl, hb⟩
      rw [HV.out, HO.out]
      have hrow1 := rowIs_below HR.out hb (World.rowIs.lt HR.out)
      have g1 : w1.cell? ⟨ws.heap.size, k, none⟩ = some (.int .i64 0) := by rw [World.rowIs.cell hrow1 hlt, if_neg (by omega)]
      have g2 := World.rowIs.frozen hrow1 k
      have HR1 := Lib.hid hrow1
      have HB1 := Lib.hid (HB.out.trans (hb.mono HB.out.size))
      clear hb hrow1 f1
      cases ok
      · have HF : Hid (allOk L = false) := Lib.hid (by
          cases h : allOk L with
          | false => rfl
          | true =>
            have := List.all_eq_true.1 h _ (mem_of_at HP2.out)
            rw [HO.out] at this; cases this)
        go_wp2
        go_ret2
        exact ⟨⟨_, _, rfl, .inl ⟨rfl, HF.out, rfl⟩⟩, HW0.out.trans (HB1.out.mono HW0.out.size)⟩
      · go_wp2
        go_roundw
        case rel =>
          refine ⟨k + 1, by omega, by go_num, (World.rowIs.set HR1.out k (.int .i64 v)).congr (fun j _ => by rw [← HV.out]; exact int_step (n := n) HP2.out j), ?_, HB1.out.setCell (Nat.le_refl _) _⟩
          rw [take_at HP2.out]
          intro u hu
          rcases List.mem_append.1 hu with h | h
          · exact HA.out u h
          · obtain rfl := List.mem_singleton.1 h
            exact HO.out
        case measure => simp [intOf]; omega
    · obtain rfl : k = n := by omega
      have HT : Hid (allOk L = true) := Lib.hid (List.all_eq_true.2 (by have := HA.out; rwa [take_all HLn.out] at this))
      clear hrow hbel
      go_wp2
      go_ret2
      refine ⟨⟨_, _, rfl, .inr ⟨rfl, HT.out, ws.heap.size, by rw [HLn.out]; rfl, by omega, ?_⟩⟩, HBw.out⟩
      unfold IntRow
      rw [List.length_map, HLn.out]
      exact HR.out.congr (fun j hj => by rw [if_pos hj])

/-- Two cells. -/
def Box2g (w : World) (g : Nat) (u v : Value) : Prop := w.cell? ⟨g, 0, none⟩ = some u ∧ w.cell? ⟨g, 1, none⟩ = some v
/-- What ParseItem hands back: t's slice is nothing, or a block of the call's own. -/
def Made (w : World) (B : Nat) (t : It) (ok : Bool) : Prop := (ok = false ∧ t = ⟨0, none, 0, 0, []⟩) ∨ (ok = true ∧ ∃ b, t.A = some ⟨b, 0, none⟩ ∧ t.n = 3 ∧ t.xs.length = 3 ∧ B ≤ b ∧ IntRow w b t.xs)
theorem two_set {w : World} {g : Nat} {t : TypeId} {u0 u1 v0 v1 : Value} (h : w.heap[g]? = some (.cells #[u0, u1] t (0, 0))) :
    ((w.setCell ⟨g, 0, none⟩ v0).setCell ⟨g, 1, none⟩ v1).heap[g]? = some (.cells #[v0, v1] t (0, 0)) := by
  have h := heap_setCell_same _ g 1 _ _ v1 (heap_setCell_same w g 0 _ _ v0 h)
  simpa using h
theorem set_alloc {w : World} {g : Nat} {t : TypeId} {u0 u1 v0 v1 : Value} (h : w.heap[g]? = some (.cells #[u0, u1] t (0, 0))) (o : Obj) :
    (((w.setCell ⟨g, 0, none⟩ v0).setCell ⟨g, 1, none⟩ v1).alloc o).heap[g]? = some (.cells #[v0, v1] t (0, 0)) :=
  (Below.heap_alloc _ _ _ (lt_of_block (two_set h))).trans (two_set h)
theorem size_list (s : ByteArray) : s.data.toList.length = s.size := by rw [Array.length_toList]; rfl
theorem size_mk (l : List UInt8) : (⟨l.toArray⟩ : ByteArray).size = l.length := by simp [ByteArray.size]
theorem cut_le (c : UInt8) : ∀ l : List UInt8, (Lib.cut l [c]).1.length ≤ l.length ∧ (Lib.cut l [c]).2.1.length ≤ l.length
  | [] => by simp [Lib.cut, Lib.index]
  | b :: l => by
    have ih := cut_le c l
    rw [cut_cons]
    split
    · simp
    · split
      · simp only [List.length_cons]; omega
      · simp

end Go.Proofs.YtghekfigfjhkeabGreatDoor.num
