/-
  The laws' own helpers on slices of items: measure, copy, compare.
-/
import Derived.Test.YtceiocdemhkcdaaGreatItemRow
import Derived.Deep.RegionWith
import Derived.StillTailTactics
namespace Go.Proofs.YtceiocdemhkcdaaGreat.num
set_option maxRecDepth 20000
open Go.RowKit

def It.dat (t : It) : Int × List Int := (t.id, t.xs)
/-- Cell j of the block of a slice of items; behind the last item: zero. -/
def itemCell (its : List It) (j : Nat) : Value :=
  match its[j / 2]? with
  | some t => if j % 2 = 0 then .int .i64 t.id else .slice t.A t.n t.c
  | none => if j % 2 = 0 then .int .i64 0 else .slice none 0 0
theorem itemCell_even {its : List It} {k : Nat} {t : It} (h : its[k]? = some t) : itemCell its (k * 2) = .int .i64 t.id := by
  unfold itemCell
  rw [Nat.mul_div_cancel _ (by decide), h]
  simp
theorem itemCell_odd {its : List It} {k : Nat} {t : It} (h : its[k]? = some t) : itemCell its (k * 2 + 1) = .slice t.A t.n t.c := by
  unfold itemCell
  rw [show (k * 2 + 1) / 2 = k by omega, h]
  simp only
  rw [if_neg (by omega)]
theorem itemCell_even0 {its : List It} {k : Nat} (h : its.length = k) : itemCell its (k * 2) = .int .i64 0 := by
  unfold itemCell
  rw [Nat.mul_div_cancel _ (by decide), List.getElem?_eq_none (by omega)]
  simp
theorem itemCell_odd0 {its : List It} {k : Nat} (h : its.length = k) : itemCell its (k * 2 + 1) = .slice none 0 0 := by
  unfold itemCell
  rw [show (k * 2 + 1) / 2 = k by omega, List.getElem?_eq_none (by omega)]
  simp only
  rw [if_neg (by omega)]
theorem itemCell_snoc {its : List It} {k : Nat} (h : its.length = k) (t : It) (j : Nat) :
    (if j = k * 2 + 1 then .slice t.A t.n t.c else if j = k * 2 then .int .i64 t.id else itemCell its j) = itemCell (its ++ [t]) j := by
  have hk : (its ++ [t])[k]? = some t := by rw [List.getElem?_append_right (by omega)]; simp [h]
  by_cases h1 : j = k * 2 + 1
  · subst h1
    rw [if_pos rfl, itemCell_odd hk]
  · by_cases h2 : j = k * 2
    · subst h2
      rw [if_neg h1, if_pos rfl, itemCell_even hk]
    · rw [if_neg h1, if_neg h2]
      have hj : j / 2 ≠ k := by omega
      unfold itemCell
      rcases Nat.lt_or_ge (j / 2) k with h3 | h3
      · rw [List.getElem?_append_left (by omega)]
      · rw [List.getElem?_eq_none (by omega), List.getElem?_eq_none (by simp; omega)]

/-- An item whose slice is a block of the call's own, behind block b. -/
def OwnIt (w : World) (b : Nat) (t : It) : Prop := ∃ bk, t.A = some ⟨bk, 0, none⟩ ∧ b < bk ∧ t.n = t.xs.length ∧ t.c = t.n ∧ IntRow w bk t.xs
theorem OwnIt.below {w w' : World} {b : Nat} {t : It} (h : OwnIt w b t) (hb : Below w.heap.size w w') : OwnIt w' b t := by
  obtain ⟨bk, h1, h2, h3, h4, h5⟩ := h
  exact ⟨bk, h1, h2, h3, h4, h5.below hb h5.lt⟩
theorem OwnIt.set {w : World} {b : Nat} {t : It} (h : OwnIt w b t) (j : Nat) (v : Value) : OwnIt (w.setCell ⟨b, j, none⟩ v) b t := by
  obtain ⟨bk, h1, h2, h3, h4, h5⟩ := h
  exact ⟨bk, h1, h2, h3, h4, World.rowIs.setOther h5 (by show bk ≠ b; omega) v⟩
/-- Block b is a row of items of the call's own, each with its own block behind b. -/
structure Fresh (w : World) (b : Nat) (its : List It) : Prop where
  row : w.rowIs b 36 (its.length * 2) (itemCell its)
  own : ∀ t ∈ its, OwnIt w b t
theorem Fresh.lt {w : World} {b : Nat} {its : List It} (h : Fresh w b its) : b < w.heap.size := World.rowIs.lt h.row
theorem Fresh.below {w w' : World} {b : Nat} {its : List It} (h : Fresh w b its) (hb : Below w.heap.size w w') : Fresh w' b its :=
  ⟨rowIs_below h.row hb h.lt, fun t ht => (h.own t ht).below hb⟩
theorem Fresh.items {w : World} {b B : Nat} {its : List It} (h : Fresh w b its) (hB : w.heap.size ≤ B) : Items w B (some ⟨b, 0, none⟩) its.length its :=
  ⟨rfl, fun k hk => by
    have hg : its[k]? = some its[k] := List.getElem?_eq_getElem hk
    have hlt := h.lt
    obtain ⟨bk, h1, _, h3, _, h5⟩ := h.own its[k] (List.getElem_mem hk)
    refine ⟨b, 0, rfl, by omega, ?_, ?_, ?_⟩
    · rw [Nat.zero_add, World.rowIs.cell h.row (by omega), itemCell_even hg]
    · rw [Nat.zero_add, World.rowIs.cell h.row (by omega), itemCell_odd hg]
    · rw [h1, h3]; exact h5.ints (by have := h5.lt; omega)⟩
/-- What is known of item k. -/
theorem Items.at {w : World} {B : Nat} {A : Option Addr} {n : Nat} {its : List It} (h : Items w B A n its) (k : Nat) (hk : k < n) :
    ∃ (b off : Nat) (t : It), A = some ⟨b, off, none⟩ ∧ b < B ∧ its[k]? = some t ∧ w.cell? ⟨b, off + k * 2, none⟩ = some (.int .i64 t.id) ∧ w.cell? ⟨b, off + k * 2 + 1, none⟩ = some (.slice t.A t.n t.c) ∧ Ints w B t.A t.n t.xs := by
  have hl := h.1
  obtain ⟨b, off, h1, h2, h3, h4, h5⟩ := h.2 k (by omega)
  exact ⟨b, off, its[k], h1, h2, List.getElem?_eq_getElem _, h3, h4, h5⟩
theorem mem_of_at {α : Type} {l : List α} {k : Nat} {t : α} (h : l[k]? = some t) : t ∈ l := List.mem_of_getElem? h
theorem take_at {α : Type} {l : List α} {k : Nat} {t : α} (h : l[k]? = some t) : l.take (k + 1) = l.take k ++ [t] := by
  rw [List.take_add_one, h]; rfl
theorem below_drewN {B : Nat} {a w : World} (h : Below B a w) (n : Nat) : Below B a (w.drewN n) := ⟨h.os, h.tape, h.output, h.size, h.block⟩
theorem take_all {α : Type} {l : List α} {n : Nat} (h : l.length = n) : l.take n = l := List.take_of_length_le (by omega)

theorem info_item : (Tryz.prog.info? 36).map (fun i => (i.zero, i.size, i.bytes)) = some (some (.agg #[.int .i64 0, .slice none 0 0]), 2, 32) := by kernel_rfl
theorem make_items (n : Nat) (hn : n ≤ 1048576) (w : World) :
    (Instr.makeSlice 24 (.int .i64 (n : Int)) (.int .i64 (n : Int))).run Tryz.prog w = .ok (.slice (some ⟨w.heap.size, 0, none⟩) n n) (w.alloc (.cells (madeCells #[.int .i64 0, .slice none 0 0] (n * 2)) 36)) := by
  obtain ⟨i, hi, hzz⟩ := Option.map_eq_some_iff.1 info_item
  simp only [Prod.mk.injEq] at hzz
  obtain ⟨hz, hs, hb⟩ := hzz
  have hr := run_make (P := Tryz.prog) w _ _ i _ Tryz.underlying24 hi hz .i64 .i64 n n (by omega) (Int.le_refl _) (by rw [hb]; omega) (by omega)
  rw [hs] at hr
  simp only [Int.toNat_natCast] at hr
  exact hr
theorem made_items (w : World) (n : Nat) : (w.alloc (.cells (madeCells #[.int .i64 0, .slice none 0 0] (n * 2)) 36)).rowIs w.heap.size 36 (n * 2) (itemCell []) :=
  ⟨_, heap_alloc_new w _, size_madeCells _ _, fun i hi => by
    have h : (madeCells #[.int .i64 0, .slice none 0 0] (n * 2))[i]? = some (#[(.int .i64 0 : Value), .slice none 0 0][i % 2]!) := by simp [madeCells, hi]
    rw [h]
    unfold itemCell
    rcases Nat.mod_two_eq_zero_or_one i with h1 | h1 <;> rw [h1] <;> rfl⟩

/-- The law's measure: less than 0, or every slice is at most as long as what was left. -/
theorem szItems (w : World) (B : Nat) (A : Option Addr) (n c : Nat) (its : List It) (hi : Items w B A n its) (hB : B ≤ w.heap.size) (hn : n ≤ 9223372036854775807) (hN : ∀ t ∈ its, t.n ≤ 9223372036854775807) (left : Int) (h0 : 0 ≤ left) (h1 : left ≤ 1048576) :
    Calls Tryz.prog 35 #[.slice A n c, .int .i64 left] w fun e w' => (∃ r : Int, e = .returned (.int .i64 r) ∧ (r = -1 ∨ (0 ≤ r ∧ r ≤ left ∧ n ≤ left ∧ ∀ t ∈ its, (t.n : Int) ≤ left))) ∧ Below w.heap.size w w' := by
  have HX := Lib.hid hi
  have HN := Lib.hid hN
  clear hi hN
  by_cases hle : (n : Int) ≤ left
  · go_enter Tryz.func35, Tryz.ntmps35
    go_wp2
    go_loopw [1, 5] (fun l i wr => ∃ (k : Nat) (r : Int), k ≤ n ∧ i = .int .i64 k ∧ l = .int .i64 r ∧ 0 ≤ r ∧ r ≤ left ∧ (∀ t ∈ its.take k, (t.n : Int) ≤ left) ∧ Below w.heap.size w wr) (fun _ i _ => n - (intOf i).toNat)
    case atStart => exact ⟨0, left - n, Nat.zero_le _, rfl, by go_num, by omega, by omega, by simp, Below.refl _ _⟩
    case round =>
      obtain ⟨k, r, hk, rfl, rfl, hr0, hr1, hall, hbel⟩ := hrel
      have HA := Lib.hid hall
      have HB := Lib.hid hbel
      clear hall
      by_cases hlt : k < n
      · obtain ⟨b, off, t, rfl, hb, hat, hc1, hc2, hx⟩ := HX.out.at k hlt
        have g1 := (hbel.cell (p := ⟨b, off + k * 2, none⟩) (by exact Nat.lt_of_lt_of_le hb hB)).trans hc1
        have g2 := (hbel.cell (p := ⟨b, off + k * 2 + 1, none⟩) (by exact Nat.lt_of_lt_of_le hb hB)).trans hc2
        have HT := Lib.hid hat
        have htn := HN.out t (mem_of_at hat)
        clear hat hc1 hc2 hx hbel
        by_cases ht : (t.n : Int) ≤ r
        · go_wp2_with fail
          refine (szItem_yes t r htn ht (by omega) _).mono ?_
          rintro e w1 ⟨rfl, hb1⟩
          go_wp2
          go_roundw
          case rel =>
            refine ⟨k + 1, r - t.n, by omega, by go_num, by go_num, by omega, by omega, ?_, HB.out.trans (hb1.mono HB.out.size)⟩
            rw [take_at HT.out]
            intro u hu
            rcases List.mem_append.1 hu with h | h
            · exact HA.out u h
            · obtain rfl := List.mem_singleton.1 h
              omega
          case measure => simp [intOf]; omega
        · go_wp2_with fail
          refine (szItem_no t r htn (by omega) hr0 _).mono ?_
          rintro e w1 ⟨rfl, hb1⟩
          go_wp2
          go_ret
          exact ⟨⟨_, rfl, .inl rfl⟩, HB.out.trans (hb1.mono HB.out.size)⟩
      · obtain rfl : k = n := by omega
        clear hbel
        go_wp2
        go_ret
        refine ⟨⟨r, rfl, .inr ⟨hr0, hr1, hle, fun t ht => HA.out t ?_⟩⟩, HB.out⟩
        rw [take_all HX.out.1]; exact ht
  · go_enter Tryz.func35, Tryz.ntmps35
    go_wp2
    go_ret
    exact ⟨⟨_, rfl, .inl rfl⟩, Below.refl _ _⟩

theorem toItems (w : World) (B : Nat) (A : Option Addr) (n c : Nat) (its : List It) (hi : Items w B A n its) (hB : B ≤ w.heap.size) (hn : n ≤ 1048576) (hN : ∀ t ∈ its, t.n ≤ 1048576) :
    Calls Tryz.prog 37 #[.slice A n c] w fun e w' => ∃ its', e = .returned (.slice (some ⟨w.heap.size, 0, none⟩) n n) ∧ its'.map It.dat = its.map It.dat ∧ Fresh w' w.heap.size its' ∧ Below w.heap.size w w' := by
  have HX := Lib.hid hi
  have HN := Lib.hid hN
  have hmk := make_items n hn
  clear hi hN
  go_enter Tryz.func37, Tryz.ntmps37
  go_wp2
  clear hmk
  go_loopw [4] (fun i wr => ∃ (k : Nat) (its' : List It), k ≤ n ∧ i = .int .i64 k ∧ its'.length = k ∧ its'.map It.dat = (its.take k).map It.dat ∧ wr.rowIs w.heap.size 36 (n * 2) (itemCell its') ∧ (∀ t ∈ its', OwnIt wr w.heap.size t) ∧ Below w.heap.size w wr) (fun i _ => n - (intOf i).toNat)
  case atStart =>
    exact ⟨0, [], Nat.zero_le _, rfl, rfl, rfl, made_items w n, by simp, (Below.refl _ _).alloc (Nat.le_refl _) _⟩
  case round =>
    obtain ⟨k, its', hk, rfl, hl, hdat, hrow, hown, hbel⟩ := hrel
    have HL := Lib.hid hl
    have HD := Lib.hid hdat
    have HR := Lib.hid hrow
    have HO := Lib.hid hown
    have HB := Lib.hid hbel
    clear hl hdat hrow hown
    by_cases hlt : k < n
    · obtain ⟨b, off, t, rfl, hb, hat, hc1, hc2, hx⟩ := HX.out.at k hlt
      have g1 := (hbel.cell (p := ⟨b, off + k * 2, none⟩) (by exact Nat.lt_of_lt_of_le hb hB)).trans hc1
      have g2 := (hbel.cell (p := ⟨b, off + k * 2 + 1, none⟩) (by exact Nat.lt_of_lt_of_le hb hB)).trans hc2
      have HT := Lib.hid hat
      have HI := Lib.hid (hx.below (hbel.mono hB))
      have htn := Lib.hid (HN.out t (mem_of_at hat))
      have hsz := Lib.hid hbel.size
      clear hat hc1 hc2 hx hbel
      go_wp2_with fail
      refine (toItem_c wr B t HI.out (Nat.le_trans hB hsz.out) htn.out).mono ?_
      rintro e w1 ⟨bk, rfl, hbk, hrow2, hb1⟩
      have hlt1 : w.heap.size < wr.heap.size := World.rowIs.lt HR.out
      have hrow1 := rowIs_below HR.out hb1 hlt1
      have q1 : w1.cell? ⟨w.heap.size, k * 2, none⟩ = some (.int .i64 0) := by rw [World.rowIs.cell hrow1 (by omega), itemCell_even0 HL.out]
      have q2 : w1.cell? ⟨w.heap.size, k * 2 + 1, none⟩ = some (.slice none 0 0) := by rw [World.rowIs.cell hrow1 (by omega), itemCell_odd0 HL.out]
      have q3 := World.rowIs.frozen hrow1 (k * 2)
      have q4 := World.rowIs.frozen hrow1 (k * 2 + 1)
      have HR1 := Lib.hid hrow1
      have HR2 := Lib.hid hrow2
      have HB1 := Lib.hid hb1
      have HK := Lib.hid hbk
      clear hrow1 hrow2 hb1 g1 g2 hbk
      unfold It.val
      go_wp2
      go_roundw
      case rel =>
        refine ⟨k + 1, its' ++ [⟨t.id, some ⟨bk, 0, none⟩, t.n, t.n, t.xs⟩], by omega, by go_num, by rw [List.length_append, HL.out]; rfl, ?_, ?_, ?_, ?_⟩
        · rw [take_at HT.out, List.map_append, List.map_append, HD.out]; rfl
        · exact (World.rowIs.set (World.rowIs.set HR1.out (k * 2) (.int .i64 t.id)) (k * 2 + 1) (.slice (some ⟨bk, 0, none⟩) t.n t.n)).congr (fun j _ => itemCell_snoc HL.out ⟨t.id, some ⟨bk, 0, none⟩, t.n, t.n, t.xs⟩ j)
        · intro u hu
          rcases List.mem_append.1 hu with h | h
          · exact (((HO.out u h).below HB1.out).set _ _).set _ _
          · obtain rfl := List.mem_singleton.1 h
            have h0 : OwnIt w1 w.heap.size ⟨t.id, some ⟨bk, 0, none⟩, t.n, t.n, t.xs⟩ := ⟨bk, rfl, by have := HK.out; omega, HI.out.1.symm, rfl, HR2.out⟩
            exact (h0.set _ _).set _ _
        · exact ((HB.out.trans (HB1.out.mono (by have := hsz.out; omega))).setCell (Nat.le_refl _) _).setCell (Nat.le_refl _) _
      case measure => simp [intOf]; omega
    · obtain rfl : k = n := by omega
      clear hbel
      go_wp2
      go_ret
      have hlen := HX.out.1
      refine ⟨its', rfl, by rw [HD.out, take_all hlen], ⟨?_, HO.out⟩, HB.out⟩
      rw [HL.out]; exact HR.out

theorem eqItem_c (w : World) (B : Nat) (t t' : It) (h1 : Ints w B t.A t.n t.xs) (h2 : Ints w B t'.A t'.n t'.xs) (hB : B ≤ w.heap.size) (hn : t.n ≤ 1048576) (b : Bool) (hb : b = true ↔ t.dat = t'.dat) :
    Calls Tryz.prog 77 #[t.val, t'.val] w fun e w' => e = .returned (.bool b) ∧ Below w.heap.size w w' := by
  obtain ⟨id, A, n, c, xs⟩ := t
  obtain ⟨id', A', n', c', xs'⟩ := t'
  unfold It.val
  simp only [It.dat, Prod.mk.injEq] at h1 h2 hn hb ⊢
  have H1 := Lib.hid h1
  have H2 := Lib.hid h2
  have HB := Lib.hid hb
  clear h1 h2 hb
  by_cases he : id = id'
  · subst he
    have hB2 : ∀ o1 o2 : Obj, Below B w ((w.alloc o1).alloc o2) := fun o1 o2 => ((Below.refl B w).alloc hB _).alloc (by simp; omega) _
    have HB2 := Lib.hid hB2
    clear hB2
    go_enter Tryz.func77, Tryz.ntmps77
    go_wp2_with fail
    refine (eqInts _ B A A' n n' c c' xs xs' (H1.out.below (HB2.out _ _)) (H2.out.below (HB2.out _ _)) hn b (by rw [HB.out]; simp)).mono ?_
    rintro e w1 ⟨rfl, m, rfl⟩
    cases b
    · go_wp2
      go_ret
      exact ⟨rfl, below_drewN (((Below.refl _ w).alloc (Nat.le_refl _) _).alloc (by simp) _) m⟩
    · go_wp2
      go_ret
      exact ⟨rfl, below_drewN (((Below.refl _ w).alloc (Nat.le_refl _) _).alloc (by simp) _) m⟩
  · obtain rfl : b = false := by
      cases b
      · rfl
      · exact absurd (HB.out.1 rfl).1 he
    have hne : (id != id') = true := by simpa using he
    clear he
    go_enter Tryz.func77, Tryz.ntmps77
    go_wp2
    go_ret
    exact ⟨rfl, ((Below.refl _ w).alloc (Nat.le_refl _) _).alloc (by simp) _⟩
end Go.Proofs.YtceiocdemhkcdaaGreat.num
