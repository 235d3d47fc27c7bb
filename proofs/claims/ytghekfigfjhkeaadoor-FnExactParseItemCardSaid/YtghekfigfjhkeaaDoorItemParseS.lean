/-
  ParseItem, the model's: contract.
-/
import Derived.Test.YtghekfigfjhkeaaDoorItemCut
import Derived.Test.YtghekfigfjhkeaaDoorItemIds
import Derived.Test.YtghekfigfjhkeaaDoorItemParseI
import Derived.Deep.RegionLaw
namespace Go.Proofs.YtghekfigfjhkeaaDoor.num
open Go.RowKit
set_option linter.unusedVariables false

theorem grown_of {w w' : World} {B : Nat} (row : Option Nat) (h : Below B w w') (hB : w.heap.size ≤ B) : w.grownBy w' row := ⟨h.os, h.tape, h.output, h.size, fun i hi _ => h.block i (by omega)⟩
theorem grown_two {a b c : World} {r : Option Nat} (h : a.grownBy b r) (k : b.grownBy c r) : a.grownBy c r :=
  ⟨k.os.trans h.os, k.tape.trans h.tape, k.output.trans h.output, Nat.le_trans h.size k.size, fun i hi hne => (k.block i (Nat.lt_of_lt_of_le hi h.size) hne).trans (h.block i hi hne)⟩
theorem grown_app {a b c : World} {r : Option Nat} (h : a.grownBy b r) (k : Below a.heap.size b c) : a.grownBy c r :=
  ⟨k.os.trans h.os, k.tape.trans h.tape, k.output.trans h.output, Nat.le_trans h.size k.size, fun i hi hne => (k.block i hi).trans (h.block i hi hne)⟩
theorem grown_put {a b : World} {g : Nat} (h : a.grownBy b (some g)) (j : Nat) (v : Value) : a.grownBy (b.setCell ⟨g, j, none⟩ v) (some g) :=
  ⟨h.os, h.tape, h.output, Nat.le_trans h.size (by simp [World.setCell]), fun i hi hne => (Below.heap_setCell b ⟨g, j, none⟩ v i (fun e => hne (by rw [e]))).trans (h.block i hi hne)⟩
theorem grown_low {a b : World} {g B : Nat} (h : a.grownBy b (some g)) (hB : B ≤ g) (hs : B ≤ a.heap.size) : Below B a b :=
  ⟨h.os, h.tape, h.output, h.size, fun i hi => h.block i (by omega) (fun e => by injection e; omega)⟩

theorem step_appI {ops : Array Oper} {o : Oper} {a : Act} {K : Act → World → Prop} {Q : Exit → Act → World → Prop} {E : Prop} (w : World) (hgd : o.guard = none) (s x : Operand)
    (ho : o.op = .call { callee := .builtin .append, args := #[s, x], argTypes := #[29, 29] })
    (B : Nat) (v : Value) (l : List Int) (hs : a.eval s = v) (hown : OwnI w B v l) (cs : Array Value) (new : List Int) (hcs : cs = (new.map (Value.int .i64)).toArray) (n c : Nat) (hn : n = new.length)
    (hx : a.eval x = .slice (some ⟨w.heap.size, 0, none⟩) n c) (hlen : (l.length + new.length) * 8 ≤ 140737488355328) (hB : B ≤ w.heap.size)
    (h : ∀ v' w', OwnI w' B v' (l ++ new) → Below B w w' → K (a.put o.dst v') w') :
    if Region.wanted o (yielded ops a.tmps) = true then Oper.wp Tryd.prog o a (w.alloc (.cells cs 3)) K Q else E := by
  have hw : Region.wanted o (yielded ops a.tmps) = true := by simp [Region.wanted, hgd]
  rw [if_pos hw]
  obtain ⟨i0, hi, hz0, hz1, hz2⟩ := info_parts info_int
  subst hcs hn
  refine wp_append_own _ s x 29 ho B 3 i0 (.int .i64 0) 1 8 Tryd.underlying29 hi hz0 hz1 hz2 rfl (by decide) v l.length (l.map (Value.int .i64)) hs (World.ownsRow.alloc hown _) ⟨w.heap.size, 0, none⟩ new.length c (new.map (Value.int .i64)) hx (by simp) ?_ ?_ (by unfold maxLen; omega) (by omega) (by simp; omega) ?_
  · intro j u hj
    have e : (⟨w.heap.size, 0, none⟩ : Addr).add j = ⟨w.heap.size, j, none⟩ := by unfold Addr.add; split <;> simp_all
    rw [e, World.cell?_alloc_at _ _ _ _ rfl]
    simpa using hj
  · intro u hu
    obtain ⟨b, _, rfl⟩ := List.mem_map.1 hu
    rfl
  · intro v' w' hown' hg _
    refine h v' w' ?_ (((Below.refl B w).alloc hB _).grown hg (by simp; omega) (fun k hk => ?_))
    · have e : (l ++ new).length = l.length + new.length := by simp
      unfold OwnI
      rw [e, List.map_append]
      exact hown'
    · exact (World.ownsRow.lt hown k hk).1

theorem ints_set {w : World} {B g j : Nat} {A : Option Addr} {n : Nat} {xs : List Int} {v : Value} (h : Ints w B A n xs) (hg : ∀ b off : Nat, A = some ⟨b, off, none⟩ → b ≠ g) : Ints (w.setCell ⟨g, j, none⟩ v) B A n xs :=
  ⟨h.1, fun k hk => by
    obtain ⟨b, off, ha, hB, hc⟩ := h.2 k hk
    exact ⟨b, off, ha, hB, (World.cell?_setCell_other _ _ _ _ (fun e => by injection e with e; exact hg b off ha e.symm)).trans hc⟩⟩
theorem OwnI.below {w w' : World} {B : Nat} {v : Value} {l : List Int} (h : OwnI w B v l) (hb : Below w.heap.size w w') : OwnI w' B v l := by
  obtain ⟨h1, h2⟩ := h
  refine ⟨h1, ?_⟩
  rcases h2 with h2 | ⟨g, cap, cur, hv, hg, hh, r⟩
  · exact Or.inl h2
  · exact Or.inr ⟨g, cap, cur, hv, hg, (hb.block g (lt_of_block hh)).trans hh, r⟩
theorem OwnI.low {w : World} {B : Nat} {v : Value} {l : List Int} (h : OwnI w B v l) : ∃ A n c, v = .slice A n c ∧ Ints w w.heap.size A n l ∧ ∀ b off : Nat, A = some ⟨b, off, none⟩ → B ≤ b := by
  obtain ⟨A, n, c, rfl, hi⟩ := h.ints
  refine ⟨A, n, c, rfl, hi, fun b off hA => ?_⟩
  rcases h.2 with ⟨hv, _⟩ | ⟨g, cap, cur, hv, hgB, _, _⟩
  · injection hv with h1; rw [h1] at hA; cases hA
  · injection hv with h1
    rw [h1] at hA
    injection hA with hA
    injection hA with hA
    omega

/-- The loop that reads the values: x lies in block X. -/
def Filled (w3 : World) (X B : Nat) (id : Int) (l : List ByteArray) (k : Nat) (wr : World) : Prop :=
  ∃ v vals, wr.heap[X]? = some (.cells #[.int .i64 id, v] 34 (0, 0)) ∧ OwnI wr B v vals ∧ vals = (l.take k).map (fun p => numS p.data.toList) ∧ w3.grownBy wr (some X)

def SpecPost (s : ByteArray) (w : World) (e : Ending) (w' : World) : Prop := (∃ (t : It) (ok : Bool), e = .returned (.tuple #[t.val, .bool ok]) ∧ Parsed s.data.toList t.dat ok ∧ Ints w' w'.heap.size t.A t.n t.xs ∧ t.n ≤ 1048576) ∧ Below w.heap.size w w'
set_option maxRecDepth 20000 in
set_option maxHeartbeats 1600000 in
theorem sParseItem (s : ByteArray) (hs : s.size ≤ 1048576) (w : World) :
    Calls Tryd.prog 17 #[.string s] w (SpecPost s w) := by
  go_enter Tryd.func17, Tryd.ntmps17
  go_wp2_with fail
  refine (sCut2 s hs 58 _).mono ?_
  rintro e w1 ⟨⟨A, n, cc, l, rfl, hst, hpc⟩, hb1⟩
  have hx := (Below.refl w.heap.size w).alloc (Nat.le_refl _) (.cells #[.int .i64 0, .slice none 0 0] 34)
  have HR1 : Hid (w1.heap[w.heap.size]? = some (.cells #[.int .i64 0, .slice none 0 0] 34 (0, 0))) := Lib.hid ((hb1.block w.heap.size (by simp)).trans (heap_alloc_new w _))
  have HB1 := Lib.hid (hx.trans (hb1.mono hx.size))
  have HPc := Lib.hid hpc
  have HSt := Lib.hid hst
  have hln : l.length = n := hst.1
  have hplen : (pieces 58 s.data.toList).length = n := by rw [← hpc, List.length_map, hln]
  have hn1 : 0 < n := by
    obtain ⟨h, t, e⟩ := pieces_ne 58 s.data.toList
    rw [← hplen, e]; simp
  obtain ⟨p0, hp0⟩ : ∃ p, l[0]? = some p := ⟨l[0]'(by omega), List.getElem?_eq_getElem _⟩
  obtain ⟨b0, off0, rfl, _, hb0, hc0⟩ := hst.2 0 p0 hp0
  rw [Nat.add_zero] at hc0
  have hmem : p0.data.toList ∈ pieces 58 s.data.toList := by rw [← hpc]; exact List.mem_map.2 ⟨p0, mem_of_at hp0, rfl⟩
  have hp0s : Hid (p0.size ≤ 1048576) := Lib.hid (by have := piece_le hmem; rw [list_len, list_len] at this; omega)
  have HP0 := Lib.hid hp0
  have HLn := Lib.hid hln
  have HPl := Lib.hid hplen
  have hn0 : (0 : Int) < (n : Int) := by omega
  clear hst hpc hln hplen hp0 hmem hb1 hx
  generalize hid : numS p0.data.toList = id
  have HId := Lib.hid hid
  clear hid
  go_wp2_with fail
  refine (sNum p0 hp0s.out w1).mono ?_
  rintro e w2 ⟨rfl, hb2⟩
  rw [HId.out]
  have HR2 := Lib.hid ((hb2.block w.heap.size (lt_of_block HR1.out)).trans HR1.out)
  have HB2 := Lib.hid (HB1.out.trans (hb2.mono HB1.out.size))
  have HSt2 := Lib.hid (HSt.out.below hb2)
  have hWX : w.heap.size < w2.heap.size := lt_of_block HR2.out
  have hb02 : b0 < w2.heap.size := by have := hb2.size; omega
  clear hb2 hc0
  have HSp : Hid (specD s.data.toList = (id, if n = 2 then (pieces 44 ((pieces 58 s.data.toList).getD 1 [])).map numS else [])) := Lib.hid (by
    unfold specD
    rw [HPl.out, ← HId.out, ← HPc.out]
    simp [List.getD_eq_getElem?_getD, HP0.out])
  obtain ⟨X, hX⟩ : ∃ X, X = w2.heap.size := ⟨_, rfl⟩
  have HXe := Lib.hid hX
  clear hX
  by_cases h2 : n = 2
  · subst h2
    have hl2 : l.length = 2 := HLn.out
    obtain ⟨p1, hp1⟩ : ∃ p, l[1]? = some p := ⟨l[1]'(by omega), List.getElem?_eq_getElem _⟩
    obtain ⟨b1, off1, hA1, _, hb1, hc1⟩ := HSt2.out.2 1 p1 hp1
    obtain ⟨rfl, rfl⟩ : b0 = b1 ∧ off0 = off1 := by injection hA1 with h; injection h with h1 h2; exact ⟨h1, h2⟩
    have hlen := pieces_len 58 s.data.toList
    have hpe : pieces 58 s.data.toList = [p0.data.toList, p1.data.toList] := by
      have h0 := HP0.out
      rw [← HPc.out]
      match l, hl2, h0, hp1 with
      | [a, b], _, h0, hp1 =>
        simp at h0 hp1
        rw [h0, hp1]; rfl
    rw [hpe] at hlen
    simp only [List.map_cons, List.map_nil, List.sum_cons, List.sum_nil, List.length_cons, List.length_nil] at hlen
    have hp1s : Hid (p1.data.toList.length + 1 ≤ 1048576) := Lib.hid (by rw [list_len s] at hlen; omega)
    have hp1z : p1.size ≤ 1048576 := by have := hp1s.out; rw [list_len] at this; omega
    have HSp2 : Hid (specD s.data.toList = (id, (pieces 44 p1.data.toList).map numS)) := Lib.hid (by rw [HSp.out, if_pos rfl, hpe]; rfl)
    have hcell1 : w2.cell? ⟨b0, off0 + 1, none⟩ = some (.string p1) := hc1
    clear hlen hpe hp1 hA1 hl2
    go_wp2_with fail
    refine (sCut2 p1 hp1z 44 _).mono ?_
    rintro e w3 ⟨⟨A2, n2, c2, l2, rfl, hst2, hpc2⟩, hb3⟩
    have hx2 := (Below.refl w2.heap.size w2).alloc (Nat.le_refl _) (.cells #[.int .i64 id, .slice none 0 0] 34)
    have HX3 : Hid (w3.heap[X]? = some (.cells #[.int .i64 id, .slice none 0 0] 34 (0, 0))) := Lib.hid ((hb3.block X (by rw [HXe.out]; simp)).trans (by rw [HXe.out]; exact heap_alloc_new w2 _))
    have hb3' := hx2.trans (hb3.mono hx2.size)
    have HR3 := Lib.hid ((hb3'.block w.heap.size (lt_of_block HR2.out)).trans HR2.out)
    have HB3 := Lib.hid (HB2.out.trans (hb3'.mono HB2.out.size))
    have hXw : Hid (w.heap.size < X ∧ X < w3.heap.size) := Lib.hid ⟨by rw [HXe.out]; exact hWX, lt_of_block HX3.out⟩
    have HSt3 : Hid (Strs w3 (X + 1) w3.heap.size A2 n2 l2) := Lib.hid (by
      have e : (w2.alloc (.cells #[.int .i64 id, .slice none 0 0] 34)).heap.size = X + 1 := by rw [HXe.out]; simp
      rw [e] at hst2; exact hst2)
    have hn2 : n2 ≤ 1048576 := by
      have h1 := pieces_count 44 p1.data.toList
      have h2 := hp1s.out
      rw [← hpc2, List.length_map, hst2.1] at h1
      omega
    have HPc2 := Lib.hid hpc2
    rw [← HXe.out]
    clear hb3 hb3' hx2 hst2 hpc2 hcell1 hc1
    go_wp2
    go_loopw [7] (fun i wr => ∃ k : Nat, k ≤ n2 ∧ i = .int .i64 k ∧ Filled w3 X w3.heap.size id l2 k wr) (fun i _ => n2 - (intOf i).toNat)
    case atStart => exact ⟨0, Nat.zero_le _, rfl, .slice none 0 0, [], HX3.out, World.ownsRow_nil _ _ _ _, rfl, grown_of _ (Below.refl _ _) (Nat.le_refl _)⟩
    case round =>
      obtain ⟨k, hk, rfl, v, vals, hXr, hown, hvals, hgr⟩ := hrel
      obtain ⟨Av, nv, cv, rfl, hints, hlow⟩ := hown.low
      have HX := Lib.hid hXr
      have HO := Lib.hid hown
      have HVs := Lib.hid hvals
      have HG := Lib.hid hgr
      have hsz3 := Lib.hid hgr.size
      have HRr := Lib.hid ((hgr.block w.heap.size (by have := hXw.out; omega) (fun e => by injection e; have := hXw.out; omega)).trans HR3.out)
      have HBr := Lib.hid (HB3.out.trans (grown_low hgr (by have := hXw.out; omega) (by have := hXw.out; omega)))
      have HI := Lib.hid hints
      have HLo := Lib.hid hlow
      clear hints hlow hown
      by_cases hlt : k < n2
      · obtain ⟨p, hp⟩ : ∃ p, l2[k]? = some p := ⟨l2[k]'(by rw [HSt3.out.1]; exact hlt), List.getElem?_eq_getElem _⟩
        obtain ⟨b2, off2, rfl, hlo2, hb2, hc2⟩ := HSt3.out.2 k p hp
        have f1 : wr.cell? ⟨b2, off2 + k, none⟩ = some (.string p) := (World.cell?_of_block (w := w3) (a := ⟨b2, off2 + k, none⟩) (hgr.block b2 hb2 (fun e => by injection e; omega))).trans hc2
        have x1 : wr.cell? ⟨X, 1, none⟩ = some (.slice Av nv cv) := cell_of_row wr _ 1 _ _ (0, 0) HX.out
        have hlt' : (k : Int) < (n2 : Int) := by omega
        have hpz : Hid (p.size ≤ 1048576) := Lib.hid (by
          have hm : p.data.toList ∈ pieces 44 p1.data.toList := by rw [← HPc2.out]; exact List.mem_map.2 ⟨p, mem_of_at hp, rfl⟩
          have h1 := piece_le hm
          have h2 := hp1s.out
          rw [list_len] at h1
          omega)
        have HPk := Lib.hid hp
        generalize hz : numS p.data.toList = z
        have HZ := Lib.hid hz
        have H4 : Hid ((vals.length + [z].length) * 8 ≤ 140737488355328) := Lib.hid (by
          rw [hvals, List.length_map, List.length_take]
          simp only [List.length_cons, List.length_nil]
          omega)
        clear hXr hvals hgr hp hc2 hz hlo2
        go_wp2
        go_region_law (first
          | (refine step_appI wn (by rfl) (.tmp 29) (.tmp 35) (by rfl) w3.heap.size _ vals (by rfl) HOn.out _ [z] (by rfl) 1 1 rfl (by rfl) H4.out hBn.out ?_; intro v' w5 hown5 hb5; obtain ⟨Av', nv', cv', rfl, _, _⟩ := hown5.low; have HO5 := Lib.hid hown5; have HX5 := Lib.hid ((hb5.block X hXw.out.2).trans HXn.out); have z1 : w5.cell? ⟨X, 1, none⟩ = some (.slice Av nv cv) := cell_of_row w5 _ 1 _ _ (0, 0) HX5.out; have z2 : w5.frozen? ⟨X, 1, none⟩ = false := frozen_of_row w5 _ 1 _ _ HX5.out; have HG5 := Lib.hid (grown_app HGn.out hb5); clear hown5 hb5)
          | (go_simp; go_at_call 45; refine (sNum p hpz.out _).mono ?_; rintro e wn ⟨rfl, hbn⟩; rw [HZ.out]; have HOn := Lib.hid (OwnI.below HO.out ((Below.refl wr.heap.size wr).drew.trans (hbn.mono (Nat.le_refl _)))); have hBn : Hid (w3.heap.size ≤ wn.heap.size) := Lib.hid (Nat.le_trans hsz3.out hbn.size); have HXn : Hid (wn.heap[X]? = some (.cells #[.int .i64 id, .slice Av nv cv] 34 (0, 0))) := Lib.hid ((hbn.block X (lt_of_block HX.out)).trans HX.out); have HGn := Lib.hid (grown_two HG.out (grown_of (some X) ((Below.refl wr.heap.size wr).drew.trans (hbn.mono (Nat.le_refl _))) (Nat.le_refl _))); have x1n : wn.cell? ⟨X, 1, none⟩ = some (.slice Av nv cv) := cell_of_row wn _ 1 _ _ (0, 0) HXn.out; have hXn := lt_of_block HXn.out; clear hbn))
        all_goals
          have HF : Hid (Filled w3 X w3.heap.size id l2 (k + 1) (w5.setCell ⟨X, 1, none⟩ (.slice Av' nv' cv'))) := Lib.hid (by
            refine ⟨.slice Av' nv' cv', vals ++ [z], ?_, ownsRow_setCell_below HO5.out hXw.out.2 _, ?_, grown_put HG5.out 1 _⟩
            · have h := heap_setCell_same w5 X 1 _ _ (.slice Av' nv' cv') HX5.out
              simpa using h
            · rw [take_at HPk.out, List.map_append, HVs.out, ← HZ.out]; rfl)
          go_wp2
          go_roundw
          case rel => exact ⟨k + 1, by omega, by go_num, HF.out⟩
          case measure => simp [intOf]; omega
      · obtain rfl : k = n2 := by omega
        have HD : Hid (specD s.data.toList = (id, vals)) := Lib.hid (by
          rw [HSp2.out, HVs.out, take_all HSt3.out.1, ← HPc2.out, List.map_map]; rfl)
        have hnv : nv ≤ 1048576 := by
          have h1 := HI.out.1
          have h2 := HVs.out
          rw [take_all HSt3.out.1] at h2
          rw [h2, List.length_map, HSt3.out.1] at h1
          omega
        have HLow : Hid (∀ b off : Nat, Av = some ⟨b, off, none⟩ → b ≠ w.heap.size) := Lib.hid fun b off h => by have := HLo.out b off h; have := hXw.out; omega
        clear hXr hvals hgr
        have HE0 : ∀ b : Bool, (b = true ↔ s.data.toList = []) → s.toList.isEmpty = b := fun b hb => by
          rw [ByteArray.toList_eq, Bool.eq_iff_iff, hb, List.isEmpty_iff]
        have d0 : wr.cell? ⟨w.heap.size, 0, none⟩ = some (.int .i64 0) := cell_of_row wr _ 0 _ _ (0, 0) HRr.out
        have d1 : wr.cell? ⟨w.heap.size, 1, none⟩ = some (.slice none 0 0) := cell_of_row wr _ 1 _ _ (0, 0) HRr.out
        have g0 : wr.frozen? ⟨w.heap.size, 0, none⟩ = false := frozen_of_row wr _ 0 _ _ HRr.out
        have g1 : wr.frozen? ⟨w.heap.size, 1, none⟩ = false := frozen_of_row wr _ 1 _ _ HRr.out
        by_cases he : s.data.toList = []
        · have hes := HE0 true (by simp [he])
          have HNo := Lib.hid (parsed_spec_no (s := s) (.inl he))
          clear he HE0
          go_wp2
          refine bodyPost_ret_by (results_row_tmp rfl _ _ w.heap.size 34 _ (0, 0) _ rfl (two_set HRr.out) Tryd.underlying34 rfl (by kernel_rfl)) rfl ?_
          unfold SpecPost
          exact ⟨⟨⟨0, none, 0, 0, []⟩, false, rfl, HNo.out, ⟨rfl, fun k hk => absurd hk (Nat.not_lt_zero k)⟩, by decide⟩, (HBr.out.setCell (Nat.le_refl _) _).setCell (Nat.le_refl _) _⟩
        · have hes := HE0 false (by simp [he])
          obtain ⟨q, hq⟩ := bool_of (textB (id, vals) = s)
          have hcmp : ((textB (id, vals)).toList == s.toList) = q := by
            rw [ByteArray.toList_eq, ByteArray.toList_eq, Bool.eq_iff_iff, beq_iff_eq, hq]
            exact ⟨fun h => bytes_ext h, fun h => by rw [h]⟩
          have HQ := Lib.hid hq
          have HNe := Lib.hid he
          have y0 : wr.cell? ⟨X, 0, none⟩ = some (.int .i64 id) := cell_of_row wr _ 0 _ _ (0, 0) HX.out
          have y1 : wr.cell? ⟨X, 1, none⟩ = some (.slice Av nv cv) := cell_of_row wr _ 1 _ _ (0, 0) HX.out
          clear he HE0 hq d0 d1 g0 g1
          go_wp2_with fail
          refine (sFmt wr wr.heap.size ⟨id, Av, nv, cv, vals⟩ HI.out (Nat.le_refl _) hnv).mono ?_
          rintro e w5 ⟨rfl, hb5⟩
          simp only [It.dat]
          clear y0 y1
          have HX5 := Lib.hid ((hb5.block X (lt_of_block HX.out)).trans HX.out)
          have HR5 := Lib.hid ((hb5.block w.heap.size (lt_of_block HRr.out)).trans HRr.out)
          have HI5 := Lib.hid ((HI.out.below hb5).more hb5.size)
          have HB5 := Lib.hid (HBr.out.trans (hb5.mono HBr.out.size))
          clear hb5
          have x0 : w5.cell? ⟨X, 0, none⟩ = some (.int .i64 id) := cell_of_row w5 _ 0 _ _ (0, 0) HX5.out
          have x1 : w5.cell? ⟨X, 1, none⟩ = some (.slice Av nv cv) := cell_of_row w5 _ 1 _ _ (0, 0) HX5.out
          have d0 : w5.cell? ⟨w.heap.size, 0, none⟩ = some (.int .i64 0) := cell_of_row w5 _ 0 _ _ (0, 0) HR5.out
          have d1 : w5.cell? ⟨w.heap.size, 1, none⟩ = some (.slice none 0 0) := cell_of_row w5 _ 1 _ _ (0, 0) HR5.out
          have g0 : w5.frozen? ⟨w.heap.size, 0, none⟩ = false := frozen_of_row w5 _ 0 _ _ HR5.out
          have g1 : w5.frozen? ⟨w.heap.size, 1, none⟩ = false := frozen_of_row w5 _ 1 _ _ HR5.out
          cases q
          · have HNo := Lib.hid (parsed_spec_no (s := s) (.inr (by rw [HD.out]; intro h; have := HQ.out.2 h; cases this)))
            go_wp2
            refine bodyPost_ret_by (results_row_tmp rfl _ _ w.heap.size 34 _ (0, 0) _ rfl (two_set HR5.out) Tryd.underlying34 rfl (by kernel_rfl)) rfl ?_
            unfold SpecPost
            exact ⟨⟨⟨0, none, 0, 0, []⟩, false, rfl, HNo.out, ⟨rfl, fun k hk => absurd hk (Nat.not_lt_zero k)⟩, by decide⟩, (HB5.out.setCell (Nat.le_refl _) _).setCell (Nat.le_refl _) _⟩
          · have HY := Lib.hid (HD.out ▸ parsed_spec_yes (s := s) HNe.out (by rw [HD.out]; exact HQ.out.1 rfl))
            go_wp2
            refine bodyPost_ret_by (results_row_tmp rfl _ _ w.heap.size 34 _ (0, 0) _ rfl (two_set HR5.out) Tryd.underlying34 rfl (by kernel_rfl)) rfl ?_
            unfold SpecPost
            refine ⟨⟨(⟨id, Av, nv, cv, vals⟩ : It), true, rfl, HY.out, ?_, hnv⟩, (HB5.out.setCell (Nat.le_refl _) _).setCell (Nat.le_refl _) _⟩
            simpa [World.setCell] using ints_set (ints_set HI5.out (j := 0) (v := .int .i64 id) HLow.out) (j := 1) (v := .slice Av nv cv) HLow.out
  · have HD : Hid (specD s.data.toList = (id, [])) := Lib.hid (by rw [HSp.out, if_neg h2])
    have hne2 : ((n : Int) == 2) = false := by rw [beq_eq_false_iff_ne]; omega
    clear h2
    have HE0 : ∀ b : Bool, (b = true ↔ s.data.toList = []) → s.toList.isEmpty = b := fun b hb => by
      rw [ByteArray.toList_eq, Bool.eq_iff_iff, hb, List.isEmpty_iff]
    have d0 : w2.cell? ⟨w.heap.size, 0, none⟩ = some (.int .i64 0) := cell_of_row w2 _ 0 _ _ (0, 0) HR2.out
    have d1 : w2.cell? ⟨w.heap.size, 1, none⟩ = some (.slice none 0 0) := cell_of_row w2 _ 1 _ _ (0, 0) HR2.out
    have g0 : w2.frozen? ⟨w.heap.size, 0, none⟩ = false := frozen_of_row w2 _ 0 _ _ HR2.out
    have g1 : w2.frozen? ⟨w.heap.size, 1, none⟩ = false := frozen_of_row w2 _ 1 _ _ HR2.out
    by_cases he : s.data.toList = []
    · have hes := HE0 true (by simp [he])
      have HNo := Lib.hid (parsed_spec_no (s := s) (.inl he))
      clear he HE0
      go_wp2
      refine bodyPost_ret_by (results_row_tmp rfl _ _ w.heap.size 34 _ (0, 0) _ rfl (set_alloc HR2.out _) Tryd.underlying34 rfl (by kernel_rfl)) rfl ?_
      unfold SpecPost
      exact ⟨⟨⟨0, none, 0, 0, []⟩, false, rfl, HNo.out, ⟨rfl, fun k hk => absurd hk (Nat.not_lt_zero k)⟩, by decide⟩, ((HB2.out.setCell (Nat.le_refl _) _).setCell (Nat.le_refl _) _).alloc (by simp [World.setCell]; exact HB2.out.size) _⟩
    · have hes := HE0 false (by simp [he])
      obtain ⟨q, hq⟩ := bool_of (textB (id, ([] : List Int)) = s)
      have hcmp : ((textB (id, ([] : List Int))).toList == s.toList) = q := by
        rw [ByteArray.toList_eq, ByteArray.toList_eq, Bool.eq_iff_iff, beq_iff_eq, hq]
        exact ⟨fun h => bytes_ext h, fun h => by rw [h]⟩
      have HQ := Lib.hid hq
      have HNe := Lib.hid he
      clear he HE0 hq d0 d1 g0 g1
      obtain ⟨wr, hwr⟩ : ∃ wr, wr = w2.alloc (.cells #[.int .i64 id, .slice none 0 0] 34) := ⟨_, rfl⟩
      have HX : Hid (wr.heap[X]? = some (.cells #[.int .i64 id, .slice none 0 0] 34 (0, 0))) := Lib.hid (by rw [hwr, HXe.out]; exact heap_alloc_new w2 _)
      have HRr : Hid (wr.heap[w.heap.size]? = some (.cells #[.int .i64 0, .slice none 0 0] 34 (0, 0))) := Lib.hid (by rw [hwr, Below.heap_alloc _ _ _ hWX]; exact HR2.out)
      have HBr : Hid (Below w.heap.size w wr) := Lib.hid (by rw [hwr]; exact HB2.out.alloc HB2.out.size _)
      have HI : Hid (Ints wr wr.heap.size none 0 []) := Lib.hid ⟨rfl, fun k hk => by omega⟩
      have HLow : Hid (∀ b off : Nat, (none : Option Addr) = some ⟨b, off, none⟩ → b ≠ w.heap.size) := Lib.hid fun b off h => by cases h
      have hnv : 0 ≤ 1048576 := by decide
      go_wp2_with fail
      rw [← hwr, ← HXe.out]
      clear hwr
      refine (sFmt wr wr.heap.size ⟨id, none, 0, 0, []⟩ HI.out (Nat.le_refl _) hnv).mono ?_
      rintro e w5 ⟨rfl, hb5⟩
      simp only [It.dat]
      have HX5 := Lib.hid ((hb5.block X (lt_of_block HX.out)).trans HX.out)
      have HR5 := Lib.hid ((hb5.block w.heap.size (lt_of_block HRr.out)).trans HRr.out)
      have HI5 := Lib.hid ((HI.out.below hb5).more hb5.size)
      have HB5 := Lib.hid (HBr.out.trans (hb5.mono HBr.out.size))
      clear hb5
      have x0 : w5.cell? ⟨X, 0, none⟩ = some (.int .i64 id) := cell_of_row w5 _ 0 _ _ (0, 0) HX5.out
      have x1 : w5.cell? ⟨X, 1, none⟩ = some (.slice none 0 0) := cell_of_row w5 _ 1 _ _ (0, 0) HX5.out
      have d0 : w5.cell? ⟨w.heap.size, 0, none⟩ = some (.int .i64 0) := cell_of_row w5 _ 0 _ _ (0, 0) HR5.out
      have d1 : w5.cell? ⟨w.heap.size, 1, none⟩ = some (.slice none 0 0) := cell_of_row w5 _ 1 _ _ (0, 0) HR5.out
      have g0 : w5.frozen? ⟨w.heap.size, 0, none⟩ = false := frozen_of_row w5 _ 0 _ _ HR5.out
      have g1 : w5.frozen? ⟨w.heap.size, 1, none⟩ = false := frozen_of_row w5 _ 1 _ _ HR5.out
      cases q
      · have HNo := Lib.hid (parsed_spec_no (s := s) (.inr (by rw [HD.out]; intro h; have := HQ.out.2 h; cases this)))
        go_wp2
        refine bodyPost_ret_by (results_row_tmp rfl _ _ w.heap.size 34 _ (0, 0) _ rfl (two_set HR5.out) Tryd.underlying34 rfl (by kernel_rfl)) rfl ?_
        unfold SpecPost
        exact ⟨⟨⟨0, none, 0, 0, []⟩, false, rfl, HNo.out, ⟨rfl, fun k hk => absurd hk (Nat.not_lt_zero k)⟩, by decide⟩, (HB5.out.setCell (Nat.le_refl _) _).setCell (Nat.le_refl _) _⟩
      · have HY := Lib.hid (HD.out ▸ parsed_spec_yes (s := s) HNe.out (by rw [HD.out]; exact HQ.out.1 rfl))
        go_wp2
        refine bodyPost_ret_by (results_row_tmp rfl _ _ w.heap.size 34 _ (0, 0) _ rfl (two_set HR5.out) Tryd.underlying34 rfl (by kernel_rfl)) rfl ?_
        unfold SpecPost
        refine ⟨⟨(⟨id, none, 0, 0, []⟩ : It), true, rfl, HY.out, ?_, hnv⟩, (HB5.out.setCell (Nat.le_refl _) _).setCell (Nat.le_refl _) _⟩
        simpa [World.setCell] using ints_set (ints_set HI5.out (j := 0) (v := .int .i64 id) HLow.out) (j := 1) (v := .slice none 0 0) HLow.out
end Go.Proofs.YtghekfigfjhkeaaDoor.num
