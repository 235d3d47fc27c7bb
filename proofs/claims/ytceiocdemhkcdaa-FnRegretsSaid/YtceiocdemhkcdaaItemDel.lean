/-
  slices.IndexFunc and slices.DeleteFunc over items, at any function that answers a bool.
-/
import Derived.Test.YtceiocdemhkcdaaDelMath
import Derived.Test.YtceiocdemhkcdaaFnInts
import Derived.Test.YtceiocdemhkcdaaRegUtil
import Derived.Test.YtceiocdemhkcdaaItemRead
import Derived.Test.YtceiocdemhkcdaaRunClear
import Derived.Test.YtceiocdemhkcdaaRowSet2
namespace Go.Proofs.Ytceiocdemhkcdaa.num
set_option maxRecDepth 20000
open Go.RowKit
set_option linter.unusedVariables false
set_option linter.unusedSimpArgs false

theorem grown_row {g : Nat} : ∀ (vs : List Value) (o : Nat) (w a : World), a.grownBy w (some g) → a.grownBy (w.setCells g o vs) (some g)
  | [], o, w, a, h => h
  | v :: r, o, w, a, h => by
    refine grown_row r (o + 1) _ a ?_
    refine ⟨h.os, h.tape, h.output, by simp [World.setCell]; exact h.size, fun k hk hne => ?_⟩
    rw [← h.block k hk hne]
    simp only [World.setCell]
    have hne' : g ≠ k := fun e => hne (by rw [e])
    rw [Array.getElem?_modify, if_neg hne']
theorem grown_one {g : Nat} {w a : World} (h : a.grownBy w (some g)) (o : Nat) (v : Value) : a.grownBy (w.setCell ⟨g, o, none⟩ v) (some g) := grown_row [v] o w a h
theorem zero_itD (w : World) : (zeroValue 43).run Try.prog w = .ok (.agg #[.int .i64 0, .slice none 0 0]) w := by kernel_rfl
set_option maxRecDepth 20000 in
set_option maxHeartbeats 800000 in
/-- slices.IndexFunc by any function: the first one's place. -/
theorem idxItems (w : World) (A : Option Addr) (n c : Nat) (its : List It) (h : ReadG itCs 2 w w.heap.size A n its) (hn : n ≤ 1048576) (fn : Nat) (cb : Array Value) (eg : ∀ args w, (callFunc fn args).run Try.prog w = .ok (.enter fn args) w) (hold : It → Bool)
    (HC : ∀ W, Below w.heap.size w W → ∀ u ∈ its, Calls Try.prog fn (#[u.val] ++ cb) W fun e w' => e = .returned (.bool (hold u)) ∧ Below W.heap.size W w') :
    Calls Try.prog 87 #[.slice A n c, .func (.func fn) #[] cb] w fun e w' => ((e = .returned (.int .i64 (-1)) ∧ ∀ u ∈ its, hold u = false) ∨ ∃ k x, k < n ∧ e = .returned (.int .i64 (k : Int)) ∧ its[k]? = some x ∧ hold x = true ∧ ∀ u ∈ its.take k, hold u = false) ∧ Below w.heap.size w w' := by
  have HX := Lib.hid h
  have HF := Lib.hid HC
  clear h HC
  go_enter Try.func87, Try.ntmps87
  go_wp2
  go_loopw [8] (fun i wr => ∃ k : Nat, k ≤ n ∧ i = .int .i64 k ∧ (∀ u ∈ its.take k, hold u = false) ∧ Below w.heap.size w wr) (fun i _ => n - (intOf i).toNat)
  case atStart => exact ⟨0, Nat.zero_le _, rfl, by simp, Below.refl _ _⟩
  case round =>
    obtain ⟨k, hk, rfl, hall, hbel⟩ := hrel
    have HA := Lib.hid hall
    have HB := Lib.hid hbel
    clear hall
    by_cases hlt : k < n
    · obtain ⟨b, off, x, rfl, hb, hat, d0, d1⟩ := it_at HX.out hlt
      have f0 := (hbel.cell (p := ⟨b, off + k * 2, none⟩) hb).trans d0
      have f1 := (hbel.cell (p := ⟨b, off + k * 2 + 1, none⟩) hb).trans d1
      have HAt := Lib.hid hat
      have hlt' : (k : Int) < (n : Int) := by omega
      have HC1 := HF.out wr HB.out x (mem_of_at hat)
      obtain ⟨z, hz⟩ : ∃ z, hold x = z := ⟨_, rfl⟩
      rw [hz] at HC1
      have hvx : x.val = .agg #[.int .i64 x.id, .slice x.A x.n x.c] := rfl
      rw [hvx] at HC1
      have HZ := Lib.hid hz
      have HC2 := Lib.hid HC1
      clear d0 d1 hat hbel hz hvx HC1
      go_wp2_with fail
      refine HC2.out.mono ?_
      rintro e w2 ⟨rfl, hb2⟩
      have HB2 := Lib.hid (below_on HB.out hb2)
      clear hb2 f0 f1 HC2
      cases z
      · go_wp2
        go_roundw
        case rel => exact ⟨k + 1, by omega, by go_num, any_stepA HAt.out HA.out HZ.out, HB2.out⟩
        case measure => simp [intOf]; omega
      · go_wp2
        go_ret
        exact ⟨.inr ⟨k, x, hlt, rfl, HAt.out, HZ.out, HA.out⟩, HB2.out⟩
    · obtain rfl : k = n := by omega
      have h := HA.out
      rw [take_all HX.out.len] at h
      have HH := Lib.hid h
      clear h hbel
      go_wp2
      go_ret
      exact ⟨.inl ⟨rfl, HH.out⟩, HB.out⟩
set_option maxRecDepth 20000 in
set_option maxHeartbeats 1600000 in
/-- slices.DeleteFunc by any function, over a row of the call's own. -/
theorem delItems (w0 w : World) (v : Value) (its : List It) (h0 : Below w0.heap.size w0 w) (h : OwnTs w w0.heap.size v its) (hn : its.length ≤ 1048576) (fn : Nat) (cb : Array Value) (eg : ∀ args w, (callFunc fn args).run Try.prog w = .ok (.enter fn args) w) (hold : It → Bool)
    (HC : ∀ W, Below w0.heap.size w0 W → ∀ u ∈ its, Calls Try.prog fn (#[u.val] ++ cb) W fun e w' => e = .returned (.bool (hold u)) ∧ Below W.heap.size W w') :
    Calls Try.prog 60 #[v, .func (.func fn) #[] cb] w fun e w' => (∃ v', e = .returned v' ∧ OwnTs w' w0.heap.size v' (its.filter fun u => !hold u) ∧ v'.ownBlock = v.ownBlock) ∧ w.grownBy w' v.ownBlock ∧ Below w0.heap.size w0 w' := by
  obtain ⟨A, c, rfl, hlc, hcm⟩ := h.shape
  have hrd := OwnG.read itCs_len h
  have HI := Lib.hid (idxItems w A its.length c its hrd hn fn cb eg hold fun W hW => HC W (h0.trans (hW.mono h0.size)))
  have HX := Lib.hid h
  have HF := Lib.hid HC
  have HB0 := Lib.hid h0
  clear h hrd HC h0
  go_enter Try.func60, Try.ntmps60
  go_wp2_with fail
  refine HI.out.mono ?_
  rintro e w1 ⟨hcase, hb1⟩
  have HB1 := Lib.hid hb1
  clear HI hb1
  rcases hcase with ⟨rfl, hall⟩ | ⟨k, x, hk, rfl, hat, hx, hall⟩
  · have HAll := Lib.hid hall
    clear hall
    go_wp2
    go_ret
    refine ⟨⟨_, rfl, ?_, rfl⟩, ⟨HB1.out.os, HB1.out.tape, HB1.out.output, HB1.out.size, fun i hi _ => HB1.out.block i hi⟩, HB0.out.trans (HB1.out.mono HB0.out.size)⟩
    rw [List.filter_eq_self.2 fun u hu => by rw [HAll.out u hu]; rfl]
    exact HX.out.below HB1.out
  · obtain ⟨g, rfl⟩ : ∃ g, A = some ⟨g, 0, none⟩ := by
      rcases HX.out.row with ⟨e, he⟩ | ⟨g, cap, F, e, _⟩
      · rw [he] at hat; simp at hat
      · injection e with e1 e2 e3
        exact ⟨g, e1⟩
    have hg0 : w0.heap.size ≤ g := HX.out.lows g rfl
    have hgw : g < w.heap.size := HX.out.tops g rfl
    have hne : ((k : Int) == -1) = false := by simp
    have HS := Lib.hid (DelInv.start hat hx hall)
    have hlc' : (its.length : Int) ≤ (c : Int) := by omega
    have hcm' : (c : Int) ≤ 9223372036854775807 := by unfold maxLen at hcm; omega
    have HX1 := Lib.hid (HX.out.below HB1.out)
    have HG1 : Hid (w.grownBy w1 (some g)) := Lib.hid ⟨HB1.out.os, HB1.out.tape, HB1.out.output, HB1.out.size, fun i hi _ => HB1.out.block i hi⟩
    clear hat hx hall
    go_wp2
    go_loopw [5, 6] (fun iv jv wr => ∃ (i j : Nat) (m : List It), iv = .int .i64 i ∧ jv = .int .i64 j ∧ DelInv hold its i j m ∧ OwnTs wr w0.heap.size (.slice (some ⟨g, 0, none⟩) its.length c) m ∧ w.grownBy wr (some g)) (fun _ jv _ => its.length - (intOf jv).toNat)
    case atStart => exact ⟨k, k + 1, its, rfl, by go_num, HS.out, HX1.out, HG1.out⟩
    case round =>
      obtain ⟨i, j, m, rfl, rfl, hinv, hown, hgr⟩ := hrel
      have HInv := Lib.hid hinv
      have HO := Lib.hid hown
      have HG := Lib.hid hgr
      have hij := hinv.lt
      have hj := hinv.le
      have hml := hinv.len
      have HBw : Hid (Below w0.heap.size w0 wr) := Lib.hid (HB0.out.grown hgr HB0.out.size (fun k hk => by cases hk; exact hg0))
      have hgs := hgr.size
      clear hinv hown hgr
      by_cases hlt : j < its.length
      · obtain ⟨b, off, x, he, hb, hat, d0, d1⟩ := it_at (HO.out.read itCs_len) hlt
        cases he
        rw [Nat.zero_add] at d0 d1
        obtain ⟨x', hat'⟩ : ∃ x', its[j]? = some x' := ⟨_, List.getElem?_eq_getElem hlt⟩
        obtain rfl : x' = x := Option.some.inj ((HInv.out.read hat').symm.trans hat)
        have HAt := Lib.hid hat'
        have hlt' : (j : Int) < (its.length : Int) := by omega
        have hj0 : (0 : Int) ≤ (j : Int) := by omega
        obtain ⟨z, hz⟩ : ∃ z, hold x' = z := ⟨_, rfl⟩
        have HZ := Lib.hid hz
        have HC1 : Hid (∀ W, Below w0.heap.size w0 W → Calls Try.prog fn (#[.agg #[.int .i64 x'.id, .slice x'.A x'.n x'.c]] ++ cb) W fun e w' => e = .returned (.bool z) ∧ Below W.heap.size W w') := Lib.hid fun W hW => by rw [← hz]; exact HF.out W hW x' (mem_of_at hat')
        have HBa : Hid (Below w0.heap.size w0 (wr.alloc (.cells #[.int .i64 x'.id, .slice x'.A x'.n x'.c] 43))) := Lib.hid (HBw.out.alloc HBw.out.size _)
        have Xx : Hid (BoxI (wr.alloc (.cells #[.int .i64 x'.id, .slice x'.A x'.n x'.c] 43)) wr.heap.size x') := Lib.hid (BoxI.new _ _ _)
        have HOa := Lib.hid (HO.out.below ((Below.refl _ wr).alloc (Nat.le_refl _) (.cells #[.int .i64 x'.id, .slice x'.A x'.n x'.c] 43)))
        have HGa : Hid (w.grownBy (wr.alloc (.cells #[.int .i64 x'.id, .slice x'.A x'.n x'.c] 43)) (some g)) := Lib.hid (HG.out.trans (World.grownBy_alloc wr _ _))
        clear hat hat' hz
        go_wp2_with fail
        refine (HC1.out _ HBa.out).mono ?_
        rintro e w2 ⟨rfl, hb2⟩
        have HB2 := Lib.hid (HBa.out.trans (hb2.mono HBa.out.size))
        have HO2 := Lib.hid (HOa.out.below hb2)
        have Xx2 := Lib.hid (Xx.out.below hb2)
        have HG2 : Hid (w.grownBy w2 (some g)) := Lib.hid (HGa.out.trans ⟨hb2.os, hb2.tape, hb2.output, hb2.size, fun i hi _ => hb2.block i hi⟩)
        clear hb2 d0 d1 HC1 HBa HOa Xx HGa
        cases z
        · obtain ⟨x_g, x_0, x_1⟩ := Xx2.out
          have him : i < m.length := by omega
          obtain ⟨b3, off3, y, he3, hb3, hat3, d0, d1⟩ := it_at (HO2.out.read itCs_len) (k := i) (by omega)
          cases he3
          have hin : (i : Int) < (its.length : Int) := by omega
          have hi0 : (0 : Int) ≤ (i : Int) := by omega
          rw [Nat.zero_add] at d0 d1
          obtain ⟨cap3, F3, e3, hrow3⟩ : ∃ cap F, c = cap ∧ w2.rowIs g 43 (cap * 2) F := by
            rcases HO2.out.row with ⟨e, _⟩ | ⟨g', cap, F, e, _, _, _, hrow, _⟩
            · cases e
            · injection e with e1 e2 e3
              injection e1 with e1
              injection e1 with e1
              subst e1
              exact ⟨cap, F, e3, hrow⟩
          have z0 := World.rowIs.frozen hrow3 (i * 2)
          have z1 := World.rowIs.frozen hrow3 (i * 2 + 1)
          have hneg : ¬ wr.heap.size = g := by have := HO.out.tops g rfl; omega
          have hngg : ¬ g = wr.heap.size := fun h => hneg h.symm
          have HM := Lib.hid hat3
          clear hat3 hrow3 e3
          go_wp2
          go_roundw
          case rel => exact ⟨i + 1, j + 1, m.set i x', by go_num, by go_num, HInv.out.keep HAt.out HZ.out, OwnG.set2 (i1 := 0) (i2 := 1) itCs_len HO2.out HM.out (fun j hj => by match j, hj with | 0, _ => rfl | 1, _ => rfl) (by decide) (by decide), grown_one (grown_one HG2.out _ _) _ _⟩
          case measure => simp [intOf]; omega
        · go_wp2
          go_roundw
          case rel => exact ⟨i, j + 1, m, rfl, by go_num, HInv.out.skip HAt.out HZ.out, HO2.out, HG2.out⟩
          case measure => simp [intOf]; omega
      · obtain rfl : its.length = j := by omega
        have hin : (i : Int) ≤ (its.length : Int) := by omega
        have hi0 : (0 : Int) ≤ (i : Int) := by omega
        have hic : (i : Int) ≤ (c : Int) := by omega
        obtain ⟨F3, hrow3, hF3⟩ : ∃ F, wr.rowIs g 43 (c * 2) F ∧ ∀ q, q < m.length * 2 → (m.flatMap (itCs))[q]? = some (F q) := by
          rcases HO.out.row with ⟨e, _⟩ | ⟨g', cap, F, e, _, _, _, hrow, hF⟩
          · cases e
          · injection e with e1 e2 e3
            injection e1 with e1
            injection e1 with e1
            subst e1 e3
            exact ⟨F, hrow, hF⟩
        have hmc : its.length ≤ c := by omega
        have hcl : ∀ ty, (Builtin.clear_ #[24] ty #[.slice (some ⟨g, i * 2, none⟩) (its.length - i) (c - i)]).run Try.prog wr = .ok (.tuple #[]) (wr.setCells g (i * 2) (Builtin.zeroCells (Value.agg #[.int .i64 0, .slice none 0 0]).cells (its.length - i)).toList) := fun ty =>
          run_clear_tail wr _ _ ty (.agg #[.int .i64 0, .slice none 0 0]) 2 Try.underlying24 zero_itD rfl (by decide) (by simp [Value.cells, Value.oneCell']) g (i * 2) (its.length - i) (c - i) (by omega) (fun q hq => by rw [World.rowIs.cell hrow3 (by omega)]; rfl) (fun q hq => World.rowIs.frozen hrow3 _)
        obtain ⟨vs, hvs⟩ : ∃ vs, (Builtin.zeroCells (Value.agg #[.int .i64 0, .slice none 0 0]).cells (its.length - i)).toList = vs := ⟨_, rfl⟩
        rw [hvs] at hcl
        have HW := Lib.hid (rowIs_cut vs (i * 2) wr F3 hrow3)
        have HGc := Lib.hid (grown_row vs (i * 2) wr w HG.out)
        have HF3 := Lib.hid hF3
        clear hj hvs hrow3 hF3
        go_wp2
        go_ret
        obtain ⟨F4, hr4, he4⟩ := HW.out
        refine ⟨⟨_, rfl, ?_, rfl⟩, HGc.out, HB0.out.grown HGc.out HB0.out.size (fun k hk => by cases hk; exact hg0)⟩
        have hdone := HInv.out.done
        rw [← hdone]
        have hlen : (m.take i).length = i := by rw [List.length_take]; omega
        refine OwnG.of_row itCs_len hg0 hlen (by omega) hcm hr4 fun j hj => ?_
        rw [he4 j hj, fm_take itCs_len, List.getElem?_take_of_lt hj]
        exact HF3.out j (by omega)
end Go.Proofs.Ytceiocdemhkcdaa.num
