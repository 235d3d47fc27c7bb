/- The law of ParseWish returns true, whatever the text: the program and the model answer the same, and the answers share nothing. -/
import Derived.Test.YtghekfigfjhkeabGreatDoorCards
import Derived.Test.YtghekfigfjhkeabGreatDoorTie
import Derived.WalkKit
import Derived.ProofKit
import Derived.OpenShut
import Derived.ShutString
import Derived.Below
import Derived.ChangeOld
import Derived.Deep.DeepHandedRow
import Derived.Lib.LaidTab
import Derived.Stop.LaidErr
import Derived.OpenVars
import Derived.ChangeVars
import Derived.Deep.DeepWitnessRowRef
import Derived.Shelf.Vars
import GoSem.PinnedTables
import Derived.Test.YtghekfigfjhkeabGreatDoorParseWishP1
namespace Go.Proofs.YtghekfigfjhkeabGreatDoor.fnExactParseWish
open Go.ChangeShapes Go.WideShapes Go.ChangeAt Go.RowKit
open Go.ChangeMaps (open_string shut_string)
open Go.Proofs.YtghekfigfjhkeabGreatDoor.num
set_option linter.unusedVariables false
set_option linter.unusedSimpArgs false

theorem own : ownKnob Tryz.prog.godebug = none := by kernel_rfl
theorem gPowType : (Tryz.prog.globals[2]?).map (·.type) = some 125 := by kernel_rfl
theorem cellsTab : Tryz.prog.cellsOf 125 = 20 := by kernel_rfl
theorem cellsU64 : Tryz.prog.cellsOf 119 = 1 := by kernel_rfl

/-- What the row's list gives: the table of powers of ten. -/
theorem table {W : World} (h : laidMetH Tryz.prog Rows.fnExactParseWishRow.laid W) : Pow W :=
  Lib.tabIs_of_head (zs := Lib.pow10Tab) (rest := _) gPow gPowType Tryz.underlying125 Tryz.underlying119 cellsU64 cellsTab (show laidMet Tryz.prog (Rows.fnExactParseWishRow.laid.tail.tail) W from (laidMet.tail (laidMet.tail h)))

theorem mx {W : World} (h : W.ShapedOpen Tryz.prog) : Mx W :=
  cell_of_shapedOpen_int (zero := #[.int .i64 0]) (t := 3) h (of_decide_eq_true (by kernel_rfl)) (by kernel_rfl) rfl (by kernel_rfl) (by kernel_rfl) Tryz.underlying3

/-- What the row's list gives: the list of words. -/
theorem words {W : World} (h : laidMetH Tryz.prog Rows.fnExactParseWishRow.laid W) : Kw W :=
  kw_of (rest := _) (show laidMet Tryz.prog (Rows.fnExactParseWishRow.laid.tail.tail.tail.tail) W from laidMet.tail (laidMet.tail (laidMet.tail (laidMet.tail h))))

theorem walk (a0 : ByteArray) (w : World) (w0 : a0.size ≤ maxLen) (hpow : Pow w) (hmx : Mx w) (hkw : Kw w) :
    Calls Tryz.prog 3 #[.string a0] w fun e w' => e = .returned (.bool true) ∧ Below w.heap.size w w' := by
  have HP := Lib.hid hpow
  have HM := Lib.hid hmx
  have HK := Lib.hid hkw
  clear hpow hmx hkw
  by_cases hsz : a0.size ≤ 1048576
  case neg =>
    have hgt : (1048576 : Int) < (a0.size : Int) := by omega
    go_enter Tryz.func3, Tryz.ntmps3
    go_wp2
    go_ret
    exact ⟨rfl, Below.refl _ _⟩
  have hle : ¬ ((1048576 : Int) < (a0.size : Int)) := by omega
  go_enter Tryz.func3, Tryz.ntmps3
  go_wp2_with fail
  refine (sParseWish a0 hsz w).mono ?_
  rintro e w1 h0
  unfold OutSpecW at h0
  obtain ⟨⟨t0, ok, rfl, hp0, hi0, hn0⟩, hb1⟩ := h0
  have HB1 := Lib.hid hb1
  have HI0 := Lib.hid hi0
  have HN0 := Lib.hid hn0
  have HP0 := Lib.hid hp0
  have HA1 : Hid (Below w1.heap.size w1 (w1.alloc (.cells #[.int .i64 t0.kind, .int .i64 t0.field, .int .i64 t0.value, .slice t0.LA t0.Ln t0.Lc, .slice t0.PA t0.Pn t0.Pc] 25))) := Lib.hid ((Below.refl _ w1).alloc (Nat.le_refl _) _)
  have HXa1 : Hid (Box5 (w1.alloc (.cells #[.int .i64 t0.kind, .int .i64 t0.field, .int .i64 t0.value, .slice t0.LA t0.Ln t0.Lc, .slice t0.PA t0.Pn t0.Pc] 25)) w1.heap.size t0) := Lib.hid (Box5.new w1 t0 _)
  clear hb1 hi0 hn0 hp0 w0 hle
  have hval : t0.val = .agg #[.int .i64 t0.kind, .int .i64 t0.field, .int .i64 t0.value, .slice t0.LA t0.Ln t0.Lc, .slice t0.PA t0.Pn t0.Pc] := rfl
  rw [hval]
  clear hval
  go_wp2_with fail
  refine (iParseWish a0 hsz _ (HP.out.below (below_on HB1.out HA1.out)) (HM.out.below (below_on HB1.out HA1.out)) (HK.out.below (below_on HB1.out HA1.out))).mono ?_
  rintro e w2 h0
  unfold OutParseW at h0
  obtain ⟨⟨t1, ok1, rfl, hp1, hr1⟩, hb2⟩ := h0
  obtain ⟨hd, rfl⟩ := hp1.one HP0.out
  rw [World.size_alloc] at hr1
  have HD := Lib.hid hd
  have HSm := Lib.hid hp1.small
  have HR1 := Lib.hid hr1
  have HA2 := Lib.hid (below_on HA1.out hb2)
  have HS2 : Hid (w1.heap.size + 1 ≤ w2.heap.size) := Lib.hid (by have := hb2.size; simpa using this)
  have HA3 : Hid (Below w2.heap.size w2 (w2.alloc (.cells #[.int .i64 t1.kind, .int .i64 t1.field, .int .i64 t1.value, .slice t1.LA t1.Ln t1.Lc, .slice t1.PA t1.Pn t1.Pc] 25))) := Lib.hid ((Below.refl _ w2).alloc (Nat.le_refl _) _)
  have HXa2 := Lib.hid ((HXa1.out.below hb2).alloc (.cells #[.int .i64 t1.kind, .int .i64 t1.field, .int .i64 t1.value, .slice t1.LA t1.Ln t1.Lc, .slice t1.PA t1.Pn t1.Pc] 25))
  have HXb2 : Hid (Box5 (w2.alloc (.cells #[.int .i64 t1.kind, .int .i64 t1.field, .int .i64 t1.value, .slice t1.LA t1.Ln t1.Lc, .slice t1.PA t1.Pn t1.Pc] 25)) w2.heap.size t1) := Lib.hid (Box5.new w2 t1 _)
  have HWf := Lib.hid (wf_same hd HI0.out)
  clear hp1 hr1 hb2 hd HA1 HXa1
  have hval : t1.val = .agg #[.int .i64 t1.kind, .int .i64 t1.field, .int .i64 t1.value, .slice t1.LA t1.Ln t1.Lc, .slice t1.PA t1.Pn t1.Pc] := rfl
  rw [hval]
  clear hval
  obtain ⟨a_g, a_0, a_1, a_2, a_3, a_4⟩ := HXa2.out
  obtain ⟨b_g, b_0, b_1, b_2, b_3, b_4⟩ := HXb2.out
  have hbn : (ok1 != ok1) = false := by simp
  go_wp2_with fail
  refine (eqWish_w _ t0 t1 t0 ⟨HD.out, HR1.out.short, (HR1.out.wi' HWf.out).step HA3.out⟩ ⟨rfl, HN0.out, HI0.out.step (below_on HA2.out HA3.out)⟩).mono ?_
  rintro e w3 ⟨rfl, hb3⟩
  have HA4 := Lib.hid (below_on HA3.out hb3)
  have HXa3 := Lib.hid (HXa2.out.below hb3)
  have HXb3 := Lib.hid (HXb2.out.below hb3)
  have HR3 : Hid (Go.Proofs.YtghekfigfjhkeabGreatDoor.num.ReadW w3 (w1.heap.size + 1) t1) := Lib.hid (HR1.out.blocks fun b _ hb => HA4.out.block b hb)
  clear hb3 HXa2 HXb2 HA3
  clear a_g a_0 a_1 a_2 a_3 a_4 b_g b_0 b_1 b_2 b_3 b_4
  obtain ⟨c, hc⟩ : ∃ c, cntW t1 = c := ⟨_, rfl⟩
  have hc0 : decide (c < 0) = false := by rw [← hc]; unfold cntW; simp; omega
  have hc1 : (c != c) = false := by simp
  have HC := Lib.hid hc
  clear hc
  obtain ⟨b_g, b_0, b_1, b_2, b_3, b_4⟩ := HXb3.out
  go_wp2_with fail
  refine (markWish_c w3 (w1.heap.size + 1) t1 (Nat.le_trans HS2.out HA4.out.size) HR3.out.l HR3.out.p HR3.out.ap (by exact HSm.out.1) (by exact HSm.out.2)).mono ?_
  rintro e w4 ⟨rfl, hmk, hb4, hk4⟩
  rw [HC.out]
  have HMk := Lib.hid hmk
  have HXa4 := Lib.hid (HXa3.out.keep (hb4.block _ (Nat.lt_succ_self _)))
  have HXb4 := Lib.hid (HXb3.out.keep (hk4 _ HXb3.out.1 (fun e => by have := ownI_tops HR1.out.l _ e; omega) (fun e => by have := HR1.out.p.tops _ e; omega)))
  have HA5 : Hid (Below w1.heap.size w1 w4) := Lib.hid ((below_on HA2.out HA4.out).trans (hb4.mono (Nat.le_succ _)))
  clear hmk hb4 hk4 HXa3 HXb3 HA4 HR3
  clear b_g b_0 b_1 b_2 b_3 b_4
  obtain ⟨b_g, b_0, b_1, b_2, b_3, b_4⟩ := HXb4.out
  go_wp2_with fail
  refine (heldWish_c w4 (w1.heap.size + 1) t1 HMk.out (by exact HSm.out.1) (by exact HSm.out.2)).mono ?_
  rintro e w5 ⟨rfl, hb5⟩
  rw [HC.out]
  have HMk5 := Lib.hid (HMk.out.below hb5)
  have HXa5 := Lib.hid (HXa4.out.below hb5)
  have HXb5 := Lib.hid (HXb4.out.below hb5)
  have HA6 := Lib.hid (below_on HA5.out hb5)
  clear hb5 HMk HXa4 HXb4 HA5
  clear b_g b_0 b_1 b_2 b_3 b_4
  go_wp2_with fail
  refine (iParseWish a0 hsz w5 (HP.out.below (below_on HB1.out HA6.out)) (HM.out.below (below_on HB1.out HA6.out)) (HK.out.below (below_on HB1.out HA6.out))).mono ?_
  rintro e w6 h0
  unfold OutParseW at h0
  obtain ⟨⟨t2, ok2, rfl, hp2, hr2⟩, hb6⟩ := h0
  obtain ⟨hd2, rfl⟩ := HP0.out.one hp2
  have HD2 := Lib.hid hd2.symm
  have HR6 := Lib.hid hr2
  have HA7 := Lib.hid (below_on HA6.out hb6)
  have HA8 : Hid (Below w6.heap.size w6 (w6.alloc (.cells #[.int .i64 t2.kind, .int .i64 t2.field, .int .i64 t2.value, .slice t2.LA t2.Ln t2.Lc, .slice t2.PA t2.Pn t2.Pc] 25))) := Lib.hid ((Below.refl _ w6).alloc (Nat.le_refl _) _)
  have HMk6 : Hid (MarkedW (w6.alloc (.cells #[.int .i64 t2.kind, .int .i64 t2.field, .int .i64 t2.value, .slice t2.LA t2.Ln t2.Lc, .slice t2.PA t2.Pn t2.Pc] 25)) (w1.heap.size + 1) t1) := Lib.hid ((HMk5.out.below hb6).below HA8.out)
  have HXa6 := Lib.hid ((HXa5.out.below hb6).alloc (.cells #[.int .i64 t2.kind, .int .i64 t2.field, .int .i64 t2.value, .slice t2.LA t2.Ln t2.Lc, .slice t2.PA t2.Pn t2.Pc] 25))
  have HXb6 := Lib.hid ((HXb5.out.below hb6).alloc (.cells #[.int .i64 t2.kind, .int .i64 t2.field, .int .i64 t2.value, .slice t2.LA t2.Ln t2.Lc, .slice t2.PA t2.Pn t2.Pc] 25))
  have HXc6 : Hid (Box5 (w6.alloc (.cells #[.int .i64 t2.kind, .int .i64 t2.field, .int .i64 t2.value, .slice t2.LA t2.Ln t2.Lc, .slice t2.PA t2.Pn t2.Pc] 25)) w6.heap.size t2) := Lib.hid (Box5.new w6 t2 _)
  have HWf2 := Lib.hid (wf_same hd2.symm HI0.out)
  clear hp2 hr2 hb6 hd2 HMk5 HXa5 HXb5 HA6
  have hval : t2.val = .agg #[.int .i64 t2.kind, .int .i64 t2.field, .int .i64 t2.value, .slice t2.LA t2.Ln t2.Lc, .slice t2.PA t2.Pn t2.Pc] := rfl
  rw [hval]
  clear hval
  obtain ⟨a_g, a_0, a_1, a_2, a_3, a_4⟩ := HXa6.out
  obtain ⟨c_g, c_0, c_1, c_2, c_3, c_4⟩ := HXc6.out
  go_wp2_with fail
  refine (eqWish_w _ t0 t2 t0 ⟨HD2.out, HR6.out.short, (HR6.out.wi' HWf2.out).step HA8.out⟩ ⟨rfl, HN0.out, HI0.out.step (below_on HA7.out HA8.out)⟩).mono ?_
  rintro e w7 ⟨rfl, hb7⟩
  have HMk7 := Lib.hid (HMk6.out.below hb7)
  have HXb7 := Lib.hid (HXb6.out.below hb7)
  have HA9 := Lib.hid (below_on HA7.out (below_on HA8.out hb7))
  clear hb7 HMk6 HXa6 HXb6 HXc6 HA7 HA8
  clear a_g a_0 a_1 a_2 a_3 a_4 c_g c_0 c_1 c_2 c_3 c_4
  obtain ⟨b_g, b_0, b_1, b_2, b_3, b_4⟩ := HXb7.out
  go_wp2_with fail
  refine (heldWish_c w7 (w1.heap.size + 1) t1 HMk7.out (by exact HSm.out.1) (by exact HSm.out.2)).mono ?_
  rintro e w8 ⟨rfl, hb8⟩
  rw [HC.out]
  have HBf := Lib.hid (below_on HB1.out (below_on HA9.out hb8))
  clear hb8
  clear b_g b_0 b_1 b_2 b_3 b_4
  go_wp2
  go_ret
  exact ⟨rfl, HBf.out⟩

set_option maxRecDepth 100000 in
theorem contract (H : Type) (enc : TypeId × Value → H) (W : World) (base : Nat) (args : Array Value) (ds gs : List (DataW H)) (before : List MemPlace)
    (hval : ∀ (j : Nat) t v, Tryz.f3.params[j]? = some t → args[j]? = some v → Value.okWide Tryz.prog W .any base t v)
    (hW : DataW.Whole enc Tryz.prog Tryz.f3.params.toList Rows.fnExactParseWishSpec.vars false W args.toList ds gs before) (hL : laidMetH Tryz.prog Rows.fnExactParseWishRow.laid W) (hS : W.ShapedOpen Tryz.prog) :
    Calls Tryz.prog 3 args W fun e W' => ∃ v, e = .returned v ∧ Rows.fnExactParseWishSpec.post enc Tryz.prog Tryz.f3 false true false false W args v W' := by
  have hW' := hW
  obtain ⟨p, q, hA0, hV, rfl, hfz, hnd⟩ := hW
  have hA : DataW.TrodAll enc Tryz.prog W 0 (fun _ => true) true Tryz.f3.params.toList args.toList ds p := hA0
  rw [Tryz.params3] at hA hval
  obtain ⟨v0, vs0, d0, ds0, p0, q0, hargs, rfl, rfl, h0, r0⟩ := trodAll_cons hA
  obtain ⟨rfl, rfl, rfl⟩ := trodAll_nil r0
  obtain rfl : args = #[v0] := by cases args; simp_all
  have hV1 := hV
  obtain ⟨g9, t9, cs9, fuel9, d9, p9, rfl, _, _, _, _, _⟩ := trodVars_one hV
  obtain ⟨a0, rfl, rfl, rfl, w0⟩ := open_string Tryz.underlying9 (hval 0 9 v0 rfl rfl) h0
  clear hA0
  refine (walk a0 W w0 (table hL) (mx hS) (words hL)).mono fun e W' ⟨he, hb⟩ => ?_
  subst he
  exact ⟨_, rfl, _, _, _, _, _, _, hW', trodAll_mk1 (shut_bool Tryz.underlying4 _), (trodAll_cons_mk (shut_string Tryz.underlying9 w0) trodAll_mk0), Below.trodVars laidOut hb (by kernel_rfl) hV1, hb.frame _, fun h => by cases h⟩

def lay (a : Array Value) : Obj → Obj
  | .cells _ t frozen => .cells a t frozen
  | o => o
/-- A world for the witness: the settled one, the tables holding what their initialisers lay. -/
noncomputable def laidWorld (os : Os) : World :=
  { World.holding Tryz.prog os ⟨#[], #[], []⟩ with heap := (((((((World.holding Tryz.prog os ⟨#[], #[], []⟩).heap.modify 5 (lay #[.int .u8 0, .int .u8 1, .int .u8 28, .int .u8 2, .int .u8 29, .int .u8 14, .int .u8 24, .int .u8 3, .int .u8 30, .int .u8 22, .int .u8 20, .int .u8 15, .int .u8 25, .int .u8 17, .int .u8 4, .int .u8 8, .int .u8 31, .int .u8 27, .int .u8 13, .int .u8 23, .int .u8 21, .int .u8 19, .int .u8 16, .int .u8 7, .int .u8 26, .int .u8 12, .int .u8 18, .int .u8 6, .int .u8 11, .int .u8 5, .int .u8 10, .int .u8 9])).modify 6 (lay #[.int .u8 0, .int .u8 1, .int .u8 56, .int .u8 2, .int .u8 57, .int .u8 49, .int .u8 28, .int .u8 3, .int .u8 61, .int .u8 58, .int .u8 42, .int .u8 50, .int .u8 38, .int .u8 29, .int .u8 17, .int .u8 4, .int .u8 62, .int .u8 47, .int .u8 59, .int .u8 36, .int .u8 45, .int .u8 43, .int .u8 51, .int .u8 22, .int .u8 53, .int .u8 39, .int .u8 33, .int .u8 30, .int .u8 24, .int .u8 18, .int .u8 12, .int .u8 5, .int .u8 63, .int .u8 55, .int .u8 48, .int .u8 27, .int .u8 60, .int .u8 41, .int .u8 37, .int .u8 16, .int .u8 46, .int .u8 35, .int .u8 44, .int .u8 21, .int .u8 52, .int .u8 32, .int .u8 23, .int .u8 11, .int .u8 54, .int .u8 26, .int .u8 40, .int .u8 15, .int .u8 34, .int .u8 20, .int .u8 31, .int .u8 10, .int .u8 25, .int .u8 14, .int .u8 19, .int .u8 9, .int .u8 13, .int .u8 8, .int .u8 7, .int .u8 6])).modify 2 (lay #[.int .u64 1, .int .u64 10, .int .u64 100, .int .u64 1000, .int .u64 10000, .int .u64 100000, .int .u64 1000000, .int .u64 10000000, .int .u64 100000000, .int .u64 1000000000, .int .u64 10000000000, .int .u64 100000000000, .int .u64 1000000000000, .int .u64 10000000000000, .int .u64 100000000000000, .int .u64 1000000000000000, .int .u64 10000000000000000, .int .u64 100000000000000000, .int .u64 1000000000000000000, .int .u64 10000000000000000000])).modify 4 (lay #[.int .u8 128, .int .u8 191, .int .u8 160, .int .u8 191, .int .u8 128, .int .u8 159, .int .u8 144, .int .u8 191, .int .u8 128, .int .u8 143, .int .u8 0, .int .u8 0, .int .u8 0, .int .u8 0, .int .u8 0, .int .u8 0, .int .u8 0, .int .u8 0, .int .u8 0, .int .u8 0, .int .u8 0, .int .u8 0, .int .u8 0, .int .u8 0, .int .u8 0, .int .u8 0, .int .u8 0, .int .u8 0, .int .u8 0, .int .u8 0, .int .u8 0, .int .u8 0])).modify 3 (lay (Go.Pinned.utf8FirstZ.map fun n : Nat => Value.int .u8 (n : Int)).toArray)).modify 0 (lay #[.slice (some ⟨(World.holding Tryz.prog os ⟨#[], #[], []⟩).heap.size, 0, none⟩) 5 5])).push (.cells #[.string (kwB 0), .string (kwB 1), .string (kwB 2), .string (kwB 3), .string (kwB 4)] 9) }
set_option maxRecDepth 100000 in
theorem laid_met (os : Os) : laidMet Tryz.prog Rows.fnExactParseWishRow.laid ((laidWorld os).forCall (fun _ _ => 0) ⟨#[], #[.string ByteArray.empty], []⟩).memory :=
  laidMet_of_run' 8 (by kernel_rfl) (by kernel_rfl)
set_option maxRecDepth 100000 in
theorem reads (os : Os) {H : Type} (enc : TypeId × Value → H) : ∃ places, DataW.whole enc Tryz.prog ((laidWorld os).forCall (fun _ _ => 0) ⟨#[], #[.string ByteArray.empty], []⟩).memory Tryz.f3.params.toList Rows.fnExactParseWishSpec.vars false (#[.string ByteArray.empty] : Array Value).toList 8 = some ([.lit (.string [])], [Rows.laid_loop_example_g01987_impl_kindWords], places) := by
  have h : (DataW.whole enc Tryz.prog ((laidWorld os).forCall (fun _ _ => 0) ⟨#[], #[.string ByteArray.empty], []⟩).memory Tryz.f3.params.toList Rows.fnExactParseWishSpec.vars false (#[.string ByteArray.empty] : Array Value).toList 8).map (fun x => (x.1, x.2.1)) = some ([.lit (.string [])], [Rows.laid_loop_example_g01987_impl_kindWords]) := by kernel_rfl
  obtain ⟨⟨a, b, c⟩, hx, he⟩ := Option.map_eq_some_iff.1 h
  simp only [Prod.mk.injEq] at he
  obtain ⟨rfl, rfl⟩ := he
  exact ⟨c, hx⟩

set_option maxRecDepth 100000 in
theorem lifted (os : Os) (started : os.Started) (H : Type) (enc : TypeId × Value → H) (F : Stop.Interp) :
    ReturnsInHanded {} Tryz.checked os 3 .any ((OpenSpec.ofChange Rows.fnExactParseWishSpec).preRow enc Tryz.prog Tryz.f3 Rows.fnExactParseWishRow.domain false Rows.fnExactParseWishRow.laid) (((OpenSpec.ofChange Rows.fnExactParseWishSpec).at F).post enc Tryz.prog Tryz.f3 false true false false) := by
  obtain ⟨places, hx⟩ := reads os enc
  refine returnsInHanded_of_row (C := Tryz.checked) (s := OpenSpec.ofChange Rows.fnExactParseWishSpec) own started (by kernel_rfl) Tryz.func3
    (witness_row_atRef (enc := enc) (C := Tryz.checked) false (laidWorld os) #[.string ByteArray.empty] rfl (by kernel_rfl) (by kernel_rfl) (by kernel_rfl)
      (OpenSpec.preRow_of_cond 8 hx (by kernel_rfl) (fun k hk => by cases hk) (by kernel_rfl) (laid_met os))) ?_
  intro W base args ds gs before hval hW _ _ _ hL hS _
  exact contract H enc W base args ds gs before hval hW hL hS

theorem said : Rows.FnExactParseWishSaid :=
  OpenClaim.holds_of_cond 3 Tryz.f3 rfl rfl rfl rfl rfl rfl rfl ⟨rfl, rfl, rfl, rfl, rfl⟩ rfl rfl rfl rfl rfl (by kernel_rfl) Tryz.func3 (by kernel_rfl)
    (of_decide_eq_true (by kernel_rfl)) (by unfold Func.isWrapper; first | (rw [if_pos (by decide +kernel)]; kernel_rfl) | (rw [if_neg (by decide +kernel)]; exact ⟨rfl, rfl⟩))
    (fun os started H enc _ F => by rw [OpenClaim.pre_eq_preRow]; exact lifted os started H enc F)

theorem plain (f : FuncId) (fn : Func) (hf : Tryz.pinned.checked.prog.funcNamed "loop.example/g01987/laws.FnExactParseWish" = some f) (hfn : Tryz.pinned.checked.prog.funcs[f]? = some fn) :
    false = Tryz.pinned.checked.prog.looks [] ∧ ∀ (j : Nat) t, fn.params[j]? = some t → Tryz.pinned.checked.prog.wantsStandIn t = false := by
  obtain rfl : f = 3 := Option.some.inj ((show Tryz.prog.funcNamed "loop.example/g01987/laws.FnExactParseWish" = some 3 by kernel_rfl).symm.trans hf) |>.symm
  obtain rfl : fn = Tryz.f3 := (Option.some.inj (Tryz.func3.symm.trans hfn)).symm
  refine ⟨by kernel_rfl, fun j t ht => ?_⟩
  rw [Tryz.params3] at ht
  obtain rfl : t = 9 := by simpa using Array.mem_of_getElem? ht
  exact (show Tryz.prog.wantsStandIn 9 = false by kernel_rfl)

theorem holds : Rows.FnExactParseWishCardSaid :=
  Claim7.holds_tied_plain_at .later [] _ _ _ _ said (fun _ h => by cases h) (by kernel_rfl) (fun _ h => by cases h) fnExactParseWish_row_tie rfl ⟨rfl, rfl⟩ (by kernel_rfl) rfl plain (by kernel_rfl)

#print axioms holds
end Go.Proofs.YtghekfigfjhkeabGreatDoor.fnExactParseWish
