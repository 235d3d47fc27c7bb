/- For every string, where the library's five tables start as the program's text lays them (the card ties that), the law of ParseItem returns true: the program and the model answer the same; the answer owns its memory. -/
import Derived.Test.YtghekfigfjhkeaaDoorCards
import Derived.Test.YtghekfigfjhkeaaDoorTie
import Derived.Test.YtghekfigfjhkeaaDoorItemMade
import Derived.WalkKit
import Derived.ProofKit
import Derived.OpenShut
import Derived.ShutString
import Derived.Below
import Derived.ChangeOld
import Derived.Deep.DeepHandedRow
import Derived.Lib.LaidTab
import Derived.Stop.LaidErr
import Derived.Shelf.Vars
import GoSem.PinnedTables
namespace Go.Proofs.YtghekfigfjhkeaaDoor.fnExactParseItem
open Go.ChangeShapes Go.WideShapes Go.ChangeAt Go.RowKit
open Go.ChangeMaps (open_string shut_string)
open Go.Proofs.YtghekfigfjhkeaaDoor.num
set_option linter.unusedVariables false
set_option linter.unusedSimpArgs false

theorem own : ownKnob Tryd.prog.godebug = none := by kernel_rfl
theorem gPowType : (Tryd.prog.globals[3]?).map (·.type) = some 166 := by kernel_rfl
theorem cellsTab : Tryd.prog.cellsOf 166 = 20 := by kernel_rfl
theorem cellsU64 : Tryd.prog.cellsOf 155 = 1 := by kernel_rfl

/-- What the row's list gives: the table of powers of ten. -/
theorem table {W : World} (h : laidMetH Tryd.prog Rows.fnExactParseItemRow.laid W) : Pow W :=
  Lib.tabIs_of_head (zs := Lib.pow10Tab) (rest := _) gPow gPowType Tryd.underlying166 Tryd.underlying155 cellsU64 cellsTab (show laidMet Tryd.prog (Rows.fnExactParseItemRow.laid.tail.tail) W from (laidMet.tail (laidMet.tail h)))

theorem mx {W : World} (h : W.ShapedOpen Tryd.prog) : Mx W :=
  cell_of_shapedOpen_int (zero := #[.int .i64 0]) (t := 3) h (of_decide_eq_true (by kernel_rfl)) (by kernel_rfl) rfl (by kernel_rfl) (by kernel_rfl) Tryd.underlying3

theorem walk (a0 : ByteArray) (w : World) (w0 : a0.size ≤ maxLen) (hpow : Pow w) (hmx : Mx w) :
    Calls Tryd.prog 5 #[.string a0] w fun e w' => e = .returned (.bool true) ∧ Below w.heap.size w w' := by
  have HP := Lib.hid hpow
  have HM := Lib.hid hmx
  clear hpow hmx
  by_cases hsz : a0.size ≤ 1048576
  case neg =>
    have hgt : (1048576 : Int) < (a0.size : Int) := by omega
    go_enter Tryd.func5, Tryd.ntmps5
    go_wp2
    go_ret
    exact ⟨rfl, Below.refl _ _⟩
  have hle : ¬ ((1048576 : Int) < (a0.size : Int)) := by omega
  go_enter Tryd.func5, Tryd.ntmps5
  go_wp2_with fail
  refine (sParseItem a0 hsz w).mono ?_
  rintro e w1 h0
  unfold SpecPost at h0
  obtain ⟨⟨t0, ok, rfl, hp0, hi0, hn0⟩, hb1⟩ := h0
  obtain ⟨id0, A0, n0, c0, xs0⟩ := t0
  simp only [] at hi0 hn0
  have HB1 := Lib.hid hb1
  have HI0 := Lib.hid hi0
  have HN0 := Lib.hid hn0
  have hx1 := (Below.refl w1.heap.size w1).alloc (Nat.le_refl _) (.cells #[.int .i64 id0, .slice A0 n0 c0] 34)
  clear hb1 hi0 hn0 w0 hle
  unfold It.val
  go_wp2_with fail
  refine (iParseItem a0 hsz _ (HP.out.below (HB1.out.trans (hx1.mono HB1.out.size))) (HM.out.below (HB1.out.trans (hx1.mono HB1.out.size)))).mono ?_
  rintro e w2 ⟨⟨t1, ok1, rfl, hp1, hmade⟩, hb2⟩
  obtain ⟨hd, rfl⟩ := hp1.one hp0
  have HD := Lib.hid hd
  have HP0 := Lib.hid hp0
  have HMa := Lib.hid hmade
  have hb2' := hx1.trans (hb2.mono hx1.size)
  have HB2 := Lib.hid (HB1.out.trans (hb2'.mono HB1.out.size))
  have X0 := Lib.hid ((BoxP.new w1 (.int .i64 id0) (.slice A0 n0 c0) 34).below hb2)
  have HI2 := Lib.hid (HI0.out.below hb2')
  have hsz1 : (w1.alloc (.cells #[.int .i64 id0, .slice A0 n0 c0] 34)).heap.size = w1.heap.size + 1 := by simp
  rw [hsz1] at HMa
  have HS12 : Hid (w1.heap.size + 1 ≤ w2.heap.size) := Lib.hid (by have := hb2.size; rw [hsz1] at this; exact this)
  have HNb : Hid (∀ b off : Nat, t1.A = some ⟨b, off, none⟩ → w2.heap.size ≠ b) := Lib.hid fun b off h => by
    rcases HMa.out with ⟨_, rfl⟩ | ⟨_, b', h2, _, _, _, h6⟩
    · cases h
    · rw [h2] at h; injection h with h; injection h with h; have := h6.lt; omega
  have HMi := Lib.hid HMa.out.ints
  obtain ⟨id1, A1, n1, c1, xs1⟩ := t1
  have hx2 := (Below.refl w2.heap.size w2).alloc (Nat.le_refl _) (.cells #[.int .i64 id1, .slice A1 n1 c1] 34)
  have y0 := X0.out.c0
  have y1 := X0.out.c1
  have y2 := X0.out.lt
  clear hd hp0 hp1 hmade hb2 hb2' hsz1
  unfold It.val
  go_wp2_with fail
  refine (eqItem_c _ w2.heap.size ⟨id1, A1, n1, c1, xs1⟩ ⟨id0, A0, n0, c0, xs0⟩ (HMi.out.1.below hx2) ((HI2.out.more (Nat.le_of_succ_le HS12.out)).below hx2) hx2.size HMi.out.2 true (by rw [HD.out]; simp)).mono ?_
  rintro e w3 ⟨rfl, hb3⟩
  have hb3' := hx2.trans (hb3.mono hx2.size)
  have X1 := Lib.hid ((BoxP.new w2 (.int .i64 id1) (.slice A1 n1 c1) 34).below hb3)
  have X03 := Lib.hid (X0.out.below hb3')
  have HMa3 := Lib.hid (HMa.out.below hb3')
  have HI3 := Lib.hid (HI2.out.below (hb3'.mono (Nat.le_of_succ_le HS12.out)))
  have HB3 := Lib.hid (HB2.out.trans (hb3'.mono HB2.out.size))
  have HS3 : Hid (w1.heap.size + 1 ≤ w3.heap.size) := Lib.hid (Nat.le_trans HS12.out hb3'.size)
  clear hb3 hb3' hx2 y0 y1 y2
  have hbn : (ok1 != ok1) = false := by simp
  have z0 := X1.out.c0
  have z1 := X1.out.c1
  have hc1 : ¬ (cnt ok1 < 0) := by unfold cnt; split <;> decide
  have hc2 : (cnt ok1 != cnt ok1) = false := by simp
  go_wp2_with fail
  refine (markItem_c w3 (w1.heap.size + 1) ⟨id1, A1, n1, c1, xs1⟩ ok1 HMa3.out HS3.out).mono ?_
  rintro e w4 ⟨rfl, hmk, hb4, hs4, hk4⟩
  have HMk := Lib.hid hmk
  have X14 := Lib.hid (X1.out.keep (hk4 _ X1.out.lt HNb.out))
  have X04 := Lib.hid (X03.out.keep (hb4.block _ (Nat.lt_succ_self _)))
  have HI4 := Lib.hid (HI3.out.below (hb4.mono (Nat.le_succ _)))
  have HB4 := Lib.hid (HB3.out.trans (hb4.mono (Nat.le_succ_of_le HB1.out.size)))
  have HS4 : Hid (w1.heap.size + 1 ≤ w4.heap.size) := Lib.hid (Nat.le_trans HS3.out hs4)
  clear hmk hb4 hs4 hk4 z0 z1
  have z0 := X14.out.c0
  have z1 := X14.out.c1
  go_wp2_with fail
  refine (heldItem_c w4 (w1.heap.size + 1) ⟨id1, A1, n1, c1, xs1⟩ ok1 HMk.out).mono ?_
  rintro e w5 ⟨rfl, hb5⟩
  have HMk5 := Lib.hid (HMk.out.below hb5)
  have X15 := Lib.hid (X14.out.below hb5)
  have X05 := Lib.hid (X04.out.below hb5)
  have HI5 := Lib.hid (HI4.out.below (hb5.mono (Nat.le_of_succ_le HS4.out)))
  have HB5 := Lib.hid (HB4.out.trans (hb5.mono HB4.out.size))
  have HS5 : Hid (w1.heap.size + 1 ≤ w5.heap.size) := Lib.hid (Nat.le_trans HS4.out hb5.size)
  clear hb5 z0 z1
  go_wp2_with fail
  refine (iParseItem a0 hsz w5 (HP.out.below HB5.out) (HM.out.below HB5.out)).mono ?_
  rintro e w6 ⟨⟨t2, ok2, rfl, hp2, hmade2⟩, hb6⟩
  obtain ⟨hd2, rfl⟩ := HP0.out.one hp2
  have HD2 := Lib.hid hd2
  have HMi2 := Lib.hid hmade2.ints
  have HMk6 := Lib.hid (HMk5.out.below hb6)
  have X16 := Lib.hid (X15.out.below hb6)
  have X06 := Lib.hid (X05.out.below hb6)
  have HI6 := Lib.hid (HI5.out.below (hb6.mono (Nat.le_of_succ_le HS5.out)))
  have HB6 := Lib.hid (HB5.out.trans (hb6.mono HB5.out.size))
  have HS6 : Hid (w1.heap.size + 1 ≤ w6.heap.size) := Lib.hid (Nat.le_trans HS5.out hb6.size)
  obtain ⟨id2, A2, n2, c2, xs2⟩ := t2
  have hx6 := (Below.refl w6.heap.size w6).alloc (Nat.le_refl _) (.cells #[.int .i64 id2, .slice A2 n2 c2] 34)
  clear hp2 hmade2 hd2 hb6
  have y0 := X06.out.c0
  have y1 := X06.out.c1
  have y2 := X06.out.lt
  unfold It.val
  go_wp2_with fail
  refine (eqItem_c _ w6.heap.size ⟨id2, A2, n2, c2, xs2⟩ ⟨id0, A0, n0, c0, xs0⟩ (HMi2.out.1.below hx6) ((HI6.out.more (Nat.le_of_succ_le HS6.out)).below hx6) hx6.size HMi2.out.2 true (by rw [← HD2.out]; simp)).mono ?_
  rintro e w7 ⟨rfl, hb7⟩
  have hb7' := hx6.trans (hb7.mono hx6.size)
  have X17 := Lib.hid (X16.out.below hb7')
  have HMk7 := Lib.hid (HMk6.out.below hb7')
  have HB7 := Lib.hid (HB6.out.trans (hb7'.mono HB6.out.size))
  clear hb7 hb7' hx6 y0 y1 y2
  have z0 := X17.out.c0
  have z1 := X17.out.c1
  go_wp2_with fail
  refine (heldItem_c w7 (w1.heap.size + 1) ⟨id1, A1, n1, c1, xs1⟩ ok1 HMk7.out).mono ?_
  rintro e w8 ⟨rfl, hb8⟩
  have HB8 := Lib.hid (HB7.out.trans (hb8.mono HB7.out.size))
  clear hb8 z0 z1
  go_wp2
  go_ret
  exact ⟨rfl, HB8.out⟩

set_option maxRecDepth 100000 in
theorem contract (H : Type) (enc : TypeId × Value → H) (W : World) (base : Nat) (args : Array Value) (ds gs : List (DataW H)) (before : List MemPlace)
    (hval : ∀ (j : Nat) t v, Tryd.f5.params[j]? = some t → args[j]? = some v → Value.okWide Tryd.prog W .any base t v)
    (hW : DataW.Whole enc Tryd.prog Tryd.f5.params.toList Rows.fnExactParseItemSpec.vars false W args.toList ds gs before) (hL : laidMetH Tryd.prog Rows.fnExactParseItemRow.laid W) (hS : W.ShapedOpen Tryd.prog) :
    Calls Tryd.prog 5 args W fun e W' => ∃ v, e = .returned v ∧ Rows.fnExactParseItemSpec.post enc Tryd.prog Tryd.f5 false true false false W args v W' := by
  have hW' := hW
  obtain ⟨p, q, hA0, hV, rfl, hfz, hnd⟩ := hW
  have hA : DataW.TrodAll enc Tryd.prog W 0 (fun _ => true) true Tryd.f5.params.toList args.toList ds p := hA0
  rw [Tryd.params5] at hA hval
  obtain ⟨v0, vs0, d0, ds0, p0, q0, hargs, rfl, rfl, h0, r0⟩ := trodAll_cons hA
  obtain ⟨rfl, rfl, rfl⟩ := trodAll_nil r0
  obtain rfl : args = #[v0] := by cases args; simp_all
  obtain ⟨rfl, rfl⟩ := trodVars_none hV
  obtain ⟨a0, rfl, rfl, rfl, w0⟩ := open_string Tryd.underlying9 (hval 0 9 v0 rfl rfl) h0
  clear hA0
  refine (walk a0 W w0 (table hL) (mx hS)).mono fun e W' ⟨he, hb⟩ => ?_
  subst he
  exact ⟨_, rfl, _, _, _, [], _, [], hW', trodAll_mk1 (shut_bool Tryd.underlying4 _), (trodAll_cons_mk (shut_string Tryd.underlying9 w0) trodAll_mk0), rfl, hb.frame _, fun h => by cases h⟩

def lay (a : Array Value) : Obj → Obj
  | .cells _ t frozen => .cells a t frozen
  | o => o
/-- A world for the witness: the settled one, the three tables holding what their initialisers lay. -/
noncomputable def laidWorld (os : Os) : World :=
  { World.holding Tryd.prog os ⟨#[], #[], []⟩ with heap := (((((World.holding Tryd.prog os ⟨#[], #[], []⟩).heap.modify 6 (lay #[.int .u8 0, .int .u8 1, .int .u8 28, .int .u8 2, .int .u8 29, .int .u8 14, .int .u8 24, .int .u8 3, .int .u8 30, .int .u8 22, .int .u8 20, .int .u8 15, .int .u8 25, .int .u8 17, .int .u8 4, .int .u8 8, .int .u8 31, .int .u8 27, .int .u8 13, .int .u8 23, .int .u8 21, .int .u8 19, .int .u8 16, .int .u8 7, .int .u8 26, .int .u8 12, .int .u8 18, .int .u8 6, .int .u8 11, .int .u8 5, .int .u8 10, .int .u8 9])).modify 7 (lay #[.int .u8 0, .int .u8 1, .int .u8 56, .int .u8 2, .int .u8 57, .int .u8 49, .int .u8 28, .int .u8 3, .int .u8 61, .int .u8 58, .int .u8 42, .int .u8 50, .int .u8 38, .int .u8 29, .int .u8 17, .int .u8 4, .int .u8 62, .int .u8 47, .int .u8 59, .int .u8 36, .int .u8 45, .int .u8 43, .int .u8 51, .int .u8 22, .int .u8 53, .int .u8 39, .int .u8 33, .int .u8 30, .int .u8 24, .int .u8 18, .int .u8 12, .int .u8 5, .int .u8 63, .int .u8 55, .int .u8 48, .int .u8 27, .int .u8 60, .int .u8 41, .int .u8 37, .int .u8 16, .int .u8 46, .int .u8 35, .int .u8 44, .int .u8 21, .int .u8 52, .int .u8 32, .int .u8 23, .int .u8 11, .int .u8 54, .int .u8 26, .int .u8 40, .int .u8 15, .int .u8 34, .int .u8 20, .int .u8 31, .int .u8 10, .int .u8 25, .int .u8 14, .int .u8 19, .int .u8 9, .int .u8 13, .int .u8 8, .int .u8 7, .int .u8 6])).modify 3 (lay #[.int .u64 1, .int .u64 10, .int .u64 100, .int .u64 1000, .int .u64 10000, .int .u64 100000, .int .u64 1000000, .int .u64 10000000, .int .u64 100000000, .int .u64 1000000000, .int .u64 10000000000, .int .u64 100000000000, .int .u64 1000000000000, .int .u64 10000000000000, .int .u64 100000000000000, .int .u64 1000000000000000, .int .u64 10000000000000000, .int .u64 100000000000000000, .int .u64 1000000000000000000, .int .u64 10000000000000000000])).modify 5 (lay #[.int .u8 128, .int .u8 191, .int .u8 160, .int .u8 191, .int .u8 128, .int .u8 159, .int .u8 144, .int .u8 191, .int .u8 128, .int .u8 143, .int .u8 0, .int .u8 0, .int .u8 0, .int .u8 0, .int .u8 0, .int .u8 0, .int .u8 0, .int .u8 0, .int .u8 0, .int .u8 0, .int .u8 0, .int .u8 0, .int .u8 0, .int .u8 0, .int .u8 0, .int .u8 0, .int .u8 0, .int .u8 0, .int .u8 0, .int .u8 0, .int .u8 0, .int .u8 0])).modify 4 (lay (Go.Pinned.utf8FirstZ.map fun n : Nat => Value.int .u8 (n : Int)).toArray) }
set_option maxRecDepth 100000 in
theorem laid_met (os : Os) : laidMet Tryd.prog Rows.fnExactParseItemRow.laid ((laidWorld os).forCall (fun _ _ => 0) ⟨#[], #[.string ByteArray.empty], []⟩).memory :=
  laidMet_of_run' 8 (by kernel_rfl) (by kernel_rfl)
theorem reads (os : Os) {H : Type} (enc : TypeId × Value → H) : ∃ places, DataW.whole enc Tryd.prog ((laidWorld os).forCall (fun _ _ => 0) ⟨#[], #[.string ByteArray.empty], []⟩).memory Tryd.f5.params.toList Rows.fnExactParseItemSpec.vars false (#[.string ByteArray.empty] : Array Value).toList 8 = some ([.lit (.string [])], [], places) :=
  ⟨[], by kernel_rfl⟩

set_option maxRecDepth 100000 in
theorem lifted (os : Os) (started : os.Started) (H : Type) (enc : TypeId × Value → H) (F : Stop.Interp) :
    ReturnsInHanded {} Tryd.checked os 5 .any ((OpenSpec.ofChange Rows.fnExactParseItemSpec).preRow enc Tryd.prog Tryd.f5 Rows.fnExactParseItemRow.domain false Rows.fnExactParseItemRow.laid) (((OpenSpec.ofChange Rows.fnExactParseItemSpec).at F).post enc Tryd.prog Tryd.f5 false true false false) := by
  obtain ⟨places, hx⟩ := reads os enc
  refine returnsInHanded_of_row (C := Tryd.checked) (s := OpenSpec.ofChange Rows.fnExactParseItemSpec) own started (by kernel_rfl) Tryd.func5
    (witness_row_at (enc := enc) (C := Tryd.checked) false (laidWorld os) #[.string ByteArray.empty] rfl (by kernel_rfl) (by kernel_rfl) (by kernel_rfl)
      (OpenSpec.preRow_of_cond 8 hx (by kernel_rfl) (fun k hk => by cases hk) (by kernel_rfl) (laid_met os))) ?_
  intro W base args ds gs before hval hW _ _ _ hL hS _
  exact contract H enc W base args ds gs before hval hW hL hS

theorem said : Rows.FnExactParseItemSaid :=
  OpenClaim.holds_of_cond 5 Tryd.f5 rfl rfl rfl rfl rfl rfl rfl ⟨rfl, rfl, rfl, rfl, rfl⟩ rfl rfl rfl rfl rfl (by kernel_rfl) Tryd.func5 (by kernel_rfl)
    (of_decide_eq_true (by kernel_rfl)) (by unfold Func.isWrapper; first | (rw [if_pos (by decide +kernel)]; kernel_rfl) | (rw [if_neg (by decide +kernel)]; exact ⟨rfl, rfl⟩))
    (fun os started H enc _ F => by rw [OpenClaim.pre_eq_preRow]; exact lifted os started H enc F)

theorem plain (f : FuncId) (fn : Func) (hf : Tryd.pinned.checked.prog.funcNamed "loop.example/g01987/laws.FnExactParseItem" = some f) (hfn : Tryd.pinned.checked.prog.funcs[f]? = some fn) :
    false = Tryd.pinned.checked.prog.looks [] ∧ ∀ (j : Nat) t, fn.params[j]? = some t → Tryd.pinned.checked.prog.wantsStandIn t = false := by
  obtain rfl : f = 5 := Option.some.inj ((show Tryd.prog.funcNamed "loop.example/g01987/laws.FnExactParseItem" = some 5 by kernel_rfl).symm.trans hf) |>.symm
  obtain rfl : fn = Tryd.f5 := (Option.some.inj (Tryd.func5.symm.trans hfn)).symm
  refine ⟨by kernel_rfl, fun j t ht => ?_⟩
  rw [Tryd.params5] at ht
  obtain rfl : t = 9 := by simpa using Array.mem_of_getElem? ht
  exact (show Tryd.prog.wantsStandIn 9 = false by kernel_rfl)

theorem holds : Rows.FnExactParseItemCardSaid :=
  Claim7.holds_tied_plain_at .later [] _ _ _ _ said (fun _ h => by cases h) (by kernel_rfl) (fun _ h => by cases h) fnExactParseItem_row_tie rfl ⟨rfl, rfl⟩ (by kernel_rfl) rfl plain (by kernel_rfl)

#print axioms holds
end Go.Proofs.YtghekfigfjhkeaaDoor.fnExactParseItem
