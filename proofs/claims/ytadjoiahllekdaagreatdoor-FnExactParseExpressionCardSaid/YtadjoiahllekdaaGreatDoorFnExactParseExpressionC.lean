/- The law FnExactParseExpression. -/
import Derived.Test.YtadjoiahllekdaaGreatDoorCards
import Derived.Test.YtadjoiahllekdaaGreatDoorTie
import Derived.Test.YtadjoiahllekdaaGreatDoorExpRes
import Derived.Test.YtadjoiahllekdaaGreatDoorPeC
import Derived.WalkKit
import Derived.ProofKit
import Derived.OpenShut
import Derived.ShutString
import Derived.Below
import Derived.ChangeOld
import Derived.Deep.DeepHandedRow
import Derived.Lib.LaidTab
import Derived.Stop.LaidErr
import Derived.OpenVars
import Derived.ChangeVars
import Derived.Deep.DeepWitnessRowRef
import Derived.Shelf.Vars
import GoSem.PinnedTables
namespace Go.Proofs.YtadjoiahllekdaaGreatDoor.fnExactParseExpression
set_option maxRecDepth 20000
open Go.ChangeShapes Go.WideShapes Go.ChangeAt Go.RowKit
open Go.ChangeMaps (open_string shut_string)
open Go.Proofs.YtadjoiahllekdaaGreatDoor.num
set_option linter.unusedVariables false
set_option linter.unusedSimpArgs false

theorem own : ownKnob Tryz.prog.godebug = none := by kernel_rfl
theorem gPowType : (Tryz.prog.globals[3]?).map (·.type) = some 197 := by kernel_rfl
theorem cellsTab : Tryz.prog.cellsOf 197 = 20 := by kernel_rfl
theorem cellsU64 : Tryz.prog.cellsOf 186 = 1 := by kernel_rfl

/-- What the row's list gives: the table of powers of ten. -/
theorem table {W : World} (h : laidMetH Tryz.prog Rows.fnExactParseExpressionRow.laid W) : Pow W :=
  Lib.tabIs_of_head (zs := Lib.pow10Tab) (rest := _) gPow gPowType Tryz.underlying197 Tryz.underlying186 cellsU64 cellsTab (show laidMet Tryz.prog (Rows.fnExactParseExpressionRow.laid.tail.tail) W from (laidMet.tail (laidMet.tail h)))

theorem mx {W : World} (h : W.ShapedOpen Tryz.prog) : Mx W :=
  cell_of_shapedOpen_int (zero := #[.int .i64 0]) (t := 3) h (of_decide_eq_true (by kernel_rfl)) (by kernel_rfl) rfl (by kernel_rfl) (by kernel_rfl) Tryz.underlying3

/-- What the row's list gives: the list of words. -/
theorem words {W : World} (h : laidMetH Tryz.prog Rows.fnExactParseExpressionRow.laid W) : Kw W :=
  kw_of (rest := _) (show laidMet Tryz.prog (Rows.fnExactParseExpressionRow.laid.tail.tail.tail.tail) W from laidMet.tail (laidMet.tail (laidMet.tail (laidMet.tail h))))

/-- What the row's list gives: the operators' words. -/
theorem opwords {W : World} (h : laidMetH Tryz.prog Rows.fnExactParseExpressionRow.laid W) : Ow W :=
  ow_of (rest := _) (show laidMet Tryz.prog (Rows.fnExactParseExpressionRow.laid.tail.tail.tail.tail.tail) W from laidMet.tail (laidMet.tail (laidMet.tail (laidMet.tail (laidMet.tail h)))))

theorem walk (a0 : ByteArray) (w : World) (w0 : a0.size ≤ maxLen) (hpow : Pow w) (hmx : Mx w) (hkw : Kw w) (how : Ow w) :
    Calls Tryz.prog 4 #[.string a0] w fun e w' => e = .returned (.bool true) ∧ Below w.heap.size w w' := by
  have HP := Lib.hid hpow
  have HM := Lib.hid hmx
  have HK := Lib.hid hkw
  have HO := Lib.hid how
  clear hpow hmx hkw how
  by_cases hsz : a0.size ≤ 1048576
  case neg =>
    have hgt : (1048576 : Int) < (a0.size : Int) := by omega
    go_enter Tryz.func4, Tryz.ntmps4
    go_wp2
    go_ret
    exact ⟨rfl, Below.refl _ _⟩
  have hle : ¬ ((1048576 : Int) < (a0.size : Int)) := by omega
  go_enter Tryz.func4, Tryz.ntmps4
  go_wp2_with fail
  refine (sParseE a0 hsz w).mono ?_
  rintro e w1 ⟨⟨Aa, na, ca, nsa, ok, rfl, hna, hsa, hpa⟩, hb1⟩
  have HB1 := Lib.hid (hb1)
  have Z01 := Lib.hid (Below.size hb1)
  have Na := Lib.hid hna
  have Da := Lib.hid hpa
  have Sa := Lib.hid hsa
  have T1_1 := Lib.hid (Below.refl w1.heap.size w1)
  have hoo : (ok != ok) = false := by simp
  clear hna hpa hsa w0 hle
  clear hb1
  go_wp2_with fail
  refine (iParseE a0 hsz _ (HP.out.below HB1.out) (HM.out.below HB1.out) (HK.out.below HB1.out) (HO.out.below HB1.out)).mono ?_
  rintro e w2 ⟨⟨vg, nsg, okg, rfl, ho, hs, hp⟩, hb2⟩
  have HB2 := Lib.hid (below_on HB1.out hb2)
  have T1_2 := Lib.hid (T1_1.out.trans (hb2.mono T1_1.out.size))
  have Z12 := Lib.hid (Below.size hb2)
  obtain ⟨hd, rfl⟩ := Da.out.one hp
  obtain ⟨Ag, cg, rfl, -, -⟩ := ho.r.shape
  have Dg := Lib.hid hd
  have Lg : Hid (nsg.length ≤ 1048576) := Lib.hid (Nat.le_trans hp.small (by decide))
  have Sg := Lib.hid hs
  have Rg_2 := Lib.hid (ResN.new ho)
  have Tg := Lib.hid (lensN ho hs)
  clear hd hs ho hp
  clear hb2
  go_wp2_with fail
  refine (eqNodes_c w2 w2.heap.size _ _ _ _ _ _ nsg nsa Rg_2.out.own.nodes ((Na.out.below T1_2.out).more T1_2.out.size) (Nat.le_refl _) Lg.out Sg.out true ⟨fun _ => Dg.out.symm, fun _ => rfl⟩).mono ?_
  rintro e w3 ⟨rfl, hb3⟩
  have HB3 := Lib.hid (below_on HB2.out hb3)
  have T1_3 := Lib.hid (T1_2.out.trans (hb3.mono T1_2.out.size))
  have Z23 := Lib.hid (Below.size hb3)
  have Rg_3 := Lib.hid (Rg_2.out.step hb3)
  clear hb3
  go_wp2_with fail
  refine (Rg_3.out.mark Lg.out Sg.out _ 1 (by simp) (by decide)).mono ?_
  rintro e w4 ⟨rfl, hm, hon⟩
  have HB4 := Lib.hid (HB3.out.trans (hon.lo HB1.out.size))
  have T1_4 := Lib.hid (T1_3.out.trans (hon.lo (Nat.le_refl _)))
  have Rg_4 := Lib.hid hm
  clear hm hon
  obtain ⟨M, hM⟩ : ∃ M : Nat, 1 + cntN nsg = M := ⟨_, rfl⟩
  have HMm := Lib.hid hM
  rw [hM]
  clear hM
  have hm1 : decide ((M : Int) < 0) = false := by simp
  have hm2 : ((M : Int) != (M : Int)) = false := by simp
  go_wp2_with fail
  refine (Rg_4.out.held Lg.out Tg.out _ (by simp) (by decide)).mono ?_
  rintro e wh ⟨rfl, hw⟩
  rw [← hw, HMm.out]
  clear hw wh
  go_wp2_with fail
  refine (iParseE a0 hsz _ (HP.out.below HB4.out) (HM.out.below HB4.out) (HK.out.below HB4.out) (HO.out.below HB4.out)).mono ?_
  rintro e w5 ⟨⟨vh, nsh, okh, rfl, ho, hs, hp⟩, hb5⟩
  have HB5 := Lib.hid (below_on HB4.out hb5)
  have T1_5 := Lib.hid (T1_4.out.trans (hb5.mono T1_4.out.size))
  have Z45 := Lib.hid (Below.size hb5)
  have Rg_5 := Lib.hid (Rg_4.out.step hb5)
  obtain ⟨hd, rfl⟩ := Da.out.one hp
  obtain ⟨Ah, ch, rfl, -, -⟩ := ho.r.shape
  have Dh := Lib.hid hd
  have Lh : Hid (nsh.length ≤ 1048576) := Lib.hid (Nat.le_trans hp.small (by decide))
  have Sh := Lib.hid hs
  have Rh_5 := Lib.hid (ResN.new ho)
  have Th := Lib.hid (lensN ho hs)
  clear hd hs ho hp
  clear hb5
  go_wp2_with fail
  refine (eqNodes_c w5 w5.heap.size _ _ _ _ _ _ nsh nsa Rh_5.out.own.nodes ((Na.out.below T1_5.out).more T1_5.out.size) (Nat.le_refl _) Lh.out Sh.out true ⟨fun _ => Dh.out.symm, fun _ => rfl⟩).mono ?_
  rintro e w6 ⟨rfl, hb6⟩
  have HB6 := Lib.hid (below_on HB5.out hb6)
  have T1_6 := Lib.hid (T1_5.out.trans (hb6.mono T1_5.out.size))
  have Z56 := Lib.hid (Below.size hb6)
  have Rg_6 := Lib.hid (Rg_5.out.step hb6)
  have Rh_6 := Lib.hid (Rh_5.out.step hb6)
  clear hb6
  go_wp2_with fail
  refine (Rg_6.out.held Lg.out Tg.out _ (by simp) (by decide)).mono ?_
  rintro e wh ⟨rfl, hw⟩
  rw [← hw, HMm.out]
  clear hw wh
  go_wp2
  go_ret
  exact ⟨rfl, HB6.out⟩

set_option maxRecDepth 100000 in
theorem contract (H : Type) (enc : TypeId × Value → H) (W : World) (base : Nat) (args : Array Value) (ds gs : List (DataW H)) (before : List MemPlace)
    (hval : ∀ (j : Nat) t v, Tryz.f4.params[j]? = some t → args[j]? = some v → Value.okWide Tryz.prog W .any base t v)
    (hW : DataW.Whole enc Tryz.prog Tryz.f4.params.toList Rows.fnExactParseExpressionSpec.vars false W args.toList ds gs before) (hL : laidMetH Tryz.prog Rows.fnExactParseExpressionRow.laid W) (hS : W.ShapedOpen Tryz.prog) :
    Calls Tryz.prog 4 args W fun e W' => ∃ v, e = .returned v ∧ Rows.fnExactParseExpressionSpec.post enc Tryz.prog Tryz.f4 false true false false W args v W' := by
  have hW' := hW
  obtain ⟨p, q, hA0, hV, rfl, hfz, hnd⟩ := hW
  have hA : DataW.TrodAll enc Tryz.prog W 0 (fun _ => true) true Tryz.f4.params.toList args.toList ds p := hA0
  rw [Tryz.params4] at hA hval
  obtain ⟨v0, vs0, d0, ds0, p0, q0, hargs, rfl, rfl, h0, r0⟩ := trodAll_cons hA
  obtain ⟨rfl, rfl, rfl⟩ := trodAll_nil r0
  obtain rfl : args = #[v0] := by cases args; simp_all
  have hV1 := hV
  obtain ⟨g8, t8, cs8, f8, d8, p8, g9, t9, cs9, f9, d9, p9, rfl, _, _, _, _, _, _, _, _, _⟩ := trodVars_two hV
  obtain ⟨a0, rfl, rfl, rfl, w0⟩ := open_string Tryz.underlying9 (hval 0 9 v0 rfl rfl) h0
  clear hA0
  refine (walk a0 W w0 (table hL) (mx hS) (words hL) (opwords hL)).mono fun e W' ⟨he, hb⟩ => ?_
  subst he
  exact ⟨_, rfl, _, _, _, _, _, _, hW', trodAll_mk1 (shut_bool Tryz.underlying4 _), (trodAll_cons_mk (shut_string Tryz.underlying9 w0) trodAll_mk0), Below.trodVars laidOut hb (by kernel_rfl) hV1, hb.frame _, fun h => by cases h⟩

def lay (a : Array Value) : Obj → Obj
  | .cells _ t frozen => .cells a t frozen
  | o => o
/-- A world for the witness: the settled one, the tables holding what their initialisers lay. -/
noncomputable def laidWorld (os : Os) : World :=
  { World.holding Tryz.prog os ⟨#[], #[], []⟩ with heap := (((((((((World.holding Tryz.prog os ⟨#[], #[], []⟩).heap.modify 6 (lay #[.int .u8 0, .int .u8 1, .int .u8 28, .int .u8 2, .int .u8 29, .int .u8 14, .int .u8 24, .int .u8 3, .int .u8 30, .int .u8 22, .int .u8 20, .int .u8 15, .int .u8 25, .int .u8 17, .int .u8 4, .int .u8 8, .int .u8 31, .int .u8 27, .int .u8 13, .int .u8 23, .int .u8 21, .int .u8 19, .int .u8 16, .int .u8 7, .int .u8 26, .int .u8 12, .int .u8 18, .int .u8 6, .int .u8 11, .int .u8 5, .int .u8 10, .int .u8 9])).modify 7 (lay #[.int .u8 0, .int .u8 1, .int .u8 56, .int .u8 2, .int .u8 57, .int .u8 49, .int .u8 28, .int .u8 3, .int .u8 61, .int .u8 58, .int .u8 42, .int .u8 50, .int .u8 38, .int .u8 29, .int .u8 17, .int .u8 4, .int .u8 62, .int .u8 47, .int .u8 59, .int .u8 36, .int .u8 45, .int .u8 43, .int .u8 51, .int .u8 22, .int .u8 53, .int .u8 39, .int .u8 33, .int .u8 30, .int .u8 24, .int .u8 18, .int .u8 12, .int .u8 5, .int .u8 63, .int .u8 55, .int .u8 48, .int .u8 27, .int .u8 60, .int .u8 41, .int .u8 37, .int .u8 16, .int .u8 46, .int .u8 35, .int .u8 44, .int .u8 21, .int .u8 52, .int .u8 32, .int .u8 23, .int .u8 11, .int .u8 54, .int .u8 26, .int .u8 40, .int .u8 15, .int .u8 34, .int .u8 20, .int .u8 31, .int .u8 10, .int .u8 25, .int .u8 14, .int .u8 19, .int .u8 9, .int .u8 13, .int .u8 8, .int .u8 7, .int .u8 6])).modify 3 (lay #[.int .u64 1, .int .u64 10, .int .u64 100, .int .u64 1000, .int .u64 10000, .int .u64 100000, .int .u64 1000000, .int .u64 10000000, .int .u64 100000000, .int .u64 1000000000, .int .u64 10000000000, .int .u64 100000000000, .int .u64 1000000000000, .int .u64 10000000000000, .int .u64 100000000000000, .int .u64 1000000000000000, .int .u64 10000000000000000, .int .u64 100000000000000000, .int .u64 1000000000000000000, .int .u64 10000000000000000000])).modify 5 (lay #[.int .u8 128, .int .u8 191, .int .u8 160, .int .u8 191, .int .u8 128, .int .u8 159, .int .u8 144, .int .u8 191, .int .u8 128, .int .u8 143, .int .u8 0, .int .u8 0, .int .u8 0, .int .u8 0, .int .u8 0, .int .u8 0, .int .u8 0, .int .u8 0, .int .u8 0, .int .u8 0, .int .u8 0, .int .u8 0, .int .u8 0, .int .u8 0, .int .u8 0, .int .u8 0, .int .u8 0, .int .u8 0, .int .u8 0, .int .u8 0, .int .u8 0, .int .u8 0])).modify 4 (lay (Go.Pinned.utf8FirstZ.map fun n : Nat => Value.int .u8 (n : Int)).toArray)).modify 0 (lay #[.slice (some ⟨(World.holding Tryz.prog os ⟨#[], #[], []⟩).heap.size, 0, none⟩) 5 5])).modify 1 (lay #[.slice (some ⟨(World.holding Tryz.prog os ⟨#[], #[], []⟩).heap.size + 1, 0, none⟩) 5 5])).push (.cells #[.string (kwB 0), .string (kwB 1), .string (kwB 2), .string (kwB 3), .string (kwB 4)] 9)).push (.cells #[.string (owB 0), .string (owB 1), .string (owB 2), .string (owB 3), .string (owB 4)] 9) }
set_option maxRecDepth 100000 in
theorem laid_met (os : Os) : laidMet Tryz.prog Rows.fnExactParseExpressionRow.laid ((laidWorld os).forCall (fun _ _ => 0) ⟨#[], #[.string ByteArray.empty], []⟩).memory :=
  laidMet_of_run' 8 (by kernel_rfl) (by kernel_rfl)
set_option maxRecDepth 100000 in
theorem reads (os : Os) {H : Type} (enc : TypeId × Value → H) : ∃ places, DataW.whole enc Tryz.prog ((laidWorld os).forCall (fun _ _ => 0) ⟨#[], #[.string ByteArray.empty], []⟩).memory Tryz.f4.params.toList Rows.fnExactParseExpressionSpec.vars false (#[.string ByteArray.empty] : Array Value).toList 8 = some ([.lit (.string [])], [Rows.laid_loop_example_g01987_impl_opWords, Rows.laid_loop_example_g01987_impl_kindWords], places) := by
  have h : (DataW.whole enc Tryz.prog ((laidWorld os).forCall (fun _ _ => 0) ⟨#[], #[.string ByteArray.empty], []⟩).memory Tryz.f4.params.toList Rows.fnExactParseExpressionSpec.vars false (#[.string ByteArray.empty] : Array Value).toList 8).map (fun x => (x.1, x.2.1)) = some ([.lit (.string [])], [Rows.laid_loop_example_g01987_impl_opWords, Rows.laid_loop_example_g01987_impl_kindWords]) := by kernel_rfl
  obtain ⟨⟨a, b, c⟩, hx, he⟩ := Option.map_eq_some_iff.1 h
  simp only [Prod.mk.injEq] at he
  obtain ⟨rfl, rfl⟩ := he
  exact ⟨c, hx⟩

set_option maxRecDepth 100000 in
theorem lifted (os : Os) (started : os.Started) (H : Type) (enc : TypeId × Value → H) (F : Stop.Interp) :
    ReturnsInHanded {} Tryz.checked os 4 .any ((OpenSpec.ofChange Rows.fnExactParseExpressionSpec).preRow enc Tryz.prog Tryz.f4 Rows.fnExactParseExpressionRow.domain false Rows.fnExactParseExpressionRow.laid) (((OpenSpec.ofChange Rows.fnExactParseExpressionSpec).at F).post enc Tryz.prog Tryz.f4 false true false false) := by
  obtain ⟨places, hx⟩ := reads os enc
  refine returnsInHanded_of_row (C := Tryz.checked) (s := OpenSpec.ofChange Rows.fnExactParseExpressionSpec) own started (by kernel_rfl) Tryz.func4
    (witness_row_atRef (enc := enc) (C := Tryz.checked) false (laidWorld os) #[.string ByteArray.empty] rfl (by kernel_rfl) (by kernel_rfl) (by kernel_rfl)
      (OpenSpec.preRow_of_cond 8 hx (by kernel_rfl) (fun k hk => by cases hk) (by kernel_rfl) (laid_met os))) ?_
  intro W base args ds gs before hval hW _ _ _ hL hS _
  exact contract H enc W base args ds gs before hval hW hL hS

theorem said : Rows.FnExactParseExpressionSaid :=
  OpenClaim.holds_of_cond 4 Tryz.f4 rfl rfl rfl rfl rfl rfl rfl ⟨rfl, rfl, rfl, rfl, rfl⟩ rfl rfl rfl rfl rfl (by kernel_rfl) Tryz.func4 (by kernel_rfl)
    (of_decide_eq_true (by kernel_rfl)) (by unfold Func.isWrapper; first | (rw [if_pos (by decide +kernel)]; kernel_rfl) | (rw [if_neg (by decide +kernel)]; exact ⟨rfl, rfl⟩))
    (fun os started H enc _ F => by rw [OpenClaim.pre_eq_preRow]; exact lifted os started H enc F)

theorem plain (f : FuncId) (fn : Func) (hf : Tryz.pinned.checked.prog.funcNamed "loop.example/g01987/laws.FnExactParseExpression" = some f) (hfn : Tryz.pinned.checked.prog.funcs[f]? = some fn) :
    false = Tryz.pinned.checked.prog.looks [] ∧ ∀ (j : Nat) t, fn.params[j]? = some t → Tryz.pinned.checked.prog.wantsStandIn t = false := by
  obtain rfl : f = 4 := Option.some.inj ((show Tryz.prog.funcNamed "loop.example/g01987/laws.FnExactParseExpression" = some 4 by kernel_rfl).symm.trans hf) |>.symm
  obtain rfl : fn = Tryz.f4 := (Option.some.inj (Tryz.func4.symm.trans hfn)).symm
  refine ⟨by kernel_rfl, fun j t ht => ?_⟩
  rw [Tryz.params4] at ht
  obtain rfl : t = 9 := by simpa using Array.mem_of_getElem? ht
  exact (show Tryz.prog.wantsStandIn 9 = false by kernel_rfl)

theorem holds : Rows.FnExactParseExpressionCardSaid :=
  Claim7.holds_tied_plain_at .later [] _ _ _ _ said (fun _ h => by cases h) (by kernel_rfl) (fun _ h => by cases h) fnExactParseExpression_row_tie rfl ⟨rfl, rfl⟩ (by kernel_rfl) rfl plain (by kernel_rfl)

#print axioms holds
end Go.Proofs.YtadjoiahllekdaaGreatDoor.fnExactParseExpression
