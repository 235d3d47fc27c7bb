/- For every slice of nodes, where the library's three tables and the program's two lists of words start as the program's text lays them (the card ties that), the law of FormatExpression returns true: the program and the model answer the same; what came in reads as it did. -/
import Derived.Test.YtghekfigfjhkeaaDoorCards
import Derived.Test.YtghekfigfjhkeaaDoorTie
import Derived.Test.YtghekfigfjhkeaaDoorExpLaw
import Derived.WalkKit
import Derived.ProofKit
import Derived.OpenShut
import Derived.ShutString
import Derived.Below
import Derived.ChangeOld
import Derived.Deep.DeepHandedRow
import Derived.Lib.LaidTab
import Derived.Stop.LaidErr
import Derived.OpenVars
import Derived.ChangeVars
import Derived.Deep.DeepWitnessRowRef
import Derived.Test.YtghekfigfjhkeaaDoorFormatExpressionP1
namespace Go.Proofs.YtghekfigfjhkeaaDoor.fnExactFormatExpression
open Go.ChangeShapes Go.WideShapes Go.ChangeAt Go.RowKit
open Go.ChangeMaps (open_string shut_string)
open Go.Proofs.YtghekfigfjhkeaaDoor.num
set_option linter.unusedVariables false
set_option linter.unusedSimpArgs false

theorem own : ownKnob Tryd.prog.godebug = none := by kernel_rfl
theorem gPowType : (Tryd.prog.globals[3]?).map (·.type) = some 166 := by kernel_rfl
theorem cellsTab : Tryd.prog.cellsOf 166 = 20 := by kernel_rfl
theorem cellsU64 : Tryd.prog.cellsOf 155 = 1 := by kernel_rfl

/-- What the row's list gives: the table of powers of ten. -/
theorem table {W : World} (h : laidMetH Tryd.prog Rows.fnExactFormatExpressionRow.laid W) : Pow W :=
  Lib.tabIs_of_head (zs := Lib.pow10Tab) (rest := _) gPow gPowType Tryd.underlying166 Tryd.underlying155 cellsU64 cellsTab (show laidMet Tryd.prog (Rows.fnExactFormatExpressionRow.laid.tail.tail) W from (laidMet.tail (laidMet.tail h)))

/-- What the row's list gives: the list of words. -/
theorem words {W : World} (h : laidMetH Tryd.prog Rows.fnExactFormatExpressionRow.laid W) : Kw W :=
  kw_of (rest := _) (show laidMet Tryd.prog (Rows.fnExactFormatExpressionRow.laid.tail.tail.tail) W from laidMet.tail (laidMet.tail (laidMet.tail h)))

/-- What the row's list gives: the operators' words. -/
theorem opwords {W : World} (h : laidMetH Tryd.prog Rows.fnExactFormatExpressionRow.laid W) : Ow W :=
  ow_of (rest := []) (show laidMet Tryd.prog (Rows.fnExactFormatExpressionRow.laid.tail.tail.tail.tail) W from laidMet.tail (laidMet.tail (laidMet.tail (laidMet.tail h))))

theorem walk (A0 : Option Addr) (n0 c0 : Nat) (ns0 : List Nd) (w : World) (m0 : n0 ≤ 9223372036854775807) (N0 : ∀ x ∈ ns0, x.t.Ln ≤ 9223372036854775807 ∧ x.t.Pn ≤ 9223372036854775807) (w0 : Nodes w w.heap.size A0 n0 ns0) (hpow : Pow w) (hkw : Kw w) (how : Ow w) :
    Calls Tryd.prog 3 #[.slice A0 n0 c0] w fun e w' => e = .returned (.bool true) ∧ Below w.heap.size w w' := by
  have HPw := Lib.hid hpow
  have HKw := Lib.hid hkw
  have HOw := Lib.hid how
  clear hpow hkw how
  have HM0 := Lib.hid m0
  have HL0 := Lib.hid N0
  have HW0 := Lib.hid w0
  clear m0 N0 w0
  go_enter Tryd.func3, Tryd.ntmps3
  go_wp2_with fail
  refine (szNodes_c w w.heap.size A0 n0 c0 ns0 (HW0.out.below (Below.refl w.heap.size w)) (Below.refl w.heap.size w).size HM0.out HL0.out 1048576 (by decide) (by decide)).mono ?_
  rintro e w1 ⟨⟨r0, rfl, hr0⟩, hb1⟩
  have HB1 := Lib.hid (hb1)
  clear hb1
  rcases hr0 with rfl | ⟨hr0a, hr0b, hn0, hs0⟩
  · go_wp2
    go_ret
    exact ⟨rfl, HB1.out⟩
  have HS0 := Lib.hid hs0
  clear hs0
  have hz0 : decide (r0 < 0) = false := by simp; omega
  obtain ⟨q, hq⟩ := bool_of (IsE (datN ns0))
  have HQ := Lib.hid hq
  clear hq
  obtain ⟨z, hz⟩ : ∃ z, fmtE (datN ns0) q = z := ⟨_, rfl⟩
  have HZ := Lib.hid hz
  clear hz
  go_wp2_with fail
  refine (toNodes_w w1 w.heap.size A0 n0 c0 ns0 (HW0.out.below HB1.out) HB1.out.size hn0 HS0.out).mono ?_
  rintro e w2 ⟨nsp, rfl, hc, hb2⟩
  have HB2 := Lib.hid (below_on HB1.out hb2)
  have Cp_2 := Lib.hid hc
  clear hc
  clear hb2
  go_wp2_with fail
  refine (sFmtE _ _ _ n0 n0 nsp Cp_2.out.nodes (Nat.le_refl _) hn0 Cp_2.out.short q (by rw [Cp_2.out.dat]; exact HQ.out)).mono ?_
  rintro e w3 ⟨rfl, hb3⟩
  have HB3 := Lib.hid (below_on HB2.out hb3)
  have Cp_3 := Lib.hid (Cp_2.out.step hb3)
  rw [Cp_3.out.dat, HZ.out]
  clear hb3
  go_wp2_with fail
  refine (toNodes_w w3 w.heap.size A0 n0 c0 ns0 (HW0.out.below HB3.out) HB3.out.size hn0 HS0.out).mono ?_
  rintro e w4 ⟨nsx, rfl, hc, hb4⟩
  have HB4 := Lib.hid (below_on HB3.out hb4)
  have Cx_4 := Lib.hid hc
  clear hc
  clear hb4
  go_wp2_with fail
  refine (iFmtE _ _ _ n0 n0 nsx Cx_4.out.nodes (Nat.le_refl _) (Nat.le_refl _) hn0 Cx_4.out.short q (by rw [Cx_4.out.dat]; exact HQ.out) (HPw.out.below HB4.out) (HKw.out.below HB4.out) (HOw.out.below HB4.out)).mono ?_
  rintro e w5 ⟨rfl, hb5⟩
  have HB5 := Lib.hid (below_on HB4.out hb5)
  have Cx_5 := Lib.hid (Cx_4.out.step hb5)
  rw [Cx_5.out.dat, HZ.out]
  clear hb5
  go_wp2_with fail
  refine (toNodes_w w5 w.heap.size A0 n0 c0 ns0 (HW0.out.below HB5.out) HB5.out.size hn0 HS0.out).mono ?_
  rintro e w6 ⟨nsz, rfl, hc, hb6⟩
  have HB6 := Lib.hid (below_on HB5.out hb6)
  have Cx_6 := Lib.hid (Cx_5.out.step hb6)
  have Cz_6 := Lib.hid hc
  clear hc
  clear hb6
  go_wp2_with fail
  refine (eqNodes_w _ _ _ _ _ _ _ Cx_6.out Cz_6.out hn0).mono ?_
  rintro e w7 ⟨rfl, hb7⟩
  have HB7 := Lib.hid (below_on HB6.out hb7)
  have Cx_7 := Lib.hid (Cx_6.out.step hb7)
  have Cz_7 := Lib.hid (Cz_6.out.step hb7)
  clear hb7
  go_wp2
  go_ret
  exact ⟨rfl, HB7.out⟩

set_option maxRecDepth 100000 in
theorem contract (H : Type) (enc : TypeId × Value → H) (W : World) (base : Nat) (args : Array Value) (ds gs : List (DataW H)) (before : List MemPlace)
    (hval : ∀ (j : Nat) t v, Tryd.f3.params[j]? = some t → args[j]? = some v → Value.okWide Tryd.prog W .any base t v)
    (hW : DataW.Whole enc Tryd.prog Tryd.f3.params.toList Rows.fnExactFormatExpressionSpec.vars false W args.toList ds gs before) (hL : laidMetH Tryd.prog Rows.fnExactFormatExpressionRow.laid W) :
    Calls Tryd.prog 3 args W fun e W' => ∃ v, e = .returned v ∧ Rows.fnExactFormatExpressionSpec.post enc Tryd.prog Tryd.f3 false true false false W args v W' := by
  have hW' := hW
  obtain ⟨p, q, hA0, hV, rfl, hfz, hnd⟩ := hW
  have hA : DataW.TrodAll enc Tryd.prog W 0 (fun _ => true) true Tryd.f3.params.toList args.toList ds p := hA0
  rw [Tryd.params3] at hA hval
  obtain ⟨v0, vs0, d0, ds0, p0, q0, hargs, rfl, rfl, h0, r0⟩ := trodAll_cons hA
  obtain ⟨rfl, rfl, rfl⟩ := trodAll_nil r0
  obtain rfl : args = #[v0] := by cases args; simp_all
  have hV1 := hV
  obtain ⟨g8, t8, cs8, f8, d8, p8, g9, t9, cs9, f9, d9, p9, rfl, _, _, _, _, _, _, _, _, _⟩ := trodVars_two hV
  have lt0 : ∀ x ∈ p0, x.block < W.heap.size := by obtain ⟨m, hm⟩ := h0; exact DataW.trod_lt m _ _ _ hm
  obtain ⟨A0, n0, c0, ns0, rfl, m0, N0, w0⟩ := open_nodes (hval 0 22 v0 rfl rfl) h0
  clear hA0
  refine (walk A0 n0 c0 ns0 W m0 N0 w0 (table hL) (words hL) (opwords hL)).mono fun e W' ⟨he, hb⟩ => ?_
  subst he
  exact ⟨_, rfl, _, _, _, _, _, _, hW', trodAll_mk1 (shut_bool Tryd.underlying4 _), (trodAll_cons_mk (Below.trod laidOut (by kernel_rfl) (of_decide_eq_true (by kernel_rfl)) h0 hb lt0) trodAll_mk0), Below.trodVars laidOut hb (by kernel_rfl) hV1, hb.frame _, fun h => by cases h⟩

def lay (a : Array Value) : Obj → Obj
  | .cells _ t frozen => .cells a t frozen
  | o => o
/-- A world for the witness: the settled one, the tables holding what their initialisers lay. -/
noncomputable def laidWorld (os : Os) : World :=
  { World.holding Tryd.prog os ⟨#[], #[], []⟩ with heap := (((((((World.holding Tryd.prog os ⟨#[], #[], []⟩).heap.modify 6 (lay #[.int .u8 0, .int .u8 1, .int .u8 28, .int .u8 2, .int .u8 29, .int .u8 14, .int .u8 24, .int .u8 3, .int .u8 30, .int .u8 22, .int .u8 20, .int .u8 15, .int .u8 25, .int .u8 17, .int .u8 4, .int .u8 8, .int .u8 31, .int .u8 27, .int .u8 13, .int .u8 23, .int .u8 21, .int .u8 19, .int .u8 16, .int .u8 7, .int .u8 26, .int .u8 12, .int .u8 18, .int .u8 6, .int .u8 11, .int .u8 5, .int .u8 10, .int .u8 9])).modify 7 (lay #[.int .u8 0, .int .u8 1, .int .u8 56, .int .u8 2, .int .u8 57, .int .u8 49, .int .u8 28, .int .u8 3, .int .u8 61, .int .u8 58, .int .u8 42, .int .u8 50, .int .u8 38, .int .u8 29, .int .u8 17, .int .u8 4, .int .u8 62, .int .u8 47, .int .u8 59, .int .u8 36, .int .u8 45, .int .u8 43, .int .u8 51, .int .u8 22, .int .u8 53, .int .u8 39, .int .u8 33, .int .u8 30, .int .u8 24, .int .u8 18, .int .u8 12, .int .u8 5, .int .u8 63, .int .u8 55, .int .u8 48, .int .u8 27, .int .u8 60, .int .u8 41, .int .u8 37, .int .u8 16, .int .u8 46, .int .u8 35, .int .u8 44, .int .u8 21, .int .u8 52, .int .u8 32, .int .u8 23, .int .u8 11, .int .u8 54, .int .u8 26, .int .u8 40, .int .u8 15, .int .u8 34, .int .u8 20, .int .u8 31, .int .u8 10, .int .u8 25, .int .u8 14, .int .u8 19, .int .u8 9, .int .u8 13, .int .u8 8, .int .u8 7, .int .u8 6])).modify 3 (lay #[.int .u64 1, .int .u64 10, .int .u64 100, .int .u64 1000, .int .u64 10000, .int .u64 100000, .int .u64 1000000, .int .u64 10000000, .int .u64 100000000, .int .u64 1000000000, .int .u64 10000000000, .int .u64 100000000000, .int .u64 1000000000000, .int .u64 10000000000000, .int .u64 100000000000000, .int .u64 1000000000000000, .int .u64 10000000000000000, .int .u64 100000000000000000, .int .u64 1000000000000000000, .int .u64 10000000000000000000])).modify 1 (lay #[.slice (some ⟨(World.holding Tryd.prog os ⟨#[], #[], []⟩).heap.size, 0, none⟩) 5 5])).modify 0 (lay #[.slice (some ⟨(World.holding Tryd.prog os ⟨#[], #[], []⟩).heap.size + 1, 0, none⟩) 5 5])).push (.cells #[.string (kwB 0), .string (kwB 1), .string (kwB 2), .string (kwB 3), .string (kwB 4)] 9)).push (.cells #[.string (owB 0), .string (owB 1), .string (owB 2), .string (owB 3), .string (owB 4)] 9) }
set_option maxRecDepth 100000 in
theorem laid_met (os : Os) : laidMet Tryd.prog Rows.fnExactFormatExpressionRow.laid ((laidWorld os).forCall (fun _ _ => 0) ⟨#[], #[.slice none 0 0], []⟩).memory :=
  laidMet_of_run' 8 (by kernel_rfl) (by kernel_rfl)
set_option maxRecDepth 100000 in
theorem reads (os : Os) {H : Type} (enc : TypeId × Value → H) : ∃ places, DataW.whole enc Tryd.prog ((laidWorld os).forCall (fun _ _ => 0) ⟨#[], #[.slice none 0 0], []⟩).memory Tryd.f3.params.toList Rows.fnExactFormatExpressionSpec.vars false (#[.slice none 0 0] : Array Value).toList 8 = some ([.nil], [Rows.laid_loop_example_g01987_impl_opWords, Rows.laid_loop_example_g01987_impl_kindWords], places) := by
  have h : (DataW.whole enc Tryd.prog ((laidWorld os).forCall (fun _ _ => 0) ⟨#[], #[.slice none 0 0], []⟩).memory Tryd.f3.params.toList Rows.fnExactFormatExpressionSpec.vars false (#[.slice none 0 0] : Array Value).toList 8).map (fun x => (x.1, x.2.1)) = some ([.nil], [Rows.laid_loop_example_g01987_impl_opWords, Rows.laid_loop_example_g01987_impl_kindWords]) := by kernel_rfl
  obtain ⟨⟨a, b, c⟩, hx, he⟩ := Option.map_eq_some_iff.1 h
  simp only [Prod.mk.injEq] at he
  obtain ⟨rfl, rfl⟩ := he
  exact ⟨c, hx⟩

set_option maxRecDepth 100000 in
theorem lifted (os : Os) (started : os.Started) (H : Type) (enc : TypeId × Value → H) (F : Stop.Interp) :
    ReturnsInHanded {} Tryd.checked os 3 .any ((OpenSpec.ofChange Rows.fnExactFormatExpressionSpec).preRow enc Tryd.prog Tryd.f3 Rows.fnExactFormatExpressionRow.domain false Rows.fnExactFormatExpressionRow.laid) (((OpenSpec.ofChange Rows.fnExactFormatExpressionSpec).at F).post enc Tryd.prog Tryd.f3 false true false false) := by
  obtain ⟨places, hx⟩ := reads os enc
  refine returnsInHanded_of_row (C := Tryd.checked) (s := OpenSpec.ofChange Rows.fnExactFormatExpressionSpec) own started (by kernel_rfl) Tryd.func3
    (witness_row_atRef (enc := enc) (C := Tryd.checked) false (laidWorld os) #[.slice none 0 0] rfl (by kernel_rfl) (by kernel_rfl) (by kernel_rfl)
      (OpenSpec.preRow_of_cond 8 hx (by kernel_rfl) (fun k hk => by cases hk) (by kernel_rfl) (laid_met os))) ?_
  intro W base args ds gs before hval hW _ _ _ hL hS _
  exact contract H enc W base args ds gs before hval hW hL

theorem said : Rows.FnExactFormatExpressionSaid :=
  OpenClaim.holds_of_cond 3 Tryd.f3 rfl rfl rfl rfl rfl rfl rfl ⟨rfl, rfl, rfl, rfl, rfl⟩ rfl rfl rfl rfl rfl (by kernel_rfl) Tryd.func3 (by kernel_rfl)
    (of_decide_eq_true (by kernel_rfl)) (by unfold Func.isWrapper; first | (rw [if_pos (by decide +kernel)]; kernel_rfl) | (rw [if_neg (by decide +kernel)]; exact ⟨rfl, rfl⟩))
    (fun os started H enc _ F => by rw [OpenClaim.pre_eq_preRow]; exact lifted os started H enc F)

theorem plain (f : FuncId) (fn : Func) (hf : Tryd.pinned.checked.prog.funcNamed "loop.example/g01987/laws.FnExactFormatExpression" = some f) (hfn : Tryd.pinned.checked.prog.funcs[f]? = some fn) :
    false = Tryd.pinned.checked.prog.looks [] ∧ ∀ (j : Nat) t, fn.params[j]? = some t → Tryd.pinned.checked.prog.wantsStandIn t = false := by
  obtain rfl : f = 3 := Option.some.inj ((show Tryd.prog.funcNamed "loop.example/g01987/laws.FnExactFormatExpression" = some 3 by kernel_rfl).symm.trans hf) |>.symm
  obtain rfl : fn = Tryd.f3 := (Option.some.inj (Tryd.func3.symm.trans hfn)).symm
  refine ⟨by kernel_rfl, fun j t ht => ?_⟩
  rw [Tryd.params3] at ht
  obtain rfl : t = 22 := by simpa using Array.mem_of_getElem? ht
  exact (show Tryd.prog.wantsStandIn 22 = false by kernel_rfl)

theorem holds : Rows.FnExactFormatExpressionCardSaid :=
  Claim7.holds_tied_plain_at .later [] _ _ _ _ said (fun _ h => by cases h) (by kernel_rfl) (fun _ h => by cases h) fnExactFormatExpression_row_tie rfl ⟨rfl, rfl⟩ (by kernel_rfl) rfl plain (by kernel_rfl)

#print axioms holds
end Go.Proofs.YtghekfigfjhkeaaDoor.fnExactFormatExpression
