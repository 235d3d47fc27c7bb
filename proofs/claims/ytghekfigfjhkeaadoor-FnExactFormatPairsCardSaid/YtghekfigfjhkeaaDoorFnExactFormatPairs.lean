/- For every slice of pairs, where the library's three tables start as the program's text lays them (the card ties that), the law of FormatPairs returns true: the program and the model answer the same; what came in reads as it did. -/
import Derived.Test.YtghekfigfjhkeaaDoorCards
import Derived.Test.YtghekfigfjhkeaaDoorTie
import Derived.Test.YtghekfigfjhkeaaDoorPairLaw
import Derived.Test.YtghekfigfjhkeaaDoorPairFmt
import Derived.WalkKit
import Derived.ProofKit
import Derived.OpenShut
import Derived.ShutString
import Derived.Below
import Derived.ChangeOld
import Derived.Deep.DeepHandedRow
import Derived.Lib.LaidTab
import Derived.Stop.LaidErr
namespace Go.Proofs.YtghekfigfjhkeaaDoor.fnExactFormatPairs
open Go.ChangeShapes Go.WideShapes Go.ChangeAt Go.RowKit
open Go.ChangeMaps (open_string shut_string)
open Go.Proofs.YtghekfigfjhkeaaDoor.num
set_option linter.unusedVariables false
set_option linter.unusedSimpArgs false

theorem own : ownKnob Tryd.prog.godebug = none := by kernel_rfl
theorem gPowType : (Tryd.prog.globals[3]?).map (·.type) = some 166 := by kernel_rfl
theorem cellsTab : Tryd.prog.cellsOf 166 = 20 := by kernel_rfl
theorem cellsU64 : Tryd.prog.cellsOf 155 = 1 := by kernel_rfl

/-- What the row's list gives: the table of powers of ten. -/
theorem table {W : World} (h : laidMetH Tryd.prog Rows.fnExactFormatPairsRow.laid W) : Pow W :=
  Lib.tabIs_of_head (zs := Lib.pow10Tab) (rest := []) gPow gPowType Tryd.underlying166 Tryd.underlying155 cellsU64 cellsTab (show laidMet Tryd.prog (Rows.fnExactFormatPairsRow.laid.tail.tail) W from (laidMet.tail (laidMet.tail h)))

theorem walk (A0 : Option Addr) (n0 c0 : Nat) (ps0 : List (Int × Int)) (w : World) (m0 : n0 ≤ 9223372036854775807) (w0 : Pairs w w.heap.size A0 n0 ps0) (hpow : Pow w) :
    Calls Tryd.prog 6 #[.slice A0 n0 c0] w fun e w' => e = .returned (.bool true) ∧ Below w.heap.size w w' := by
  have HW0 := Lib.hid w0
  have HM0 := Lib.hid m0
  clear w0 m0
  have HPw := Lib.hid hpow
  clear hpow
  go_enter Tryd.func6, Tryd.ntmps6
  go_wp2_with fail
  refine (szPairs A0 n0 c0 1048576 HM0.out (by decide) (by decide) _).mono ?_
  rintro e w1 ⟨⟨r0, rfl, hr0⟩, hw1⟩
  have hb1 : Below w.heap.size w w1 := by rw [← hw1]; exact Below.refl _ _
  have HB1 := Lib.hid hb1
  clear hb1 hw1
  rcases hr0 with rfl | ⟨hr00, hr01, hrn0⟩
  · go_wp2
    go_ret
    exact ⟨rfl, HB1.out⟩
  · have hn : n0 ≤ 1048576 := by omega
    clear hrn0
    obtain ⟨q, hq⟩ := bool_of (OkP ps0)
    have HQ := Lib.hid hq
    clear hq
    go_wp2_with fail
    refine (toPairs w1 w.heap.size A0 n0 c0 ps0 (HW0.out.below HB1.out) HB1.out.size hn).mono ?_
    rintro e w2 ⟨rfl, hrow, hb2⟩
    have HB2 := Lib.hid (HB1.out.trans (hb2.mono HB1.out.size))
    have Rp_2 := Lib.hid hrow
    clear hb2 hrow
    go_wp2_with fail
    refine (sFmtP w2 w2.heap.size _ n0 n0 ps0 (Rp_2.out.pairsN (B := w2.heap.size) Rp_2.out.lt HW0.out.1) (Nat.le_refl _) hn q HQ.out).mono ?_
    rintro e w3 ⟨rfl, hb3⟩
    have HB3 := Lib.hid (HB2.out.trans (hb3.mono HB2.out.size))
    have Rp_3 := Lib.hid (Rp_2.out.below hb3 Rp_2.out.lt)
    clear hb3
    go_wp2_with fail
    refine (toPairs w3 w.heap.size A0 n0 c0 ps0 (HW0.out.below HB3.out) HB3.out.size hn).mono ?_
    rintro e w4 ⟨rfl, hrow, hb4⟩
    have HB4 := Lib.hid (HB3.out.trans (hb4.mono HB3.out.size))
    have Rx_4 := Lib.hid hrow
    clear hb4 hrow
    go_wp2_with fail
    refine (iFmtP w4 w4.heap.size _ n0 n0 ps0 (Rx_4.out.pairsN (B := w4.heap.size) Rx_4.out.lt HW0.out.1) (Nat.le_refl _) hn q HQ.out (HPw.out.below HB4.out)).mono ?_
    rintro e w5 ⟨rfl, hb5⟩
    have HB5 := Lib.hid (HB4.out.trans (hb5.mono HB4.out.size))
    have Rx_5 := Lib.hid (Rx_4.out.below hb5 Rx_4.out.lt)
    clear hb5
    go_wp2_with fail
    refine (toPairs w5 w.heap.size A0 n0 c0 ps0 (HW0.out.below HB5.out) HB5.out.size hn).mono ?_
    rintro e w6 ⟨rfl, hrow, hb6⟩
    have HB6 := Lib.hid (HB5.out.trans (hb6.mono HB5.out.size))
    have Rx_6 := Lib.hid (Rx_5.out.below hb6 Rx_5.out.lt)
    have Rz_6 := Lib.hid hrow
    clear hb6 hrow
    go_wp2_with fail
    refine (eqPairs w6 w6.heap.size _ _ n0 n0 n0 n0 ps0 ps0 (Rx_6.out.pairsN (B := w6.heap.size) Rx_6.out.lt HW0.out.1) (Rz_6.out.pairsN (B := w6.heap.size) Rz_6.out.lt HW0.out.1) (Nat.le_refl _) hn true (by simp)).mono ?_
    rintro e w7 ⟨rfl, hb7⟩
    have HB7 := Lib.hid (HB6.out.trans (hb7.mono HB6.out.size))
    have Rx_7 := Lib.hid (Rx_6.out.below hb7 Rx_6.out.lt)
    have Rz_7 := Lib.hid (Rz_6.out.below hb7 Rz_6.out.lt)
    clear hb7
    go_wp2
    go_ret
    exact ⟨rfl, HB7.out⟩

set_option maxRecDepth 100000 in
theorem contract (H : Type) (enc : TypeId × Value → H) (W : World) (base : Nat) (args : Array Value) (ds gs : List (DataW H)) (before : List MemPlace)
    (hval : ∀ (j : Nat) t v, Tryd.f6.params[j]? = some t → args[j]? = some v → Value.okWide Tryd.prog W .any base t v)
    (hW : DataW.Whole enc Tryd.prog Tryd.f6.params.toList Rows.fnExactFormatPairsSpec.vars false W args.toList ds gs before) (hL : laidMetH Tryd.prog Rows.fnExactFormatPairsRow.laid W) :
    Calls Tryd.prog 6 args W fun e W' => ∃ v, e = .returned v ∧ Rows.fnExactFormatPairsSpec.post enc Tryd.prog Tryd.f6 false true false false W args v W' := by
  have hW' := hW
  obtain ⟨p, q, hA0, hV, rfl, hfz, hnd⟩ := hW
  have hA : DataW.TrodAll enc Tryd.prog W 0 (fun _ => true) true Tryd.f6.params.toList args.toList ds p := hA0
  rw [Tryd.params6] at hA hval
  obtain ⟨v0, vs0, d0, ds0, p0, q0, hargs, rfl, rfl, h0, r0⟩ := trodAll_cons hA
  obtain ⟨rfl, rfl, rfl⟩ := trodAll_nil r0
  obtain rfl : args = #[v0] := by cases args; simp_all
  obtain ⟨rfl, rfl⟩ := trodVars_none hV
  have lt0 : ∀ x ∈ p0, x.block < W.heap.size := by obtain ⟨m, hm⟩ := h0; exact DataW.trod_lt m _ _ _ hm
  obtain ⟨A0, n0, c0, ps0, rfl, m0, w0⟩ := open_pairs (hval 0 42 v0 rfl rfl) h0
  clear hA0
  refine (walk A0 n0 c0 ps0 W m0 w0 (table hL)).mono fun e W' ⟨he, hb⟩ => ?_
  subst he
  exact ⟨_, rfl, _, _, _, [], _, [], hW', trodAll_mk1 (shut_bool Tryd.underlying4 _), (trodAll_cons_mk (Below.trod laidOut (by kernel_rfl) (of_decide_eq_true (by kernel_rfl)) h0 hb lt0) trodAll_mk0), rfl, hb.frame _, fun h => by cases h⟩

def lay (a : Array Value) : Obj → Obj
  | .cells _ t frozen => .cells a t frozen
  | o => o
/-- A world for the witness: the settled one, the three tables holding what their initialisers lay. -/
noncomputable def laidWorld (os : Os) : World :=
  { World.holding Tryd.prog os ⟨#[], #[], []⟩ with heap := (((World.holding Tryd.prog os ⟨#[], #[], []⟩).heap.modify 6 (lay #[.int .u8 0, .int .u8 1, .int .u8 28, .int .u8 2, .int .u8 29, .int .u8 14, .int .u8 24, .int .u8 3, .int .u8 30, .int .u8 22, .int .u8 20, .int .u8 15, .int .u8 25, .int .u8 17, .int .u8 4, .int .u8 8, .int .u8 31, .int .u8 27, .int .u8 13, .int .u8 23, .int .u8 21, .int .u8 19, .int .u8 16, .int .u8 7, .int .u8 26, .int .u8 12, .int .u8 18, .int .u8 6, .int .u8 11, .int .u8 5, .int .u8 10, .int .u8 9])).modify 7 (lay #[.int .u8 0, .int .u8 1, .int .u8 56, .int .u8 2, .int .u8 57, .int .u8 49, .int .u8 28, .int .u8 3, .int .u8 61, .int .u8 58, .int .u8 42, .int .u8 50, .int .u8 38, .int .u8 29, .int .u8 17, .int .u8 4, .int .u8 62, .int .u8 47, .int .u8 59, .int .u8 36, .int .u8 45, .int .u8 43, .int .u8 51, .int .u8 22, .int .u8 53, .int .u8 39, .int .u8 33, .int .u8 30, .int .u8 24, .int .u8 18, .int .u8 12, .int .u8 5, .int .u8 63, .int .u8 55, .int .u8 48, .int .u8 27, .int .u8 60, .int .u8 41, .int .u8 37, .int .u8 16, .int .u8 46, .int .u8 35, .int .u8 44, .int .u8 21, .int .u8 52, .int .u8 32, .int .u8 23, .int .u8 11, .int .u8 54, .int .u8 26, .int .u8 40, .int .u8 15, .int .u8 34, .int .u8 20, .int .u8 31, .int .u8 10, .int .u8 25, .int .u8 14, .int .u8 19, .int .u8 9, .int .u8 13, .int .u8 8, .int .u8 7, .int .u8 6])).modify 3 (lay #[.int .u64 1, .int .u64 10, .int .u64 100, .int .u64 1000, .int .u64 10000, .int .u64 100000, .int .u64 1000000, .int .u64 10000000, .int .u64 100000000, .int .u64 1000000000, .int .u64 10000000000, .int .u64 100000000000, .int .u64 1000000000000, .int .u64 10000000000000, .int .u64 100000000000000, .int .u64 1000000000000000, .int .u64 10000000000000000, .int .u64 100000000000000000, .int .u64 1000000000000000000, .int .u64 10000000000000000000]) }
set_option maxRecDepth 100000 in
theorem laid_met (os : Os) : laidMet Tryd.prog Rows.fnExactFormatPairsRow.laid ((laidWorld os).forCall (fun _ _ => 0) ⟨#[], #[.slice none 0 0], []⟩).memory :=
  laidMet_of_run' 8 (by kernel_rfl) (by kernel_rfl)
theorem reads (os : Os) {H : Type} (enc : TypeId × Value → H) : ∃ places, DataW.whole enc Tryd.prog ((laidWorld os).forCall (fun _ _ => 0) ⟨#[], #[.slice none 0 0], []⟩).memory Tryd.f6.params.toList Rows.fnExactFormatPairsSpec.vars false (#[.slice none 0 0] : Array Value).toList 8 = some ([.nil], [], places) :=
  ⟨[], by kernel_rfl⟩

set_option maxRecDepth 100000 in
theorem lifted (os : Os) (started : os.Started) (H : Type) (enc : TypeId × Value → H) (F : Stop.Interp) :
    ReturnsInHanded {} Tryd.checked os 6 .any ((OpenSpec.ofChange Rows.fnExactFormatPairsSpec).preRow enc Tryd.prog Tryd.f6 Rows.fnExactFormatPairsRow.domain false Rows.fnExactFormatPairsRow.laid) (((OpenSpec.ofChange Rows.fnExactFormatPairsSpec).at F).post enc Tryd.prog Tryd.f6 false true false false) := by
  obtain ⟨places, hx⟩ := reads os enc
  refine returnsInHanded_of_row (C := Tryd.checked) (s := OpenSpec.ofChange Rows.fnExactFormatPairsSpec) own started (by kernel_rfl) Tryd.func6
    (witness_row_at (enc := enc) (C := Tryd.checked) false (laidWorld os) #[.slice none 0 0] rfl (by kernel_rfl) (by kernel_rfl) (by kernel_rfl)
      (OpenSpec.preRow_of_cond 8 hx (by kernel_rfl) (fun k hk => by cases hk) (by kernel_rfl) (laid_met os))) ?_
  intro W base args ds gs before hval hW _ _ _ hL hS _
  exact contract H enc W base args ds gs before hval hW hL

theorem said : Rows.FnExactFormatPairsSaid :=
  OpenClaim.holds_of_cond 6 Tryd.f6 rfl rfl rfl rfl rfl rfl rfl ⟨rfl, rfl, rfl, rfl, rfl⟩ rfl rfl rfl rfl rfl (by kernel_rfl) Tryd.func6 (by kernel_rfl)
    (of_decide_eq_true (by kernel_rfl)) (by unfold Func.isWrapper; first | (rw [if_pos (by decide +kernel)]; kernel_rfl) | (rw [if_neg (by decide +kernel)]; exact ⟨rfl, rfl⟩))
    (fun os started H enc _ F => by rw [OpenClaim.pre_eq_preRow]; exact lifted os started H enc F)

theorem plain (f : FuncId) (fn : Func) (hf : Tryd.pinned.checked.prog.funcNamed "loop.example/g01987/laws.FnExactFormatPairs" = some f) (hfn : Tryd.pinned.checked.prog.funcs[f]? = some fn) :
    false = Tryd.pinned.checked.prog.looks [] ∧ ∀ (j : Nat) t, fn.params[j]? = some t → Tryd.pinned.checked.prog.wantsStandIn t = false := by
  obtain rfl : f = 6 := Option.some.inj ((show Tryd.prog.funcNamed "loop.example/g01987/laws.FnExactFormatPairs" = some 6 by kernel_rfl).symm.trans hf) |>.symm
  obtain rfl : fn = Tryd.f6 := (Option.some.inj (Tryd.func6.symm.trans hfn)).symm
  refine ⟨by kernel_rfl, fun j t ht => ?_⟩
  rw [Tryd.params6] at ht
  obtain rfl : t = 42 := by simpa using Array.mem_of_getElem? ht
  exact (show Tryd.prog.wantsStandIn 42 = false by kernel_rfl)

theorem holds : Rows.FnExactFormatPairsCardSaid :=
  Claim7.holds_tied_plain_at .later [] _ _ _ _ said (fun _ h => by cases h) (by kernel_rfl) (fun _ h => by cases h) fnExactFormatPairs_row_tie rfl ⟨rfl, rfl⟩ (by kernel_rfl) rfl plain (by kernel_rfl)

#print axioms holds
end Go.Proofs.YtghekfigfjhkeaaDoor.fnExactFormatPairs
