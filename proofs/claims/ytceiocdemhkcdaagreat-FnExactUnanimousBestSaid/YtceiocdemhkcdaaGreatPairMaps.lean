/-
  The program's maps: a set of values; a map from a value to a set; maps.Copy from a set to a set.
-/
import Derived.Test.YtceiocdemhkcdaaGreatMapKit
namespace Go.Proofs.YtceiocdemhkcdaaGreat.num
set_option maxRecDepth 20000
open Go.RowKit Go.Maps
set_option linter.unusedVariables false

theorem keyInt : Keyed Tryz.prog 3 := int_keyed Tryz.underlying3
def setElem (v : Value) : Option (DataW Unit × List MemPlace) := match v with
  | .bool x => some (.lit (.bool x), [])
  | _ => none
def refElem (v : Value) : Option (DataW Unit × List MemPlace) := match v with
  | .map none => some (.lit (.int .i64 (-1)), [])
  | .map (some b) => some (.lit (.int .i64 b), [])
  | _ => none
def refLit : Option Nat → DataW Unit
  | none => .lit (.int .i64 (-1))
  | some b => .lit (.int .i64 b)
theorem refElem_map (o : Option Nat) : refElem (.map o) = some (refLit o, []) := by cases o <;> rfl
theorem refLit_inj {o o' : Option Nat} (h : refLit o = refLit o') : o = o' := by
  cases o <;> cases o' <;> simp [refLit] at h ⊢ <;> omega
theorem setElem_inv (v : Value) (y : DataW Unit × List MemPlace) (h : setElem v = some y) : ∃ c : Bool, v = .bool c := by
  unfold setElem at h
  split at h
  · exact ⟨_, rfl⟩
  · cases h
theorem refElem_inv (v : Value) (y : DataW Unit × List MemPlace) (h : refElem v = some y) : ∃ c : Option Nat, v = .map c := by
  unfold refElem at h
  split at h
  · exact ⟨_, rfl⟩
  · exact ⟨_, rfl⟩
  · cases h

def bit (S : Int → Bool) (v : Int) : Option (DataW Unit) := if S v then some (.lit (.bool true)) else none
/-- Block b is a map[int]bool that holds just the values of S, each with true. -/
def SetAt (w : World) (b n : Nat) (S : Int → Bool) : Prop := MapAt Tryz.prog 3 setElem w b n (bit S)
/-- Block b is a map from values to sets: M v is the element at v. -/
def OutAt (w : World) (b n : Nat) (M : Int → Option (Option Nat)) : Prop := MapAt Tryz.prog 3 refElem w b n (fun v => (M v).map refLit)
theorem bit_congr {S S' : Int → Bool} {v : Int} (h : S v = S' v) : bit S v = bit S' v := by unfold bit; rw [h]
/-- The element at v, as a place; nil where there is none. -/
def elt (M : Int → Option (Option Nat)) (v : Int) : Option Nat := (M v).getD none
theorem SetAt.congr {w : World} {b n : Nat} {S S' : Int → Bool} (h : SetAt w b n S) (e : ∀ v, (Lit.int .i64 v).wf = true → S v = S' v) : SetAt w b n S' := MapAt.congr h fun v hv => by unfold bit; rw [e v hv]
theorem SetAt.made (w : World) : SetAt (w.alloc (.map #[] 0)) w.heap.size 0 (fun _ => false) := MapAt.made w
theorem OutAt.made (w : World) : OutAt (w.alloc (.map #[] 0)) w.heap.size 0 (fun _ => none) := MapAt.made w
theorem zero_bool (w : World) : (zeroValue 4).run Tryz.prog w = .ok (.bool false) w := by kernel_rfl
theorem zero_set (w : World) : (zeroValue 241).run Tryz.prog w = .ok (.map none) w := by kernel_rfl
/-- s[v]. -/
theorem SetAt.look {w : World} {b n : Nat} {S : Int → Bool} (h : SetAt w b n S) (v : Int) (hv : (Lit.int .i64 v).wf = true) : (Instr.lookup 241 (.map (some b)) (.int .i64 v) false).run Tryz.prog w = .ok (.bool (S v)) w := by
  obtain ⟨val, ps, h1, h2⟩ := MapAt.look h keyInt Tryz.underlying3 Tryz.underlying241 (zero_bool w) (zd := .lit (.bool false)) (zp := []) rfl hv
  obtain ⟨c, rfl⟩ := setElem_inv _ _ h2
  rw [h1]
  unfold bit setElem at h2
  cases e : S v <;> rw [e] at h2 <;> simp at h2 <;> rw [h2.1]
theorem nil_look (w : World) (v : Int) (hv : (Lit.int .i64 v).wf = true) : (Instr.lookup 241 (.map none) (.int .i64 v) false).run Tryz.prog w = .ok (.bool false) w :=
  Maps.look_nil false keyInt Tryz.underlying241 (zero_bool w) (keyOf_int_mk Tryz.underlying3 hv)
theorem OutAt.look {w : World} {b n : Nat} {M : Int → Option (Option Nat)} (h : OutAt w b n M) (v : Int) (hv : (Lit.int .i64 v).wf = true) : (Instr.lookup 218 (.map (some b)) (.int .i64 v) false).run Tryz.prog w = .ok (.map (elt M v)) w := by
  obtain ⟨val, ps, h1, h2⟩ := MapAt.look h keyInt Tryz.underlying3 Tryz.underlying218 (zero_set w) (zd := refLit none) (zp := []) rfl hv
  obtain ⟨c, rfl⟩ := refElem_inv _ _ h2
  rw [h1]
  rw [refElem_map] at h2
  have h3 := congrArg Prod.fst (Option.some.inj h2)
  unfold elt
  cases e : M v with
  | none => rw [e] at h3; exact congrArg (fun c => Result.ok (Value.map c) w) (refLit_inj h3)
  | some o => rw [e] at h3; exact congrArg (fun c => Result.ok (Value.map c) w) (refLit_inj h3)
theorem nil_out (w : World) (v : Int) (hv : (Lit.int .i64 v).wf = true) : (Instr.lookup 218 (.map none) (.int .i64 v) false).run Tryz.prog w = .ok (.map none) w :=
  Maps.look_nil false keyInt Tryz.underlying218 (zero_set w) (keyOf_int_mk Tryz.underlying3 hv)
/-- A set that may be nil. -/
def OptSet (w : World) (o : Option Nat) (n : Nat) (S : Int → Bool) : Prop := match o with
  | none => ∀ v, S v = false
  | some b => SetAt w b n S
theorem OptSet.kept {w w' : World} {o : Option Nat} {n : Nat} {S : Int → Bool} {row : Option Nat} (h : OptSet w o n S) (hg : w.grownBy w' row) (hne : ∀ b, o = some b → some b ≠ row) : OptSet w' o n S := by
  cases o with
  | none => exact h
  | some b => exact MapAt.kept h hg (hne b rfl)
theorem OptSet.look {w : World} {o : Option Nat} {n : Nat} {S : Int → Bool} (h : OptSet w o n S) (v : Int) (hv : (Lit.int .i64 v).wf = true) : (Instr.lookup 241 (.map o) (.int .i64 v) false).run Tryz.prog w = .ok (.bool (S v)) w := by
  cases o with
  | none => rw [nil_look w v hv, h v]
  | some b => exact SetAt.look h v hv

section
variable (w : World) {b n : Nat} {ops : Array Oper} {rest : List Oper} {o : Oper} {a : Act} {Q : Exit → Act → World → Prop}
/-- The step of a range over a set. -/
theorem wp_next_set {S : Int → Bool} {r : Nat} {L : Int → Bool} {cnt : Nat} (hg : o.guard = none) (it : Operand) (hop : o.op = Op.next it false)
    (hit : a.eval it = .pointer (some ⟨r, 0, none⟩)) (h : RangeAt Tryz.prog 3 setElem w b r n (bit S) L cnt)
    (hDone : (∀ v, L v = false) → wpList Tryz.prog ops Q rest (a.put o.dst (.tuple #[.bool false])) w)
    (hMore : ∀ (x : Int) (w' : World) (cnt' : Nat), (Lit.int .i64 x).wf = true → L x = true → S x = true → RangeAt Tryz.prog 3 setElem w' b r n (bit S) (fun v => L v && !(v == x)) cnt' → cnt' < cnt →
      w.grownBy w' (some r) → w'.heap.size = w.heap.size → (Instr.entry (.pointer (some ⟨r, 0, none⟩))).run Tryz.prog w' = .ok (.tuple #[.int .i64 x, .bool true]) w' → wpList Tryz.prog ops Q rest (a.put o.dst (.tuple #[.bool true, .int .i64 x, .bool true])) w') :
    wpList Tryz.prog ops Q (o :: rest) a w :=
  wp_next w hg it hop keyInt Tryz.underlying3 Value.bool setElem_inv hit h (fun h1 _ => hDone h1) (fun x c w' cnt' h1 h2 h3 h4 h5 h6 h7 h8 => by
    obtain ⟨d, ps, e1, e2⟩ := h3
    unfold bit at e2
    cases e : S x
    · rw [e] at e2; cases e2
    · rw [e] at e2
      cases e2
      cases c
      · cases e1
      · exact hMore x w' cnt' h1 h2 e h4 h5 h6 h7 h8)
/-- An entry of a map of sets has come: at x, the element o. -/
structure Came (w w' : World) (b r n : Nat) (M : Int → Option (Option Nat)) (L : Int → Bool) (cnt cnt' : Nat) (x : Int) (o : Option Nat) : Prop where
  wf : (Lit.int .i64 x).wf = true
  left : L x = true
  elem : M x = some o
  range : RangeAt Tryz.prog 3 refElem w' b r n (fun v => (M v).map refLit) (fun v => L v && !(v == x)) cnt'
  lt : cnt' < cnt
  grown : w.grownBy w' (some r)
  size : w'.heap.size = w.heap.size
  entry : (Instr.entry (.pointer (some ⟨r, 0, none⟩))).run Tryz.prog w' = .ok (.tuple #[.int .i64 x, .map o]) w'
/-- The step of a range over a map of sets, all of them there. -/
theorem wp_next_ref {M : Int → Option Nat} {r : Nat} {L : Int → Bool} {cnt : Nat} (hg : o.guard = none) (it : Operand) (hop : o.op = Op.next it false)
    (hit : a.eval it = .pointer (some ⟨r, 0, none⟩)) (h : RangeAt Tryz.prog 3 refElem w b r n (fun v => (M v).map some |>.map refLit) L cnt)
    (hDone : (∀ v, L v = false) → wpList Tryz.prog ops Q rest (a.put o.dst (.tuple #[.bool false])) w)
    (hMore : ∀ (x : Int) (z : Nat) (w' : World) (cnt' : Nat), Came w w' b r n (fun v => (M v).map some) L cnt cnt' x (some z) → wpList Tryz.prog ops Q rest (a.put o.dst (.tuple #[.bool true, .int .i64 x, .map (some z)])) w') :
    wpList Tryz.prog ops Q (o :: rest) a w :=
  wp_next w hg it hop keyInt Tryz.underlying3 Value.map refElem_inv hit h (fun h1 _ => hDone h1) (fun x c w' cnt' h1 h2 h3 h4 h5 h6 h7 h8 => by
    obtain ⟨d, ps, e1, e2⟩ := h3
    rw [refElem_map] at e1
    cases e1
    cases e : M x with
    | none => simp [e] at e2
    | some z =>
      simp only [e, Option.map_some, Option.some.injEq] at e2
      obtain rfl := refLit_inj e2
      exact hMore x z w' cnt' ⟨h1, h2, by simp [e], h4, h5, h6, h7, h8⟩)
/-- The step of a range over a map of sets, some of them nil. -/
theorem wp_next_out {M : Int → Option (Option Nat)} {r : Nat} {L : Int → Bool} {cnt : Nat} (hg : o.guard = none) (it : Operand) (hop : o.op = Op.next it false)
    (hit : a.eval it = .pointer (some ⟨r, 0, none⟩)) (h : RangeAt Tryz.prog 3 refElem w b r n (fun v => (M v).map refLit) L cnt)
    (hDone : (∀ v, L v = false) → wpList Tryz.prog ops Q rest (a.put o.dst (.tuple #[.bool false])) w)
    (hMore : ∀ (x : Int) (w' : World) (cnt' : Nat), Came w w' b r n M L cnt cnt' x (elt M x) → wpList Tryz.prog ops Q rest (a.put o.dst (.tuple #[.bool true, .int .i64 x, .map (elt M x)])) w') :
    wpList Tryz.prog ops Q (o :: rest) a w :=
  wp_next w hg it hop keyInt Tryz.underlying3 Value.map refElem_inv hit h (fun h1 _ => hDone h1) (fun x c w' cnt' h1 h2 h3 h4 h5 h6 h7 h8 => by
    obtain ⟨d, ps, e1, e2⟩ := h3
    rw [refElem_map] at e1
    cases e1
    have hc : M x = some c := by
      cases e : M x with
      | none => simp [e] at e2
      | some c' =>
        simp only [e, Option.map_some, Option.some.injEq] at e2
        rw [refLit_inj e2]
    have he : elt M x = c := by unfold elt; rw [hc]; rfl
    subst he
    exact hMore x w' cnt' ⟨h1, h2, hc, h4, h5, h6, h7, h8⟩)
end

theorem copy_set (w : World) (bd bs nd ns : Nat) (S S' : Int → Bool) (hd : SetAt w bd nd S) (hs : SetAt w bs ns S') (hne : bd ≠ bs) (hroom : nd + ns ≤ 1048576) :
    Calls Tryz.prog 204 #[.map (some bd), .map (some bs)] w fun e w' => e = .returned (.tuple #[]) ∧ SetAt w' bd (nd + ns) (fun v => S v || S' v) ∧ w.grownBy w' (some bd) := by
  have hbd : bd < w.heap.size := MapAt.lt hd
  have hbs : bs < w.heap.size := MapAt.lt hs
  go_enter Tryz.func204, Tryz.ntmps204
  go_wp2_with (first
    | (at_range; refine wp_range _ rfl _ 241 rfl keyInt Tryz.underlying241 rfl hs ?_; intro w0 L0 cnt0 hrg0 hL0 hc0 hg0 hs0)
    | go_in)
  go_frame
  go_loopw [8] (fun _ wr => ∃ (L : Int → Bool) (cnt : Nat), RangeAt Tryz.prog 3 setElem wr bs w.heap.size ns (bit S') L cnt ∧ cnt ≤ ns ∧ SetAt wr bd (nd + (ns - cnt)) (fun v => S v || (S' v && !L v)) ∧ w.grownBy wr (some bd))
    (fun _ wr => wr.rangeLeft bs w.heap.size)
  case atStart =>
    refine ⟨_, _, hrg0, hc0, ((MapAt.kept hd hg0 (by simp)).mono (by omega)).congr fun v hv => ?_, hg0.but _⟩
    refine bit_congr ?_
    have := hL0 v hv
    unfold bit at this
    show S v = (S v || (S' v && !L0 v))
    rw [this]
    cases S v <;> cases S' v <;> rfl
  case round =>
    obtain ⟨L, cnt, hrg, hcn, hout, hgw⟩ := hrel
    go_wp2_with (first
      | (at_next; refine wp_next_set _ rfl _ rfl rfl hrg ?_ ?_)
      | go_in)
    · intro hl0
      go_wp2
      go_end0
      exact ⟨rfl, (MapAt.mono hout (by omega)).congr fun v _ => bit_congr (by simp [hl0]), hgw⟩
    · intro x w1 cnt1 hwx hlx hsx hrg1 hlt hg1 hs1 hen
      have hr1 := hrg.lt
      have hgr := hgw.size
      have hout1 := MapAt.kept hout hg1 (fun e => by have := Option.some.inj e; omega)
      have HSX := Lib.hid hsx
      have HL := Lib.hid hlx
      clear hsx hlx
      go_wp2_with (first
        | (at_mapUpdate; refine wp_put _ rfl _ _ _ 241 rfl keyInt Tryz.underlying3 Tryz.underlying241 rfl hout1 (by unfold maxLen; omega) x rfl hwx _ rfl (.lit (.bool true)) [] rfl ?_; intro w2 hout2 hg2 hs2; go_frame)
        | go_in)
      have hrg2 := hrg1.kept hg2 (fun e => hne (Option.some.inj e).symm) (fun e => by have := Option.some.inj e; omega)
      go_roundw
      case rel =>
        refine ⟨_, cnt1, hrg2, by omega, (MapAt.mono hout2 (by omega)).congr fun v hv => ?_, (hgw.andThen hg1 (fun j hj => .inl (by cases hj; exact Nat.le_refl _))).andThen hg2 (fun j hj => .inr hj)⟩
        show (if v = x then some (DataW.lit (Lit.bool true)) else bit (fun v => S v || (S' v && !L v)) v) = bit (fun v => S v || (S' v && !(L v && !(v == x)))) v
        by_cases e : v = x
        · subst e
          simp [bit, HSX.out]
        · have e' : (v == x) = false := by simpa using e
          simp [bit, e, e']
      case measure => rw [hrg2.left_eq, hrg.left_eq]; exact hlt

theorem copy_nil (w : World) (pd : Option Nat) :
    Calls Tryz.prog 204 #[.map pd, .map none] w fun e w' => e = .returned (.tuple #[]) ∧ w' = w.alloc (.mapIter none 0 #[] 0) := by
  have hrg := run_range_nilMap (P := Tryz.prog) w 241 _ _ Tryz.underlying241
  have hnx : ∀ ty, (Instr.next (.pointer (some ⟨w.heap.size, 0, none⟩)) false ty).run Tryz.prog (w.alloc (.mapIter none 0 #[] 0)) = _ := fun ty => run_next_nilMap _ ty 0 0 #[]
  go_enter Tryz.func204, Tryz.ntmps204
  go_wp2
  refine wp_loop_rounds 1 ?_
  rw [rounds_succ]
  go_wp2
  go_end0
  exact ⟨rfl, rfl⟩

theorem copy_of_set (w : World) (bd nd ns : Nat) (o : Option Nat) (S S' : Int → Bool) (hd : SetAt w bd nd S) (hs : OptSet w o ns S') (hne : o ≠ some bd) (hroom : nd + ns ≤ 1048576) :
    Calls Tryz.prog 204 #[.map (some bd), .map o] w fun e w' => e = .returned (.tuple #[]) ∧ SetAt w' bd (nd + ns) (fun v => S v || S' v) ∧ w.grownBy w' (some bd) := by
  cases o with
  | none =>
    refine (copy_nil w (some bd)).mono fun e w' ⟨he, hw⟩ => ?_
    subst hw
    refine ⟨he, ((MapAt.alloc hd _).mono (Nat.le_add_right _ _)).congr fun v _ => ?_, World.grownBy_alloc w _ _⟩
    refine bit_congr ?_
    show S v = (S v || S' v)
    rw [hs v]
    simp
  | some b => exact copy_set w bd b nd ns S S' hd hs (fun e => hne (by rw [e])) hroom
end Go.Proofs.YtceiocdemhkcdaaGreat.num
