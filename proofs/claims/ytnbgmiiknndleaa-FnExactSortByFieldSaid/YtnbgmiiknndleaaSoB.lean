/- Contracts of functions that the laws of this chapter call, packed. -/
import Derived.Test.YtnbgmiiknndleaaSoA
import Derived.Test.YtnbgmiiknndleaaItemIds
import Derived.Test.YtnbgmiiknndleaaWishImpl
import Derived.Test.YtnbgmiiknndleaaPairMark
import Derived.Test.YtnbgmiiknndleaaItemImpl
import Derived.Test.YtnbgmiiknndleaaPairSpecB
import Derived.Test.YtnbgmiiknndleaaPairMarkI
import Derived.Sort.WalkA
import Derived.Shelf.SlSortCmp.InsertionK
import Derived.ChangeSame
import Derived.RangeFuncBox
import Derived.RangeFuncNested
import Derived.RangeFuncLeaves
import Derived.RangeFuncBound
import Derived.RangeFuncCalls
import Derived.Shelf.Abstract
import Derived.WalkKit
import Derived.OwnWalkIn
import Derived.TacticsInMore
import Derived.LoopNIn
import Derived.LoopIn
import Derived.BigQuiet
import Derived.Test.YtnbgmiiknndleaaItemMem
import Derived.Lib.Hide
namespace Go.Proofs.Ytnbgmiiknndleaa.num
set_option maxRecDepth 20000
open Go.RowKit Go.Maps
set_option linter.unusedVariables false
set_option linter.unusedSimpArgs false

def lowNd (a : Int) : Nd := ⟨0, ⟨0, a, 0, none, 0, 0, [], none, 0, 0, []⟩⟩
def andNd : Nd := ⟨1, ⟨0, 0, 0, none, 0, 0, [], none, 0, 0, []⟩⟩
def lowNds : List Int → List Nd
  | [] => []
  | a :: r => lowNd a :: r.flatMap fun b => [lowNd b, andNd]
theorem lowNds_snoc {l : List Int} (h : l ≠ []) (b : Int) : lowNds (l ++ [b]) = lowNds l ++ [lowNd b] ++ [andNd] := by
  cases l with
  | nil => exact absurd rfl h
  | cons a r => simp [lowNds]
theorem lowNds_dat : ∀ l : List Int, datN (lowNds l) = lowN l
  | [] => rfl
  | a :: r => by
    have : ∀ r : List Int, datN (r.flatMap fun b => [lowNd b, andNd]) = r.flatMap fun b => [lowD b, andD] := fun r => by
      induction r with
      | nil => rfl
      | cons b r ih =>
        rw [List.flatMap_cons, List.flatMap_cons, ← ih]
        unfold datN
        rw [List.map_append]
        rfl
    show Nd.dat (lowNd a) :: datN (r.flatMap fun b => [lowNd b, andNd]) = _
    rw [this r]
    rfl
theorem lowNds_len {l : List Int} (h : l ≠ []) : (lowNds l).length = 2 * l.length - 1 := by
  have h1 := lowNds_dat l
  have h2 := congrArg List.length h1
  unfold datN at h2
  rw [List.length_map] at h2
  rw [h2, lowN_len h]
theorem lowNds_le {l : List Int} {k : Nat} (h : k ≤ 3) : (lowNds (l.take k)).length ≤ 6 := by
  by_cases h0 : l.take k = []
  · rw [h0]; simp [lowNds]
  · have h1 : (l.take k).length ≤ k := List.length_take_le _ _
    rw [lowNds_len h0]; omega
theorem nd_short : ∀ {l : List Int}, ShortN (lowNds l)
  | [] => by simp [ShortN, lowNds]
  | a :: r => fun x hx => by
    have hs : ∀ b, (lowNd b).t.Short := fun b => ⟨by show (0 : Nat) ≤ _; omega, by show (0 : Nat) ≤ _; omega⟩
    have ha : andNd.t.Short := ⟨by show (0 : Nat) ≤ _; omega, by show (0 : Nat) ≤ _; omega⟩
    unfold lowNds at hx
    rcases List.mem_cons.1 hx with rfl | hx
    · exact hs a
    · obtain ⟨b, _, hb⟩ := List.mem_flatMap.1 hx
      rcases List.mem_cons.1 hb with rfl | hb
      · exact hs b
      · rw [List.mem_singleton.1 hb]; exact ha
theorem lowNd_wi (w : World) (B : Nat) {a : Int} (h : InF a) : WiO w B (lowNd a).t :=
  ⟨by show (Lit.int .i64 0).wf = true; decide, WalkArith.wf_i64 (by unfold InF at h; show _ ≤ a ∧ a ≤ _; omega), by show (Lit.int .i64 0).wf = true; decide, World.ownsRow_nil .., World.ownsRow_nil .., fun b h => by cases h⟩
theorem andNd_wi (w : World) (B : Nat) : WiO w B andNd.t :=
  ⟨by show (Lit.int .i64 0).wf = true; decide, by show (Lit.int .i64 0).wf = true; decide, by show (Lit.int .i64 0).wf = true; decide, World.ownsRow_nil .., World.ownsRow_nil .., fun b h => by cases h⟩
theorem lowNd_has {a : Int} {b : Nat} : ¬ (lowNd a).t.has b := fun h => by rcases h with h | h <;> cases h
theorem andNd_has {b : Nat} : ¬ andNd.t.has b := fun h => by rcases h with h | h <;> cases h
theorem empty_nodes (w : World) : OwnN (w.alloc (.cells #[] 50)) w.heap.size (.slice (some ⟨w.heap.size, 0, none⟩) 0 0) [] :=
  OwnN.of_row (Nat.le_refl _) rfl (by decide) (by have h := made_nodes w 0; rwa [show madeCells zeroN (0 * 6) = #[] by simp [madeCells]] at h) (by simp) (by simp)
def lowQ (xs : List Int) (q : Bool) : List Nd := if q then lowNds xs else []
theorem lowQ_short {xs : List Int} {q : Bool} : ShortN (lowQ xs q) := by
  cases q
  · simp [ShortN, lowQ]
  · exact nd_short
def LowOut (xs : List Int) (q : Bool) (w : World) (e : Ending) (w' : World) : Prop := (∃ v, e = .returned (.tuple #[v, .bool q]) ∧ OwnN w' w.heap.size v (lowQ xs q)) ∧ Below w.heap.size w w'

set_option maxHeartbeats 3200000 in
set_option maxRecDepth 20000 in
theorem sLow (w : World) (B : Nat) (A : Option Addr) (n c : Nat) (xs : List Int) (hi : Ints w B A n xs) (hB : B ≤ w.heap.size) (hn : n ≤ 1048576) (q : Bool) (hq : q = true ↔ FL xs) :
    Calls Try.prog 11 #[.slice A n c] w (LowOut xs q w) := by
  have HX := Lib.hid hi
  have HQ := Lib.hid hq
  have HE0 := Lib.hid (empty_nodes w)
  have HX0 : Hid (Below w.heap.size w (w.alloc (.cells #[] 50))) := Lib.hid ((Below.refl _ w).alloc (Nat.le_refl _) _)
  have HC := Lib.hid (sIsF (w.alloc (.cells #[] 50)) B A n c xs (HX.out.below ((Below.refl B w).alloc hB _)) hn q hq)
  clear hi hq
  cases q
  · go_enter Try.func11, Try.ntmps11
    go_wp2_with fail
    refine HC.out.mono ?_
    rintro e w1 ⟨rfl, hb1⟩
    have HE1 := Lib.hid (HE0.out.below hb1)
    have HX1 := Lib.hid (below_on HX0.out hb1)
    clear hb1
    go_wp2
    go_ret2
    exact ⟨⟨_, rfl, HE1.out⟩, HX1.out⟩
  · have HF := Lib.hid (HQ.out.1 rfl)
    have hn3 : n ≤ 3 := by have h1 := HF.out.len; have h2 := HX.out.1; omega
    have HLn0 := Lib.hid HX.out.1
    go_enter Try.func11, Try.ntmps11
    go_wp2_with fail
    refine HC.out.mono ?_
    rintro e w1 ⟨rfl, hb1⟩
    have HE1 := Lib.hid (HE0.out.below hb1)
    have HX1 := Lib.hid (below_on HX0.out hb1)
    clear hb1 HC
    go_wp2
    go_loopw [4, 5] (fun vo iv wr => ∃ k : Nat, k ≤ n ∧ iv = .int .i64 k ∧ OwnN wr w.heap.size vo (lowNds (xs.take k)) ∧ Below w.heap.size w wr) (fun vo iv _ => n - (intOf iv).toNat)
    case atStart => exact ⟨0, Nat.zero_le _, rfl, by rw [List.take_zero]; exact HE1.out, HX1.out⟩
    case round =>
      obtain ⟨k, hk, rfl, hown, hbel⟩ := hrel
      obtain ⟨AO, cO, rfl, -, hcO⟩ := hown.r.shape
      have HO := Lib.hid hown
      have HB := Lib.hid hbel
      clear hown hcO
      by_cases hlt : k < n
      · obtain ⟨b, off, x, hA1, hb, hat, hc⟩ := (HX.out.below (hbel.mono hB)).at k hlt
        have HAt := Lib.hid hat
        have HXf := Lib.hid (HF.out.2.1 x (List.mem_of_getElem? hat))
        have hlt' : (k : Int) < (n : Int) := by omega
        have HLn : Hid (((lowNds (xs.take k)).length + 1) * 80 ≤ 140737488355328) := Lib.hid (by have := lowNds_le (l := xs) (k := k) (by omega); omega)
        have HTk := Lib.hid (ptake_at hat)
        clear hat hbel
        subst hA1
        rcases Nat.eq_zero_or_pos k with h0 | h0
        · subst h0
          rw [Nat.add_zero] at hc
          clear hlt'
          have hlt' : (0 : Int) < (n : Int) := by omega
          go_wp2_with (at_builtin; refine wp_appG nodeCells_len nodeCells_one (T := 50) (tS := 26) Try.underlying26 info_node rfl (by decide) wr (by rfl) (.tmp 17) (.tmp 24) (by rfl) w.heap.size _ _ (by rfl) HO.out.r _ (lowNd x) (by rfl) 1 _ rfl (by rfl) HLn.out (by decide) HB.out.size ?_)
          intro v' w3 hr hg hat
          have HO3 := Lib.hid (HO.out.snoc hg hat hr rfl (lowNd_wi _ _ HXf.out) (fun b h => absurd h lowNd_has))
          have HB3 := Lib.hid (HB.out.grown hg HB.out.size (fun k hk => HO.out.r.lows k hk))
          clear hr hg hat
          go_wp2
          go_roundw
          case rel => exact ⟨1, by omega, by go_num, by have h := HO3.out; rw [HTk.out]; simpa [lowNds] using h, HB3.out⟩
          case measure => simp [intOf]; omega
        · have hk0 : decide (0 < k) = true := decide_eq_true h0
          have h0' : (0 : Int) < (k : Int) := by omega
          have HNe : Hid (xs.take k ≠ []) := Lib.hid (fun e => by have h1 := congrArg List.length e; rw [List.length_take, List.length_nil] at h1; have h2 := HLn0.out; omega)
          go_wp2_with (at_builtin; refine wp_appG nodeCells_len nodeCells_one (T := 50) (tS := 26) Try.underlying26 info_node rfl (by decide) wr (by rfl) (.tmp 17) (.tmp 24) (by rfl) w.heap.size _ _ (by rfl) HO.out.r _ (lowNd x) (by rfl) 1 _ rfl (by rfl) HLn.out (by decide) HB.out.size ?_)
          intro v' w3 hr hg hat
          have HO3 := Lib.hid (HO.out.snoc hg hat hr rfl (lowNd_wi _ _ HXf.out) (fun b h => absurd h lowNd_has))
          have HB3 := Lib.hid (HB.out.grown hg HB.out.size (fun k hk => HO.out.r.lows k hk))
          have HLn3 : Hid (((lowNds (xs.take k) ++ [lowNd x]).length + 1) * 80 ≤ 140737488355328) := Lib.hid (by have := lowNds_le (l := xs) (k := k) (by omega); rw [List.length_append, List.length_singleton]; omega)
          clear hr hg hat
          go_wp2_with (at_builtin; refine wp_appG nodeCells_len nodeCells_one (T := 50) (tS := 26) Try.underlying26 info_node rfl (by decide) w3 (by rfl) (.tmp 28) (.tmp 30) (by rfl) w.heap.size _ _ (by rfl) HO3.out.r _ andNd (by rfl) 1 _ rfl (by rfl) HLn3.out (by decide) HB3.out.size ?_)
          intro v4 w4 hr hg hat
          rw [show lowNds (xs.take k) ++ [lowNd x, andNd] = lowNds (xs.take k) ++ [lowNd x] ++ [andNd] by simp] at hr
          have HO4 := Lib.hid (HO3.out.snoc hg hat hr rfl (andNd_wi _ _) (fun b h => absurd h andNd_has))
          have HB4 := Lib.hid (HB3.out.grown hg HB3.out.size (fun k hk => HO3.out.r.lows k hk))
          clear hr hg hat
          go_wp2
          go_roundw
          case rel => exact ⟨k + 1, by omega, by go_num, by have h := HO4.out; rw [HTk.out, lowNds_snoc HNe.out]; exact h, HB4.out⟩
          case measure => simp [intOf]; omega
      · obtain rfl : k = n := by omega
        have HO1 : Hid (OwnN wr w.heap.size (.slice AO (lowNds (xs.take k)).length cO) (lowNds xs)) := Lib.hid (by have h := HO.out; rwa [ptake_all HLn0.out] at h ⊢)
        go_wp2
        go_ret2
        exact ⟨⟨_, rfl, by have h := HO.out; rwa [ptake_all HLn0.out] at h⟩, HB.out⟩

set_option maxHeartbeats 3200000 in
set_option maxRecDepth 20000 in
theorem iLow (w : World) (B : Nat) (A : Option Addr) (n c : Nat) (xs : List Int) (hi : Ints w B A n xs) (hB : B ≤ w.heap.size) (hn : n ≤ 1048576) (q : Bool) (hq : q = true ↔ FL xs) :
    Calls Try.prog 12 #[.slice A n c] w (LowOut xs q w) := by
  have HX := Lib.hid hi
  have HQ := Lib.hid hq
  have HE0 := Lib.hid (OwnN.nil w w.heap.size)
  have HX0 := Lib.hid (Below.refl w.heap.size w)
  have HC := Lib.hid (iIsF w B A n c xs HX.out hn q hq)
  clear hi hq
  cases q
  · go_enter Try.func12, Try.ntmps12
    go_wp2_with fail
    refine HC.out.mono ?_
    rintro e w1 ⟨rfl, hb1⟩
    have HE1 := Lib.hid (HE0.out.below hb1)
    have HX1 := Lib.hid (below_on HX0.out hb1)
    clear hb1
    go_wp2
    go_ret2
    exact ⟨⟨_, rfl, OwnN.nil _ _⟩, HX1.out⟩
  · have HF := Lib.hid (HQ.out.1 rfl)
    have hn3 : n ≤ 3 := by have h1 := HF.out.len; have h2 := HX.out.1; omega
    have HLn0 := Lib.hid HX.out.1
    go_enter Try.func12, Try.ntmps12
    go_wp2_with fail
    refine HC.out.mono ?_
    rintro e w1 ⟨rfl, hb1⟩
    have HE1 := Lib.hid (HE0.out.below hb1)
    have HX1 := Lib.hid (below_on HX0.out hb1)
    clear hb1 HC
    go_wp2
    go_loopw [4, 12] (fun vo iv wr => ∃ k : Nat, k ≤ n ∧ iv = .int .i64 k ∧ OwnN wr w.heap.size vo (lowNds (xs.take k)) ∧ Below w.heap.size w wr) (fun vo iv _ => n - (intOf iv).toNat)
    case atStart => exact ⟨0, Nat.zero_le _, rfl, by rw [List.take_zero]; exact HE1.out, HX1.out⟩
    case round =>
      obtain ⟨k, hk, rfl, hown, hbel⟩ := hrel
      obtain ⟨AO, cO, rfl, -, hcO⟩ := hown.r.shape
      have HO := Lib.hid hown
      have HB := Lib.hid hbel
      clear hown hcO
      by_cases hlt : k < n
      · obtain ⟨b, off, x, hA1, hb, hat, hc⟩ := (HX.out.below (hbel.mono hB)).at k hlt
        have HAt := Lib.hid hat
        have HXf := Lib.hid (HF.out.2.1 x (List.mem_of_getElem? hat))
        have hlt' : (k : Int) < (n : Int) := by omega
        have HLn : Hid (((lowNds (xs.take k)).length + 1) * 80 ≤ 140737488355328) := Lib.hid (by have := lowNds_le (l := xs) (k := k) (by omega); omega)
        have HTk := Lib.hid (ptake_at hat)
        clear hat hbel
        subst hA1
        rcases Nat.eq_zero_or_pos k with h0 | h0
        · subst h0
          rw [Nat.add_zero] at hc
          clear hlt'
          have hlt' : (0 : Int) < (n : Int) := by omega
          go_wp2_with (at_builtin; refine wp_appG nodeCells_len nodeCells_one (T := 50) (tS := 26) Try.underlying26 info_node rfl (by decide) wr (by rfl) (.tmp 17) (.tmp 21) (by rfl) w.heap.size _ _ (by rfl) HO.out.r _ (lowNd x) (by rfl) 1 _ rfl (by rfl) HLn.out (by decide) HB.out.size ?_)
          intro v' w3 hr hg hat
          have HO3 := Lib.hid (HO.out.snoc hg hat hr rfl (lowNd_wi _ _ HXf.out) (fun b h => absurd h lowNd_has))
          have HB3 := Lib.hid (HB.out.grown hg HB.out.size (fun k hk => HO.out.r.lows k hk))
          clear hr hg hat
          go_wp2
          go_roundw
          case rel => exact ⟨1, by omega, by go_num, by have h := HO3.out; rw [HTk.out]; simpa [lowNds] using h, HB3.out⟩
          case measure => simp [intOf]; omega
        · have hk0 : decide (0 < k) = true := decide_eq_true h0
          have h0' : (0 : Int) < (k : Int) := by omega
          have HNe : Hid (xs.take k ≠ []) := Lib.hid (fun e => by have h1 := congrArg List.length e; rw [List.length_take, List.length_nil] at h1; have h2 := HLn0.out; omega)
          go_wp2_with (at_builtin; refine wp_appG nodeCells_len nodeCells_one (T := 50) (tS := 26) Try.underlying26 info_node rfl (by decide) wr (by rfl) (.tmp 17) (.tmp 21) (by rfl) w.heap.size _ _ (by rfl) HO.out.r _ (lowNd x) (by rfl) 1 _ rfl (by rfl) HLn.out (by decide) HB.out.size ?_)
          intro v' w3 hr hg hat
          have HO3 := Lib.hid (HO.out.snoc hg hat hr rfl (lowNd_wi _ _ HXf.out) (fun b h => absurd h lowNd_has))
          have HB3 := Lib.hid (HB.out.grown hg HB.out.size (fun k hk => HO.out.r.lows k hk))
          have HLn3 : Hid (((lowNds (xs.take k) ++ [lowNd x]).length + 1) * 80 ≤ 140737488355328) := Lib.hid (by have := lowNds_le (l := xs) (k := k) (by omega); rw [List.length_append, List.length_singleton]; omega)
          clear hr hg hat
          go_wp2_with (at_builtin; refine wp_appG nodeCells_len nodeCells_one (T := 50) (tS := 26) Try.underlying26 info_node rfl (by decide) w3 (by rfl) (.tmp 25) (.tmp 27) (by rfl) w.heap.size _ _ (by rfl) HO3.out.r _ andNd (by rfl) 1 _ rfl (by rfl) HLn3.out (by decide) HB3.out.size ?_)
          intro v4 w4 hr hg hat
          rw [show lowNds (xs.take k) ++ [lowNd x, andNd] = lowNds (xs.take k) ++ [lowNd x] ++ [andNd] by simp] at hr
          have HO4 := Lib.hid (HO3.out.snoc hg hat hr rfl (andNd_wi _ _) (fun b h => absurd h andNd_has))
          have HB4 := Lib.hid (HB3.out.grown hg HB3.out.size (fun k hk => HO3.out.r.lows k hk))
          clear hr hg hat
          go_wp2
          go_roundw
          case rel => exact ⟨k + 1, by omega, by go_num, by have h := HO4.out; rw [HTk.out, lowNds_snoc HNe.out]; exact h, HB4.out⟩
          case measure => simp [intOf]; omega
      · obtain rfl : k = n := by omega
        have HO1 : Hid (OwnN wr w.heap.size (.slice AO (lowNds (xs.take k)).length cO) (lowNds xs)) := Lib.hid (by have h := HO.out; rwa [ptake_all HLn0.out] at h ⊢)
        go_wp2
        go_ret2
        exact ⟨⟨_, rfl, by have h := HO.out; rwa [ptake_all HLn0.out] at h⟩, HB.out⟩

/-- As the law reads it. -/
def LowRes (D : List ND) (q : Bool) (w : World) (e : Ending) (w' : World) : Prop := (∃ v ts, e = .returned (.tuple #[v, .bool q]) ∧ datN ts = D ∧ ShortN ts ∧ OwnN w' w.heap.size v ts) ∧ Below w.heap.size w w'
theorem LowOut.res {xs : List Int} {q : Bool} {w : World} {e : Ending} {w' : World} (h : LowOut xs q w e w') : LowRes (lowE xs q) q w e w' := by
  obtain ⟨⟨v, h1, h2⟩, h3⟩ := h
  exact ⟨⟨v, _, h1, by cases q; rfl; exact lowNds_dat xs, lowQ_short, h2⟩, h3⟩
theorem sLowR (w : World) (B : Nat) (A : Option Addr) (n c : Nat) (xs : List Int) (hi : Ints w B A n xs) (hB : B ≤ w.heap.size) (hn : n ≤ 1048576) (q : Bool) (hq : q = true ↔ FL xs) (D : List ND) (hD : lowE xs q = D) :
    Calls Try.prog 11 #[.slice A n c] w (LowRes D q w) := (sLow w B A n c xs hi hB hn q hq).mono fun _ _ h => by rw [← hD]; exact h.res
theorem iLowR (w : World) (B : Nat) (A : Option Addr) (n c : Nat) (xs : List Int) (hi : Ints w B A n xs) (hB : B ≤ w.heap.size) (hn : n ≤ 1048576) (q : Bool) (hq : q = true ↔ FL xs) (D : List ND) (hD : lowE xs q = D) :
    Calls Try.prog 12 #[.slice A n c] w (LowRes D q w) := (iLow w B A n c xs hi hB hn q hq).mono fun _ _ h => by rw [← hD]; exact h.res
theorem lowE_len {xs : List Int} {q : Bool} (hq : q = true ↔ FL xs) : (lowE xs q).length ≤ 1048576 := by
  cases q
  · simp [lowE]
  · have h := (hq.1 rfl)
    have h1 := h.len
    show (lowN xs).length ≤ _
    rw [lowN_len h.1]; omega
end Go.Proofs.Ytnbgmiiknndleaa.num
namespace Go.Proofs.Ytnbgmiiknndleaa.num
set_option maxRecDepth 20000
open Go.RowKit
set_option linter.unusedVariables false
set_option linter.unusedSimpArgs false

theorem any_step {its : List It} {hold : It → Bool} {k : Nat} {t : It} (hat : its[k]? = some t) (h : ∀ u ∈ its.take k, hold u = false) (h1 : hold t = false) : ∀ u ∈ its.take (k + 1), hold u = false := by
  rw [take_at hat]
  intro u hu
  rcases List.mem_append.1 hu with h2 | h2
  · exact h u h2
  · obtain rfl := List.mem_singleton.1 h2
    exact h1
set_option maxRecDepth 20000 in
set_option maxHeartbeats 800000 in
/-- slices.IndexFunc by a test with a bound receiver. -/
theorem ctIndex (w : World) (B lo p : Nat) (t : Tr) (A : Option Addr) (n c : Nat) (its : List It) (h : CtIn w B lo p t A n its) (hn : n ≤ 1048576) (rv : Value) (hold : It → Bool)
    (HC : ∀ W, Below w.heap.size w W → ∀ u ∈ its, Calls Try.prog 56 #[rv, ctV p u] W fun e w' => e = .returned (.bool (hold u)) ∧ Below W.heap.size W w') :
    Calls Try.prog 55 #[.slice A n c, .func (.func 56) #[rv] #[]] w fun e w' => (∃ r : Int, e = .returned (.int .i64 r) ∧ (0 ≤ r ↔ its.any hold = true)) ∧ Below w.heap.size w w' := by
  have HX := Lib.hid h
  have HF := Lib.hid HC
  clear h HC
  go_enter Try.func55, Try.ntmps55
  go_wp2
  go_loopw [8] (fun i wr => ∃ k : Nat, k ≤ n ∧ i = .int .i64 k ∧ (∀ u ∈ its.take k, hold u = false) ∧ Below w.heap.size w wr) (fun i _ => n - (intOf i).toNat)
  case atStart => exact ⟨0, Nat.zero_le _, rfl, by simp, Below.refl _ _⟩
  case round =>
    obtain ⟨k, hk, rfl, hall, hbel⟩ := hrel
    have HA := Lib.hid hall
    have HB := Lib.hid hbel
    clear hall
    by_cases hlt : k < n
    · obtain ⟨b, off, x, rfl, hb, hat, d0, d1, d2⟩ := ct_at HX.out.r k hlt
      have f0 := (hbel.cell (p := ⟨b, off + k * 3, none⟩) hb).trans d0
      have f1 := (hbel.cell (p := ⟨b, off + k * 3 + 1, none⟩) hb).trans d1
      have f2 := (hbel.cell (p := ⟨b, off + k * 3 + 2, none⟩) hb).trans d2
      have HAt := Lib.hid hat
      have hlt' : (k : Int) < (n : Int) := by omega
      have HC1 := HF.out wr HB.out x (mem_of_at hat)
      obtain ⟨z, hz⟩ : ∃ z, hold x = z := ⟨_, rfl⟩
      rw [hz] at HC1
      have hvx : ctV p x = .agg #[.int .i64 x.id, .slice x.A x.n x.c, .pointer (some ⟨p, 0, none⟩)] := rfl
      rw [hvx] at HC1
      have HZ := Lib.hid hz
      have HC2 := Lib.hid HC1
      clear d0 d1 d2 hat hbel hz hvx HC1
      go_wp2_with fail
      refine HC2.out.mono ?_
      rintro e w2 ⟨rfl, hb2⟩
      have HB2 := Lib.hid (below_on HB.out hb2)
      clear hb2 f0 f1 f2 HC2
      cases z
      · go_wp2
        go_roundw
        case rel => exact ⟨k + 1, by omega, by go_num, any_step HAt.out HA.out HZ.out, HB2.out⟩
        case measure => simp [intOf]; omega
      · go_wp2
        go_ret
        exact ⟨⟨k, rfl, ⟨fun _ => List.any_eq_true.2 ⟨x, mem_of_at HAt.out, HZ.out⟩, fun _ => by omega⟩⟩, HB2.out⟩
    · obtain rfl : k = n := by omega
      have h := HA.out
      rw [take_all HX.out.r.len] at h
      have HH := Lib.hid h
      clear h hbel
      go_wp2
      go_ret
      refine ⟨⟨-1, rfl, ⟨fun h => by omega, fun h => ?_⟩⟩, HB.out⟩
      obtain ⟨u, hu, hh⟩ := List.any_eq_true.1 h
      rw [HH.out u hu] at hh
      cases hh
set_option maxRecDepth 20000 in
theorem ctContains (w : World) (B lo p : Nat) (t : Tr) (A : Option Addr) (n c : Nat) (its : List It) (h : CtIn w B lo p t A n its) (hn : n ≤ 1048576) (rv : Value) (hold : It → Bool)
    (HC : ∀ W, Below w.heap.size w W → ∀ u ∈ its, Calls Try.prog 56 #[rv, ctV p u] W fun e w' => e = .returned (.bool (hold u)) ∧ Below W.heap.size W w') :
    Calls Try.prog 42 #[.slice A n c, .func (.func 56) #[rv] #[]] w fun e w' => e = .returned (.bool (its.any hold)) ∧ Below w.heap.size w w' := by
  have HI := Lib.hid (ctIndex w B lo p t A n c its h hn rv hold HC)
  clear h HC
  go_enter Try.func42, Try.ntmps42
  go_wp2_with fail
  refine HI.out.mono ?_
  rintro e w1 ⟨⟨r, rfl, hr⟩, hb1⟩
  have HB1 := Lib.hid hb1
  have HR := Lib.hid hr
  clear hr hb1
  by_cases h0 : 0 ≤ r
  · have hd : decide (r ≥ 0) = true := by simpa using h0
    go_wp2
    go_ret
    exact ⟨by rw [HR.out.1 h0]; rfl, HB1.out⟩
  · have hd : decide (r ≥ 0) = false := by simpa using h0
    have hlt : r < 0 := by omega
    go_wp2
    go_ret
    refine ⟨?_, HB1.out⟩
    cases hq : its.any hold
    · rfl
    · exact absurd (HR.out.2 hq) (by omega)
theorem bestB_any (t : Tr) (its : List It) (x : It) : bestB t (its.map It.dat) x.dat = !its.any fun y => btD t y.dat x.dat := by
  unfold bestB
  rw [List.all_map, List.not_any_eq_all_not]
  rfl
set_option maxRecDepth 20000 in
theorem iBestOf (w : World) (B lo p : Nat) (t : Tr) (A : Option Addr) (n c : Nat) (its : List It) (h : CtIn w B lo p t A n its) (hn : n ≤ 1048576) (x : It) (hx : Ints w B x.A x.n x.xs) (px : IsP x.dat) :
    Calls Try.prog 45 #[.slice A n c, ctV p x] w fun e w' => e = .returned (.bool (bestB t (its.map It.dat) x.dat)) ∧ Below w.heap.size w w' := by
  have HC : Hid (∀ w1, Below w.heap.size w w1 → Calls Try.prog 42 #[.slice A n c, .func (.func 56) #[.agg #[.int .i64 x.id, .slice x.A x.n x.c, .pointer (some ⟨p, 0, none⟩)]] #[]] w1 fun e w' => e = .returned (.bool (its.any fun y => btD t y.dat x.dat)) ∧ Below w1.heap.size w1 w') := Lib.hid fun w1 h1 =>
    ctContains w1 B lo p t A n c its (h.step h1) hn _ _ fun W hW u hu => by
      have h2 := h.step (below_on h1 hW)
      exact iBeaten W B lo p t x u h2.t h2.hB (hx.below ((below_on h1 hW).mono h.hB)) (h2.x u hu).1 px (h2.x u hu).2
  rw [bestB_any]
  generalize (its.any fun y => btD t y.dat x.dat) = z at *
  have hvx : ctV p x = .agg #[.int .i64 x.id, .slice x.A x.n x.c, .pointer (some ⟨p, 0, none⟩)] := rfl
  rw [hvx]
  clear hvx h hx px
  have HB0 : Hid (Below w.heap.size w (w.alloc (.cells #[.int .i64 x.id, .slice x.A x.n x.c, .pointer (some ⟨p, 0, none⟩)] 71))) := Lib.hid ((Below.refl _ w).alloc (Nat.le_refl _) _)
  go_enter Try.func45, Try.ntmps45
  go_wp2_with fail
  refine (HC.out _ HB0.out).mono ?_
  rintro e w1 ⟨rfl, hb1⟩
  have HB1 := Lib.hid (below_on HB0.out hb1)
  clear hb1
  go_wp2
  go_ret
  exact ⟨rfl, HB1.out⟩
theorem filter_step {its : List It} {hold : It → Bool} {k : Nat} {t : It} (hat : its[k]? = some t) : (its.take (k + 1)).filter hold = (its.take k).filter hold ++ (if hold t then [t] else []) := by
  rw [take_at hat, List.filter_append]
  congr 1
  cases h : hold t <;> simp [h]
set_option maxRecDepth 20000 in
set_option maxHeartbeats 800000 in
theorem ctIds (w : World) (p : Nat) (A : Option Addr) (n c : Nat) (l : List It) (h : ReadG (ctCells p) 3 w w.heap.size A n l) (hn : n ≤ 1048576) :
    Calls Try.prog 46 #[.slice A n c] w fun e w' => (∃ v, e = .returned v ∧ OwnI w' w.heap.size v (idL l)) ∧ Below w.heap.size w w' := by
  have hmk := run_make_row' (P := Try.prog) 22 3 (.int .i64 0) 8 Try.underlying22 info_int rfl .i64 .i64 n (by omega) (by omega)
  have HX := Lib.hid h
  clear h
  go_enter Try.func46, Try.ntmps46
  go_wp2
  clear hmk
  go_loopw [11] (fun i wr => ∃ k : Nat, k ≤ n ∧ i = .int .i64 k ∧ wr.rowIs w.heap.size 3 n (fun j => if j < k then .int .i64 ((idL l).getD j 0) else .int .i64 0) ∧ Below w.heap.size w wr) (fun i _ => n - (intOf i).toNat)
  case atStart =>
    exact ⟨0, Nat.zero_le _, rfl, by simpa using World.rowIs_made w (.int .i64 0) n 3, (Below.refl _ _).alloc (Nat.le_refl _) _⟩
  case round =>
    obtain ⟨k, hk, rfl, hrow, hbel⟩ := hrel
    have HR := Lib.hid hrow
    have HB := Lib.hid hbel
    by_cases hlt : k < n
    · obtain ⟨x, hat⟩ := HX.out.get hlt
      obtain ⟨b, off, rfl, hb, hc⟩ := HX.out.at' k x hat
      have f0 := (hbel.cell (p := ⟨b, off + k * 3, none⟩) hb).trans (hc 0 _ rfl)
      have f1 := (hbel.cell (p := ⟨b, off + k * 3 + 1, none⟩) hb).trans (hc 1 _ rfl)
      have f2 := (hbel.cell (p := ⟨b, off + k * 3 + 2, none⟩) hb).trans (hc 2 _ rfl)
      have hl1 := World.rowIs.lt hrow
      have g1 : wr.cell? ⟨w.heap.size, k, none⟩ = some (.int .i64 0) := by rw [World.rowIs.cell hrow hlt, if_neg (by omega)]
      have g2 := World.rowIs.frozen hrow k
      have HAt := Lib.hid hat
      have hsz := Lib.hid hbel.size
      clear hrow hbel hc hat
      go_wp2
      go_roundw
      case rel =>
        refine ⟨k + 1, by omega, by go_num, ?_, ?_⟩
        · first
          | exact (World.rowIs.set (World.rowIs.alloc HR.out _) k (.int .i64 x.id)).congr (fun j _ => by rw [← idL_get HAt.out]; exact getD_prefix (idL l) k j)
          | exact (World.rowIs.alloc (World.rowIs.set HR.out k (.int .i64 x.id)) _).congr (fun j _ => by rw [← idL_get HAt.out]; exact getD_prefix (idL l) k j)
        · first
          | exact (HB.out.alloc hsz.out _).setCell (Nat.le_refl _) _
          | exact (HB.out.setCell (p := ⟨w.heap.size, k, none⟩) (Nat.le_refl _) _).alloc (by simp [World.setCell]; exact hsz.out) _
      case measure => simp [intOf]; omega
    · obtain rfl : k = n := by omega
      clear hrow hbel
      go_wp2
      go_ret
      refine ⟨⟨_, rfl, ?_⟩, HB.out⟩
      have hl : (idL l).length = k := by rw [idL_len, HX.out.len]
      refine ownI_of_row (Nat.le_refl _) hl (Nat.le_refl _) (by unfold maxLen; omega) HR.out fun j hj => ?_
      rw [if_pos hj, List.getElem?_map, List.getD_eq_getElem?_getD, List.getElem?_eq_getElem (by omega)]; rfl
end Go.Proofs.Ytnbgmiiknndleaa.num
namespace Go.Proofs.Ytnbgmiiknndleaa.num
set_option maxRecDepth 20000
open Go.RowKit
set_option linter.unusedVariables false
set_option linter.unusedSimpArgs false

/-- The model's comparison of two of the items. -/
theorem sCmpIn (w : World) (B : Nat) (A : Option Addr) (n c : Nat) (its : List It) (A2 : Option Addr) (n2 c2 : Nat) (ns : List Nd) (h : InB w B A n its A2 n2 c2 ns) (he : IsE (datN ns)) (ha : AreP (its.map It.dat)) (t : Tr) (ht : Post (datN ns) t) (W : World) (hW : Below w.heap.size w W) (x y : It) (hx : x ∈ its) (hy : y ∈ its) :
    Calls Try.prog 52 #[.slice A2 n2 c2, .agg #[.int .i64 x.id, .slice x.A x.n x.c], .agg #[.int .i64 y.id, .slice y.A y.n y.c]] W fun e w' => e = .returned (.int .i64 (cmpD t x.dat y.dat)) ∧ Below W.heap.size W w' := by
  have h1 := h.below hW
  rw [← cmpD_it]
  exact sCompare W B A2 n2 c2 ns x y h1.e (h1.i.mem hx) (h1.i.mem hy) h1.hB h1.se (ha.1 _ (List.mem_map_of_mem hx)) (ha.1 _ (List.mem_map_of_mem hy)) t ht (by
    have h9 := he.1
    have hl : ns.length = n2 := h.e.len
    unfold datN at h9
    rw [List.length_map] at h9
    omega)
theorem all_snoc {its : List It} {f : It → Bool} {k : Nat} {t : It} (hat : its[k]? = some t) : (its.take (k + 1)).all f = ((its.take k).all f && f t) := by
  rw [take_at hat, List.all_append]
  simp
theorem fil_snoc {its : List It} {f : It → Bool} {k : Nat} {t : It} (hat : its[k]? = some t) : idL ((its.take (k + 1)).filter f) = idL ((its.take k).filter f) ++ (if f t then [t.id] else []) := by
  rw [take_at hat, List.filter_append]
  unfold idL
  rw [List.map_append]
  congr 1
  cases h : f t <;> simp [h]
theorem flt_snoc {its : List It} {f : It → Bool} {k : Nat} {t : It} (hat : its[k]? = some t) : ((its.take (k + 1)).filter f).length = ((its.take k).filter f).length + (if f t then 1 else 0) := by
  rw [take_at hat, List.filter_append, List.length_append]
  congr 1
  cases h : f t <;> simp [h]
theorem fil_len (its : List It) (f : It → Bool) (k : Nat) : (idL ((its.take k).filter f)).length ≤ k := by
  rw [idL_len]
  have h1 : ((its.take k).filter f).length ≤ (its.take k).length := List.length_filter_le _ _
  rw [List.length_take] at h1
  omega
theorem ids_fil (its : List It) (f : Dt → Bool) : idsD ((its.map It.dat).filter f) = idL (its.filter fun u => f u.dat) := by
  unfold idsD idL
  rw [List.filter_map, List.map_map]
  rfl
theorem best_ids (t : Tr) (its : List It) : idsD (bestD t (its.map It.dat)) = idL (its.filter fun x => its.all fun y => !btD t y.dat x.dat) := by
  unfold bestD
  rw [ids_fil]
  congr 1
  apply List.filter_congr
  intro x _
  unfold bestB
  rw [List.all_map]
  rfl
set_option maxRecDepth 20000 in
set_option maxHeartbeats 3200000 in
theorem sBestL (w : World) (B : Nat) (A : Option Addr) (n c : Nat) (its : List It) (A2 : Option Addr) (n2 c2 : Nat) (ns : List Nd) (h : InB w B A n its A2 n2 c2 ns) (he : IsE (datN ns)) (ha : AreP (its.map It.dat)) (t : Tr) (ht : Post (datN ns) t) :
    Calls Try.prog 36 #[.slice A n c, .slice A2 n2 c2] w fun e w' => (∃ v, e = .returned v ∧ OwnI w' w.heap.size v (idsD (bestD t (its.map It.dat)))) ∧ Below w.heap.size w w' := by
  have HC : Hid (∀ W, Below w.heap.size w W → ∀ x y, x ∈ its → y ∈ its → Calls Try.prog 52 #[.slice A2 n2 c2, .agg #[.int .i64 x.id, .slice x.A x.n x.c], .agg #[.int .i64 y.id, .slice y.A y.n y.c]] W fun e w' => e = .returned (.int .i64 (cmpD t x.dat y.dat)) ∧ Below W.heap.size W w') := Lib.hid fun W hW x y hx hy => sCmpIn w B A n c its A2 n2 c2 ns h he ha t ht W hW x y hx hy
  rw [best_ids]
  have HX := Lib.hid h.i
  have hB := h.hB
  have hn := h.hn
  clear h he ha ht
  go_enter Try.func36, Try.ntmps36
  go_wp2
  go_loopw [5, 6] (fun v i wr => ∃ k : Nat, k ≤ n ∧ i = .int .i64 k ∧ OwnI wr w.heap.size v (idL ((its.take k).filter fun x => its.all fun y => !btD t y.dat x.dat)) ∧ Below w.heap.size w wr) (fun _ i _ => n - (intOf i).toNat)
  case atStart => exact ⟨0, Nat.zero_le _, rfl, OwnI.empty w _ (Nat.le_refl _), (Below.refl _ _).alloc (Nat.le_refl _) _⟩
  case round =>
    obtain ⟨k, hk, rfl, hown, hbel⟩ := hrel
    have HO := Lib.hid hown
    have HB := Lib.hid hbel
    clear hown
    by_cases hlt : k < n
    · obtain ⟨b1, off, x, rfl, hb1, hat, d0, d1, -⟩ := HX.out.at k hlt
      have hbw : b1 < w.heap.size := Nat.lt_of_lt_of_le hb1 hB
      have HAt := Lib.hid hat
      have HD := Lib.hid (And.intro d0 d1)
      have hlt' : (k : Int) < (n : Int) := by omega
      have hk0 : (0 : Int) ≤ (k : Int) := by omega
      clear d0 d1 hat
      go_wp2
      go_loopw [7, 8] (fun v j wr => ∃ m : Nat, m ≤ n ∧ j = .int .i64 m ∧ v = .bool ((its.take m).all fun y => !btD t y.dat x.dat) ∧ Below w.heap.size w wr ∧ OwnI wr w.heap.size u5 (idL ((its.take k).filter fun x => its.all fun y => !btD t y.dat x.dat))) (fun _ j _ => n - (intOf j).toNat)
      case atStart => exact ⟨0, Nat.zero_le _, rfl, rfl, HB.out, HO.out⟩
      case round =>
        clear hbel
        obtain ⟨m, hm, rfl, rfl, hbel, hown⟩ := hrel
        have HBi := Lib.hid hbel
        have HOi := Lib.hid hown
        obtain ⟨bb, hbb⟩ : ∃ bb, ((its.take m).all fun y => !btD t y.dat x.dat) = bb := ⟨_, rfl⟩
        rw [hbb]
        have HBb := Lib.hid hbb
        clear hbb hown
        by_cases hmt : m < n
        · obtain ⟨b2, off2, y, hA2, hb2, hat, d0, d1, -⟩ := HX.out.at m hmt
          injection hA2 with hA2
          injection hA2 with e1 e2
          subst e1 e2
          have HAt2 := Lib.hid hat
          have HD2 := Lib.hid (And.intro d0 d1)
          have hmt' : (m : Int) < (n : Int) := by omega
          have hm0 : (0 : Int) ≤ (m : Int) := by omega
          have HS : Hid (∀ w', Below w.heap.size w w' → w'.cell? ⟨b1, off + k * 2, none⟩ = some (.int .i64 x.id) ∧ w'.cell? ⟨b1, off + k * 2 + 1, none⟩ = some (.slice x.A x.n x.c) ∧ w'.cell? ⟨b1, off + m * 2, none⟩ = some (.int .i64 y.id) ∧ w'.cell? ⟨b1, off + m * 2 + 1, none⟩ = some (.slice y.A y.n y.c)) := Lib.hid fun W h => ⟨(h.cell (p := ⟨b1, off + k * 2, none⟩) hbw).trans HD.out.1, (h.cell (p := ⟨b1, off + k * 2 + 1, none⟩) hbw).trans HD.out.2, (h.cell (p := ⟨b1, off + m * 2, none⟩) hbw).trans HD2.out.1, (h.cell (p := ⟨b1, off + m * 2 + 1, none⟩) hbw).trans HD2.out.2⟩
          clear d0 d1 hat
          cases bb
          · go_wp2
            have hS0 : (fun w' => w'.cell? ⟨b1, off + k * 2, none⟩ = some (.int .i64 x.id) ∧ w'.cell? ⟨b1, off + k * 2 + 1, none⟩ = some (.slice x.A x.n x.c) ∧ w'.cell? ⟨b1, off + m * 2, none⟩ = some (.int .i64 y.id) ∧ w'.cell? ⟨b1, off + m * 2 + 1, none⟩ = some (.slice y.A y.n y.c)) (World.drew wr) := HS.out _ HBi.out.drew
            clear hbel
            refine wp_region_held (S := fun w' => w'.cell? ⟨b1, off + k * 2, none⟩ = some (.int .i64 x.id) ∧ w'.cell? ⟨b1, off + k * 2 + 1, none⟩ = some (.slice x.A x.n x.c) ∧ w'.cell? ⟨b1, off + m * 2, none⟩ = some (.int .i64 y.id) ∧ w'.cell? ⟨b1, off + m * 2 + 1, none⟩ = some (.slice y.A y.n y.c)) (by kernel_rfl) ?_
            change wpAnyH _ _ _ _ _ _ _ _ (World.drew _)
            refine takeY 22 (i := 0) (v := ?v0b) rfl rfl (by kernel_rfl) (by kernel_rfl) (by kernel_rfl) (fun _ _ _ h => h) (by kernel_rfl) ?y0b hS0 ?_
            case y0b =>
              intro w' hw'; (try dsimp only at hw'); obtain ⟨x_0, x_1, y_0, y_1⟩ := hw'; go_simp; try with_reducible rfl
            simp only [Act.put, List.setIfInBounds_toArray, List.set_cons_zero, List.set_cons_succ]
            refine takeY 23 (i := 1) (v := ?v1b) rfl rfl (by kernel_rfl) (by kernel_rfl) (by kernel_rfl) (fun _ _ _ h => h) (by kernel_rfl) ?y1b hS0 ?_
            case y1b =>
              intro w' hw'; (try dsimp only at hw'); obtain ⟨x_0, x_1, y_0, y_1⟩ := hw'; go_simp; try with_reducible rfl
            simp only [Act.put, List.setIfInBounds_toArray, List.set_cons_zero, List.set_cons_succ]
            refine takeU 24 (i := 2) rfl rfl (by kernel_rfl) (by kernel_rfl) (by kernel_rfl) (fun _ _ _ h => h) (by kernel_rfl) hS0 ?_
            simp only [Act.put, List.setIfInBounds_toArray, List.set_cons_zero, List.set_cons_succ]
            refine takeU 25 (i := 3) rfl rfl (by kernel_rfl) (by kernel_rfl) (by kernel_rfl) (fun _ _ _ h => h) (by kernel_rfl) hS0 ?_
            simp only [Act.put, List.setIfInBounds_toArray, List.set_cons_zero, List.set_cons_succ]
            refine takeU 26 (i := 4) rfl rfl (by kernel_rfl) (by kernel_rfl) (by kernel_rfl) (fun _ _ _ h => h) (by kernel_rfl) hS0 ?_
            simp only [Act.put, List.setIfInBounds_toArray, List.set_cons_zero, List.set_cons_succ]
            refine takeU 27 (i := 5) rfl rfl (by kernel_rfl) (by kernel_rfl) (by kernel_rfl) (fun _ _ _ h => h) (by kernel_rfl) hS0 ?_
            simp only [Act.put, List.setIfInBounds_toArray, List.set_cons_zero, List.set_cons_succ]
            refine takeU 28 (i := 6) rfl rfl (by kernel_rfl) (by kernel_rfl) (by kernel_rfl) (fun _ _ _ h => h) (by kernel_rfl) hS0 ?_
            simp only [Act.put, List.setIfInBounds_toArray, List.set_cons_zero, List.set_cons_succ]
            refine takeU 29 (i := 7) rfl rfl (by kernel_rfl) (by kernel_rfl) (by kernel_rfl) (fun _ _ _ h => h) (by kernel_rfl) hS0 ?_
            simp only [Act.put, List.setIfInBounds_toArray, List.set_cons_zero, List.set_cons_succ]
            refine takeU 30 (i := 8) rfl rfl (by kernel_rfl) (by kernel_rfl) (by kernel_rfl) (fun _ _ _ h => h) (by kernel_rfl) hS0 ?_
            simp only [Act.put, List.setIfInBounds_toArray, List.set_cons_zero, List.set_cons_succ]
            refine takeU 31 (i := 9) rfl rfl (by kernel_rfl) (by kernel_rfl) (by kernel_rfl) (fun _ _ _ h => h) (by kernel_rfl) hS0 ?_
            simp only [Act.put, List.setIfInBounds_toArray, List.set_cons_zero, List.set_cons_succ]
            refine takeU 32 (i := 10) rfl rfl (by kernel_rfl) (by kernel_rfl) (by kernel_rfl) (fun _ _ _ h => h) (by kernel_rfl) hS0 ?_
            simp only [Act.put, List.setIfInBounds_toArray, List.set_cons_zero, List.set_cons_succ]
            refine takeU 33 (i := 11) rfl rfl (by kernel_rfl) (by kernel_rfl) (by kernel_rfl) (fun _ _ _ h => h) (by kernel_rfl) hS0 ?_
            simp only [Act.put, List.setIfInBounds_toArray, List.set_cons_zero, List.set_cons_succ]
            refine takeU 34 (i := 12) rfl rfl (by kernel_rfl) (by kernel_rfl) (by kernel_rfl) (fun _ _ _ h => h) (by kernel_rfl) hS0 ?_
            simp only [Act.put, List.setIfInBounds_toArray, List.set_cons_zero, List.set_cons_succ]
            refine takeY 35 (i := 13) (v := ?v13b) rfl rfl (by kernel_rfl) (by kernel_rfl) (by kernel_rfl) (fun _ _ _ h => h) (by kernel_rfl) ?y13b hS0 ?_
            case y13b =>
              intro w' hw'; (try dsimp only at hw'); obtain ⟨x_0, x_1, y_0, y_1⟩ := hw'; go_simp; try with_reducible rfl
            simp only [Act.put, List.setIfInBounds_toArray, List.set_cons_zero, List.set_cons_succ]
            refine takeY 7 (i := 14) (v := ?v14b) rfl rfl (by kernel_rfl) (by kernel_rfl) (by kernel_rfl) (fun _ _ _ h => h) (by kernel_rfl) ?y14b hS0 ?_
            case y14b =>
              intro w' hw'; (try dsimp only at hw'); obtain ⟨x_0, x_1, y_0, y_1⟩ := hw'; go_simp; try with_reducible rfl
            simp only [Act.put, List.setIfInBounds_toArray, List.set_cons_zero, List.set_cons_succ]
            refine wpAnyH_done (by kernel_rfl) ?_ _
            clear hS0
            go_wp2
            go_roundw
            case rel => exact ⟨m + 1, by omega, by go_num, by rw [all_snoc HAt2.out, HBb.out]; rfl, HBi.out.drew, ownI_below HOi.out (Below.refl _ _).drew⟩
            case measure => simp [intOf]; omega
          · go_wp2
            have hS0 : (fun w' => w'.cell? ⟨b1, off + k * 2, none⟩ = some (.int .i64 x.id) ∧ w'.cell? ⟨b1, off + k * 2 + 1, none⟩ = some (.slice x.A x.n x.c) ∧ w'.cell? ⟨b1, off + m * 2, none⟩ = some (.int .i64 y.id) ∧ w'.cell? ⟨b1, off + m * 2 + 1, none⟩ = some (.slice y.A y.n y.c)) (World.drew wr) := HS.out _ HBi.out.drew
            clear hbel
            refine wp_region_held (S := fun w' => w'.cell? ⟨b1, off + k * 2, none⟩ = some (.int .i64 x.id) ∧ w'.cell? ⟨b1, off + k * 2 + 1, none⟩ = some (.slice x.A x.n x.c) ∧ w'.cell? ⟨b1, off + m * 2, none⟩ = some (.int .i64 y.id) ∧ w'.cell? ⟨b1, off + m * 2 + 1, none⟩ = some (.slice y.A y.n y.c)) (by kernel_rfl) ?_
            change wpAnyH _ _ _ _ _ _ _ _ (World.drew _)
            refine takeY 22 (i := 0) (v := ?v0a) rfl rfl (by kernel_rfl) (by kernel_rfl) (by kernel_rfl) (fun _ _ _ h => h) (by kernel_rfl) ?y0a hS0 ?_
            case y0a =>
              intro w' hw'; (try dsimp only at hw'); obtain ⟨x_0, x_1, y_0, y_1⟩ := hw'; go_simp; try with_reducible rfl
            simp only [Act.put, List.setIfInBounds_toArray, List.set_cons_zero, List.set_cons_succ]
            refine takeY 23 (i := 1) (v := ?v1a) rfl rfl (by kernel_rfl) (by kernel_rfl) (by kernel_rfl) (fun _ _ _ h => h) (by kernel_rfl) ?y1a hS0 ?_
            case y1a =>
              intro w' hw'; (try dsimp only at hw'); obtain ⟨x_0, x_1, y_0, y_1⟩ := hw'; go_simp; try with_reducible rfl
            simp only [Act.put, List.setIfInBounds_toArray, List.set_cons_zero, List.set_cons_succ]
            refine takeY 24 (i := 2) (v := ?v2a) rfl rfl (by kernel_rfl) (by kernel_rfl) (by kernel_rfl) (fun _ _ _ h => h) (by kernel_rfl) ?y2a hS0 ?_
            case y2a =>
              intro w' hw'; (try dsimp only at hw'); obtain ⟨x_0, x_1, y_0, y_1⟩ := hw'; go_simp; try with_reducible rfl
            simp only [Act.put, List.setIfInBounds_toArray, List.set_cons_zero, List.set_cons_succ]
            refine takeY 25 (i := 3) (v := ?v3a) rfl rfl (by kernel_rfl) (by kernel_rfl) (by kernel_rfl) (fun _ _ _ h => h) (by kernel_rfl) ?y3a hS0 ?_
            case y3a =>
              intro w' hw'; (try dsimp only at hw'); obtain ⟨x_0, x_1, y_0, y_1⟩ := hw'; go_simp; try with_reducible rfl
            simp only [Act.put, List.setIfInBounds_toArray, List.set_cons_zero, List.set_cons_succ]
            refine takeY 26 (i := 4) (v := ?v4a) rfl rfl (by kernel_rfl) (by kernel_rfl) (by kernel_rfl) (fun _ _ _ h => h) (by kernel_rfl) ?y4a hS0 ?_
            case y4a =>
              intro w' hw'; (try dsimp only at hw'); obtain ⟨x_0, x_1, y_0, y_1⟩ := hw'; go_simp; try with_reducible rfl
            simp only [Act.put, List.setIfInBounds_toArray, List.set_cons_zero, List.set_cons_succ]
            refine takeY 27 (i := 5) (v := ?v5a) rfl rfl (by kernel_rfl) (by kernel_rfl) (by kernel_rfl) (fun _ _ _ h => h) (by kernel_rfl) ?y5a hS0 ?_
            case y5a =>
              intro w' hw'; (try dsimp only at hw'); obtain ⟨x_0, x_1, y_0, y_1⟩ := hw'; go_simp; try with_reducible rfl
            simp only [Act.put, List.setIfInBounds_toArray, List.set_cons_zero, List.set_cons_succ]
            refine takeY 28 (i := 6) (v := ?v6a) rfl rfl (by kernel_rfl) (by kernel_rfl) (by kernel_rfl) (fun _ _ _ h => h) (by kernel_rfl) ?y6a hS0 ?_
            case y6a =>
              intro w' hw'; (try dsimp only at hw'); obtain ⟨x_0, x_1, y_0, y_1⟩ := hw'; go_simp; try with_reducible rfl
            simp only [Act.put, List.setIfInBounds_toArray, List.set_cons_zero, List.set_cons_succ]
            refine takeY 29 (i := 7) (v := ?v7a) rfl rfl (by kernel_rfl) (by kernel_rfl) (by kernel_rfl) (fun _ _ _ h => h) (by kernel_rfl) ?y7a hS0 ?_
            case y7a =>
              intro w' hw'; (try dsimp only at hw'); obtain ⟨x_0, x_1, y_0, y_1⟩ := hw'; go_simp; try with_reducible rfl
            simp only [Act.put, List.setIfInBounds_toArray, List.set_cons_zero, List.set_cons_succ]
            refine takeY 30 (i := 8) (v := ?v8a) rfl rfl (by kernel_rfl) (by kernel_rfl) (by kernel_rfl) (fun _ _ _ h => h) (by kernel_rfl) ?y8a hS0 ?_
            case y8a =>
              intro w' hw'; (try dsimp only at hw'); obtain ⟨x_0, x_1, y_0, y_1⟩ := hw'; go_simp; try with_reducible rfl
            simp only [Act.put, List.setIfInBounds_toArray, List.set_cons_zero, List.set_cons_succ]
            refine takeY 31 (i := 9) (v := ?v9a) rfl rfl (by kernel_rfl) (by kernel_rfl) (by kernel_rfl) (fun _ _ _ h => h) (by kernel_rfl) ?y9a hS0 ?_
            case y9a =>
              intro w' hw'; (try dsimp only at hw'); obtain ⟨x_0, x_1, y_0, y_1⟩ := hw'; go_simp; try with_reducible rfl
            simp only [Act.put, List.setIfInBounds_toArray, List.set_cons_zero, List.set_cons_succ]
            refine takeY 32 (i := 10) (v := ?v10a) rfl rfl (by kernel_rfl) (by kernel_rfl) (by kernel_rfl) (fun _ _ _ h => h) (by kernel_rfl) ?y10a hS0 ?_
            case y10a =>
              intro w' hw'; (try dsimp only at hw'); obtain ⟨x_0, x_1, y_0, y_1⟩ := hw'; go_simp; try with_reducible rfl
            simp only [Act.put, List.setIfInBounds_toArray, List.set_cons_zero, List.set_cons_succ]
            refine wpAnyH_ready (rs := [11]) (by kernel_rfl) (by simp) ?_
            refine AllReadyH.cons rfl (fun K hK => ?_) AllReadyH.nil
            go_simp; go_at_call 52; refine (HC.out _ HBi.out.drew y x (mem_of_at HAt2.out) (mem_of_at HAt.out)).mono ?_; rintro e w3 ⟨rfl, hb3⟩; have HB3 := Lib.hid (below_on HBi.out.drew hb3); have HO3 := Lib.hid (ownI_below (ownI_below HOi.out (Below.refl _ _).drew) hb3); clear hb3
            refine hK.out _ _ (HS.out _ HB3.out) (fun hS1 => ?_)
            clear hK K
            try simp only [Act.put, List.setIfInBounds_toArray, List.set_cons_zero, List.set_cons_succ]
            refine takeY 34 (i := 12) (v := ?v12a) rfl rfl (by kernel_rfl) (by kernel_rfl) (by kernel_rfl) (fun _ _ _ h => h) (by kernel_rfl) ?y12a hS1 ?_
            case y12a =>
              intro w' hw'; (try dsimp only at hw'); obtain ⟨x_0, x_1, y_0, y_1⟩ := hw'; go_simp; try with_reducible rfl
            simp only [Act.put, List.setIfInBounds_toArray, List.set_cons_zero, List.set_cons_succ]
            refine takeY 35 (i := 13) (v := ?v13a) rfl rfl (by kernel_rfl) (by kernel_rfl) (by kernel_rfl) (fun _ _ _ h => h) (by kernel_rfl) ?y13a hS1 ?_
            case y13a =>
              intro w' hw'; (try dsimp only at hw'); obtain ⟨x_0, x_1, y_0, y_1⟩ := hw'; go_simp; try with_reducible rfl
            simp only [Act.put, List.setIfInBounds_toArray, List.set_cons_zero, List.set_cons_succ]
            refine takeY 7 (i := 14) (v := ?v14a) rfl rfl (by kernel_rfl) (by kernel_rfl) (by kernel_rfl) (fun _ _ _ h => h) (by kernel_rfl) ?y14a hS1 ?_
            case y14a =>
              intro w' hw'; (try dsimp only at hw'); obtain ⟨x_0, x_1, y_0, y_1⟩ := hw'; go_simp; try with_reducible rfl
            simp only [Act.put, List.setIfInBounds_toArray, List.set_cons_zero, List.set_cons_succ]
            refine wpAnyH_done (by kernel_rfl) ?_ _
            clear hS0 hS1
            go_wp2
            go_roundw
            case rel => exact ⟨m + 1, by omega, by go_num, by rw [all_snoc HAt2.out, HBb.out]; rfl, HB3.out, HO3.out⟩
            case measure => simp [intOf]; omega
        · obtain rfl : m = n := by omega
          have HBb2 : Hid ((its.all fun y => !btD t y.dat x.dat) = bb) := Lib.hid (by have h := HBb.out; rwa [take_all HX.out.1] at h)
          have f1 := (hbel.cell (p := ⟨b1, off + k * 2, none⟩) hbw).trans HD.out.1
          have HLn : Hid (((idL ((its.take k).filter fun x => its.all fun y => !btD t y.dat x.dat)).length + [x.id].length) * 8 ≤ 140737488355328) := Lib.hid (by
            have h1 := fil_len its (fun x => its.all fun y => !btD t y.dat x.dat) k
            simp only [List.length_cons, List.length_nil]
            omega)
          clear hbel HBb
          cases bb
          · go_wp2
            go_roundw
            case rel => exact ⟨k + 1, by omega, by go_num, by rw [fil_snoc HAt.out, HBb2.out]; simpa using HOi.out, HBi.out⟩
            case measure => simp [intOf]; omega
          · go_wp2_with (at_builtin; refine wp_appI wr (by rfl) (.tmp 37) (.tmp 43) (by rfl) w.heap.size _ _ (by rfl) HOi.out _ [x.id] (by rfl) 1 1 rfl (by rfl) HLn.out HBi.out.size ?_)
            intro v1 w2 hown2 hb2
            have HO2 := Lib.hid hown2
            have HB2 := Lib.hid (HBi.out.trans hb2)
            clear hown2 hb2 f1
            go_wp2
            go_roundw
            case rel => exact ⟨k + 1, by omega, by go_num, by rw [fil_snoc HAt.out, HBb2.out]; exact HO2.out, HB2.out⟩
            case measure => simp [intOf]; omega
    · obtain rfl : k = n := by omega
      have HO' : Hid (OwnI wr w.heap.size u5 (idL (its.filter fun x => its.all fun y => !btD t y.dat x.dat))) := Lib.hid (by have h := HO.out; rwa [take_all HX.out.1] at h)
      clear hbel
      go_wp2
      go_ret
      exact ⟨⟨_, rfl, HO'.out⟩, HB.out⟩
theorem ownI_lower {w : World} {B B' : Nat} {v : Value} {l : List Int} (h : OwnI w B v l) (hB : B' ≤ B) : OwnI w B' v l := ⟨h.1, h.2.imp id fun ⟨g, cap, cur, h1, h2, h3⟩ => ⟨g, cap, cur, h1, Nat.le_trans hB h2, h3⟩⟩
end Go.Proofs.Ytnbgmiiknndleaa.num
namespace Go.Proofs.Ytnbgmiiknndleaa.num
set_option maxRecDepth 20000
open Go.RowKit
set_option linter.unusedVariables false
set_option linter.unusedSimpArgs false

def zC (j : Nat) : Value := (#[.int .i64 0, .slice none 0 0, .pointer none] : Array Value)[j % 3]!
def ctCell (p : Nat) (l : List It) (j : Nat) : Value := cellG (ctCells p) zC l j
theorem make_ct (n : Nat) (hn : n ≤ 1048576) (w : World) :
    (Instr.makeSlice 63 (.int .i64 (n : Int)) (.int .i64 (n : Int))).run Try.prog w = .ok (.slice (some ⟨w.heap.size, 0, none⟩) n n) (w.alloc (.cells (madeCells #[.int .i64 0, .slice none 0 0, .pointer none] (n * 3)) 71)) := by
  obtain ⟨i, hi, hzz⟩ := Option.map_eq_some_iff.1 info_ct
  simp only [Prod.mk.injEq] at hzz
  obtain ⟨hz, hs, hb⟩ := hzz
  have hr := run_make (P := Try.prog) w _ _ i _ Try.underlying63 hi hz .i64 .i64 n n (by omega) (Int.le_refl _) (by rw [hb]; omega) (by omega)
  rw [hs] at hr
  simp only [Int.toNat_natCast] at hr
  exact hr
theorem made_ct (w : World) (n p : Nat) : (w.alloc (.cells (madeCells #[.int .i64 0, .slice none 0 0, .pointer none] (n * 3)) 71)).rowIs w.heap.size 71 (n * 3) (ctCell p []) :=
  ⟨_, heap_alloc_new w _, size_madeCells _ _, fun i hi => by simp [madeCells, hi, ctCell, cellG, zC]⟩
theorem ctCell_snoc {p : Nat} {l : List It} {k : Nat} (h : l.length = k) (x : It) (j : Nat) :
    (if j = k * 3 + 2 then .pointer (some ⟨p, 0, none⟩) else if j = k * 3 + 1 then .slice x.A x.n x.c else if j = k * 3 then .int .i64 x.id else ctCell p l j) = ctCell p (l ++ [x]) j := by
  have e : ∀ i v, (ctCells p x)[i]? = some v → ctCell p (l ++ [x]) (k * 3 + i) = v := fun i v hv => cellG_last (ctCells_len p) zC h x hv
  by_cases h2 : j = k * 3 + 2
  · subst h2; rw [if_pos rfl, e 2 _ rfl]
  rw [if_neg h2]
  by_cases h1 : j = k * 3 + 1
  · subst h1; rw [if_pos rfl, e 1 _ rfl]
  rw [if_neg h1]
  by_cases h0 : j = k * 3
  · subst h0; rw [if_pos rfl]; exact (e 0 _ rfl).symm
  rw [if_neg h0]
  exact (cellG_more (ctCells_len p) zC h x (by omega)).symm
theorem ctCell_zero {p : Nat} {l : List It} {k : Nat} (h : l.length = k) : ctCell p l (k * 3) = .int .i64 0 ∧ ctCell p l (k * 3 + 1) = .slice none 0 0 ∧ ctCell p l (k * 3 + 2) = .pointer none := by
  refine ⟨?_, ?_, ?_⟩
  · rw [ctCell, cellG_none (ctCells_len p) zC (by omega)]; unfold zC; rw [show k * 3 % 3 = 0 by omega]; rfl
  · rw [ctCell, cellG_none (ctCells_len p) zC (by omega)]; unfold zC; rw [show (k * 3 + 1) % 3 = 1 by omega]; rfl
  · rw [ctCell, cellG_none (ctCells_len p) zC (by omega)]; unfold zC; rw [show (k * 3 + 2) % 3 = 2 by omega]; rfl
/-- What contestOf hands back. -/
def ContOut (B lo : Nat) (nds : List ND) (its : List It) (n : Nat) (e : Ending) (w' : World) : Prop :=
  (∃ (t : Tr) (p g : Nat), IsE nds ∧ AreP (its.map It.dat) ∧ Post nds t ∧ e = .returned (.slice (some ⟨g, 0, none⟩) n n) ∧ CtIn w' B lo p t (some ⟨g, 0, none⟩) n its) ∨ (¬ (IsE nds ∧ AreP (its.map It.dat)) ∧ e = .returned (.slice none 0 0))
set_option maxRecDepth 20000 in
set_option maxHeartbeats 1600000 in
theorem iContest (w : World) (B : Nat) (A : Option Addr) (n c : Nat) (its : List It) (A2 : Option Addr) (n2 c2 : Nat) (ns : List Nd) (h : InB w B A n its A2 n2 c2 ns) :
    Calls Try.prog 53 #[.slice A n c, .slice A2 n2 c2] w fun e w' => ContOut B w.heap.size (datN ns) its n e w' ∧ Below w.heap.size w w' := by
  have HT := Lib.hid (iTreeOfW w B A2 n2 c2 ns h.e h.hB h.hnc h.hc h.se)
  obtain ⟨qa, hqa⟩ := bool_of (AreP (its.map It.dat))
  have HA : Hid (∀ w1, Below w.heap.size w w1 → Calls Try.prog 65 #[.slice A n c] w1 fun e w' => e = .returned (.bool qa) ∧ Below w1.heap.size w1 w') := Lib.hid fun w1 h1 => iAre w1 B A n c its (h.below h1).i (h.below h1).hB qa hqa
  have HX := Lib.hid h.i
  have hB := h.hB
  have hn := h.hn
  have HQ := Lib.hid hqa
  generalize datN ns = nds at *
  clear h hqa
  go_enter Try.func53, Try.ntmps53
  go_wp2_with fail
  refine HT.out.mono ?_
  rintro e w1 ⟨hout, hb1⟩
  have HB1 := Lib.hid hb1
  clear hb1 HT
  rcases hout with ⟨he, t, p, ht, rfl, hpa⟩ | ⟨he, rfl⟩
  · have HE := Lib.hid he
    have HPo := Lib.hid ht
    have HPa := Lib.hid hpa
    clear he ht hpa
    go_wp2_with fail
    refine (HA.out _ HB1.out).mono ?_
    rintro e w2 ⟨rfl, hb2⟩
    have HB2 := Lib.hid (below_on HB1.out hb2)
    have HPa2 := Lib.hid (HPa.out.below (Nat.le_trans hB HB1.out.size) hb2)
    clear hb2 HPa
    cases qa
    · go_wp2
      go_ret
      exact ⟨.inr ⟨(fun hh => by have := HQ.out.2 hh.2; cases this), rfl⟩, HB2.out⟩
    · have HAr : Hid (AreP (its.map It.dat)) := Lib.hid (HQ.out.1 (by first | rfl | trivial))
      have hmk := make_ct n hn
      go_wp2
      clear hmk
      obtain ⟨g, hg⟩ : ∃ g, g = w2.heap.size := ⟨_, rfl⟩
      have HR0 : Hid ((w2.alloc (.cells (madeCells #[.int .i64 0, .slice none 0 0, .pointer none] (n * 3)) 71)).rowIs g 71 (n * 3) (ctCell p (its.take 0))) := Lib.hid (hg ▸ made_ct w2 n p)
      have HW0 : Hid (Below w2.heap.size w2 (w2.alloc (.cells (madeCells #[.int .i64 0, .slice none 0 0, .pointer none] (n * 3)) 71))) := Lib.hid ((Below.refl _ _).alloc (Nat.le_refl _) _)
      rw [← hg]
      generalize (w2.alloc (.cells (madeCells #[.int .i64 0, .slice none 0 0, .pointer none] (n * 3)) 71)) = w3 at *
      have HG := Lib.hid hg
      clear hg
      go_loopw [23] (fun i wr => ∃ k : Nat, k ≤ n ∧ i = .int .i64 k ∧ wr.rowIs g 71 (n * 3) (ctCell p (its.take k)) ∧ Below w2.heap.size w2 wr) (fun i _ => n - (intOf i).toNat)
      case atStart => exact ⟨0, Nat.zero_le _, rfl, HR0.out, HW0.out⟩
      case round =>
        obtain ⟨k, hk, rfl, hrow, hbel⟩ := hrel
        have HR := Lib.hid hrow
        have HB := Lib.hid hbel
        by_cases hlt : k < n
        · obtain ⟨b1, off, x, rfl, hb1, hat, d0, d1, -⟩ := HX.out.at k hlt
          have hbw : b1 < w2.heap.size := Nat.lt_of_lt_of_le hb1 (Nat.le_trans hB HB2.out.size)
          have f0 := (hbel.cell (p := ⟨b1, off + k * 2, none⟩) hbw).trans ((HB2.out.cell (p := ⟨b1, off + k * 2, none⟩) (Nat.lt_of_lt_of_le hb1 hB)).trans d0)
          have f1 := (hbel.cell (p := ⟨b1, off + k * 2 + 1, none⟩) hbw).trans ((HB2.out.cell (p := ⟨b1, off + k * 2 + 1, none⟩) (Nat.lt_of_lt_of_le hb1 hB)).trans d1)
          have HAt := Lib.hid hat
          have hlk : (its.take k).length = k := by rw [List.length_take, HX.out.1]; omega
          have hz := ctCell_zero (p := p) hlk
          have g0 : wr.cell? ⟨g, k * 3, none⟩ = some (.int .i64 0) := by rw [World.rowIs.cell hrow (by omega), hz.1]
          have g1 : wr.cell? ⟨g, k * 3 + 1, none⟩ = some (.slice none 0 0) := by rw [World.rowIs.cell hrow (by omega), hz.2.1]
          have g2 : wr.cell? ⟨g, k * 3 + 2, none⟩ = some (.pointer none) := by rw [World.rowIs.cell hrow (by omega), hz.2.2]
          have z0 := World.rowIs.frozen hrow (k * 3)
          have z1 := World.rowIs.frozen hrow (k * 3 + 1)
          have z2 := World.rowIs.frozen hrow (k * 3 + 2)
          have hgl := World.rowIs.lt hrow
          have HLk := Lib.hid hlk
          have hsz := Lib.hid hbel.size
          clear hrow hbel d0 d1 hat hlk hz
          go_wp2
          go_roundw
          case rel =>
            refine ⟨k + 1, by omega, by go_num, ?_, ?_⟩
            · rw [take_at HAt.out]
              exact (World.rowIs.alloc (World.rowIs.set (World.rowIs.set (World.rowIs.set HR.out (k * 3) (.int .i64 x.id)) (k * 3 + 1) (.slice x.A x.n x.c)) (k * 3 + 2) (.pointer (some ⟨p, 0, none⟩))) _).congr (fun j _ => ctCell_snoc HLk.out x j)
            · exact (((HB.out.setCell (by rw [HG.out]; exact Nat.le_refl _) _).setCell (by rw [HG.out]; exact Nat.le_refl _) _).setCell (by rw [HG.out]; exact Nat.le_refl _) _).alloc (by simp [World.setCell]; exact hsz.out) _
          case measure => simp [intOf]; omega
        · obtain rfl : k = n := by omega
          clear hrow hbel
          go_wp2
          go_ret
          have HBw := HB2.out.trans (HB.out.mono HB2.out.size)
          refine ⟨.inl ⟨t, p, g, HE.out, HAr.out, HPo.out, rfl, ?_⟩, HBw⟩
          have hR := HR.out
          rw [take_all HX.out.1] at hR
          have hown : OwnG 71 (ctCells p) 3 wr g (.slice (some ⟨g, 0, none⟩) k k) its := OwnG.of_row (ctCells_len p) (Nat.le_refl _) HX.out.1 (Nat.le_refl _) (by unfold maxLen; omega) hR fun j hj => cellG_own (ctCells_len p) zC HX.out.1 hj
          exact ⟨OwnG.read (ctCells_len p) hown, fun u hu => ⟨(HX.out.mem hu).below (HBw.mono hB), HAr.out.1 _ (List.mem_map_of_mem hu)⟩, HPa2.out.below (Nat.le_trans hB HB2.out.size) HB.out, Nat.le_trans hB HBw.size⟩
  · have HE := Lib.hid he
    clear he
    go_wp2
    go_ret
    exact ⟨.inr ⟨fun hh => HE.out hh.1, rfl⟩, HB1.out⟩
/-! The functions. -/
theorem three_set {w : World} {g : Nat} {T : TypeId} {u0 u1 u2 v0 v1 v2 : Value} (h : w.heap[g]? = some (.cells #[u0, u1, u2] T (0, 0))) : (((w.setCell ⟨g, 0, none⟩ v0).setCell ⟨g, 1, none⟩ v1).setCell ⟨g, 2, none⟩ v2).heap[g]? = some (.cells #[v0, v1, v2] T (0, 0)) := by
  have h := heap_setCell_same _ g 2 _ _ v2 (heap_setCell_same _ g 1 _ _ v1 (heap_setCell_same w g 0 _ _ v0 h))
  simpa using h
theorem block_alloc {w : World} {g : Nat} {o : Obj} (h : w.heap[g]? = some o) (o2 : Obj) : (w.alloc o2).heap[g]? = some o := (Below.heap_alloc _ _ _ (lt_of_block h)).trans h
end Go.Proofs.Ytnbgmiiknndleaa.num
namespace Go.Proofs.Ytnbgmiiknndleaa.num
set_option maxRecDepth 20000
open Go.RowKit Go.Maps
set_option linter.unusedVariables false
set_option linter.unusedSimpArgs false

/-- Items that came in, with all bounds. -/
structure ItB (w : World) (B : Nat) (A : Option Addr) (n : Nat) (its : List It) : Prop where
  i : Items w B A n its
  hB : B ≤ w.heap.size
  hn : n ≤ 1048576
  si : ∀ t ∈ its, t.n ≤ 1048576
theorem ItB.below {w w' : World} {B : Nat} {A : Option Addr} {n : Nat} {its : List It} (h : ItB w B A n its) (hb : Below w.heap.size w w') : ItB w' B A n its := ⟨h.i.below (hb.mono h.hB), Nat.le_trans h.hB hb.size, h.hn, h.si⟩
theorem Items.up {w : World} {B B' : Nat} {A : Option Addr} {n : Nat} {its : List It} (h : Items w B A n its) (hB : B ≤ B') : Items w B' A n its :=
  ⟨h.1, fun k hk => by
    obtain ⟨b, off, ha, hb, h1, h2, h3⟩ := h.2 k hk
    exact ⟨b, off, ha, Nat.lt_of_lt_of_le hb hB, h1, h2, h3.more hB⟩⟩
def LowC (f : List Int) (q : Bool) (its : List It) (n : Nat) (w : World) (e : Ending) (w' : World) : Prop :=
  ((∃ p g lo B', q = true ∧ AreP (its.map It.dat) ∧ e = .returned (.slice (some ⟨g, 0, none⟩) n n) ∧ CtIn w' B' lo p (lowT f) (some ⟨g, 0, none⟩) n its) ∨ (¬ (q = true ∧ AreP (its.map It.dat)) ∧ e = .returned (.slice none 0 0))) ∧ Below w.heap.size w w'
theorem lowE_is {f : List Int} {q : Bool} (hq : q = true ↔ FL f) : IsE (lowE f q) ↔ q = true := by
  cases q
  · exact ⟨fun h => absurd h nil_isE, fun h => by cases h⟩
  · exact ⟨fun _ => rfl, fun _ => (hq.1 rfl).isE⟩
set_option maxRecDepth 20000 in
theorem iLowC (w : World) (B : Nat) (A : Option Addr) (n c : Nat) (its : List It) (h : ItB w B A n its) (B2 : Nat) (A2 : Option Addr) (n2 c2 : Nat) (f : List Int) (hf : Ints w B2 A2 n2 f) (hB2 : B2 ≤ w.heap.size) (hn2 : n2 ≤ 1048576) (q : Bool) (hq : q = true ↔ FL f) :
    Calls Try.prog 38 #[.slice A n c, .slice A2 n2 c2] w (LowC f q its n w) := by
  have HL := Lib.hid (iLow w B2 A2 n2 c2 f hf hB2 hn2 q hq)
  have HI := Lib.hid h
  have HQ := Lib.hid hq
  clear h hf hq hB2
  go_enter Try.func38, Try.ntmps38
  go_wp2_with fail
  refine HL.out.mono ?_
  rintro e w1 ⟨⟨v, rfl, ho⟩, hb⟩
  obtain ⟨A3, c3, rfl, h1, h2⟩ := ho.r.shape
  have hlen : (lowQ f q).length ≤ 1048576 := by
    have h1 := lowE_len HQ.out
    have h2 : datN (lowQ f q) = lowE f q := by cases q; rfl; exact lowNds_dat f
    rw [← h2] at h1
    unfold datN at h1
    rwa [List.length_map] at h1
  have HC := Lib.hid (iContest w1 w1.heap.size A n c its A3 (lowQ f q).length c3 (lowQ f q) ⟨(HI.out.below hb).i.up (HI.out.below hb).hB, ho.nodes, Nat.le_refl _, HI.out.hn, hlen, h1, Nat.le_trans h2 (by decide), HI.out.si, lowQ_short⟩)
  have HD : Hid (datN (lowQ f q) = lowE f q) := Lib.hid (by cases q; rfl; exact lowNds_dat f)
  have HB := Lib.hid hb
  clear ho hb h1 h2 hlen HL
  go_wp2_with fail
  refine HC.out.mono ?_
  rintro e w2 ⟨hout, hb2⟩
  have HB2 := Lib.hid (below_on HB.out hb2)
  rw [HD.out] at hout
  clear hb2 HC
  rcases hout with ⟨t, p, g, he, ha, ht, rfl, hct⟩ | ⟨hno, rfl⟩
  · have hqt := (lowE_is HQ.out).1 he
    have HT : Hid (t = lowT f) := Lib.hid (by
      subst hqt
      exact ht.one (HQ.out.1 rfl).post)
    have HCt := Lib.hid hct
    have HA := Lib.hid ha
    clear he ha ht hct
    go_wp2
    go_ret
    exact ⟨.inl ⟨p, g, _, _, hqt, HA.out, rfl, HT.out ▸ HCt.out⟩, HB2.out⟩
  · have HN := Lib.hid hno
    clear hno
    go_wp2
    go_ret
    exact ⟨.inr ⟨fun h => HN.out ⟨(lowE_is HQ.out).2 h.1, h.2⟩, rfl⟩, HB2.out⟩
end Go.Proofs.Ytnbgmiiknndleaa.num
namespace Go.Proofs.Ytnbgmiiknndleaa.num
set_option maxRecDepth 20000
set_option linter.unusedVariables false
set_option linter.unusedSimpArgs false

section
variable {α β : Type}
/-- x laid into a list that is read from its end: behind the first one from the end that x is not less than. -/
def insR (lt : α → α → Bool) (x : α) : List α → List α
  | [] => [x]
  | y :: r => if lt x y then y :: insR lt x r else x :: y :: r
def insE (lt : α → α → Bool) (x : α) (l : List α) : List α := (insR lt x l.reverse).reverse
theorem insE_nil (lt : α → α → Bool) (x : α) : insE lt x [] = [x] := rfl
theorem insE_snoc (lt : α → α → Bool) (x : α) (l : List α) (y : α) : insE lt x (l ++ [y]) = if lt x y then insE lt x l ++ [y] else l ++ [y, x] := by
  unfold insE
  rw [List.reverse_append]
  simp only [List.reverse_cons, List.reverse_nil, List.nil_append, List.singleton_append, insR]
  split
  · simp
  · simp
/-- The list sorted so, its elements laid in one by one. -/
def srt (lt : α → α → Bool) : List α → List α → List α
  | o, [] => o
  | o, x :: r => srt lt (insE lt x o) r
def sortL (lt : α → α → Bool) (l : List α) : List α := srt lt [] l
theorem srt_snoc (lt : α → α → Bool) (x : α) : ∀ l o : List α, srt lt o (l ++ [x]) = insE lt x (srt lt o l)
  | [], o => rfl
  | y :: r, o => by rw [List.cons_append, srt, srt, srt_snoc lt x r]
theorem sortL_snoc (lt : α → α → Bool) (l : List α) (x : α) : sortL lt (l ++ [x]) = insE lt x (sortL lt l) := srt_snoc lt x l []
theorem insE_split {lt : α → α → Bool} {x : α} {a b : List α} (hb : ∀ y ∈ b, lt x y = true) (ha : a = [] ∨ ∃ a' y, a = a' ++ [y] ∧ lt x y = false) : insE lt x (a ++ b) = a ++ [x] ++ b := by
  revert hb
  refine snoc_ind (P := fun b => (∀ y ∈ b, lt x y = true) → insE lt x (a ++ b) = a ++ [x] ++ b) (fun _ => ?_) (fun b y ih hb => ?_) b
  · rcases ha with rfl | ⟨a', y, rfl, h⟩
    · rfl
    · rw [List.append_nil, insE_snoc, h]; simp
  · rw [← List.append_assoc, insE_snoc, hb y (by simp), ih fun z hz => hb z (by simp [hz])]
    simp
theorem insR_perm (lt : α → α → Bool) (x : α) : ∀ l : List α, (insR lt x l).Perm (x :: l)
  | [] => .refl _
  | y :: r => by
    unfold insR
    split
    · exact ((insR_perm lt x r).cons y).trans (.swap ..)
    · exact .refl _
theorem insE_perm (lt : α → α → Bool) (x : α) (l : List α) : (insE lt x l).Perm (x :: l) :=
  (List.reverse_perm _).trans ((insR_perm lt x _).trans ((List.reverse_perm l).cons x))
theorem srt_perm (lt : α → α → Bool) : ∀ l o : List α, (srt lt o l).Perm (o ++ l)
  | [], o => by rw [srt, List.append_nil]
  | x :: r, o => by
    rw [srt]
    exact (srt_perm lt r _).trans (((insE_perm lt x o).append_right r).trans List.perm_middle.symm)
theorem sortL_perm (lt : α → α → Bool) (l : List α) : (sortL lt l).Perm l := srt_perm lt l []
theorem sortL_len (lt : α → α → Bool) (l : List α) : (sortL lt l).length = l.length := (sortL_perm lt l).length_eq
theorem sortL_mem {lt : α → α → Bool} {l : List α} {x : α} : x ∈ sortL lt l ↔ x ∈ l := (sortL_perm lt l).mem_iff
/-- What stands for the elements is sorted as they are. -/
theorem insR_map {lt : α → α → Bool} {lt' : β → β → Bool} {g : α → β} {x : α} : ∀ {l : List α}, (∀ y ∈ l, lt' (g x) (g y) = lt x y) → (insR lt x l).map g = insR lt' (g x) (l.map g)
  | [], _ => rfl
  | y :: r, h => by
    rw [List.map_cons, insR, insR, h y (by simp)]
    split
    · rw [List.map_cons, insR_map fun z hz => h z (by simp [hz])]
    · rfl
theorem insE_map {lt : α → α → Bool} {lt' : β → β → Bool} {g : α → β} {x : α} {l : List α} (h : ∀ y ∈ l, lt' (g x) (g y) = lt x y) : (insE lt x l).map g = insE lt' (g x) (l.map g) := by
  unfold insE
  rw [List.map_reverse, insR_map (lt' := lt') (g := g) fun y hy => h y (by simpa using hy), List.map_reverse]
theorem srt_map {lt : α → α → Bool} {lt' : β → β → Bool} {g : α → β} : ∀ {l o : List α}, (∀ x ∈ o ++ l, ∀ y ∈ o ++ l, lt' (g x) (g y) = lt x y) → (srt lt o l).map g = srt lt' (o.map g) (l.map g)
  | [], o, _ => rfl
  | x :: r, o, h => by
    rw [List.map_cons, srt, srt, ← insE_map (lt := lt) fun y hy => h x (by simp) y (by simp [hy])]
    refine srt_map fun a ha b hb => ?_
    have hp : (insE lt x o ++ r).Perm (o ++ x :: r) := ((insE_perm lt x o).append_right r).trans List.perm_middle.symm
    exact h a (hp.mem_iff.1 ha) b (hp.mem_iff.1 hb)
theorem sortL_map {lt : α → α → Bool} {lt' : β → β → Bool} {g : α → β} {l : List α} (h : ∀ x ∈ l, ∀ y ∈ l, lt' (g x) (g y) = lt x y) : (sortL lt l).map g = sortL lt' (l.map g) := srt_map (o := []) (by simpa using h)
end
/-- The places of a list, sorted by what is said of each. -/
def ordL (key : Nat → Int) (n : Nat) : List Nat := sortL (fun i j => decide (key i < key j)) (List.range n)
theorem ordL_succ (key : Nat → Int) (n : Nat) : ordL key (n + 1) = insE (fun i j => decide (key i < key j)) n (ordL key n) := by
  unfold ordL
  rw [List.range_succ, sortL_snoc]
theorem ordL_len (key : Nat → Int) (n : Nat) : (ordL key n).length = n := by unfold ordL; rw [sortL_len, List.length_range]
theorem ordL_mem {key : Nat → Int} {n i : Nat} (h : i ∈ ordL key n) : i < n := by
  unfold ordL at h
  rw [sortL_mem] at h
  exact List.mem_range.1 h
theorem range_map {α : Type} (d : α) (l : List α) : (List.range l.length).map (fun i => l.getD i d) = l := by
  apply List.ext_getElem
  · simp
  · intro i h1 h2
    simp [List.getD_eq_getElem?_getD, h2]
theorem ordL_map {α : Type} (d : α) (l : List α) (f : α → Int) : (ordL (fun i => f (l.getD i d)) l.length).map (fun i => l.getD i d) = sortL (fun x y => decide (f x < f y)) l := by
  unfold ordL
  rw [sortL_map (lt' := fun x y => decide (f x < f y)) (g := fun i => l.getD i d) (fun x _ y _ => rfl), range_map]
end Go.Proofs.Ytnbgmiiknndleaa.num
namespace Go.Proofs.Ytnbgmiiknndleaa.num
set_option maxRecDepth 20000
open Go.Sort
set_option linter.unusedVariables false
set_option linter.unusedSimpArgs false

section
variable {α : Type} [Inhabited α]
theorem arr_at {o r : List α} {x : α} : (o ++ x :: r).toArray[o.length]! = x := by
  simp
theorem swp_list (o r : List α) (x y : α) : (swp (o ++ y :: x :: r).toArray (o.length + 1) o.length).toList = o ++ x :: y :: r := by
  have h1 : (o ++ y :: x :: r).toArray[o.length]! = y := by simp
  have h2 : (o ++ y :: x :: r).toArray[o.length + 1]! = x := by
    simp
  unfold swp
  rw [h1, h2]
  simp only [List.setIfInBounds_toArray, List.set_append]
  have h3 : ¬ o.length + 1 < o.length := by omega
  simp [h3]
theorem insInner_list (lt : α → α → Bool) (x : α) (o : List α) : ∀ r : List α, (insInner lt 0 o.length (o ++ x :: r).toArray).toList = insE lt x o ++ r := by
  refine snoc_ind (P := fun o => ∀ r : List α, (insInner lt 0 o.length (o ++ x :: r).toArray).toList = insE lt x o ++ r) (fun r => ?_) (fun o y ih r => ?_) o
  · simp [insInner, insE_nil]
  · have h1 : (o ++ [y] ++ x :: r).toArray[o.length]! = y := by simp
    have h2 : (o ++ [y] ++ x :: r).toArray[o.length + 1]! = x := by simp
    rw [List.length_append, List.length_singleton, insInner, h1, h2, insE_snoc]
    by_cases h : lt x y = true
    · rw [h]
      simp only [Nat.succ_pos, decide_true, Bool.and_self, ↓reduceIte, gt_iff_lt]
      have hs := swp_list o r x y
      have e : swp (o ++ [y] ++ x :: r).toArray (o.length + 1) o.length = (o ++ x :: y :: r).toArray := by
        rw [← hs]; simp
      rw [e, ih (y :: r)]
      simp
    · rw [Bool.not_eq_true] at h
      rw [h]
      simp
theorem insOuter_list (lt : α → α → Bool) : ∀ r o : List α, (insOuter lt 0 (o.length + r.length) o.length (o ++ r).toArray).toList = srt lt o r
  | [], o => by
    rw [insOuter_stop _ _ _ _ _ (by simp), srt]
    simp
  | x :: r, o => by
    rw [insOuter_go _ _ _ _ _ (by simp), srt]
    have h1 := insInner_list lt x o r
    have e : insInner lt 0 o.length (o ++ x :: r).toArray = (insE lt x o ++ r).toArray := by rw [← h1]
    have hl : (insE lt x o).length = o.length + 1 := by rw [(insE_perm lt x o).length_eq]; rfl
    rw [e, show o.length + (x :: r).length = (insE lt x o).length + r.length by rw [hl, List.length_cons]; omega, ← hl]
    exact insOuter_list lt r _
theorem insertionSort_list (lt : α → α → Bool) (l : List α) : (insertionSort lt l.toArray 0 l.length).toList = sortL lt l := by
  unfold insertionSort sortL
  cases l with
  | nil => rw [insOuter_stop _ _ _ _ _ (by simp)]; rfl
  | cons x r =>
    have h := insOuter_list lt r [x]
    rw [srt, insE_nil]
    rw [← h]
    congr 1
    simp [Nat.add_comm]
end
end Go.Proofs.Ytnbgmiiknndleaa.num
namespace Go.Proofs.Ytnbgmiiknndleaa.num
set_option maxRecDepth 20000
open Go.Sort Go.Proofs Go.RowKit Go.Shelf
set_option linter.unusedVariables false
set_option linter.unusedSimpArgs false

def sortRen : Go.Shelf.Ren := ⟨fun | 20 => 89 | n => n, fun | 0 => 0 | 3 => 3 | 4 => 4 | 22 => 62 | 24 => 71 | 25 => 93 | n => n, fun | n => n⟩
theorem sortLays : Go.Proofs.SlLaysF0.n20 Try.prog sortRen := {
  mixed := by kernel_rfl
  f20 := ⟨Try.f89.name, by decide, Try.func89.trans (congrArg some (by kernel_rfl))⟩
  t0 := Try.underlying0
  a0 := Try.isAgg0
  z0 := Try.sizeOf0
  v0 := Try.zeroValue0
  t3 := Try.underlying3
  a3 := Try.isAgg3
  z3 := Try.sizeOf3
  v3 := Try.zeroValue3
  t4 := Try.underlying4
  a4 := Try.isAgg4
  z4 := Try.sizeOf4
  v4 := Try.zeroValue4
  t22 := Try.underlying62
  a22 := Try.isAgg62
  z22 := Try.sizeOf62
  v22 := Try.zeroValue62
  t25 := Try.underlying93
  a25 := Try.isAgg93
  z25 := Try.sizeOf93
  v25 := Try.zeroValue93 }

section
variable {α : Type} [Inhabited α] {enc : α → List Value} {k : Nat}
theorem flatK_list (hk : ∀ x, (enc x).length = k) (l : List α) : (flatK enc k l.toArray).toList = l.flatMap enc := by
  apply List.ext_getElem?
  intro j
  have hs : (flatK enc k l.toArray).toList.length = l.length * k := by simp
  have hs2 : (l.flatMap enc).length = l.length * k := fm_len hk l
  by_cases hj : j < l.length * k
  · have hk0 : 0 < k := by
      rcases Nat.eq_zero_or_pos k with h | h
      · subst h; simp at hj
      · exact h
    have hi : j / k < l.length := Nat.div_lt_of_lt_mul (by rwa [Nat.mul_comm] at hj)
    have hm : j % k < k := Nat.mod_lt _ hk0
    have he : j / k * k + j % k = j := Nat.div_add_mod' j k
    have hx : l[j / k]? = some l[j / k] := List.getElem?_eq_getElem hi
    have h1 := fm_at hk l (j / k) (j % k) _ hx hm
    rw [he] at h1
    rw [h1]
    have h2 : (enc l[j / k]).length = k := hk _
    have h3 : (enc l[j / k])[j % k]? = some ((enc l[j / k])[j % k]'(by rw [h2]; exact hm)) := List.getElem?_eq_getElem _
    rw [h3]
    simp only [flatK, Array.toList_map, List.getElem?_map, Array.toList_range]
    simp [hj, hi, getElem!_pos, h2, hm]
  · rw [List.getElem?_eq_none (by omega), List.getElem?_eq_none (by omega)]
theorem heap_sortedK {w : World} {g n : Nat} {os : Array Obj} {cur : Array Value} {e : TypeId} {fr : Nat × Nat} (d : Array α) (hb : w.heap[g]? = some (.cells cur e fr)) :
    (sortWorldK enc k w g 0 n d os).heap[g]? = some (.cells (putCells id 0 (flatK enc k d) cur) e fr) := by
  have hg : g < w.heap.size := (Array.getElem?_eq_some_iff.1 hb).1
  unfold sortWorldK putRowK
  rw [heap_grow_old _ _ (by simpa using hg)]
  simp [putRow, mapBlock, Sort.ahead, Array.getElem?_modify, hb, onCells]
theorem grownBy_sortedK {w : World} {g n : Nat} {os : Array Obj} (d : Array α) : w.grownBy (sortWorldK enc k w g 0 n d os) (some g) := by
  refine ⟨rfl, rfl, rfl, by simp [sortWorldK, putRowK], fun j hj hne => ?_⟩
  unfold sortWorldK putRowK
  rw [heap_grow_old _ _ (by simpa using hj)]
  have : g ≠ j := fun e => hne (by rw [e])
  simp [putRow, mapBlock, Sort.ahead, Array.getElem?_modify, this]
theorem take_putK (cur F : Array Value) (h : F.size ≤ cur.size) : (putCells id 0 F cur).toList.take F.size = F.toList := by
  apply List.ext_getElem?
  intro j
  by_cases hj : j < F.size
  · rw [List.getElem?_take_of_lt hj, Array.getElem?_toList]
    simp [putCells, hj, show j < cur.size by omega]
  · rw [List.getElem?_take_eq_none (by omega), List.getElem?_eq_none (by simp; omega)]
theorem holdsK_block {w : World} {g : Nat} {cur : Array Value} {e : TypeId} {l : List α} (hk : ∀ x, (enc x).length = k) (hb : w.heap[g]? = some (.cells cur e (0, 0))) (ht : cur.toList.take (l.length * k) = l.flatMap enc) : HoldsK enc k w g 0 l.toArray := by
  intro j hj
  have hj' : j < l.length * k := by simpa using hj
  refine ⟨?_, by simp [World.frozen?, hb]⟩
  have h1 : (cur.toList.take (l.length * k))[j]? = (flatK enc k l.toArray).toList[j]? := by rw [ht, flatK_list hk]
  rw [List.getElem?_take_of_lt hj'] at h1
  simp only [World.cell?, hb, Nat.zero_add]
  simp only [Option.isSome_none, Bool.false_eq_true, if_false]
  rw [← Array.getElem?_toList, h1, Array.getElem?_toList]
  rw [getElem!_pos (flatK enc k l.toArray) j hj, Array.getElem?_eq_getElem hj]
  rfl
end
/-- -1, 0 or 1. -/
def cmpI (x y : Int) : Int := if x < y then -1 else if y < x then 1 else 0
theorem cmpI_lt (x y : Int) : decide (cmpI x y < 0) = decide (x < y) := by
  unfold cmpI
  rw [Bool.eq_iff_iff, decide_eq_true_iff, decide_eq_true_iff]
  repeat' split
  all_goals omega
def ltK (key : It → Int) (x y : It) : Bool := decide (key x < key y)
set_option maxRecDepth 20000 in
set_option maxHeartbeats 1000000 in
theorem ins_own (w : World) (B p : Nat) (A : Option Addr) (n c : Nat) (l : List It) (h : OwnG 71 (ctCells p) 3 w B (.slice A n c) l) (hn : n ≤ 1048576) (Q : It → Prop) (hQ : ∀ x ∈ l, Q x) (key : It → Int) (g : Nat) (cb : Array Value)
    (eg : ∀ args w, (callFunc g args).run Try.prog w = .ok (.enter g args) w)
    (hcmp : ∀ W, (∀ k, k < w.heap.size → (Value.slice A n c).ownBlock ≠ some k → W.heap[k]? = w.heap[k]?) → w.heap.size ≤ W.heap.size → ∀ x y, Q x → Q y → Calls Try.prog g (#[ctV p x, ctV p y] ++ cb) W fun e w' => e = .returned (.int .i64 (cmpI (key x) (key y))) ∧ ∃ q os', w' = grow (W.drewN q) os') :
    Calls Try.prog 89 #[.slice A n c, .int .i64 0, .int .i64 n, .func (.func g) #[] cb] w fun e w' => e = .returned (.tuple #[]) ∧ OwnG 71 (ctCells p) 3 w' B (.slice A n c) (sortL (ltK key) l) ∧ w.grownBy w' (Value.slice A n c).ownBlock := by
  by_cases h0 : n = 0
  · subst h0
    have hl : l = [] := by
      obtain ⟨A', c', e, _⟩ := h.shape
      injection e with _ e _
      exact List.eq_nil_of_length_eq_zero e.symm
    subst hl
    have HO := Lib.hid h
    clear h hcmp hQ
    go_enter Try.func89, Try.ntmps89
    go_wp2
    go_loopw [8] (fun i wr => i = .int .i64 1 ∧ wr = w) (fun _ _ => 0)
    case atStart => exact ⟨rfl, rfl⟩
    case round =>
      obtain ⟨rfl, rfl⟩ := hrel
      go_wp2
      go_end0
      exact ⟨rfl, HO.out, ⟨rfl, rfl, rfl, Nat.le_refl _, fun _ _ _ => rfl⟩⟩
  · rcases h.2 with ⟨e, hl⟩ | ⟨b, cap, cur, e, hB, hg, h1, h2, h3, h4⟩
    · injection e with e1 e2 e3
      exact absurd e2 h0
    · injection e with e1 e2 e3
      subst e1 e2 e3
      obtain ⟨x0, r0, hx0⟩ : ∃ x r, l = x :: r := by
        cases l with
        | nil => exact absurd rfl h0
        | cons x r => exact ⟨x, r, rfl⟩
      letI : Inhabited {x : It // Q x} := ⟨⟨x0, hQ x0 (by rw [hx0]; simp)⟩⟩
      let l' : List {x : It // Q x} := l.pmap Subtype.mk hQ
      have hl' : l'.map Subtype.val = l := by simp [l', List.map_pmap]
      have hlen : l'.length = l.length := by simp [l']
      let enc : {x : It // Q x} → List Value := fun x => ctCells p x.1
      have hk : ∀ x, (enc x).length = 3 := fun x => ctCells_len p x.1
      have hfm : ∀ m : List {x : It // Q x}, m.flatMap enc = (m.map Subtype.val).flatMap (ctCells p) := fun m => by simp [enc, List.flatMap_map]
      have hH : HoldsK enc 3 w b 0 l'.toArray := holdsK_block hk hg (by rw [hlen, hfm, hl']; exact h4)
      have hblk : b < w.heap.size := (Array.getElem?_eq_some_iff.1 hg).1
      have hcm : CmpLays Try.prog g cb enc 3 (fun x y => cmpI (key x.1) (key y.1)) b 0 l'.toArray.size w := fun m os dk hdk x y => by
        refine hcmp _ (fun k hk hne => ?_) ?_ x.1 y.1 x.2 y.2
        · exact (grownBy_sortedK (enc := enc) (k := 3) (w := w) (g := b) (n := m) (os := os) dk).block k hk (fun e => hne e.symm)
        · exact (grownBy_sortedK (enc := enc) (k := 3) (w := w) (g := b) (n := m) (os := os) dk).size
      have hcon := AnyQ.insertionSortCmpFunc (ρ := sortRen) sortLays 3 Try.isAgg71 Try.sizeOf71 enc hk (fun x => ctCells_one p x.1) (fun x y => cmpI (key x.1) (key y.1)) g cb b 0 c 0 l'.toArray.size l'.toArray w eg hcm hH hblk (Nat.zero_le _) (Nat.le_refl _) (by simp only [List.size_toArray, hlen]; omega)
      have hsz : l'.toArray.size = l.length := by simp [hlen]
      rw [hsz] at hcon
      refine hcon.mono ?_
      rintro e w' ⟨rfl, m, os, rfl⟩
      refine ⟨rfl, ?_, grownBy_sortedK _⟩
      have hlt : ltOf (fun x y : {x : It // Q x} => cmpI (key x.1) (key y.1)) = fun x y => ltK key x.1 y.1 := by
        funext x y
        exact cmpI_lt _ _
      rw [hlt]
      have hs : (Sort.insertionSort (fun x y : {x : It // Q x} => ltK key x.1 y.1) l'.toArray 0 l.length) = (sortL (fun x y : {x : It // Q x} => ltK key x.1 y.1) l').toArray := by
        rw [← hlen, ← insertionSort_list]
      rw [hs]
      have hsm : (sortL (fun x y : {x : It // Q x} => ltK key x.1 y.1) l').map Subtype.val = sortL (ltK key) l := by
        rw [sortL_map (lt' := ltK key) (fun x _ y _ => rfl), hl']
      have hln : (sortL (ltK key) l).length = l.length := sortL_len _ _
      have hF : (flatK enc 3 (sortL (fun x y : {x : It // Q x} => ltK key x.1 y.1) l').toArray).toList = (sortL (ltK key) l).flatMap (ctCells p) := by
        rw [flatK_list hk, hfm, hsm]
      have hFs : (flatK enc 3 (sortL (fun x y : {x : It // Q x} => ltK key x.1 y.1) l').toArray).size = l.length * 3 := by
        rw [size_flatK, List.size_toArray, sortL_len, hlen]
      unfold OwnG
      rw [hln]
      refine ⟨by rw [fm_len (ctCells_len p), hln], .inr ⟨b, c, _, rfl, hB, heap_sortedK _ hg, h1, h2, by simp [putCells, h3], ?_⟩⟩
      rw [← hF, ← hFs]
      exact take_putK _ _ (by rw [hFs, h3]; omega)
end Go.Proofs.Ytnbgmiiknndleaa.num
namespace Go.Proofs.Ytnbgmiiknndleaa.num
set_option maxRecDepth 20000
open Go.RowKit Go.Shelf
set_option linter.unusedVariables false
set_option linter.unusedSimpArgs false
attribute [local go_sem] Oper.semAt_some

theorem wpIn_appG {α : Type} {f : α → List Value} {s : Nat} (hf : ∀ x, (f x).length = s) (h1 : ∀ x, ∀ u ∈ f x, u.oneCell' = true) {T tS : TypeId} {z : Value} {bytes : Nat} (ht : Try.prog.underlying tS = some (.slice T)) (hinf : (Try.prog.info? T).map (fun i => (i.zero, i.size, i.bytes)) = some (some z, s, bytes)) (hzs : z.cells.size = s) (hs0 : 0 < s)
    {F : Fence} {n : Nat} {ops : Array Oper} {rest : List Oper} {o : Oper} {a : Act} {Q : Exit → Act → World → Prop} (w : World) (hgd : o.guard = none) (sl x : Operand)
    (ho : o.op = .call { callee := .builtin .append, args := #[sl, x], argTypes := #[tS, tS] })
    (B : Nat) (v : Value) (l : List α) (hs : a.eval sl = v) (hown : OwnG T f s w B v l) (cs : Array Value) (y : α) (hcs : cs = (f y).toArray) (c : Nat)
    (N : Nat) (hNw : w.heap.size = N) (hx : a.eval x = .slice (some ⟨N, 0, none⟩) 1 c) (hlen : (l.length + 1) * bytes ≤ 140737488355328) (hbt : 0 < bytes) (hB : B ≤ w.heap.size)
    (h : ∀ v' w', OwnG T f s w' B v' (l ++ [y]) → (w.alloc (.cells cs T)).grownBy w' v.ownBlock → wpListIn F n Try.prog ops Q rest (a.put o.dst v') w') :
    wpListIn F n Try.prog ops Q (o :: rest) a (w.alloc (.cells cs T)) := by
  obtain ⟨i0, hi, hz⟩ := Option.map_eq_some_iff.1 hinf
  simp only [Prod.mk.injEq] at hz
  obtain ⟨hz0, hz1, hz2⟩ := hz
  have hm : l.length + 1 ≤ 140737488355328 := Nat.le_trans (Nat.le_mul_of_pos_right _ hbt) hlen
  subst hcs hNw
  refine wpListIn_append_own _ hgd sl x tS ho B T i0 z s bytes ht hi hz0 hz1 hz2 hzs hs0 v l.length (l.flatMap f) hs (World.ownsRow.alloc hown _) ⟨w.heap.size, 0, none⟩ 1 c (f y) hx (by rw [hf, Nat.one_mul]) ?_ (h1 y) (by unfold maxLen; omega) hlen (by simp; omega) ?_
  · intro j u hj
    have e : (⟨w.heap.size, 0, none⟩ : Addr).add j = ⟨w.heap.size, j, none⟩ := by unfold Addr.add; split <;> simp_all
    rw [e, World.cell?_alloc_at _ _ _ _ rfl]
    simpa using hj
  · intro v' w' hown' hg _
    refine h v' w' ?_ hg
    unfold OwnG
    rw [List.length_append, List.length_singleton, List.flatMap_append, List.flatMap_singleton]
    exact hown'

def ctBox (p : Nat) (x : It) : Obj := .cells #[.int .i64 x.id, .slice x.A x.n x.c, .pointer (some ⟨p, 0, none⟩)] 71
theorem box3_own {β : Type} (g p : Nat) (f : β → It) : Go.Own (fun s W => Box3 W g p (f s)) := fun s X Y row hs hg hrow => by
  obtain ⟨h0, h1, h2, h3⟩ := hs
  exact ⟨Nat.lt_of_lt_of_le h0 hg.size, cell_kept h1 hg hrow, cell_kept h2 hg hrow, cell_kept h3 hg hrow⟩
theorem take_pre {α : Type} (l : List α) (k : Nat) : l.take k <+: l := List.take_prefix k l

set_option maxHeartbeats 4000000 in
/-- slices.Values' closure, for every loop body that keeps what lay below n₀. -/
theorem vals1_in (F : Fence) (n : Nat) (h7 : F.fn 69) (hro : F.round = none) (hn : 1 ≤ n) (l Bs n₀ p : Nat) (A : Option Addr) (len cap : Nat) (its : List It) (hl : len ≤ 1048576) (J Jx : List It → World → Prop) (hJ : ∀ s o W, J s W → J s (W.alloc o))
    (hY : ∀ pre x W, J pre W → pre.length < len → YieldAt F (n - 1) Try.prog l #[ctV p x] W fun e W' =>
      (e = .returned (.bool true) ∧ J (pre ++ [x]) W' ∧ Below n₀ W W') ∨ (e = .returned (.bool false) ∧ Jx (pre ++ [x]) W'))
    (W : World) (hBs : W.cell? ⟨Bs, 0, none⟩ = some (.slice A len cap)) (hc : ReadG (ctCells p) 3 W n₀ A len its) (hn₀ : n₀ ≤ W.heap.size) (h0 : J [] W) :
    CallsIn F n Try.prog 69 #[.func (.yield l) #[] #[], .pointer (some ⟨Bs, 0, none⟩)] W fun e W' => (∃ v, e = .returned v) ∧
      ((∃ ys, ys = its ∧ J ys W') ∨ (∃ pre, pre <+: its ∧ Jx pre W')) := by
  have HC := Lib.hid hc
  have HY := Lib.hid hY
  have HJ := Lib.hid hJ
  clear hY hJ hc
  refine callsIn_of_wp Try.func69 rfl h7 ?_ hro
  simp only [Try.ntmps69, List.size_toArray, List.length_cons, List.length_nil, Nat.reduceAdd, Nat.reduceSub, Array.replicate_succ, Array.replicate_zero, List.push_toArray, List.append_toArray, List.nil_append, List.cons_append]
  gi_wp2
  gi_loopw [7] (fun i wr => ∃ k : Nat, k ≤ len ∧ i = .int .i64 k ∧ J (its.take k) wr ∧ Below n₀ W wr)
    (fun i _ => len - (intOf i).toNat)
  case atStart => exact ⟨0, Nat.zero_le _, rfl, by rw [List.take_zero]; exact h0, Below.refl _ _⟩
  case round =>
    obtain ⟨k, hk, rfl, hJs, hnx⟩ := hrel
    by_cases hlt : k < len
    · obtain ⟨x, hx⟩ := HC.out.get hlt
      obtain ⟨b, off, rfl, hb, h3⟩ := HC.out.at' k x hx
      have f0 := (hnx.cell (p := ⟨b, off + k * 3 + 0, none⟩) hb).trans (h3 0 _ rfl)
      have f1 := (hnx.cell (p := ⟨b, off + k * 3 + 1, none⟩) hb).trans (h3 1 _ rfl)
      have f2 := (hnx.cell (p := ⟨b, off + k * 3 + 2, none⟩) hb).trans (h3 2 _ rfl)
      rw [Nat.add_zero] at f0
      have hlen : (its.take k).length = k := by rw [List.length_take, HC.out.len]; omega
      have HT : Hid (its.take k ++ [x] = its.take (k + 1)) := Lib.hid (take_at hx).symm
      have hlt' : (k : Int) < (len : Int) := by omega
      obtain ⟨fn, tmps, assign, body, hy, hR⟩ := HY.out _ x (wr.alloc (ctBox p x)) (HJ.out _ _ _ hJs) (by rw [hlen]; exact hlt)
      have hvx : ctV p x = .agg #[.int .i64 x.id, .slice x.A x.n x.c, .pointer (some ⟨p, 0, none⟩)] := rfl
      have hbx : ctBox p x = .cells #[.int .i64 x.id, .slice x.A x.n x.c, .pointer (some ⟨p, 0, none⟩)] 71 := rfl
      rw [hvx, hbx] at hy
      have HNX : Hid (Below n₀ W (wr.alloc (ctBox p x))) := Lib.hid (hnx.alloc (Nat.le_trans hn₀ hnx.size) _)
      rw [hbx] at hR HNX
      clear h3 hvx hbx hlen hx
      gi_wp2
      refine hR.mono ?_
      rintro e W3 (⟨rfl, hJ3, hk3⟩ | ⟨rfl, hJx3⟩)
      · gi_wp2
        go_roundw
        case rel => exact ⟨k + 1, by omega, by go_num, by rw [← HT.out]; exact hJ3, HNX.out.trans hk3⟩
        case measure => simp [intOf]; omega
      · gi_wp2
        refine bodyPost_ret (results_none rfl _ _ _) rfl ?_
        exact ⟨⟨_, rfl⟩, .inr ⟨_, by rw [HT.out]; exact take_pre _ _, hJx3⟩⟩
    · obtain rfl : k = len := by omega
      have HJ9 : Hid (J its wr) := Lib.hid (by rwa [take_all HC.out.len] at hJs)
      gi_wp2
      go_end0
      exact ⟨⟨_, rfl⟩, .inl ⟨_, rfl, HJ9.out⟩⟩

set_option maxHeartbeats 1000000 in
theorem vals_in (F : Fence) (n : Nat) (h5 : F.fn 58) (hro : F.round = none) (a : Option Addr) (len cap : Nat) (w : World) :
    CallsIn F n Try.prog 58 #[.slice a len cap] w fun e w' => e = .returned (.func (.func 69) #[] #[.pointer (some ⟨w.heap.size, 0, none⟩)]) ∧ w' = w.alloc (.cells #[.slice a len cap] 63) := by
  refine callsIn_of_wp Try.func58 rfl h5 ?_ hro
  simp only [Try.ntmps58, List.size_toArray, List.length_cons, List.length_nil, Nat.reduceAdd, Nat.reduceSub, Array.replicate_succ, Array.replicate_zero, List.push_toArray, List.append_toArray, List.nil_append, List.cons_append]
  gi_wp2
  go_ret
  exact ⟨rfl, rfl⟩

theorem vals_stops (F : Fence) (n : Nat) (h7 : F.fn 69) (hro : F.round = none) (hn : 1 ≤ n) (Bs n₀ p : Nat) (A : Option Addr) (len cap : Nat) (its : List It) (hl : len ≤ 1048576) (w : World) (hBs : Bs < w.heap.size) (hn₀ : n₀ ≤ w.heap.size)
    (hc : w.cell? ⟨Bs, 0, none⟩ = some (.slice A len cap)) (hI : ReadG (ctCells p) 3 w n₀ A len its) :
    SeqStopsK F n Try.prog 69 #[.pointer (some ⟨Bs, 0, none⟩)] (fun x : It => #[ctV p x]) (Below n₀) (fun ys => ys = its) (fun pre => pre <+: its) len w := fun l J Jx W hW hJ _ hY h0 =>
  vals1_in F n h7 hro hn l Bs n₀ p A len cap its hl J Jx (fun s o W1 h => hJ s W1 _ none h (World.grownBy_alloc W1 o none) (fun r e => by cases e)) hY W ((hW.cell (p := ⟨Bs, 0, none⟩) hBs).trans hc) (hI.below (hW.mono hn₀)) (Nat.le_trans hn₀ hW.size) h0

set_option maxHeartbeats 8000000 in
theorem appSeq_in (F : Fence) (n : Nat) (h11 : F.fn 79) (hro : F.round = none) (hn : 3 ≤ n) (g : Nat) (lb : Array Value) (hFg : F.fn g) (eg : ∀ args w, (callFunc g args).run Try.prog w = .ok (.enter g args) w) (n₀ p : Nat) (its : List It) (hl : its.length ≤ 1048576) (w : World) (hn₀ : n₀ ≤ w.heap.size)
    (hseq : SeqStopsK F (n - 1) Try.prog g lb (fun x : It => #[ctV p x]) (Below n₀) (fun ys => ys = its) (fun pre => pre <+: its) its.length w) :
    CallsIn F n Try.prog 79 #[.slice none 0 0, .func (.func g) #[] lb] w fun e W' => ∃ v, e = .returned v ∧ OwnG 71 (ctCells p) 3 W' w.heap.size v its ∧ Below w.heap.size w W' := by
  have h1 : 1 ≤ n := by omega
  refine callsIn_of_wp_marks Try.func79 rfl h11 ?_ hro
  simp only [Try.ntmps79, List.size_toArray, List.length_cons, List.length_nil, Nat.reduceAdd, Nat.reduceSub, Array.replicate_succ, Array.replicate_zero, List.push_toArray, List.append_toArray, List.nil_append, List.cons_append]
  gi_wp2
  have bO := Boxed.new w 62 (.slice none 0 0)
  have hB0 : Below w.heap.size w (w.alloc (.cells #[.slice none 0 0] 62)) := (Below.refl _ w).alloc (Nat.le_refl _) _
  have hsz : (w.alloc (.cells #[.slice none 0 0] 62)).heap.size = w.heap.size + 1 := by simp
  obtain ⟨W0, hW0⟩ : ∃ W0, w.alloc (.cells #[.slice none 0 0] 62) = W0 := ⟨_, rfl⟩
  rw [hW0] at bO hB0 hsz ⊢
  clear hW0
  refine wpIn_rangeFunc_ownH hro h1 (gf := g) (lb := lb) rfl hFg eg
    hseq belowK_t (belowK_b (by omega)) hB0 (fun _ => rfl)
    (fun pre W => (∃ v, Boxed W w.heap.size 62 v ∧ W.ownsRow w.heap.size 71 3 v pre.length (pre.flatMap (ctCells p)) ∧ True) ∧ Below w.heap.size w W)
    (fun _ _ _ => False)
    (OwnFrom.and (Own.from (holdsRow_own w.heap.size w.heap.size 62 71 3 (fun (pre : List It) => pre.length) (fun (pre : List It) => pre.flatMap (ctCells p)) (fun _ _ => True)) _) (ownFrom_below (Nat.le_refl _) (by omega)))
    (fun _ _ _ _ _ hs _ _ => hs)
    ⟨⟨_, bO, World.ownsRow_nil _ _ _ _, trivial⟩, hB0⟩
    (fun x a' W => ∃ Bx, w.heap.size < Bx ∧ Box3 W Bx p x ∧ a' = { tmps := #[.slice none 0 0, .func (.func g) #[] lb, .pointer (some ⟨w.heap.size, 0, none⟩), undef, .slice none 0 0, .pointer (some ⟨Bx, 0, none⟩), .func (.func g) #[] lb, ctV p x, undef, undef, undef, undef, undef], defers := [] })
    (fun x a' _ X Y row hs hg hr => by obtain ⟨Bx, h1, h2, h3⟩ := hs; exact ⟨Bx, h1, box3_own Bx p (fun (_ : Unit) => x) () X Y row h2 hg (fun r e => (hr r e).2), h3⟩)
    ?assign ?body ?done ?stop
  case assign =>
    rintro l pre x W K ⟨⟨v, hv, hrow, -⟩, hB1⟩ hK
    unfold ctV at hK ⊢
    gi_wp2
    exact hK _ _ ((KeepsOthers.alloc _ _).from _) ((Below.refl _ W).alloc (Nat.le_trans hn₀ hB1.size) _) ⟨⟨v, hv.alloc _, World.ownsRow.alloc hrow _, trivial⟩, hB1.alloc hB1.size _⟩ ⟨W.heap.size, hv.lt, Box3.new _ _ _ _, rfl⟩
  case body =>
    rintro l pre x a' W hl' ⟨r, hr⟩ ⟨⟨v, hv, hrow, -⟩, hB⟩ ⟨Bx, hBx, hX, rfl⟩ hlt
    have hc := hv.cell
    obtain ⟨x_g, x_0, x_1, x_2⟩ := hX
    unfold ctV
    gi_wp2_with (gi_at_builtin; refine wpIn_appG (ctCells_len p) (ctCells_one p) (T := 71) (tS := 62) Try.underlying62 info_ct rfl (by decide) W (by rfl) _ _ (by rfl) w.heap.size v pre (by rfl) hrow _ x (by rfl) 1 _ rfl (by rfl) (by omega) (by decide) hB.size ?_; intro v' w1 hown' hgrow; obtain ⟨g', cap', rfl⟩ := ownsRow_succ (k := pre.length) (by have h := hown'; unfold OwnG at h; rwa [List.length_append, List.length_singleton] at h); obtain ⟨hv1, hv2, hr2, hk2, hb2⟩ := hv.appended (by decide) hrow hB.size (Nat.le_refl _) hown' hgrow; have hc1 := hv1.cell; have hf1 := hv1.frozen)
    exact ⟨hk2.from _, (hb2.mono hn₀), ⟨_, hv2, hr2, trivial⟩, hB.trans hb2⟩
  case done =>
    rintro D ys W hD rfl ⟨⟨v, hv, hrow, -⟩, hB⟩ hK
    have hc := hv.cell
    gi_wp2
    refine ⟨by simp, .inl ⟨_, _, rfl, run_takeDeferred hK, ?_⟩⟩
    exact ⟨_, results_tmp rfl _ _ _, v, rfl, ownsRow_putObj hrow _ hK rfl, hB.trans (belowK_b (w := w) (Nat.le_refl _) W D _ _ (by omega) hK rfl rfl)⟩
  case stop =>
    rintro D c pre W _ _ h _
    exact h.elim
end Go.Proofs.Ytnbgmiiknndleaa.num
namespace Go.Proofs.Ytnbgmiiknndleaa.num
set_option maxRecDepth 20000
open Go.Sort Go.Proofs Go.RowKit Go.Shelf
set_option linter.unusedVariables false
set_option linter.unusedSimpArgs false

theorem nan_int (x : Int) (w : World) : Calls Try.prog 70 #[.int .i64 x] w fun e w' => e = .returned (.bool false) ∧ w' = w := by
  go_enter Try.func70, Try.ntmps70
  go_wp2
  go_ret
  exact ⟨by simp, rfl⟩
theorem cmp_int (x y : Int) (w : World) : Calls Try.prog 60 #[.int .i64 x, .int .i64 y] w fun e w' => e = .returned (.int .i64 (cmpI x y)) ∧ w' = w := by
  have HZ : Hid (∀ z, cmpI x y = z → z = if x < y then -1 else if y < x then 1 else 0) := Lib.hid fun z h => h.symm
  generalize hz : cmpI x y = z at *
  have h := HZ.out z rfl
  clear HZ hz
  by_cases h1 : x < y
  · rw [if_pos h1] at h
    subst h
    go_enter Try.func60, Try.ntmps60
    go_wp2_with (go_at_call 70; refine (nan_int _ _).mono ?_; rintro e w1 ⟨rfl, rfl⟩)
    go_ret
    exact ⟨rfl, rfl⟩
  · rw [if_neg h1] at h
    by_cases h2 : y < x
    · rw [if_pos h2] at h
      subst h
      go_enter Try.func60, Try.ntmps60
      go_wp2_with (go_at_call 70; refine (nan_int _ _).mono ?_; rintro e w1 ⟨rfl, rfl⟩)
      go_ret
      exact ⟨rfl, rfl⟩
    · rw [if_neg h2] at h
      subst h
      go_enter Try.func60, Try.ntmps60
      go_wp2_with (go_at_call 70; refine (nan_int _ _).mono ?_; rintro e w1 ⟨rfl, rfl⟩)
      go_ret
      exact ⟨rfl, rfl⟩
theorem field_at {w : World} {B : Nat} {x : It} (hx : Ints w B x.A x.n x.xs) (px : IsP x.dat) {k : Nat} (hk : k < 3) : ∃ b off : Nat, x.A = some ⟨b, off, none⟩ ∧ b < B ∧ k < x.n ∧ w.cell? ⟨b, off + k, none⟩ = some (.int .i64 (fval x k)) := by
  have hn : x.n = 3 := hx.1.symm.trans px.2.2
  obtain ⟨b, off, v, h1, h2, h3, h4⟩ := hx.at k (by omega)
  refine ⟨b, off, h1, h2, by omega, ?_⟩
  rw [h4]
  unfold fval
  simp [List.getD_eq_getElem?_getD, h3]
set_option maxRecDepth 20000 in
set_option maxHeartbeats 1600000 in
theorem cls_cmp (W : World) (B p bx k : Nat) (hk : k < 3) (hbx : W.cell? ⟨bx, 0, none⟩ = some (.int .i64 k)) (hbl : bx < W.heap.size) (hB : B ≤ W.heap.size) (x y : It) (hx : Ints W B x.A x.n x.xs) (hy : Ints W B y.A y.n y.xs) (px : IsP x.dat) (py : IsP y.dat) :
    Calls Try.prog 59 #[ctV p x, ctV p y, .pointer (some ⟨bx, 0, none⟩)] W fun e w' => e = .returned (.int .i64 (cmpI (fval x k) (fval y k))) ∧ ∃ q os', w' = grow (W.drewN q) os' := by
  obtain ⟨b1, o1, hA1, hb1, hn1, hc1⟩ := field_at hx px hk
  obtain ⟨b2, o2, hA2, hb2, hn2, hc2⟩ := field_at hy py hk
  have HC := Lib.hid (cmp_int (fval x k) (fval y k))
  generalize cmpI (fval x k) (fval y k) = z at *
  generalize fval x k = vx at *
  generalize fval y k = vy at *
  have hvx : ctV p x = .agg #[.int .i64 x.id, .slice x.A x.n x.c, .pointer (some ⟨p, 0, none⟩)] := rfl
  have hvy : ctV p y = .agg #[.int .i64 y.id, .slice y.A y.n y.c, .pointer (some ⟨p, 0, none⟩)] := rfl
  rw [hvx, hvy]
  clear hvx hvy hx hy px py
  obtain ⟨W2, hW2⟩ : ∃ W2, (W.alloc (.cells #[.int .i64 x.id, .slice x.A x.n x.c, .pointer (some ⟨p, 0, none⟩)] 71)).alloc (.cells #[.int .i64 y.id, .slice y.A y.n y.c, .pointer (some ⟨p, 0, none⟩)] 71) = W2 := ⟨_, rfl⟩
  have hbe : Below W.heap.size W W2 := by rw [← hW2]; exact ((Below.refl _ W).alloc (Nat.le_refl _) _).alloc (by simp) _
  have e1 : W2.cell? ⟨W.heap.size, 1, none⟩ = some (.slice x.A x.n x.c) := by rw [← hW2]; exact (((Box3.new W p x 71).alloc _).2.2.1)
  have e2 : W2.cell? ⟨W.heap.size + 1, 1, none⟩ = some (.slice y.A y.n y.c) := by
    rw [← hW2]
    have h := (Box3.new (W.alloc (.cells #[.int .i64 x.id, .slice x.A x.n x.c, .pointer (some ⟨p, 0, none⟩)] 71)) p y 71).2.2.1
    rwa [World.size_alloc] at h
  have f1 := (hbe.cell (p := ⟨b1, o1 + k, none⟩) (by show b1 < _; omega)).trans hc1
  have f2 := (hbe.cell (p := ⟨b2, o2 + k, none⟩) (by show b2 < _; omega)).trans hc2
  have fb := (hbe.cell (p := ⟨bx, 0, none⟩) hbl).trans hbx
  have HG : Hid (∀ q, ∃ q' os', W2.drewN q = grow (W.drewN q') os') := Lib.hid fun q => ⟨q, _, by rw [← hW2, alloc_eq_grow, alloc_eq_grow, grow_grow]; rfl⟩
  rw [hA1] at e1 hW2 ⊢
  rw [hA2] at e2 hW2 ⊢
  have h1' : (k : Int) < (x.n : Int) := by omega
  have h2' : (k : Int) < (y.n : Int) := by omega
  clear hbe hc1 hc2 hbx hb1 hb2 hbl hB
  go_enter Try.func59, Try.ntmps59
  go_wp2_with fail
  try rw [hW2]
  clear hW2
  go_quiet ((go_at_call 60; refine Calls.quiet_of_same (HC.out _)))
  go_wp2
  go_ret
  exact ⟨rfl, HG.out _⟩
/-- What is asked of the function that compares. -/
def CmpP (w : World) (v : Value) (p : Nat) (Q : It → Prop) (key : It → Int) (g : Nat) (cb : Array Value) : Prop :=
  ∀ W, (∀ k, k < w.heap.size → v.ownBlock ≠ some k → W.heap[k]? = w.heap[k]?) → w.heap.size ≤ W.heap.size → ∀ x y, Q x → Q y → Calls Try.prog g (#[ctV p x, ctV p y] ++ cb) W fun e w' => e = .returned (.int .i64 (cmpI (key x) (key y))) ∧ ∃ q os', w' = grow (W.drewN q) os'
def SortPost (w : World) (B p : Nat) (v : Value) (l : List It) (key : It → Int) (e : Ending) (w' : World) : Prop :=
  e = .returned (.tuple #[]) ∧ OwnG 71 (ctCells p) 3 w' B v (sortL (ltK key) l) ∧ w.grownBy w' v.ownBlock
set_option maxRecDepth 20000 in
set_option maxHeartbeats 1600000 in
theorem stable_own (w : World) (B p : Nat) (A : Option Addr) (n c : Nat) (l : List It) (h : OwnG 71 (ctCells p) 3 w B (.slice A n c) l) (hn : n ≤ 16) (Q : It → Prop) (hQ : ∀ x ∈ l, Q x) (key : It → Int) (g : Nat) (cb : Array Value)
    (eg : ∀ args w, (callFunc g args).run Try.prog w = .ok (.enter g args) w) (hcmp : CmpP w (.slice A n c) p Q key g cb) :
    Calls Try.prog 80 #[.slice A n c, .int .i64 n, .func (.func g) #[] cb] w (SortPost w B p (.slice A n c) l key) := by
  have HI := Lib.hid (ins_own w B p A n c l h (by omega) Q hQ key g cb eg hcmp)
  clear h hQ hcmp eg
  go_enter Try.func80, Try.ntmps80
  go_wp2
  go_loopw [7, 8] (fun a b wr => a = .int .i64 0 ∧ b = .int .i64 20 ∧ wr = w) (fun _ _ _ => 0)
  case atStart => exact ⟨rfl, rfl, rfl⟩
  case round =>
    obtain ⟨rfl, rfl, rfl⟩ := hrel
    have h20 : ¬ ((20 : Int) ≤ (n : Int)) := by omega
    go_wp2_with fail
    refine HI.out.mono ?_
    rintro e w2 ⟨rfl, ho, hg⟩
    have HO := Lib.hid ho
    have HG := Lib.hid hg
    clear ho hg HI
    go_wp2
    go_loopw [6] (fun a wq => a = .int .i64 20 ∧ wq = w2) (fun _ _ => 0)
    case atStart => exact ⟨rfl, rfl⟩
    case round =>
      obtain ⟨rfl, rfl⟩ := hrel
      have h21 : ¬ ((20 : Int) < (n : Int)) := by omega
      go_wp2
      go_end0
      exact ⟨rfl, HO.out, HG.out⟩
set_option maxRecDepth 20000 in
theorem sortStable_own (w : World) (B p : Nat) (A : Option Addr) (n c : Nat) (l : List It) (h : OwnG 71 (ctCells p) 3 w B (.slice A n c) l) (hn : n ≤ 16) (Q : It → Prop) (hQ : ∀ x ∈ l, Q x) (key : It → Int) (g : Nat) (cb : Array Value)
    (eg : ∀ args w, (callFunc g args).run Try.prog w = .ok (.enter g args) w) (hcmp : CmpP w (.slice A n c) p Q key g cb) :
    Calls Try.prog 68 #[.slice A n c, .func (.func g) #[] cb] w (SortPost w B p (.slice A n c) l key) := by
  have HI := Lib.hid (stable_own w B p A n c l h hn Q hQ key g cb eg hcmp)
  clear h hQ hcmp eg
  go_enter Try.func68, Try.ntmps68
  go_wp2_with fail
  refine HI.out.mono ?_
  rintro e w2 ⟨rfl, ho, hg⟩
  have HO := Lib.hid ho
  have HG := Lib.hid hg
  clear ho hg HI
  go_wp2
  go_end0
  exact ⟨rfl, HO.out, HG.out⟩
set_option maxRecDepth 20000 in
theorem collect_own (w : World) (Bs p : Nat) (A : Option Addr) (n c : Nat) (its : List It) (hn : n ≤ 1048576) (hBs : Bs < w.heap.size) (hc : w.cell? ⟨Bs, 0, none⟩ = some (.slice A n c)) (hI : ReadG (ctCells p) 3 w w.heap.size A n its) :
    Calls Try.prog 67 #[.func (.func 69) #[] #[.pointer (some ⟨Bs, 0, none⟩)]] w fun e w' => ∃ v, e = .returned v ∧ OwnG 71 (ctCells p) 3 w' w.heap.size v its ∧ Below w.heap.size w w' := by
  obtain rfl := hI.len
  have HA := Lib.hid (callsIn_wide.1 (appSeq_in Fence.wide 3 trivial rfl (Nat.le_refl _) 69 #[.pointer (some ⟨Bs, 0, none⟩)] trivial (enters_of Try.func69 (by kernel_rfl) rfl) w.heap.size p its hn w (Nat.le_refl _)
    (vals_stops Fence.wide 2 trivial rfl (by decide) Bs w.heap.size p A its.length c its hn w hBs (Nat.le_refl _) hc hI)))
  clear hI hc hBs
  go_enter Try.func67, Try.ntmps67
  go_wp2_with fail
  refine HA.out.mono ?_
  rintro e w1 ⟨v, rfl, ho, hb⟩
  have HO := Lib.hid ho
  have HB := Lib.hid hb
  clear ho hb HA
  go_wp2
  go_ret
  exact ⟨_, rfl, HO.out, HB.out⟩
theorem ints_keep {w W : World} {B : Nat} {A : Option Addr} {n : Nat} {xs : List Int} (h : Ints w B A n xs) (hk : ∀ k, k < B → W.heap[k]? = w.heap[k]?) : Ints W B A n xs :=
  ⟨h.1, fun k hkn => by
    obtain ⟨b, off, ha, hb, hc⟩ := h.2 k hkn
    exact ⟨b, off, ha, hb, (World.cell?_of_block (hk b hb)).trans hc⟩⟩
set_option maxRecDepth 20000 in
set_option maxHeartbeats 1600000 in
theorem stableFunc_own (w : World) (Bs bx p : Nat) (A : Option Addr) (n c : Nat) (its : List It) (hn : n ≤ 16) (hBs : Bs < w.heap.size) (hc : w.cell? ⟨Bs, 0, none⟩ = some (.slice A n c)) (hI : ReadG (ctCells p) 3 w w.heap.size A n its) (Q : It → Prop) (hx : ∀ u ∈ its, Q u) (key : It → Int)
    (hcls : ∀ W, (∀ j, j < w.heap.size → W.heap[j]? = w.heap[j]?) → w.heap.size ≤ W.heap.size → ∀ x y, Q x → Q y → Calls Try.prog 59 #[ctV p x, ctV p y, .pointer (some ⟨bx, 0, none⟩)] W fun e w' => e = .returned (.int .i64 (cmpI (key x) (key y))) ∧ ∃ q os', w' = grow (W.drewN q) os') :
    Calls Try.prog 57 #[.func (.func 69) #[] #[.pointer (some ⟨Bs, 0, none⟩)], .func (.func 59) #[] #[.pointer (some ⟨bx, 0, none⟩)]] w fun e w' => (∃ v, e = .returned v ∧ OwnG 71 (ctCells p) 3 w' w.heap.size v (sortL (ltK key) its)) ∧ Below w.heap.size w w' := by
  have HC := Lib.hid (collect_own w Bs p A n c its (by omega) hBs hc hI)
  have HLen := Lib.hid hI.len
  have HS : Hid (∀ w1 A1 c1, Below w.heap.size w w1 → OwnG 71 (ctCells p) 3 w1 w.heap.size (.slice A1 its.length c1) its → Calls Try.prog 68 #[.slice A1 its.length c1, .func (.func 59) #[] #[.pointer (some ⟨bx, 0, none⟩)]] w1 (SortPost w1 w.heap.size p (.slice A1 its.length c1) its key)) := Lib.hid fun w1 A1 c1 hb ho =>
    sortStable_own w1 w.heap.size p A1 its.length c1 its ho (by rw [hI.len]; exact hn) Q hx key _ _ (enters_of Try.func59 (by kernel_rfl) rfl) (fun W hW hsz x y qx qy =>
      hcls W (fun j hj => by rw [hW j (Nat.lt_of_lt_of_le hj hb.size) (fun e => by have := ho.lows j e; omega), hb.block j hj]) (Nat.le_trans hb.size hsz) x y qx qy)
  clear hI hx hc hcls
  go_enter Try.func57, Try.ntmps57
  go_wp2_with fail
  refine HC.out.mono ?_
  rintro e w1 ⟨v, rfl, ho, hb⟩
  obtain ⟨A1, c1, rfl, -, -⟩ := ho.shape
  have HS1 := Lib.hid (HS.out w1 A1 c1 hb ho)
  have HO := Lib.hid ho
  have HB := Lib.hid hb
  clear ho hb HC HS
  go_wp2_with fail
  refine HS1.out.mono ?_
  rintro e w2 ⟨rfl, ho2, hg⟩
  have HO2 := Lib.hid ho2
  have HB2 := Lib.hid (HB.out.grown hg HB.out.size (fun k hk => HO.out.lows k hk))
  clear ho2 hg HS1
  go_wp2
  go_ret
  exact ⟨⟨_, rfl, HO2.out⟩, HB2.out⟩
theorem vals_c (a : Option Addr) (len cap : Nat) (w : World) :
    Calls Try.prog 58 #[.slice a len cap] w fun e w' => e = .returned (.func (.func 69) #[] #[.pointer (some ⟨w.heap.size, 0, none⟩)]) ∧ w' = w.alloc (.cells #[.slice a len cap] 63) :=
  callsIn_wide.1 (vals_in Fence.wide 1 trivial rfl a len cap w)
set_option maxRecDepth 20000 in
set_option maxHeartbeats 1600000 in
theorem iSortedByG (w : World) (p : Nat) (k : Int) (A : Option Addr) (n c : Nat) (its : List It) (hn : n ≤ 16) (hI : ReadG (ctCells p) 3 w w.heap.size A n its) (Q : It → Prop) (hx : ∀ u ∈ its, Q u) (key : It → Int)
    (hcls : ∀ W2 bx, Below w.heap.size w W2 → W2.cell? ⟨bx, 0, none⟩ = some (.int .i64 k) → bx < W2.heap.size → ∀ W, (∀ j, j < W2.heap.size → W.heap[j]? = W2.heap[j]?) → W2.heap.size ≤ W.heap.size → ∀ x y, Q x → Q y → Calls Try.prog 59 #[ctV p x, ctV p y, .pointer (some ⟨bx, 0, none⟩)] W fun e w' => e = .returned (.int .i64 (cmpI (key x) (key y))) ∧ ∃ q os', w' = grow (W.drewN q) os') :
    Calls Try.prog 48 #[.slice A n c, .int .i64 k] w fun e w' => (∃ v, e = .returned v ∧ OwnG 71 (ctCells p) 3 w' w.heap.size v (sortL (ltK key) its)) ∧ Below w.heap.size w w' := by
  obtain ⟨W2, hW2⟩ : ∃ W2, (w.alloc (.cells #[.int .i64 k] 3)).alloc (.cells #[.slice A n c] 63) = W2 := ⟨_, rfl⟩
  have hbe : Below w.heap.size w W2 := by rw [← hW2]; exact ((Below.refl _ w).alloc (Nat.le_refl _) _).alloc (by simp) _
  have hs : W2.heap.size = w.heap.size + 2 := by rw [← hW2]; simp
  have e1 : W2.cell? ⟨w.heap.size, 0, none⟩ = some (.int .i64 k) := by rw [← hW2]; exact ((Boxed.new w 3 (.int .i64 k)).alloc _).cell
  have e2 : W2.cell? ⟨w.heap.size + 1, 0, none⟩ = some (.slice A n c) := by
    rw [← hW2]
    have h := (Boxed.new (w.alloc (.cells #[.int .i64 k] 3)) 63 (.slice A n c)).cell
    rwa [World.size_alloc] at h
  have HC := Lib.hid (stableFunc_own W2 (w.heap.size + 1) w.heap.size p A n c its hn (by omega) e2 ((hI.below hbe).more (by omega)) Q hx key (hcls W2 w.heap.size hbe e1 (by omega)))
  have HB := Lib.hid hbe
  have HS := Lib.hid hs
  clear hI hx hbe e1 e2 hs hcls
  go_enter Try.func48, Try.ntmps48
  go_wp2_with fail
  refine (vals_c A n c _).mono ?_
  rintro e w1 ⟨rfl, rfl⟩
  go_wp2_with fail
  try rw [hW2]
  refine HC.out.mono ?_
  rintro e w3 ⟨⟨v, rfl, ho⟩, hb⟩
  have HO := Lib.hid (ho.low (B' := w.heap.size) (by have := HS.out; omega))
  have HB3 := Lib.hid (HB.out.trans (hb.mono HB.out.size))
  clear ho hb HC hW2
  go_wp2
  go_ret
  exact ⟨⟨_, rfl, HO.out⟩, HB3.out⟩
/-- At a field of valid items. -/
theorem iSortedBy (w : World) (B p k : Nat) (hk : k < 3) (A : Option Addr) (n c : Nat) (its : List It) (hn : n ≤ 16) (hI : ReadG (ctCells p) 3 w w.heap.size A n its) (hB : B ≤ w.heap.size) (hx : ∀ u ∈ its, Ints w B u.A u.n u.xs ∧ IsP u.dat) :
    Calls Try.prog 48 #[.slice A n c, .int .i64 k] w fun e w' => (∃ v, e = .returned v ∧ OwnG 71 (ctCells p) 3 w' w.heap.size v (sortL (ltK fun u => fval u k) its)) ∧ Below w.heap.size w w' :=
  iSortedByG w p k A n c its hn hI (fun u => Ints w B u.A u.n u.xs ∧ IsP u.dat) hx (fun u => fval u k) fun W2 bx hb hbx hbl W hW hsz x y qx qy =>
    cls_cmp W B p bx k hk ((World.cell?_of_block (hW bx hbl)).trans hbx) (Nat.lt_of_lt_of_le hbl hsz) (Nat.le_trans hB (Nat.le_trans hb.size hsz)) x y
      (ints_keep qx.1 fun j hj => by rw [hW j (Nat.lt_of_lt_of_le hj (Nat.le_trans hB hb.size)), hb.block j (Nat.lt_of_lt_of_le hj hB)])
      (ints_keep qy.1 fun j hj => by rw [hW j (Nat.lt_of_lt_of_le hj (Nat.le_trans hB hb.size)), hb.block j (Nat.lt_of_lt_of_le hj hB)]) qx.2 qy.2
/-- Without contestants, at whatever field. -/
theorem iSortedBy0 (w : World) (p : Nat) (k : Int) (A : Option Addr) (c : Nat) :
    Calls Try.prog 48 #[.slice A 0 c, .int .i64 k] w fun e w' => (∃ v, e = .returned v ∧ OwnG 71 (ctCells p) 3 w' w.heap.size v []) ∧ Below w.heap.size w w' :=
  iSortedByG w p k A 0 c [] (by decide) (ReadG.nil _ _ _) (fun _ => False) (fun u hu => by cases hu) (fun _ => 0) fun _ _ _ _ _ _ _ _ _ _ qx _ => qx.elim
end Go.Proofs.Ytnbgmiiknndleaa.num
namespace Go.Proofs.Ytnbgmiiknndleaa.num
set_option maxRecDepth 20000
open Go.RowKit
set_option linter.unusedVariables false

theorem stop_at {p : Prop} (h : Hid True → p) : p := h (Lib.hid trivial)
/-- A slice of the call's own, cut ahead of its k-th element; and behind it. -/
theorem Ints.takeI {w : World} {B : Nat} {A : Option Addr} {n k : Nat} {xs : List Int} (h : Ints w B A n xs) (hk : k ≤ n) : Ints w B A k (xs.take k) := by
  refine ⟨by rw [List.length_take, h.1]; omega, fun j hj => ?_⟩
  obtain ⟨b, off, e, hb, hc⟩ := h.2 j (by omega)
  refine ⟨b, off, e, hb, ?_⟩
  rw [hc, List.getD_eq_getElem?_getD, List.getD_eq_getElem?_getD, List.getElem?_take_of_lt hj]
theorem Ints.dropI {w : World} {B g : Nat} {n k off : Nat} {xs : List Int} (h : Ints w B (some ⟨g, off, none⟩) n xs) (hk : k ≤ n) : Ints w B (some ⟨g, off + k, none⟩) (n - k) (xs.drop k) := by
  refine ⟨by rw [List.length_drop, h.1], fun j hj => ?_⟩
  obtain ⟨b, off', e, hb, hc⟩ := h.2 (k + j) (by omega)
  cases e
  refine ⟨_, _, rfl, hb, ?_⟩
  rw [Nat.add_assoc, hc, List.getD_eq_getElem?_getD, List.getD_eq_getElem?_getD, List.getElem?_drop]
end Go.Proofs.Ytnbgmiiknndleaa.num
namespace Go.Proofs.Ytnbgmiiknndleaa.num
set_option maxRecDepth 20000
open Go.RowKit
set_option linter.unusedVariables false
set_option linter.unusedSimpArgs false

def itZ : It := dIt (0, [])
/-- What the item at a place says of a field. -/
def keyF (its : List It) (fk : Nat) (i : Nat) : Int := fval (its.getD i itZ) fk
theorem keyF_at {its : List It} {fk i : Nat} {u : It} (h : its[i]? = some u) : keyF its fk i = fval u fk := by
  unfold keyF
  rw [List.getD_eq_getElem?_getD, h]
  rfl
def ordZ (key : Nat → Int) (n : Nat) : List Int := (ordL key n).map fun (i : Nat) => (i : Int)
def ltZ (key : Nat → Int) (a b : Int) : Bool := decide (key a.toNat < key b.toNat)
theorem ordZ_succ (key : Nat → Int) (n : Nat) : ordZ key (n + 1) = insE (ltZ key) (n : Int) (ordZ key n) := by
  unfold ordZ
  rw [ordL_succ, insE_map (lt' := ltZ key) (g := fun (i : Nat) => (i : Int))]
  intro y _
  rfl
theorem ordZ_len (key : Nat → Int) (n : Nat) : (ordZ key n).length = n := by unfold ordZ; rw [List.length_map, ordL_len]
theorem ordZ_at {key : Nat → Int} {n i : Nat} {y : Int} (h : (ordZ key n)[i]? = some y) : ∃ j : Nat, y = (j : Int) ∧ j < n := by
  unfold ordZ at h
  rw [List.getElem?_map] at h
  obtain ⟨j, hj, rfl⟩ := Option.map_eq_some_iff.1 h
  exact ⟨j, rfl, ordL_mem (List.mem_of_getElem? hj)⟩
theorem field_of {w : World} {B : Nat} {x : It} (hx : Ints w B x.A x.n x.xs) (px : IsP x.dat) {k : Nat} (hk : k < 3) : ∃ b off : Nat, x.A = some ⟨b, off, none⟩ ∧ b < B ∧ (k : Int) < (x.n : Int) ∧ w.cell? ⟨b, off + k, none⟩ = some (.int .i64 (fval x k)) := by
  have hn : x.n = 3 := hx.1.symm.trans px.2.2
  obtain ⟨b, off, v, h1, h2, h3, h4⟩ := hx.at k (by omega)
  refine ⟨b, off, h1, h2, by omega, ?_⟩
  rw [h4]
  unfold fval
  simp [List.getD_eq_getElem?_getD, h3]
/-- What the inner loop leaves is the order with one place more. -/
theorem ord_step {key : Nat → Int} {k j : Nat} {s : List Int} (hs : s = ordZ key k) (hg : ∀ y ∈ s.drop j, ltZ key (k : Int) y = true) (hl : s.take j = [] ∨ ∃ a' y, s.take j = a' ++ [y] ∧ ltZ key (k : Int) y = false) : s.take j ++ [(k : Int)] ++ s.drop j = ordZ key (k + 1) := by
  rw [ordZ_succ, ← hs, ← insE_split hg hl, List.take_append_drop]

set_option maxRecDepth 20000 in
set_option maxHeartbeats 3200000 in
theorem sOrder (w : World) (B : Nat) (A : Option Addr) (n c : Nat) (its : List It) (hi : Items w B A n its) (hP : ∀ u ∈ its, IsP u.dat) (hB : B ≤ w.heap.size) (hn : n ≤ 2097152) (fk : Nat) (hf : fk < 3) :
    Calls Try.prog 34 #[.slice A n c, .int .i64 fk] w fun e w' => (∃ v, e = .returned v ∧ OwnI w' w.heap.size v (ordZ (keyF its fk) n)) ∧ Below w.heap.size w w' := by
  have HX := Lib.hid hi
  have HP := Lib.hid hP
  have HXn := Lib.hid hi.1
  clear hi hP
  go_enter Try.func34, Try.ntmps34
  go_wp2
  go_loopw [5, 6] (fun v i wr => ∃ (k g cap : Nat) (s : List Int), k ≤ n ∧ i = .int .i64 k ∧ v = .slice (some ⟨g, 0, none⟩) k cap ∧ k ≤ cap ∧ cap ≤ maxLen ∧ s = ordZ (keyF its fk) k ∧ OwnI wr w.heap.size v s ∧ Below w.heap.size w wr) (fun _ i _ => n - (intOf i).toNat)
  case atStart => exact ⟨0, _, 0, [], Nat.zero_le _, rfl, rfl, Nat.le_refl _, by decide, rfl, OwnI.empty w _ (Nat.le_refl _), (Below.refl _ _).alloc (Nat.le_refl _) _⟩
  case round =>
    obtain ⟨k, g, cap, s, hk, rfl, rfl, hkc, hcm, hs, hown, hbel⟩ := hrel
    have HS := Lib.hid hs
    have HO := Lib.hid hown
    have HB := Lib.hid hbel
    have HL : Hid (s.length = k) := Lib.hid (by rw [hs, ordZ_len])
    have hcm' : (cap : Int) ≤ 9223372036854775807 := by unfold maxLen at hcm; omega
    clear hs hown
    by_cases hlt : k < n
    · obtain ⟨b, off, u, rfl, hb, hat, h0, h1, hxu⟩ := HX.out.at k hlt
      have pu := HP.out u (mem_of_at hat)
      obtain ⟨b1, o1, hA1, hb1, hn1, hc1⟩ := field_of hxu pu hf
      have HK : Hid (keyF its fk k = fval u fk) := Lib.hid (keyF_at hat)
      generalize hvx : fval u fk = vx at *
      have HC1 := Lib.hid h1
      have HC2 := Lib.hid hc1
      have hbw : b < w.heap.size := Nat.lt_of_lt_of_le hb hB
      have hbw1 : b1 < w.heap.size := Nat.lt_of_lt_of_le hb1 hB
      have hlt' : (k : Int) < (n : Int) := by omega
      have hk0 : (0 : Int) ≤ (k : Int) := by omega
      obtain ⟨uid, uA, un, uc, uxs⟩ := u
      dsimp only at hA1 hn1 HC1
      subst hA1
      clear h0 h1 hxu pu hc1 hat hbel hvx hb hb1
      go_wp2
      go_loopw [7] (fun jv wr2 => ∃ j : Nat, j ≤ k ∧ jv = .int .i64 j ∧ (∀ y ∈ s.drop j, ltZ (keyF its fk) (k : Int) y = true) ∧ OwnI wr2 w.heap.size (.slice (some ⟨g, 0, none⟩) k cap) s ∧ Below w.heap.size w wr2) (fun jv _ => (intOf jv).toNat)
      case atStart => exact ⟨k, Nat.le_refl _, rfl, (by rw [List.drop_eq_nil_of_le (by rw [HL.out]; exact Nat.le_refl _)]; exact fun y hy => by cases hy), HO.out, HB.out⟩
      case round =>
        obtain ⟨j, hj, rfl, hge, hown, hbel⟩ := hrel
        have HG := Lib.hid hge
        have HO2 := Lib.hid hown
        have HB2 := Lib.hid hbel
        clear hge hown
        have hw1 : wr.cell? ⟨b, off + k * 2 + 1, none⟩ = some (.slice (some ⟨b1, o1, none⟩) un uc) := (hbel.cell (p := ⟨b, off + k * 2 + 1, none⟩) hbw).trans HC1.out
        have hw2 : wr.cell? ⟨b1, o1 + fk, none⟩ = some (.int .i64 vx) := (hbel.cell (p := ⟨b1, o1 + fk, none⟩) hbw1).trans HC2.out
        have hs1 : (j : Int) ≤ (cap : Int) := by omega
        have hs2 : (j : Int) ≤ (k : Int) := by omega
        have hs3 : (0 : Int) ≤ (j : Int) := by omega
        have hs4 : (k : Int) ≤ (cap : Int) := by omega
        by_cases hj0 : j = 0
        · subst hj0
          have HLo : Hid (s.take 0 = [] ∨ ∃ a' y, s.take 0 = a' ++ [y] ∧ ltZ (keyF its fk) (k : Int) y = false) := Lib.hid (.inl rfl)
          clear hbel
          go_wp2
          go_quiet (fail)
          clear hw1 hw2
          have HW : Hid (Below wr.heap.size wr (wr.drewN nq)) := Lib.hid (below_drewN (Below.refl _ _) nq)
          have hsz : (wr.drewN nq).heap.size = wr.heap.size := rfl
          obtain ⟨v1, w1, hr1, ho1, hg1, -⟩ := run_spreadI (ty := 22) (c := cap) (OwnI.empty (wr.drewN nq) wr.heap.size (Nat.le_refl _)) (((ownI_at HO2.out).takeI hj).below (HW.out.alloc (Nat.le_refl _) (.cells #[] 3))) (by simp <;> omega) (by simp [hsz])
          have HO1 : Hid (OwnI w1 wr.heap.size v1 (s.take 0)) := Lib.hid (by simpa using ho1)
          have HB1 : Hid (Below wr.heap.size wr w1) := Lib.hid ((HW.out.alloc (Nat.le_refl _) _).grown hg1 (by simp [hsz]) (by intro k hk; simp [Value.ownBlock] at hk; omega))
          have HLn : Hid (((s.take 0).length + [(k : Int)].length) * 8 ≤ 140737488355328) := Lib.hid (by
            rw [List.length_take, HL.out, List.length_singleton]
            omega)
          clear ho1 hg1
          go_wp2_with (at_builtin; refine Go.Lib.wpList_append_run_sl _ (by rfl) (.tmp 45) (.tmp 48) 22 (by rfl) _ _ (by rfl) (by rfl) hr1 (stop_at ?_))
          intro _
          clear hr1
          go_wp2_with (at_builtin; refine wp_appI w1 (by rfl) (.tmp 50) (.tmp 52) (by rfl) wr.heap.size _ _ (by rfl) HO1.out _ [(k : Int)] (by rfl) 1 1 rfl (by rfl) HLn.out HB1.out.size ?_)
          intro v2 w2 ho2 hb2
          have HO3 := Lib.hid ho2
          have HBw2 := Lib.hid (HB1.out.trans hb2)
          clear ho2 hb2
          have HI2 : Hid (Ints w2 wr.heap.size (some ⟨g, 0, none⟩) k s) := Lib.hid ((ownI_at HO2.out).below HBw2.out)
          have HS2 : Hid (s.take 0 ++ [(k : Int)] ++ s.drop 0 = ordZ (keyF its fk) (k + 1)) := Lib.hid (ord_step HS.out HG.out HLo.out)
          have HLz : Hid ((s.take 0 ++ [(k : Int)] ++ s.drop 0).length = k + 1) := Lib.hid (by
            have h := HL.out
            simp
            omega)
          by_cases hcj : cap = 0
          · subst hcj
            obtain rfl : k = 0 := by omega
            obtain ⟨v3, w3, hr3, ho3, hg3, -⟩ := run_spreadI (ty := 22) (c := 0) (A := some ⟨g, 0, none⟩) HO3.out (HI2.out.takeI (Nat.zero_le _)) (by have h := HL.out; simp <;> omega) HBw2.out.size
            have HO4 : Hid (OwnI w3 wr.heap.size v3 (s.take 0 ++ [((0 : Nat) : Int)] ++ s.drop 0)) := Lib.hid (by have h : s.drop 0 = [] := List.drop_eq_nil_of_le (by rw [HL.out]; exact Nat.le_refl _); rw [h]; simpa using ho3)
            have HB3 := Lib.hid (HBw2.out.grown hg3 HBw2.out.size (fun k hk => ownI_lows HO3.out k hk))
            clear ho3 hg3
            go_wp2_with (at_builtin; refine Go.Lib.wpList_append_run_sl _ (by rfl) (.tmp 54) (.tmp 57) 22 (by rfl) _ _ (by rfl) (by rfl) hr3 ?_)
            clear hr3
            go_wp2
            go_roundw
            case rel =>
              rcases ownI_row HO4.out with ⟨-, e⟩ | ⟨g', cap', f, e, hg', h1, h2, -, -⟩
              · exact absurd e (by simp)
              · exact ⟨0 + 1, g', cap', _, by omega, by go_num, by rw [e, HLz.out], by rw [← HLz.out]; exact h1, h2, HS2.out, ownI_lower HO4.out HB2.out.size, below_on HB2.out HB3.out⟩
            case measure => simp [intOf] <;> omega
          · have hcj1 : 0 < cap := by omega
            obtain ⟨v3, w3, hr3, ho3, hg3, -⟩ := run_spreadI (ty := 22) (c := cap - 0) HO3.out (HI2.out.dropI hj) (by have h := HL.out; simp <;> omega) HBw2.out.size
            have HO4 : Hid (OwnI w3 wr.heap.size v3 (s.take 0 ++ [(k : Int)] ++ s.drop 0)) := Lib.hid ho3
            have HB3 := Lib.hid (HBw2.out.grown hg3 HBw2.out.size (fun k hk => ownI_lows HO3.out k hk))
            clear ho3 hg3
            rw [Nat.zero_add] at hr3
            go_wp2_with (at_builtin; refine Go.Lib.wpList_append_run_sl _ (by rfl) (.tmp 54) (.tmp 57) 22 (by rfl) _ _ (by rfl) (by rfl) hr3 ?_)
            clear hr3
            go_wp2
            go_roundw
            case rel =>
              rcases ownI_row HO4.out with ⟨-, e⟩ | ⟨g', cap', f, e, hg', h1, h2, -, -⟩
              · exact absurd e (by simp)
              · exact ⟨k + 1, g', cap', _, by omega, by go_num, by rw [e, HLz.out], by rw [← HLz.out]; exact h1, h2, HS2.out, ownI_lower HO4.out HB2.out.size, below_on HB2.out HB3.out⟩
            case measure => simp [intOf] <;> omega
        · obtain ⟨i, rfl⟩ : ∃ i, j = i + 1 := ⟨j - 1, by omega⟩
          obtain ⟨-, -, -, g', e, -, hgl, hcell⟩ := ownI_cells HO2.out (by omega)
          cases e
          obtain ⟨y, hy⟩ : ∃ y, s[i]? = some y := ⟨_, List.getElem?_eq_getElem (by rw [HL.out]; omega)⟩
          have hyc := (hcell i y hy).1
          have HY := Lib.hid hy
          obtain ⟨jy, rfl, hjy⟩ := ordZ_at (key := keyF its fk) (n := k) (i := i) (y := y) (by rw [← HS.out]; exact hy)
          obtain ⟨b', off', t, hbo, hb, hat, h0, h1, hxt⟩ := HX.out.at jy (by omega)
          obtain ⟨rfl, rfl⟩ : b = b' ∧ off = off' := by injection hbo with h; injection h with h2 h3; exact ⟨h2, h3⟩
          have pt := HP.out t (mem_of_at hat)
          obtain ⟨b2, o2, hA2, hb2, hn2, hc2⟩ := field_of hxt pt hf
          have HKt : Hid (keyF its fk jy = fval t fk) := Lib.hid (keyF_at hat)
          generalize hvt : fval t fk = vt at *
          have hw3 : wr.cell? ⟨b, off + jy * 2 + 1, none⟩ = some (.slice t.A t.n t.c) := (hbel.cell (p := ⟨b, off + jy * 2 + 1, none⟩) hbw).trans h1
          have hw4 : wr.cell? ⟨b2, o2 + fk, none⟩ = some (.int .i64 vt) := (hbel.cell (p := ⟨b2, o2 + fk, none⟩) (Nat.lt_of_lt_of_le hb2 hB)).trans hc2
          obtain ⟨tid, tA, tn, tc, txs⟩ := t
          dsimp only at hA2 hn2 hw3
          subst hA2
          have hjy1 : (jy : Int) < (n : Int) := by omega
          have hjy0 : (0 : Int) ≤ (jy : Int) := by omega
          have hi0 : (0 : Int) ≤ (i : Int) := by omega
          have hi1 : (i : Int) < (k : Int) := by omega
          have hwi : IntKind.i64.wrap (((i + 1 : Nat) : Int) - 1) = (i : Int) := by rw [show ((i + 1 : Nat) : Int) - 1 = (i : Int) by omega]; exact IntWalk.i64_in _ ⟨by omega, by omega⟩
          have HLt : Hid (ltZ (keyF its fk) (k : Int) (jy : Int) = decide (vx < vt)) := Lib.hid (by
            unfold ltZ
            rw [Int.toNat_natCast, Int.toNat_natCast, HK.out, HKt.out])
          clear hcell hy hbel hbo hb hat h0 h1 hxt pt hb2 hc2 hvt
          by_cases hxy : vx < vt
          · have hd : decide (vt > vx) = true := by simpa using hxy
            have HXY := Lib.hid hxy
            clear hxy
            go_wp2
            go_quiet (fail)
            go_wp2
            go_roundw
            case rel => exact ⟨i, by omega, rfl, by
              have e : s.drop i = (jy : Int) :: s.drop (i + 1) := by exact List.drop_eq_getElem?_toList_append ▸ (by rw [HY.out]; rfl)
              rw [e]
              intro z hz
              rcases List.mem_cons.1 hz with rfl | hz
              · rw [HLt.out]; exact decide_eq_true HXY.out
              · exact HG.out z hz, ownI_below HO2.out (below_drewN (Below.refl _ _) _), below_drewN HB2.out _⟩
            case measure => simp [intOf] <;> omega
          · have hd : decide (vt > vx) = false := by simpa using hxy
            have HLo : Hid (s.take (i + 1) = [] ∨ ∃ a' y, s.take (i + 1) = a' ++ [y] ∧ ltZ (keyF its fk) (k : Int) y = false) := Lib.hid (.inr ⟨s.take i, (jy : Int), ptake_at HY.out, by rw [HLt.out]; exact decide_eq_false hxy⟩)
            clear hxy
            go_wp2
            go_quiet (fail)
            clear hd hyc hwi hw1 hw2 hw3 hw4
            have HW : Hid (Below wr.heap.size wr (wr.drewN nq)) := Lib.hid (below_drewN (Below.refl _ _) nq)
            have hsz : (wr.drewN nq).heap.size = wr.heap.size := rfl
            obtain ⟨v1, w1, hr1, ho1, hg1, -⟩ := run_spreadI (ty := 22) (c := cap) (OwnI.empty (wr.drewN nq) wr.heap.size (Nat.le_refl _)) (((ownI_at HO2.out).takeI hj).below (HW.out.alloc (Nat.le_refl _) (.cells #[] 3))) (by simp <;> omega) (by simp [hsz])
            have HO1 : Hid (OwnI w1 wr.heap.size v1 (s.take (i + 1))) := Lib.hid (by simpa using ho1)
            have HB1 : Hid (Below wr.heap.size wr w1) := Lib.hid ((HW.out.alloc (Nat.le_refl _) _).grown hg1 (by simp [hsz]) (by intro k hk; simp [Value.ownBlock] at hk; omega))
            have HLn : Hid (((s.take (i + 1)).length + [(k : Int)].length) * 8 ≤ 140737488355328) := Lib.hid (by
              rw [List.length_take, HL.out, List.length_singleton]
              omega)
            clear ho1 hg1
            go_wp2_with (at_builtin; refine Go.Lib.wpList_append_run_sl _ (by rfl) (.tmp 45) (.tmp 48) 22 (by rfl) _ _ (by rfl) (by rfl) hr1 (stop_at ?_))
            intro _
            clear hr1
            go_wp2_with (at_builtin; refine wp_appI w1 (by rfl) (.tmp 50) (.tmp 52) (by rfl) wr.heap.size _ _ (by rfl) HO1.out _ [(k : Int)] (by rfl) 1 1 rfl (by rfl) HLn.out HB1.out.size ?_)
            intro v2 w2 ho2 hb2
            have HO3 := Lib.hid ho2
            have HBw2 := Lib.hid (HB1.out.trans hb2)
            clear ho2 hb2
            have HI2 : Hid (Ints w2 wr.heap.size (some ⟨g, 0, none⟩) k s) := Lib.hid ((ownI_at HO2.out).below HBw2.out)
            have HS2 : Hid (s.take (i + 1) ++ [(k : Int)] ++ s.drop (i + 1) = ordZ (keyF its fk) (k + 1)) := Lib.hid (ord_step HS.out HG.out HLo.out)
            have HLz : Hid ((s.take (i + 1) ++ [(k : Int)] ++ s.drop (i + 1)).length = k + 1) := Lib.hid (by
              have h := HL.out
              simp
              omega)
            by_cases hcj : cap = (i + 1)
            · subst hcj
              obtain rfl : k = (i + 1) := by omega
              obtain ⟨v3, w3, hr3, ho3, hg3, -⟩ := run_spreadI (ty := 22) (c := 0) (A := some ⟨g, 0, none⟩) HO3.out (HI2.out.takeI (Nat.zero_le _)) (by have h := HL.out; simp <;> omega) HBw2.out.size
              have HO4 : Hid (OwnI w3 wr.heap.size v3 (s.take (i + 1) ++ [(((i + 1) : Nat) : Int)] ++ s.drop (i + 1))) := Lib.hid (by have h : s.drop (i + 1) = [] := List.drop_eq_nil_of_le (by rw [HL.out]; exact Nat.le_refl _); rw [h]; simpa using ho3)
              have HB3 := Lib.hid (HBw2.out.grown hg3 HBw2.out.size (fun k hk => ownI_lows HO3.out k hk))
              clear ho3 hg3
              go_wp2_with (at_builtin; refine Go.Lib.wpList_append_run_sl _ (by rfl) (.tmp 54) (.tmp 57) 22 (by rfl) _ _ (by rfl) (by rfl) hr3 ?_)
              clear hr3
              go_wp2
              go_roundw
              case rel =>
                rcases ownI_row HO4.out with ⟨-, e⟩ | ⟨g', cap', f, e, hg', h1, h2, -, -⟩
                · exact absurd e (by simp)
                · exact ⟨(i + 1) + 1, g', cap', _, by omega, by go_num, by rw [e, HLz.out], by rw [← HLz.out]; exact h1, h2, HS2.out, ownI_lower HO4.out HB2.out.size, below_on HB2.out HB3.out⟩
              case measure => simp [intOf] <;> omega
            · have hcj1 : (i + 1) < cap := by omega
              obtain ⟨v3, w3, hr3, ho3, hg3, -⟩ := run_spreadI (ty := 22) (c := cap - (i + 1)) HO3.out (HI2.out.dropI hj) (by have h := HL.out; simp <;> omega) HBw2.out.size
              have HO4 : Hid (OwnI w3 wr.heap.size v3 (s.take (i + 1) ++ [(k : Int)] ++ s.drop (i + 1))) := Lib.hid ho3
              have HB3 := Lib.hid (HBw2.out.grown hg3 HBw2.out.size (fun k hk => ownI_lows HO3.out k hk))
              clear ho3 hg3
              rw [Nat.zero_add] at hr3
              go_wp2_with (at_builtin; refine Go.Lib.wpList_append_run_sl _ (by rfl) (.tmp 54) (.tmp 57) 22 (by rfl) _ _ (by rfl) (by rfl) hr3 ?_)
              clear hr3
              go_wp2
              go_roundw
              case rel =>
                rcases ownI_row HO4.out with ⟨-, e⟩ | ⟨g', cap', f, e, hg', h1, h2, -, -⟩
                · exact absurd e (by simp)
                · exact ⟨k + 1, g', cap', _, by omega, by go_num, by rw [e, HLz.out], by rw [← HLz.out]; exact h1, h2, HS2.out, ownI_lower HO4.out HB2.out.size, below_on HB2.out HB3.out⟩
              case measure => simp [intOf] <;> omega
    · obtain rfl : k = n := by omega
      have HS' : Hid (s = ordZ (keyF its fk) k) := HS
      clear hbel
      go_wp2
      go_ret
      exact ⟨⟨_, rfl, by rw [← HS'.out]; exact HO.out⟩, HB.out⟩
end Go.Proofs.Ytnbgmiiknndleaa.num
namespace Go.Proofs.Ytnbgmiiknndleaa.num
set_option maxRecDepth 20000
open Go.RowKit Go.Maps
set_option linter.unusedVariables false
set_option linter.unusedSimpArgs false

/-- What the function answers. -/
def srtF (fld : Int) (ds : List Dt) : List Dt := sortL (fun x y => decide (x.2.getD fld.toNat 0 < y.2.getD fld.toNat 0)) ds
def SortFP (ds : List Dt) (fld : Int) (L : List Int) : Prop := (InF fld ∧ AreP ds ∧ L = idsD (srtF fld ds)) ∨ (¬ (InF fld ∧ AreP ds) ∧ L = [])
theorem SortFP.some (ds : List Dt) (fld : Int) : ∃ L, SortFP ds fld L := by
  by_cases h : InF fld ∧ AreP ds
  · exact ⟨_, .inl ⟨h.1, h.2, rfl⟩⟩
  · exact ⟨_, .inr ⟨h, rfl⟩⟩
theorem SortFP.yes {ds : List Dt} {fld : Int} {L : List Int} (h : SortFP ds fld L) (h1 : InF fld) (h2 : AreP ds) : L = idsD (srtF fld ds) := by
  rcases h with ⟨_, _, e⟩ | ⟨hn, _⟩
  · exact e
  · exact absurd ⟨h1, h2⟩ hn
theorem SortFP.no {ds : List Dt} {fld : Int} {L : List Int} (h : SortFP ds fld L) (hn : ¬ (InF fld ∧ AreP ds)) : L = [] := by
  rcases h with ⟨h1, h2, _⟩ | ⟨_, e⟩
  · exact absurd ⟨h1, h2⟩ hn
  · exact e
theorem SortFP.small {ds : List Dt} {fld : Int} {L : List Int} (h : SortFP ds fld L) : L.length ≤ 16 := by
  rcases h with ⟨_, h2, rfl⟩ | ⟨_, rfl⟩
  · unfold idsD srtF
    rw [List.length_map, sortL_len]
    exact h2.2.2
  · simp
theorem srt_dat (k : Nat) (its : List It) : (sortL (ltK fun u => fval u k) its).map It.dat = srtF k (its.map It.dat) := by
  unfold srtF
  rw [sortL_map (lt := ltK fun u => fval u k) (lt' := fun x y => decide (x.2.getD (Int.toNat (k : Int)) 0 < y.2.getD (Int.toNat (k : Int)) 0))]
  intro x _ y _
  unfold ltK fval It.dat
  rfl
theorem srt_ids (k : Nat) (its : List It) : idL (sortL (ltK fun u => fval u k) its) = idsD (srtF k (its.map It.dat)) := by
  rw [← srt_dat]
  unfold idL idsD
  rw [List.map_map]
  rfl
theorem inF_nat {fld : Int} (h : InF fld) : ∃ k : Nat, fld = (k : Int) ∧ k < 3 := ⟨fld.toNat, by unfold InF at h; omega, by unfold InF at h; omega⟩
set_option maxRecDepth 20000 in
set_option maxHeartbeats 1600000 in
theorem iSortBF (w : World) (B : Nat) (A : Option Addr) (n c : Nat) (its : List It) (h : ItB w B A n its) (fld : Int) (L : List Int) (hL : SortFP (its.map It.dat) fld L) :
    Calls Try.prog 25 #[.slice A n c, .int .i64 fld] w fun e w' => (∃ v, e = .returned v ∧ OwnI w' w.heap.size v L) ∧ Below w.heap.size w w' := by
  obtain ⟨q, hq⟩ := bool_of (FL [fld])
  have hb0 : Below w.heap.size w (w.alloc (.cells #[.int .i64 fld] 3)) := (Below.refl _ w).alloc (Nat.le_refl _) _
  have hf : Ints (w.alloc (.cells #[.int .i64 fld] 3)) (w.heap.size + 1) (some ⟨w.heap.size, 0, none⟩) 1 [fld] := by
    refine ⟨rfl, fun k hk => ⟨_, _, rfl, by omega, ?_⟩⟩
    obtain rfl : k = 0 := by omega
    rw [World.cell?_alloc_at _ _ _ _ rfl]
    rfl
  have HC := Lib.hid (iLowC _ B A n c its (h.below hb0) (w.heap.size + 1) _ 1 1 [fld] hf (by simp) (by decide) q hq)
  have HB0 := Lib.hid hb0
  have HQ : Hid (q = true ↔ InF fld) := Lib.hid (hq.trans fl_one)
  have HL := Lib.hid hL
  clear h hq hf hL
  go_enter Try.func25, Try.ntmps25
  go_wp2_with fail
  refine HC.out.mono ?_
  rintro e w1 ⟨hout, hb1⟩
  have HB1 := Lib.hid (below_on HB0.out hb1)
  clear hb1 HC hb0
  rcases hout with ⟨p, g, lo, B', hqt, ha, rfl, hct⟩ | ⟨hno, rfl⟩
  · obtain ⟨k, rfl, hk3⟩ := inF_nat (HQ.out.1 hqt)
    have hn16 : n ≤ 16 := by have h1 := ha.2.2; rw [List.length_map, hct.r.len] at h1; exact h1
    have HS := Lib.hid (iSortedBy w1 B' p k hk3 (some ⟨g, 0, none⟩) n n its hn16 hct.r hct.hB hct.x)
    have HLe : Hid (L = idL (sortL (ltK fun u => fval u k) its)) := Lib.hid (by rw [srt_ids]; exact HL.out.yes (HQ.out.1 hqt) ha)
    clear ha hct
    go_wp2_with fail
    refine HS.out.mono ?_
    rintro e w2 ⟨⟨v, rfl, ho⟩, hb2⟩
    obtain ⟨A2, c2, rfl, -, -⟩ := ho.shape
    have hln : (sortL (ltK fun u => fval u k) its).length ≤ 1048576 := by
      have h1 := ho.read (ctCells_len p)
      have h2 := h1.len
      rw [sortL_len]
      have h3 := HL.out.small
      rw [HLe.out, idL_len, sortL_len] at h3
      omega
    have HI := Lib.hid (ctIds w2 p A2 _ c2 _ (ho.read (ctCells_len p)) hln)
    have HB2 := Lib.hid (below_on HB1.out hb2)
    clear ho hb2 HS hln
    go_wp2_with fail
    refine HI.out.mono ?_
    rintro e w3 ⟨⟨v, rfl, ho⟩, hb3⟩
    have HO : Hid (OwnI w3 w.heap.size v L) := Lib.hid (by rw [HLe.out]; exact ownI_lower ho HB2.out.size)
    have HB3 := Lib.hid (below_on HB2.out hb3)
    clear ho hb3 HI
    go_wp2
    go_ret
    exact ⟨⟨_, rfl, HO.out⟩, HB3.out⟩
  · have HS := Lib.hid (iSortedBy0 w1 0 fld none 0)
    have HLe : Hid (L = []) := Lib.hid (HL.out.no fun h => hno ⟨HQ.out.2 h.1, h.2⟩)
    clear hno
    go_wp2_with fail
    refine HS.out.mono ?_
    rintro e w2 ⟨⟨v, rfl, ho⟩, hb2⟩
    obtain ⟨A2, c2, rfl, -, -⟩ := ho.shape
    have HI := Lib.hid (ctIds w2 0 A2 _ c2 [] (ho.read (ctCells_len 0)) (by decide))
    have HB2 := Lib.hid (below_on HB1.out hb2)
    clear ho hb2 HS
    go_wp2_with fail
    refine HI.out.mono ?_
    rintro e w3 ⟨⟨v, rfl, ho⟩, hb3⟩
    have HO : Hid (OwnI w3 w.heap.size v L) := Lib.hid (by rw [HLe.out]; exact ownI_lower ho HB2.out.size)
    have HB3 := Lib.hid (below_on HB2.out hb3)
    clear ho hb3 HI
    go_wp2
    go_ret
    exact ⟨⟨_, rfl, HO.out⟩, HB3.out⟩

theorem ownI_G {w : World} {B : Nat} {v : Value} {l : List Int} : OwnI w B v l ↔ OwnG 3 (fun x : Int => [Value.int .i64 x]) 1 w B v l := by
  have e : l.flatMap (fun x : Int => [Value.int .i64 x]) = l.map (Value.int .i64) := by
    induction l with
    | nil => rfl
    | cons a r ih => rw [List.flatMap_cons, ih]; rfl
  unfold OwnI OwnG
  rw [e]
/-- append of one int: the new slice lies in the old one's row or in a new block. -/
theorem wp_appI1 {ops : Array Oper} {rest : List Oper} {o : Oper} {a : Act} {Q : Exit → Act → World → Prop} (w : World) (hgd : o.guard = none) (sl x : Operand)
    (ho : o.op = .call { callee := .builtin .append, args := #[sl, x], argTypes := #[22, 22] })
    (B : Nat) (v : Value) (l : List Int) (hs : a.eval sl = v) (hown : OwnI w B v l) (cs : Array Value) (y : Int) (hcs : cs = #[Value.int .i64 y]) (c : Nat)
    (hx : a.eval x = .slice (some ⟨w.heap.size, 0, none⟩) 1 c) (hlen : (l.length + 1) * 8 ≤ 140737488355328) (hB : B ≤ w.heap.size)
    (h : ∀ v' w', OwnI w' B v' (l ++ [y]) → w.grownBy w' v.ownBlock → (v'.ownBlock = v.ownBlock ∨ v'.ownBlock = some (w.heap.size + 1)) → wpList Try.prog ops Q rest (a.put o.dst v') w') :
    wpList Try.prog ops Q (o :: rest) a (w.alloc (.cells cs 3)) :=
  wp_appG (f := fun x : Int => [Value.int .i64 x]) (fun _ => rfl) (fun x u hu => by rw [List.mem_singleton.1 hu]; rfl) (T := 3) (tS := 22) Try.underlying22 info_int rfl (by decide) w hgd sl x ho B v l hs (ownI_G.1 hown) cs y (by rw [hcs]) c _ rfl hx hlen (by decide) hB
    fun v' w' ho hg hat => h v' w' (ownI_G.2 ho) hg hat
/-- The ids of the places. -/
def idZ (its : List It) (z : Int) : Int := (its.getD z.toNat itZ).id
theorem idZ_at {its : List It} {j : Nat} {u : It} (h : its[j]? = some u) : idZ its (j : Int) = u.id := by
  unfold idZ
  rw [Int.toNat_natCast, List.getD_eq_getElem?_getD, h]
  rfl
theorem ordZ_ids (its : List It) (k : Nat) : (ordZ (keyF its k) its.length).map (idZ its) = idL (sortL (ltK fun u => fval u k) its) := by
  unfold ordZ
  rw [List.map_map]
  have h := ordL_map itZ its (fun u => fval u k)
  have e : (ordL (keyF its k) its.length).map (fun i => its.getD i itZ) = sortL (ltK fun u => fval u k) its := h
  rw [← e]
  unfold idL
  rw [List.map_map]
  apply List.map_congr_left
  intro i _
  rfl
set_option maxRecDepth 20000 in
set_option maxHeartbeats 1600000 in
theorem sSortBF (w : World) (B : Nat) (A : Option Addr) (n c : Nat) (its : List It) (h : ItB w B A n its) (fld : Int) (L : List Int) (hL : SortFP (its.map It.dat) fld L) :
    Calls Try.prog 24 #[.slice A n c, .int .i64 fld] w fun e w' => (∃ v, e = .returned v ∧ OwnI w' w.heap.size v L) ∧ Below w.heap.size w w' := by
  obtain ⟨qa, hqa⟩ := bool_of (AreP (its.map It.dat))
  obtain ⟨qf, hqf⟩ := bool_of (0 ≤ fld ∧ fld ≤ 2)
  have hb0 : Below w.heap.size w (w.alloc (.cells #[] 3)) := (Below.refl _ w).alloc (Nat.le_refl _) _
  have HA := Lib.hid (sAre (w.alloc (.cells #[] 3)) B A n c its (h.below hb0).i (h.below hb0).hB h.hn h.si qa hqa)
  have HF := Lib.hid (in_same fld 0 2 qf hqf)
  have HX := Lib.hid h
  have HB0 := Lib.hid hb0
  have HE0 := Lib.hid (OwnI.empty w w.heap.size (Nat.le_refl _))
  have HQa := Lib.hid hqa
  have HQf := Lib.hid hqf
  have HL := Lib.hid hL
  clear h hqa hqf hL hb0
  go_enter Try.func24, Try.ntmps24
  go_wp2_with fail
  refine HA.out.mono ?_
  rintro e w1 ⟨rfl, hb1⟩
  have HX0 := Lib.hid hb1.size
  have HB1 := Lib.hid (below_on HB0.out hb1)
  have HE1 := Lib.hid (ownI_below HE0.out hb1)
  clear hb1 HA
  cases qa
  · obtain rfl : L = [] := HL.out.no fun h => by have := HQa.out.2 h.2; cases this
    go_wp2
    go_ret
    exact ⟨⟨_, rfl, HE1.out⟩, HB1.out⟩
  · go_wp2_with fail
    refine (HF.out _).mono ?_
    rintro e w2 ⟨rfl, rfl⟩
    cases qf
    · obtain rfl : L = [] := HL.out.no fun h => by have := HQf.out.2 h.1; cases this
      go_wp2
      go_ret
      exact ⟨⟨_, rfl, HE1.out⟩, HB1.out⟩
    · have ha : AreP (its.map It.dat) := by first | exact HQa.out.1 rfl | exact HQa.out.1 trivial
      have hf : 0 ≤ fld ∧ fld ≤ 2 := by first | exact HQf.out.1 rfl | exact HQf.out.1 trivial
      obtain ⟨k, rfl, hk3⟩ := inF_nat hf
      have hn16 : n ≤ 16 := by have h1 := ha.2.2; rw [List.length_map, HX.out.i.1] at h1; exact h1
      have hxl : its.length = n := HX.out.i.1
      have HO := Lib.hid (sOrder w2 B A n c its (HX.out.i.below (HB1.out.mono HX.out.hB)) (fun u hu => ha.1 _ (List.mem_map_of_mem hu)) (Nat.le_trans HX.out.hB HB1.out.size) (by omega) k hk3)
      have HLe : Hid (L = (ordZ (keyF its k) n).map (idZ its)) := Lib.hid (by
        rw [← hxl, ordZ_ids, srt_ids]
        exact HL.out.yes hf ha)
      clear ha hf hxl
      go_wp2_with fail
      refine HO.out.mono ?_
      rintro e w3 ⟨⟨v, rfl, ho⟩, hb3⟩
      obtain ⟨A3, n3, c3, rfl, hi3⟩ := ho.ints
      have hn3 : n3 = n := by have h1 := hi3.1; rw [ordZ_len] at h1; exact h1.symm
      subst hn3
      have hsz2 : w.heap.size + 1 ≤ w2.heap.size := by have h1 := HX0.out; simpa using h1
      have HOP := Lib.hid (ownI_lower ho hsz2)
      have HB3 := Lib.hid (below_on HB1.out hb3)
      have HE3 := Lib.hid (ownI_below HE1.out hb3)
      have hsz3 : w.heap.size + 1 ≤ w3.heap.size := Nat.le_trans hsz2 hb3.size
      clear ho hb3 hi3 HO
      go_wp2
      go_loopw [5, 7] (fun v i wr => ∃ j : Nat, j ≤ n3 ∧ i = .int .i64 j ∧ OwnI wr w.heap.size v (((ordZ (keyF its k) n3).take j).map (idZ its)) ∧ Below w.heap.size w wr ∧ (∀ b, w.heap.size < b → b < w3.heap.size → wr.heap[b]? = w3.heap[b]?) ∧ w3.heap.size ≤ wr.heap.size ∧ (∀ b, v.ownBlock = some b → b = w.heap.size ∨ w3.heap.size ≤ b)) (fun _ i _ => n3 - (intOf i).toNat)
      case atStart => exact ⟨0, Nat.zero_le _, rfl, by simpa using HE3.out, HB3.out, fun _ _ _ => rfl, Nat.le_refl _, fun b hb => .inl (by have h := Option.some.inj hb; exact h.symm)⟩
      case round =>
        obtain ⟨j, hj, rfl, hown, hbel, hkp, hsz, hob⟩ := hrel
        have HO := Lib.hid hown
        have HB := Lib.hid hbel
        have HK := Lib.hid hkp
        have HOb := Lib.hid hob
        have hp := ownI_at (ownI_blocks HOP.out fun b hb => hkp b (by have h1 := ownI_lows HOP.out b hb; omega) (ownI_tops HOP.out b hb))
        clear hown hkp hob
        by_cases hlt : j < n3
        · obtain ⟨b3, o3, z, rfl, hb3, hat3, hc3⟩ := hp.at j hlt
          obtain ⟨jy, rfl, hjy⟩ := ordZ_at hat3
          obtain ⟨b, off, u, rfl, hb, hat, h0, h1, hxu⟩ := HX.out.i.at jy hjy
          have hw0 : wr.cell? ⟨b, off + jy * 2, none⟩ = some (.int .i64 u.id) := (hbel.cell (p := ⟨b, off + jy * 2, none⟩) (Nat.lt_of_lt_of_le hb HX.out.hB)).trans h0
          have HAt := Lib.hid hat3
          have HId := Lib.hid (idZ_at hat)
          have hjy1 : (jy : Int) < (n3 : Int) := by omega
          have hjy0 : (0 : Int) ≤ (jy : Int) := by omega
          have hlt' : (j : Int) < (n3 : Int) := by omega
          have HLn : Hid (((((ordZ (keyF its k) n3).take j).map (idZ its)).length + 1) * 8 ≤ 140737488355328) := Lib.hid (by
            rw [List.length_map, List.length_take, ordZ_len]
            omega)
          clear hat3 hb3 hat h0 h1 hxu hb hbel hp
          go_wp2_with (at_builtin; refine wp_appI1 wr (by rfl) (.tmp 27) (.tmp 36) (by rfl) w.heap.size _ _ (by rfl) HO.out _ u.id (by rfl) 1 (by rfl) HLn.out HB.out.size ?_)
          intro v2 w4 ho2 hg2 hat2
          have HO3 := Lib.hid ho2
          have HB4 := Lib.hid (HB.out.grown hg2 HB.out.size (fun k hk => ownI_lows HO.out k hk))
          have HK4 : Hid (∀ b, w.heap.size < b → b < w3.heap.size → w4.heap[b]? = w3.heap[b]?) := Lib.hid fun b h1 h2 => (hg2.block b (by omega) (fun e => by rcases HOb.out b e.symm with q | q <;> omega)).trans (HK.out b h1 h2)
          have hsz4 : w3.heap.size ≤ w4.heap.size := Nat.le_trans hsz hg2.size
          have HOb4 : Hid (∀ b, v2.ownBlock = some b → b = w.heap.size ∨ w3.heap.size ≤ b) := Lib.hid fun b hb => by
            rcases hat2 with q | q
            · exact HOb.out b (q ▸ hb)
            · rw [q] at hb
              have := Option.some.inj hb
              omega
          clear ho2 hg2 hat2
          go_wp2
          go_roundw
          case rel => exact ⟨j + 1, by omega, by go_num, by rw [ptake_at HAt.out, List.map_append, List.map_singleton, HId.out]; first | exact HO3.out | (rw [List.map_take]; exact HO3.out), HB4.out, HK4.out, hsz4, HOb4.out⟩
          case measure => simp [intOf] <;> omega
        · obtain rfl : j = n3 := by omega
          have HO1 : Hid (OwnI wr w.heap.size u5 L) := Lib.hid (by have h := HO.out; rw [ptake_all (ordZ_len _ _)] at h; rw [HLe.out]; exact h)
          clear hbel hp
          go_wp2
          go_ret
          exact ⟨⟨_, rfl, HO1.out⟩, HB.out⟩
end Go.Proofs.Ytnbgmiiknndleaa.num
