/-
  The program's sets of the values above each value: closesCircle, addPair.
-/
import Derived.Test.YtceiocdemhkcdaaGreatPairMaps
import Derived.Test.YtceiocdemhkcdaaGreatPairSpecC
import Derived.Deep.Cut
namespace Go.Proofs.YtceiocdemhkcdaaGreat.num
set_option maxRecDepth 20000
open Go.RowKit Go.Maps
set_option linter.unusedVariables false

/-- Block b of w is the map whose element at v (block M v) is the set of those a with R a v; all of it from block B on. -/
structure SetsR (w : World) (B b n : Nat) (M : Int → Option Nat) (R : Int → Int → Bool) : Prop where
  out : OutAt w b n (fun v => (M v).map some)
  low : B ≤ b
  has : ∀ v a, R a v = true → ∃ x, M v = some x
  rng : ∀ v x, M v = some x → InR v
  sets : ∀ v x, M v = some x → B ≤ x ∧ x ≠ b ∧ SetAt w x n (fun a => R a v)
  inj : ∀ v v' x, M v = some x → M v' = some x → v = v'
theorem SetsR.below {w w' : World} {B b n : Nat} {M : Int → Option Nat} {R : Int → Int → Bool} (h : SetsR w B b n M R) (hb : Below w.heap.size w w') : SetsR w' B b n M R :=
  ⟨MapAt.block h.out (hb.block _ (MapAt.lt h.out)), h.low, h.has, h.rng, fun v x hx => by
    obtain ⟨h1, h2, h3⟩ := h.sets v x hx
    exact ⟨h1, h2, MapAt.block h3 (hb.block _ (MapAt.lt h3))⟩, h.inj⟩
theorem SetsR.none {w : World} {B b n : Nat} {M : Int → Option Nat} {R : Int → Int → Bool} (h : SetsR w B b n M R) {v : Int} (hv : M v = none) (a : Int) : R a v = false := by
  cases e : R a v
  · rfl
  · obtain ⟨x, hx⟩ := h.has v a e
    rw [hv] at hx; cases hx
theorem elt_some (M : Int → Option Nat) (v : Int) : elt (fun v => (M v).map some) v = M v := by
  unfold elt
  cases e : M v <;> simp [e]
theorem SetsR.opt {w : World} {B b n : Nat} {M : Int → Option Nat} {R : Int → Int → Bool} (h : SetsR w B b n M R) (v : Int) : OptSet w (M v) n (fun a => R a v) := by
  cases e : M v with
  | none => exact fun a => h.none e a
  | some x => exact (h.sets v x e).2.2
theorem inR_wf {v : Int} (h : InR v) : (Lit.int .i64 v).wf = true := WalkArith.wf_i64 (by unfold InR at h; omega)

theorem eq_nil_yes (w : World) : (binOp BinOp.eql 241 (.map none) (.map none)).run Tryz.prog w = .ok (.bool true) w := by kernel_rfl
theorem eq_nil_no (w : World) (z : Nat) : (binOp BinOp.eql 241 (.map (some z)) (.map none)).run Tryz.prog w = .ok (.bool false) w := by kernel_rfl

theorem closes_of (w : World) (B b n : Nat) (M : Int → Option Nat) (R : Int → Int → Bool) (h : SetsR w B b n M R) (x y : Int) (hx : InR x) (hy : InR y) (q : Bool) (hq : q = true ↔ x = y ∨ R y x = true) :
    Calls Tryz.prog 202 #[.map (some b), .agg #[.int .i64 x, .int .i64 y]] w fun e w' => e = .returned (.bool q) ∧ Below w.heap.size w w' := by
  have HQ := Lib.hid hq
  have HS := Lib.hid h
  have HX := Lib.hid hx
  have HY := Lib.hid hy
  clear hq h hx hy
  by_cases he : x = y
  · subst he
    obtain rfl : q = true := HQ.out.2 (.inl rfl)
    go_enter Tryz.func202, Tryz.ntmps202
    go_wp2
    go_ret
    exact ⟨rfl, (Below.refl _ w).alloc (Nat.le_refl _) _⟩
  · have hne : (x == y) = false := by simpa using he
    obtain rfl : q = R y x := by
      rw [Bool.eq_iff_iff, HQ.out]
      exact ⟨fun h => h.resolve_left he, fun h => .inr h⟩
    have HE := Lib.hid he
    clear he HQ
    have hS1 := HS.out.below ((Below.refl w.heap.size w).alloc (Nat.le_refl _) (.cells #[.int .i64 x, .int .i64 y] 181))
    have e1 := hS1.out.look x (inR_wf HX.out)
    rw [elt_some] at e1
    have e2 := (hS1.opt x).look y (inR_wf HY.out)
    clear hS1
    go_enter Tryz.func202, Tryz.ntmps202
    go_wp2
    go_ret
    exact ⟨rfl, (Below.refl _ w).alloc (Nat.le_refl _) _⟩

/-- addPair's loop under way: the sets of those values that have come are the new ones. -/
structure AddInv (wr w : World) (B b pb r n : Nat) (x y : Int) (M : Int → Option Nat) (R : Int → Int → Bool) (L : Int → Bool) : Prop where
  low : Below B w wr
  box : wr.heap[pb]? = some (.cells #[.int .i64 x, .int .i64 y] 181)
  sets : ∀ v z, M v = some z → SetAt wr z (if L v then n else 2 * n + 1) (fun a => if L v then R a v else stepR R (x, y) a v)
  src : ∀ z, M x = some z → SetAt wr z n (fun a => R a x)
  ends : ∀ v z, M v = some z → B ≤ z ∧ z ≠ b ∧ z ≠ pb ∧ z < r
  pbr : pb < r ∧ B ≤ r ∧ B ≤ pb ∧ b < r ∧ B ≤ b ∧ b ≠ pb
/-- Blocks that are none of the sets, nor the pair's own, may turn. -/
theorem AddInv.kept {wr w1 w : World} {B b pb r n : Nat} {x y : Int} {M : Int → Option Nat} {R : Int → Int → Bool} {L : Int → Bool} (h : AddInv wr w B b pb r n x y M R L) (hg : wr.grownBy w1 (some r)) (hr : r < wr.heap.size) : AddInv w1 w B b pb r n x y M R L :=
  ⟨h.low.grown hg (by have := h.pbr; omega) (fun k hk => by cases hk; exact h.pbr.2.1), (hg.block pb (by have := h.pbr; omega) (fun e => by have := Option.some.inj e; have := h.pbr; omega)).trans h.box,
    fun v z hz => MapAt.kept (h.sets v z hz) hg (fun e => by have := Option.some.inj e; have := h.ends v z hz; omega),
    fun z hz => MapAt.kept (h.src z hz) hg (fun e => by have := Option.some.inj e; have := h.ends x z hz; omega), h.ends, h.pbr⟩
theorem AddInv.cells {wr w : World} {B b pb r n : Nat} {x y : Int} {M : Int → Option Nat} {R : Int → Int → Bool} {L : Int → Bool} (h : AddInv wr w B b pb r n x y M R L) : wr.cell? ⟨pb, 0, none⟩ = some (.int .i64 x) ∧ wr.cell? ⟨pb, 1, none⟩ = some (.int .i64 y) := by
  have := h.box
  constructor <;> simp [World.cell?, this]
/-- The value u has come, and nothing is to be done. -/
theorem AddInv.skip {wr w : World} {B b pb r n : Nat} {x y u : Int} {M : Int → Option Nat} {R : Int → Int → Bool} {L : Int → Bool} (h : AddInv wr w B b pb r n x y M R L) (hu : L u = true) (h1 : u ≠ y) (h2 : R y u = false) : AddInv wr w B b pb r n x y M R (fun v => L v && !(v == u)) :=
  ⟨h.low, h.box, fun v z hz => by
    have hs := h.sets v z hz
    by_cases e : v = u
    · subst e
      rw [hu] at hs
      refine (MapAt.mono hs (by simp; omega)).congr fun a _ => bit_congr ?_
      have h1' : (v == y) = false := by simpa using h1
      simp [stepR, h1', h2]
    · have e' : (v == u) = false := by simpa using e
      refine MapAt.congr (MapAt.mono hs (by simp [e'])) fun a _ => bit_congr (by simp [e']), h.src, h.ends, h.pbr⟩
/-- The value u has come, and its set has been written. -/
theorem AddInv.done {wr w' w : World} {B b pb r n z : Nat} {x y u : Int} {M : Int → Option Nat} {R : Int → Int → Bool} {L : Int → Bool} (h : AddInv wr w B b pb r n x y M R L) (hM : ∀ v v' x, M v = some x → M v' = some x → v = v') (hz : M u = some z) (hux : u ≠ x) (hc : u = y ∨ R y u = true)
    (hg : wr.grownBy w' (some z)) (hr : r < wr.heap.size) (hnew : SetAt w' z (2 * n + 1) (fun a => (if a = x then true else R a u) || R a x)) : AddInv w' w B b pb r n x y M R (fun v => L v && !(v == u)) := by
  have hze := h.ends u z hz
  refine ⟨h.low.grown hg (by have := h.pbr; omega) (fun k hk => by cases hk; exact hze.1), (hg.block pb (by have := h.pbr; omega) (fun e => by have := Option.some.inj e; omega)).trans h.box, fun v z' hz' => ?_, fun z' hz' => ?_, h.ends, h.pbr⟩
  · by_cases e : v = u
    · subst e
      obtain rfl : z = z' := Option.some.inj (hz.symm.trans hz')
      refine (MapAt.mono hnew (by simp)).congr fun a _ => bit_congr ?_
      have hcc : (v == y || R y v) = true := by
        rcases hc with rfl | hc
        · simp
        · simp [hc]
      simp only [BEq.rfl, Bool.not_true, Bool.and_false, Bool.false_eq_true, if_false, stepR, hcc, Bool.and_true]
      by_cases ea : a = x
      · subst ea; simp
      · have ea' : (a == x) = false := by simpa using ea
        simp [ea, ea']
    · have hzz : z' ≠ z := fun e' => e (hM _ _ z' hz' (e' ▸ hz))
      have e' : (v == u) = false := by simpa using e
      refine MapAt.congr (MapAt.mono (MapAt.kept (h.sets v z' hz') hg (fun e => hzz (Option.some.inj e))) (by simp [e'])) fun a _ => bit_congr (by simp [e'])
  · have hzz : z' ≠ z := fun e' => hux (hM _ _ z (hz) (e' ▸ hz'))
    exact MapAt.kept (h.src z' hz') hg (fun e => hzz (Option.some.inj e))
/-- All have come. -/
theorem AddInv.fin {wr w : World} {B b pb r n : Nat} {x y : Int} {M : Int → Option Nat} {R : Int → Int → Bool} {L : Int → Bool} (h : AddInv wr w B b pb r n x y M R L) (hl : ∀ v, L v = false) (hout : OutAt wr b n (fun v => (M v).map some))
    (hhas : ∀ v a, R a v = true → ∃ x, M v = some x) (hy : ∃ z, M y = some z) (hrng : ∀ v x, M v = some x → InR v) (hM : ∀ v v' x, M v = some x → M v' = some x → v = v') (m : Nat) (hm : 2 * n + 1 ≤ m) : SetsR wr B b m M (stepR R (x, y)) :=
  ⟨MapAt.mono hout (by omega), h.pbr.2.2.2.2.1, fun v a ha => by
    unfold stepR at ha
    simp only [Bool.or_eq_true, Bool.and_eq_true, beq_iff_eq] at ha
    rcases ha with ha | ⟨_, ha⟩
    · exact hhas v a ha
    · rcases ha with rfl | ha
      · exact hy
      · exact hhas v y ha, hrng, fun v z hz => by
    obtain ⟨h1, h2, _⟩ := h.ends v z hz
    refine ⟨h1, h2, (MapAt.mono (h.sets v z hz) (by simp [hl]; omega)).congr fun a _ => bit_congr (by simp [hl])⟩, hM⟩

set_option maxHeartbeats 2000000 in
theorem add_of (w : World) (B b n : Nat) (M : Int → Option Nat) (R : Int → Int → Bool) (h : SetsR w B b n M R) (hB : B ≤ w.heap.size) (hn : n ≤ 100000) (x y : Int) (hx : InR x) (hy : InR y) (hne : x ≠ y) (hR : R y x = false) :
    Calls Tryz.prog 203 #[.map (some b), .agg #[.int .i64 x, .int .i64 y]] w fun e w' => e = .returned (.tuple #[]) ∧ (∃ M', SetsR w' B b (2 * n + 3) M' (stepR R (x, y))) ∧ Below B w w' := by
  have HS := Lib.hid h
  have HX := Lib.hid hx
  have HY := Lib.hid hy
  have HNe := Lib.hid hne
  have HRf := Lib.hid hR
  have hb := MapAt.lt h.out
  have HB1 := Lib.hid ((Below.refl w.heap.size w).alloc (Nat.le_refl _) (.cells #[.int .i64 x, .int .i64 y] 181))
  have hS1 := h.below HB1.out
  have HS1 := Lib.hid hS1
  have e1 := hS1.out.look y (inR_wf hy)
  rw [elt_some] at e1
  clear h hx hy hne hR hS1
  rcases hMy : M y with _ | zy
  · rw [hMy] at e1
    have HMy0 := Lib.hid hMy
    clear hMy
    have eN := eq_nil_yes
    have hmm := @run_makeMap Tryz.prog
    go_enter Tryz.func203, Tryz.ntmps203
    go_upto_region 3 with (first
      | (at_mapUpdate; refine wp_put _ rfl _ _ _ 218 rfl keyInt Tryz.underlying3 Tryz.underlying218 rfl (MapAt.alloc HS1.out.out (.map #[] 0)) (by unfold maxLen; omega) y rfl (inR_wf HY.out) _ rfl (refLit (some (w.heap.size + 1))) [] rfl ?_; intro w2 hout2 hg2 hs2)
      | go_in)
    clear hmm eN
    obtain ⟨M1, hM1⟩ : ∃ M1 : Int → Option Nat, M1 = fun v => if v = y then some (w.heap.size + 1) else M v := ⟨_, rfl⟩
    obtain ⟨n1, hn1⟩ : ∃ n1, n1 = n + 1 := ⟨_, rfl⟩
    have hM1y : M1 y = some (w.heap.size + 1) := by rw [hM1]; simp
    have hM1o : ∀ v, v ≠ y → M1 v = M v := fun v hv => by rw [hM1]; simp [hv]
    clear hM1
    have Hout2 : Hid (OutAt w2 b n1 (fun v => (M1 v).map some)) := Lib.hid (by
      rw [hn1]
      refine MapAt.congr hout2 fun v _ => ?_
      by_cases e : v = y
      · subst e; simp [hM1y]
      · simp [e, hM1o v e])
    have hold : ∀ v z, M v = some z → z < w.heap.size := fun v z hz => MapAt.lt (HS.out.sets v z hz).2.2
    have hset : ∀ v z, M1 v = some z → B ≤ z ∧ z ≠ b ∧ z ≠ w.heap.size ∧ z < w2.heap.size ∧ SetAt w2 z n (fun a => R a v) := fun v z hz => by
      simp at hs2
      by_cases e : v = y
      · subst e
        rw [hM1y] at hz
        cases hz
        refine ⟨by omega, by omega, by omega, by omega, ?_⟩
        have h0 : SetAt ((w.alloc (.cells #[.int .i64 x, .int .i64 v] 181)).alloc (.map #[] 0)) (w.heap.size + 1) 0 (fun _ => false) := by
          have := SetAt.made (w.alloc (.cells #[.int .i64 x, .int .i64 v] 181))
          simpa using this
        refine (MapAt.mono (MapAt.kept h0 hg2 (fun e => by have := Option.some.inj e; omega)) (Nat.zero_le _)).congr fun a _ => bit_congr ?_
        exact (HS.out.none HMy0.out a).symm
      · rw [hM1o v e] at hz
        obtain ⟨h1, h2, h3⟩ := HS1.out.sets v z hz
        have h4 := hold v z hz
        exact ⟨h1, h2, by omega, by omega, MapAt.kept (MapAt.alloc h3 _) hg2 (fun e => h2 (Option.some.inj e))⟩
    have HInj : Hid (∀ v v' z, M1 v = some z → M1 v' = some z → v = v') := Lib.hid fun v v' z h1 h2 => by
      by_cases e : v = y
      · by_cases e' : v' = y
        · rw [e, e']
        · subst e
          rw [hM1y] at h1
          rw [hM1o v' e'] at h2
          have := hold v' z h2
          cases h1
          omega
      · rw [hM1o v e] at h1
        by_cases e' : v' = y
        · subst e'
          rw [hM1y] at h2
          have := hold v z h1
          cases h2
          omega
        · rw [hM1o v' e'] at h2
          exact HS.out.inj v v' z h1 h2
    have HHas : Hid (∀ v a, R a v = true → ∃ z, M1 v = some z) := Lib.hid fun v a ha => by
      by_cases e : v = y
      · subst e; exact ⟨_, hM1y⟩
      · rw [hM1o v e]; exact HS.out.has v a ha
    have HRng : Hid (∀ v z, M1 v = some z → InR v) := Lib.hid fun v z hz => by
      by_cases e : v = y
      · subst e; exact HY.out
      · rw [hM1o v e] at hz; exact HS.out.rng v z hz
    have HMy : Hid (∃ z, M1 y = some z) := Lib.hid ⟨_, hM1y⟩
    have hbox2 : w2.heap[w.heap.size]? = some (.cells #[.int .i64 x, .int .i64 y] 181) := by
      refine (hg2.block w.heap.size (by simp; omega) (fun e => by have := Option.some.inj e; omega)).trans ?_
      rw [Below.heap_alloc _ _ _ (by simp)]
      exact heap_alloc_new w _
    have hb2 : Below B w w2 := (((Below.refl B w).alloc hB _).alloc (by simp; omega) _).grown hg2 (by simp; omega) (fun k hk => by cases hk; exact HS.out.low)
    have hn1' : n1 ≤ 100001 := by omega
    have hn2 : 2 * n1 + 1 ≤ 2 * n + 3 := by omega
    have HInv : Hid (∀ w3 L0, w2.grownBy w3 none → w3.heap.size = w2.heap.size + 1 → (∀ v, (Lit.int .i64 v).wf = true → L0 v = ((M1 v).map some |>.map refLit).isSome) → AddInv w3 w B b w.heap.size w2.heap.size n1 x y M1 R L0) := Lib.hid fun w3 L0 hg0 hs0 hL0 => by
      have hsl := hb2.size
      have hbl := MapAt.lt Hout2.out
      refine ⟨hb2.grown hg0 (by omega) (fun k hk => by cases hk), (hg0.block w.heap.size (Array.getElem?_eq_some_iff.1 hbox2).1 (by simp)).trans hbox2, fun v z hz => ?_, fun z hz => ?_, fun v z hz => ?_, (Array.getElem?_eq_some_iff.1 hbox2).1, by omega, hB, hbl, HS.out.low, by omega⟩
      · have hLv : L0 v = true := by
          rw [hL0 v (inR_wf (HRng.out v z hz)), hz]; rfl
        rw [hLv]
        exact MapAt.mono (MapAt.kept (hset v z hz).2.2.2.2 hg0 (by simp)) (by simp; omega)
      · exact MapAt.mono (MapAt.kept (hset x z hz).2.2.2.2 hg0 (by simp)) (by omega)
      · obtain ⟨h1, h2, h3, h4, _⟩ := hset v z hz
        exact ⟨h1, h2, h3, h4⟩
    have HOut := Hout2
    clear hout2 hg2 hs2 hset hold hM1y hM1o hbox2 hb2 e1 HS1 HB1 hn1
    go_wp2_with (first
      | (at_range; refine wp_range _ rfl _ 218 rfl keyInt Tryz.underlying218 rfl HOut.out ?_; intro w3 L0 cnt0 hrg0 hL0 hc0 hg0 hs0)
      | go_in)
    try go_frame
    have HI0 := Lib.hid (HInv.out w3 L0 hg0 hs0 hL0)
    have HR0 := Lib.hid hrg0
    clear hrg0 hL0 hg0 hs0 HOut HInv
    go_loopw [17] (fun _ wr => ∃ (L : Int → Bool) (cnt : Nat), RangeAt Tryz.prog 3 refElem wr b w2.heap.size n1 (fun v => (M1 v).map some |>.map refLit) L cnt ∧ AddInv wr w B b w.heap.size w2.heap.size n1 x y M1 R L)
      (fun _ wr => wr.rangeLeft b w2.heap.size)
    case atStart => exact ⟨_, _, HR0.out, HI0.out⟩
    case round =>
      clear HR0 HI0
      obtain ⟨L, cnt, hrg, hinv⟩ := hrel
      have HV := Lib.hid hinv
      clear hinv
      go_wp2_with (first
        | (at_next; refine wp_next_ref _ rfl _ rfl rfl hrg ?_ ?_)
        | go_in)
      · intro hl0
        have HL := Lib.hid hl0
        clear hl0
        go_wp2
        go_end0
        exact ⟨rfl, ⟨M1, HV.out.fin HL.out hrg.owns HHas.out HMy.out HRng.out HInj.out _ (by omega)⟩, HV.out.low⟩
      · intro u z w4 cnt4 hcame
        have hr4 := hrg.lt
        have hz : M1 u = some z := by
          have := hcame.elem
          cases e : M1 u <;> simp [e] at this
          rw [this]
        have hlu := hcame.left
        have hrg4 := hcame.range
        have hlt4 := hcame.lt
        have hg4 := hcame.grown
        have hs4 := hcame.size
        have hen := hcame.entry
        clear hcame
        have HZ := Lib.hid hz
        have HLu := Lib.hid hlu
        have HV4 := Lib.hid (HV.out.kept hg4 hr4)
        obtain ⟨f0, f1⟩ := HV4.out.cells
        have hsz : SetAt w4 z n1 (fun a => R a u) := by
          have := HV4.out.sets u z hz
          rw [hlu] at this
          simpa using this
        have e1 := hsz.look y (inR_wf HY.out)
        have HSz := Lib.hid hsz
        have HR4 := Lib.hid hrg4
        have Hlt4 := Lib.hid hlt4
        have HR := Lib.hid hrg
        have hr5 : Hid (w2.heap.size < w4.heap.size) := Lib.hid (by rw [hs4]; exact hr4)
        clear hz hlu hrg hlt4 hg4 hs4 hr4 hrg4 hsz HV
        by_cases huy : u = y
        · obtain ⟨cc, hcc⟩ : ∃ cc : Bool, cc = R y u := ⟨_, rfl⟩
          rw [← hcc] at e1
          have HUY := Lib.hid (show u = y ∨ R y u = true from .inl huy)
          have hbe : (u == y) = true := by simpa using huy
          have HHuy := Lib.hid huy
          clear huy hcc
          go_upto_region 8 with (first
            | (at_mapUpdate; refine wp_put _ rfl _ _ _ 241 rfl keyInt Tryz.underlying3 Tryz.underlying241 rfl HSz.out (by unfold maxLen; omega) x rfl (inR_wf HX.out) _ rfl (.lit (.bool true)) [] rfl ?_; intro w5 hset5 hg5 hs5)
            | go_in)
          have hux : u ≠ x := fun e => by
            subst e
            rcases HUY.out with h | h
            · exact HNe.out h
            · rw [HRf.out] at h; cases h
          have HUX := Lib.hid hux
          have hzr := HV4.out.ends u z HZ.out
          have hbr := HV4.out.pbr
          have HR5 := Lib.hid (HR4.out.kept hg5 (fun e => by have := Option.some.inj e; omega) (fun e => by have := Option.some.inj e; omega))
          have e3 := OutAt.look (M := fun v => (M1 v).map some) HR5.out.owns x (inR_wf HX.out)
          rw [elt_some] at e3
          have f2 : w5.cell? ⟨w.heap.size, 0, none⟩ = some (.int .i64 x) := (World.cell?_of_block (hg5.block w.heap.size (by have := hr5.out; omega) (fun e => by have := Option.some.inj e; omega))).trans f0
          have hsrc : OptSet w5 (M1 x) n1 (fun a => R a x) := by
            cases e : M1 x with
            | none =>
              intro a
              cases e' : R a x
              · exact e'
              · obtain ⟨z', hz'⟩ := HHas.out x a e'
                rw [e] at hz'; cases hz'
            | some z' =>
              have hzz : z' ≠ z := fun e' => hux (HInj.out _ _ z HZ.out (e' ▸ e))
              exact MapAt.kept (HV4.out.src z' e) hg5 (fun e => hzz (Option.some.inj e))
          have HSrc := Lib.hid hsrc
          have Hg5 := Lib.hid hg5
          have Hset5 : Hid (SetAt w5 z (n1 + 1) (fun a => if a = x then true else R a u)) := Lib.hid (MapAt.congr hset5 fun a _ => by
            show (if a = x then some (DataW.lit (Lit.bool true)) else bit (fun a => R a u) a) = bit (fun a => if a = x then true else R a u) a
            by_cases e : a = x <;> simp [bit, e])
          have Hs5 := Lib.hid hs5
          clear hset5 hg5 hs5 hsrc hux hzr hbr f0 f1 e1 hen
          go_wp2_with fail
          refine (copy_of_set w5 z (n1 + 1) n1 (M1 x) _ _ Hset5.out HSrc.out (fun e => HUX.out (HInj.out _ _ z HZ.out e)) (by omega)).mono ?_
          rintro e w6 ⟨rfl, hset6, hg6⟩
          have HG6 := Lib.hid (Hg5.out.trans hg6)
          have HR6 := Lib.hid (HR5.out.kept hg6 (fun e => by have := Option.some.inj e; have := (HV4.out.ends u z HZ.out).2.1; omega) (fun e => by have := Option.some.inj e; have := (HV4.out.ends u z HZ.out).2.2.2; omega))
          have HSet6 := Lib.hid hset6
          clear hset6 hg6 e3 f2
          go_wp2
          go_roundw
          case rel => exact ⟨_, cnt4, HR6.out, HV4.out.done HInj.out HZ.out HUX.out HUY.out HG6.out hr5.out (MapAt.mono HSet6.out (by omega))⟩
          case measure => rw [HR6.out.left_eq, HR.out.left_eq]; exact Hlt4.out
        · have hbe : (u == y) = false := by simpa using huy
          have HHuy := Lib.hid huy
          clear huy
          cases hcc : R y u
          · rw [hcc] at e1
            have HCC := Lib.hid hcc
            clear hcc
            go_wp2
            go_roundw
            case rel => exact ⟨_, cnt4, HR4.out, HV4.out.skip HLu.out HHuy.out HCC.out⟩
            case measure => rw [HR4.out.left_eq, HR.out.left_eq]; exact Hlt4.out
          · rw [hcc] at e1
            have HUY := Lib.hid (show u = y ∨ R y u = true from .inr hcc)
            clear hcc
            go_upto_region 8 with (first
              | (at_mapUpdate; refine wp_put _ rfl _ _ _ 241 rfl keyInt Tryz.underlying3 Tryz.underlying241 rfl HSz.out (by unfold maxLen; omega) x rfl (inR_wf HX.out) _ rfl (.lit (.bool true)) [] rfl ?_; intro w5 hset5 hg5 hs5)
              | go_in)
            have hux : u ≠ x := fun e => by
              subst e
              rcases HUY.out with h | h
              · exact HNe.out h
              · rw [HRf.out] at h; cases h
            have HUX := Lib.hid hux
            have hzr := HV4.out.ends u z HZ.out
            have hbr := HV4.out.pbr
            have HR5 := Lib.hid (HR4.out.kept hg5 (fun e => by have := Option.some.inj e; omega) (fun e => by have := Option.some.inj e; omega))
            have e3 := OutAt.look (M := fun v => (M1 v).map some) HR5.out.owns x (inR_wf HX.out)
            rw [elt_some] at e3
            have f2 : w5.cell? ⟨w.heap.size, 0, none⟩ = some (.int .i64 x) := (World.cell?_of_block (hg5.block w.heap.size (by have := hr5.out; omega) (fun e => by have := Option.some.inj e; omega))).trans f0
            have hsrc : OptSet w5 (M1 x) n1 (fun a => R a x) := by
              cases e : M1 x with
              | none =>
                intro a
                cases e' : R a x
                · exact e'
                · obtain ⟨z', hz'⟩ := HHas.out x a e'
                  rw [e] at hz'; cases hz'
              | some z' =>
                have hzz : z' ≠ z := fun e' => hux (HInj.out _ _ z HZ.out (e' ▸ e))
                exact MapAt.kept (HV4.out.src z' e) hg5 (fun e => hzz (Option.some.inj e))
            have HSrc := Lib.hid hsrc
            have Hg5 := Lib.hid hg5
            have Hset5 : Hid (SetAt w5 z (n1 + 1) (fun a => if a = x then true else R a u)) := Lib.hid (MapAt.congr hset5 fun a _ => by
              show (if a = x then some (DataW.lit (Lit.bool true)) else bit (fun a => R a u) a) = bit (fun a => if a = x then true else R a u) a
              by_cases e : a = x <;> simp [bit, e])
            have Hs5 := Lib.hid hs5
            clear hset5 hg5 hs5 hsrc hux hzr hbr f0 f1 e1 hen
            go_wp2_with fail
            refine (copy_of_set w5 z (n1 + 1) n1 (M1 x) _ _ Hset5.out HSrc.out (fun e => HUX.out (HInj.out _ _ z HZ.out e)) (by omega)).mono ?_
            rintro e w6 ⟨rfl, hset6, hg6⟩
            have HG6 := Lib.hid (Hg5.out.trans hg6)
            have HR6 := Lib.hid (HR5.out.kept hg6 (fun e => by have := Option.some.inj e; have := (HV4.out.ends u z HZ.out).2.1; omega) (fun e => by have := Option.some.inj e; have := (HV4.out.ends u z HZ.out).2.2.2; omega))
            have HSet6 := Lib.hid hset6
            clear hset6 hg6 e3 f2
            go_wp2
            go_roundw
            case rel => exact ⟨_, cnt4, HR6.out, HV4.out.done HInj.out HZ.out HUX.out HUY.out HG6.out hr5.out (MapAt.mono HSet6.out (by omega))⟩
            case measure => rw [HR6.out.left_eq, HR.out.left_eq]; exact Hlt4.out
  · rw [hMy] at e1
    have HMy0 := Lib.hid hMy
    clear hMy
    obtain ⟨w2, hw2⟩ : ∃ w2, w2 = w.alloc (.cells #[.int .i64 x, .int .i64 y] 181) := ⟨_, rfl⟩
    have HW2 := Lib.hid hw2
    obtain ⟨M1, hM1⟩ : ∃ M1 : Int → Option Nat, M1 = M := ⟨_, rfl⟩
    obtain ⟨n1, hn1⟩ : ∃ n1, n1 = n := ⟨_, rfl⟩
    have Hout2 : Hid (OutAt w2 b n1 (fun v => (M1 v).map some)) := Lib.hid (by rw [hn1, hM1, hw2]; exact HS1.out.out)
    have hold : ∀ v z, M v = some z → z < w.heap.size := fun v z hz => MapAt.lt (HS.out.sets v z hz).2.2
    have hs2 : w2.heap.size = w.heap.size + 1 := by rw [hw2]; simp
    have hset : ∀ v z, M1 v = some z → B ≤ z ∧ z ≠ b ∧ z ≠ w.heap.size ∧ z < w2.heap.size ∧ SetAt w2 z n (fun a => R a v) := fun v z hz => by
      rw [hM1] at hz
      have h4 := hold v z hz
      obtain ⟨h1, h2, h3⟩ := HS1.out.sets v z hz
      exact ⟨h1, h2, by omega, by omega, by rw [hw2]; exact h3⟩
    have HInj : Hid (∀ v v' z, M1 v = some z → M1 v' = some z → v = v') := Lib.hid (by rw [hM1]; exact HS.out.inj)
    have HHas : Hid (∀ v a, R a v = true → ∃ z, M1 v = some z) := Lib.hid (by rw [hM1]; exact HS.out.has)
    have HRng : Hid (∀ v z, M1 v = some z → InR v) := Lib.hid (by rw [hM1]; exact HS.out.rng)
    have HMy : Hid (∃ z, M1 y = some z) := Lib.hid (by rw [hM1]; exact ⟨_, HMy0.out⟩)
    have hbox2 : w2.heap[w.heap.size]? = some (.cells #[.int .i64 x, .int .i64 y] 181) := by rw [hw2]; exact heap_alloc_new w _
    have hb2 : Below B w w2 := by rw [hw2]; exact (Below.refl B w).alloc hB _
    have hn1' : n1 ≤ 100001 := by omega
    have hn2 : 2 * n1 + 1 ≤ 2 * n + 3 := by omega
    have HInv : Hid (∀ w3 L0, w2.grownBy w3 none → w3.heap.size = w2.heap.size + 1 → (∀ v, (Lit.int .i64 v).wf = true → L0 v = ((M1 v).map some |>.map refLit).isSome) → AddInv w3 w B b w.heap.size w2.heap.size n1 x y M1 R L0) := Lib.hid fun w3 L0 hg0 hs0 hL0 => by
      have hsl := hb2.size
      have hbl := MapAt.lt Hout2.out
      refine ⟨hb2.grown hg0 (by omega) (fun k hk => by cases hk), (hg0.block w.heap.size (Array.getElem?_eq_some_iff.1 hbox2).1 (by simp)).trans hbox2, fun v z hz => ?_, fun z hz => ?_, fun v z hz => ?_, (Array.getElem?_eq_some_iff.1 hbox2).1, by omega, hB, hbl, HS.out.low, by omega⟩
      · have hLv : L0 v = true := by
          rw [hL0 v (inR_wf (HRng.out v z hz)), hz]; rfl
        rw [hLv]
        exact MapAt.mono (MapAt.kept (hset v z hz).2.2.2.2 hg0 (by simp)) (by simp; omega)
      · exact MapAt.mono (MapAt.kept (hset x z hz).2.2.2.2 hg0 (by simp)) (by omega)
      · obtain ⟨h1, h2, h3, h4, _⟩ := hset v z hz
        exact ⟨h1, h2, h3, h4⟩
    have HOut := Hout2
    clear hw2 hold hs2 hset hbox2 hb2 HS1 HB1 hn1 hM1
    have eN := eq_nil_no
    go_enter Tryz.func203, Tryz.ntmps203
    go_upto_region 3 with (fail)
    clear eN e1
    rw [← HW2.out]
    clear HW2
    go_wp2_with (first
      | (at_range; refine wp_range _ rfl _ 218 rfl keyInt Tryz.underlying218 rfl HOut.out ?_; intro w3 L0 cnt0 hrg0 hL0 hc0 hg0 hs0)
      | go_in)
    try go_frame
    have HI0 := Lib.hid (HInv.out w3 L0 hg0 hs0 hL0)
    have HR0 := Lib.hid hrg0
    clear hrg0 hL0 hg0 hs0 HOut HInv
    go_loopw [17] (fun _ wr => ∃ (L : Int → Bool) (cnt : Nat), RangeAt Tryz.prog 3 refElem wr b w2.heap.size n1 (fun v => (M1 v).map some |>.map refLit) L cnt ∧ AddInv wr w B b w.heap.size w2.heap.size n1 x y M1 R L)
      (fun _ wr => wr.rangeLeft b w2.heap.size)
    case atStart => exact ⟨_, _, HR0.out, HI0.out⟩
    case round =>
      clear HR0 HI0
      obtain ⟨L, cnt, hrg, hinv⟩ := hrel
      have HV := Lib.hid hinv
      clear hinv
      go_wp2_with (first
        | (at_next; refine wp_next_ref _ rfl _ rfl rfl hrg ?_ ?_)
        | go_in)
      · intro hl0
        have HL := Lib.hid hl0
        clear hl0
        go_wp2
        go_end0
        exact ⟨rfl, ⟨M1, HV.out.fin HL.out hrg.owns HHas.out HMy.out HRng.out HInj.out _ (by omega)⟩, HV.out.low⟩
      · intro u z w4 cnt4 hcame
        have hr4 := hrg.lt
        have hz : M1 u = some z := by
          have := hcame.elem
          cases e : M1 u <;> simp [e] at this
          rw [this]
        have hlu := hcame.left
        have hrg4 := hcame.range
        have hlt4 := hcame.lt
        have hg4 := hcame.grown
        have hs4 := hcame.size
        have hen := hcame.entry
        clear hcame
        have HZ := Lib.hid hz
        have HLu := Lib.hid hlu
        have HV4 := Lib.hid (HV.out.kept hg4 hr4)
        obtain ⟨f0, f1⟩ := HV4.out.cells
        have hsz : SetAt w4 z n1 (fun a => R a u) := by
          have := HV4.out.sets u z hz
          rw [hlu] at this
          simpa using this
        have e1 := hsz.look y (inR_wf HY.out)
        have HSz := Lib.hid hsz
        have HR4 := Lib.hid hrg4
        have Hlt4 := Lib.hid hlt4
        have HR := Lib.hid hrg
        have hr5 : Hid (w2.heap.size < w4.heap.size) := Lib.hid (by rw [hs4]; exact hr4)
        clear hz hlu hrg hlt4 hg4 hs4 hr4 hrg4 hsz HV
        by_cases huy : u = y
        · obtain ⟨cc, hcc⟩ : ∃ cc : Bool, cc = R y u := ⟨_, rfl⟩
          rw [← hcc] at e1
          have HUY := Lib.hid (show u = y ∨ R y u = true from .inl huy)
          have hbe : (u == y) = true := by simpa using huy
          have HHuy := Lib.hid huy
          clear huy hcc
          go_upto_region 8 with (first
            | (at_mapUpdate; refine wp_put _ rfl _ _ _ 241 rfl keyInt Tryz.underlying3 Tryz.underlying241 rfl HSz.out (by unfold maxLen; omega) x rfl (inR_wf HX.out) _ rfl (.lit (.bool true)) [] rfl ?_; intro w5 hset5 hg5 hs5)
            | go_in)
          have hux : u ≠ x := fun e => by
            subst e
            rcases HUY.out with h | h
            · exact HNe.out h
            · rw [HRf.out] at h; cases h
          have HUX := Lib.hid hux
          have hzr := HV4.out.ends u z HZ.out
          have hbr := HV4.out.pbr
          have HR5 := Lib.hid (HR4.out.kept hg5 (fun e => by have := Option.some.inj e; omega) (fun e => by have := Option.some.inj e; omega))
          have e3 := OutAt.look (M := fun v => (M1 v).map some) HR5.out.owns x (inR_wf HX.out)
          rw [elt_some] at e3
          have f2 : w5.cell? ⟨w.heap.size, 0, none⟩ = some (.int .i64 x) := (World.cell?_of_block (hg5.block w.heap.size (by have := hr5.out; omega) (fun e => by have := Option.some.inj e; omega))).trans f0
          have hsrc : OptSet w5 (M1 x) n1 (fun a => R a x) := by
            cases e : M1 x with
            | none =>
              intro a
              cases e' : R a x
              · exact e'
              · obtain ⟨z', hz'⟩ := HHas.out x a e'
                rw [e] at hz'; cases hz'
            | some z' =>
              have hzz : z' ≠ z := fun e' => hux (HInj.out _ _ z HZ.out (e' ▸ e))
              exact MapAt.kept (HV4.out.src z' e) hg5 (fun e => hzz (Option.some.inj e))
          have HSrc := Lib.hid hsrc
          have Hg5 := Lib.hid hg5
          have Hset5 : Hid (SetAt w5 z (n1 + 1) (fun a => if a = x then true else R a u)) := Lib.hid (MapAt.congr hset5 fun a _ => by
            show (if a = x then some (DataW.lit (Lit.bool true)) else bit (fun a => R a u) a) = bit (fun a => if a = x then true else R a u) a
            by_cases e : a = x <;> simp [bit, e])
          have Hs5 := Lib.hid hs5
          clear hset5 hg5 hs5 hsrc hux hzr hbr f0 f1 e1 hen
          go_wp2_with fail
          refine (copy_of_set w5 z (n1 + 1) n1 (M1 x) _ _ Hset5.out HSrc.out (fun e => HUX.out (HInj.out _ _ z HZ.out e)) (by omega)).mono ?_
          rintro e w6 ⟨rfl, hset6, hg6⟩
          have HG6 := Lib.hid (Hg5.out.trans hg6)
          have HR6 := Lib.hid (HR5.out.kept hg6 (fun e => by have := Option.some.inj e; have := (HV4.out.ends u z HZ.out).2.1; omega) (fun e => by have := Option.some.inj e; have := (HV4.out.ends u z HZ.out).2.2.2; omega))
          have HSet6 := Lib.hid hset6
          clear hset6 hg6 e3 f2
          go_wp2
          go_roundw
          case rel => exact ⟨_, cnt4, HR6.out, HV4.out.done HInj.out HZ.out HUX.out HUY.out HG6.out hr5.out (MapAt.mono HSet6.out (by omega))⟩
          case measure => rw [HR6.out.left_eq, HR.out.left_eq]; exact Hlt4.out
        · have hbe : (u == y) = false := by simpa using huy
          have HHuy := Lib.hid huy
          clear huy
          cases hcc : R y u
          · rw [hcc] at e1
            have HCC := Lib.hid hcc
            clear hcc
            go_wp2
            go_roundw
            case rel => exact ⟨_, cnt4, HR4.out, HV4.out.skip HLu.out HHuy.out HCC.out⟩
            case measure => rw [HR4.out.left_eq, HR.out.left_eq]; exact Hlt4.out
          · rw [hcc] at e1
            have HUY := Lib.hid (show u = y ∨ R y u = true from .inr hcc)
            clear hcc
            go_upto_region 8 with (first
              | (at_mapUpdate; refine wp_put _ rfl _ _ _ 241 rfl keyInt Tryz.underlying3 Tryz.underlying241 rfl HSz.out (by unfold maxLen; omega) x rfl (inR_wf HX.out) _ rfl (.lit (.bool true)) [] rfl ?_; intro w5 hset5 hg5 hs5)
              | go_in)
            have hux : u ≠ x := fun e => by
              subst e
              rcases HUY.out with h | h
              · exact HNe.out h
              · rw [HRf.out] at h; cases h
            have HUX := Lib.hid hux
            have hzr := HV4.out.ends u z HZ.out
            have hbr := HV4.out.pbr
            have HR5 := Lib.hid (HR4.out.kept hg5 (fun e => by have := Option.some.inj e; omega) (fun e => by have := Option.some.inj e; omega))
            have e3 := OutAt.look (M := fun v => (M1 v).map some) HR5.out.owns x (inR_wf HX.out)
            rw [elt_some] at e3
            have f2 : w5.cell? ⟨w.heap.size, 0, none⟩ = some (.int .i64 x) := (World.cell?_of_block (hg5.block w.heap.size (by have := hr5.out; omega) (fun e => by have := Option.some.inj e; omega))).trans f0
            have hsrc : OptSet w5 (M1 x) n1 (fun a => R a x) := by
              cases e : M1 x with
              | none =>
                intro a
                cases e' : R a x
                · exact e'
                · obtain ⟨z', hz'⟩ := HHas.out x a e'
                  rw [e] at hz'; cases hz'
              | some z' =>
                have hzz : z' ≠ z := fun e' => hux (HInj.out _ _ z HZ.out (e' ▸ e))
                exact MapAt.kept (HV4.out.src z' e) hg5 (fun e => hzz (Option.some.inj e))
            have HSrc := Lib.hid hsrc
            have Hg5 := Lib.hid hg5
            have Hset5 : Hid (SetAt w5 z (n1 + 1) (fun a => if a = x then true else R a u)) := Lib.hid (MapAt.congr hset5 fun a _ => by
              show (if a = x then some (DataW.lit (Lit.bool true)) else bit (fun a => R a u) a) = bit (fun a => if a = x then true else R a u) a
              by_cases e : a = x <;> simp [bit, e])
            have Hs5 := Lib.hid hs5
            clear hset5 hg5 hs5 hsrc hux hzr hbr f0 f1 e1 hen
            go_wp2_with fail
            refine (copy_of_set w5 z (n1 + 1) n1 (M1 x) _ _ Hset5.out HSrc.out (fun e => HUX.out (HInj.out _ _ z HZ.out e)) (by omega)).mono ?_
            rintro e w6 ⟨rfl, hset6, hg6⟩
            have HG6 := Lib.hid (Hg5.out.trans hg6)
            have HR6 := Lib.hid (HR5.out.kept hg6 (fun e => by have := Option.some.inj e; have := (HV4.out.ends u z HZ.out).2.1; omega) (fun e => by have := Option.some.inj e; have := (HV4.out.ends u z HZ.out).2.2.2; omega))
            have HSet6 := Lib.hid hset6
            clear hset6 hg6 e3 f2
            go_wp2
            go_roundw
            case rel => exact ⟨_, cnt4, HR6.out, HV4.out.done HInj.out HZ.out HUX.out HUY.out HG6.out hr5.out (MapAt.mono HSet6.out (by omega))⟩
            case measure => rw [HR6.out.left_eq, HR.out.left_eq]; exact Hlt4.out
end Go.Proofs.YtceiocdemhkcdaaGreat.num
