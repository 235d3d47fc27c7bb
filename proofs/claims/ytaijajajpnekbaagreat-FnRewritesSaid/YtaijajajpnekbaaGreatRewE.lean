/- Contracts of functions that the laws of this chapter call, packed. -/
import Derived.Test.YtaijajajpnekbaaGreatExpA
import Derived.Test.YtaijajajpnekbaaGreatRewA
import Derived.Test.YtaijajajpnekbaaGreatItemSpec
import Derived.Test.YtaijajajpnekbaaGreatRegion
import Derived.Test.YtaijajajpnekbaaGreatRewC
import Derived.Test.YtaijajajpnekbaaGreatCmpA
import Derived.Test.YtaijajajpnekbaaGreatExpEq
namespace Go.Proofs.YtaijajajpnekbaaGreat.num
set_option maxRecDepth 20000
open Go.RowKit
set_option linter.unusedVariables false
set_option linter.unusedSimpArgs false

theorem WiOwn.keep {w w' : World} {B : Nat} {t : Wi} (h : WiOwn w B t) (hb : ∀ b, t.has b → w'.heap[b]? = w.heap[b]?) : WiOwn w' B t :=
  ⟨ownI_blocks h.l fun k hk => hb k (.inl hk), h.p.blocks fun k hk => hb k (.inr hk), h.k, h.f, h.v, h.nl, h.np⟩
theorem WiOwn.has_in {w : World} {B : Nat} {t : Wi} (h : WiOwn w B t) {b : Nat} (hb : t.has b) : B ≤ b ∧ b < w.heap.size := by
  rcases hb with hb | hb
  · exact ⟨ownI_lows h.l b hb, ownI_tops h.l b hb⟩
  · exact ⟨h.p.lows b hb, h.p.tops b hb⟩
/-- A slice of nodes that a draw filled: a row of its own, the nodes' lists in other blocks. -/
structure DrN (w : World) (B : Nat) (v : Value) (ns : List Nd) : Prop where
  r : OwnG 57 nodeCells 6 w B v ns
  x : ∀ x ∈ ns, (Lit.int .i64 x.op).wf = true ∧ WiOwn w B x.t
  a : ∀ x ∈ ns, ∀ b, x.t.has b → v.ownBlock ≠ some b
theorem DrN.blocks {w w' : World} {B : Nat} {v : Value} {ns : List Nd} (h : DrN w B v ns) (hb : ∀ b, B ≤ b → b < w.heap.size → w'.heap[b]? = w.heap[b]?) : DrN w' B v ns :=
  ⟨h.r.blocks fun k hk => hb k (h.r.lows k hk) (h.r.tops k hk), fun x hx => ⟨(h.x x hx).1, (h.x x hx).2.blocks hb⟩, h.a⟩
theorem DrN.low {w : World} {B B' : Nat} {v : Value} {ns : List Nd} (h : DrN w B v ns) (hB : B' ≤ B) : DrN w B' v ns := ⟨h.r.low hB, fun x hx => ⟨(h.x x hx).1, (h.x x hx).2.low hB⟩, h.a⟩
theorem DrN.nodes {w : World} {B : Nat} {A : Option Addr} {n c : Nat} {ns : List Nd} (h : DrN w B (.slice A n c) ns) : Nodes w w.heap.size A n ns := ⟨h.r.read nodeCells_len, fun x hx => ⟨(h.x x hx).1, (h.x x hx).2.wi⟩⟩
theorem DrN.short {w : World} {B : Nat} {v : Value} {ns : List Nd} (h : DrN w B v ns) : ShortN ns := fun x hx => (h.x x hx).2.short
/-- More nodes behind those of v, in its own row or in a new one. -/
theorem DrN.more {w w' : World} {B N : Nat} {v v' : Value} {ns m : List Nd} (h : DrN w B v ns) (hg : w.grownBy w' v.ownBlock) (hat : v'.ownBlock = v.ownBlock ∨ v'.ownBlock = some N) (hN : w.heap.size ≤ N) (hr : OwnG 57 nodeCells 6 w' B v' (ns ++ m)) (hx : ∀ x ∈ m, (Lit.int .i64 x.op).wf = true ∧ WiOwn w B x.t) (ha : ∀ x ∈ m, ∀ b, x.t.has b → v.ownBlock ≠ some b) : DrN w' B v' (ns ++ m) := by
  have hall : ∀ x ∈ ns ++ m, ((Lit.int .i64 x.op).wf = true ∧ WiOwn w B x.t) ∧ ∀ b, x.t.has b → v.ownBlock ≠ some b := fun x hx' => by
    rcases List.mem_append.1 hx' with h1 | h1
    · exact ⟨h.x x h1, h.a x h1⟩
    · exact ⟨hx x h1, ha x h1⟩
  refine ⟨hr, fun x hx' => ⟨(hall x hx').1.1, (hall x hx').1.2.keep fun b hb => hg.block b ((hall x hx').1.2.has_in hb).2 fun e => (hall x hx').2 b hb e.symm⟩, fun x hx' b hb e => ?_⟩
  rcases hat with q | q
  · exact (hall x hx').2 b hb (q ▸ e)
  · rw [q] at e
    have h1 := Option.some.inj e
    have h2 := ((hall x hx').1.2.has_in hb).2
    omega
theorem bare_own (w : World) (B : Nat) {op : Int} (ho : (Lit.int .i64 op).wf = true) : ∀ x ∈ [bareN op], (Lit.int .i64 x.op).wf = true ∧ WiOwn w B x.t := fun x hx => by
  rw [List.mem_singleton.1 hx]
  exact ⟨ho, ⟨ownI_nil _ _, OwnP.nil _ _, by show I64 0; unfold I64; omega, by show I64 0; unfold I64; omega, by show I64 0; unfold I64; omega, Nat.zero_le _, Nat.zero_le _⟩⟩
def OutD (N : Nat) (w : World) (g : Nat) (a : Option Addr) (len cap : Nat) (e : Ending) (w' : World) : Prop :=
  ∃ v ns, e = .returned v ∧ DrN w' w.heap.size v ns ∧ 1 ≤ ns.length ∧ ns.length ≤ N ∧ Cur w' g a len cap ∧ w.grownBy w' (some g)
/-- One node with a wish just drawn. -/
theorem one_node {w w1 : World} {g : Nat} {a : Option Addr} {len cap : Nat} {t : Wi} {op : Int} (hop : (Lit.int .i64 op).wf = true) (ho : WiOwn w1 w.heap.size t) (hc : Cur w1 g a len cap) (hg : w.grownBy w1 (some g)) (hw : w.heap.size ≤ w1.heap.size) (N : Nat) (hN : 1 ≤ N) :
    OutD N w g a len cap (.returned (.slice (some ⟨w1.heap.size, 0, none⟩) 1 1)) (w1.alloc (.cells #[.int .i64 op, .int .i64 t.kind, .int .i64 t.field, .int .i64 t.value, .slice t.LA t.Ln t.Lc, .slice t.PA t.Pn t.Pc] 57)) := by
  refine ⟨_, [⟨op, t⟩], rfl, ⟨?_, fun x hx => ?_, fun x hx b hb e => ?_⟩, by simp, hN, hc.kept (Below.heap_alloc _ _ _ hc.lt), grown_alloc hg _⟩
  · exact ⟨rfl, .inr ⟨w1.heap.size, 1, _, rfl, hw, heap_alloc_new w1 _, Nat.le_refl _, by unfold maxLen; omega, rfl, rfl⟩⟩
  · rw [List.mem_singleton.1 hx]
    exact ⟨hop, ho.blocks fun b _ hb => Below.heap_alloc _ _ _ hb⟩
  · rw [List.mem_singleton.1 hx] at hb
    have h1 := (ho.has_in hb).2
    have h2 := Option.some.inj e
    simp at h2
    omega

/-- An operator behind what was drawn. -/
theorem drn_app {w w0 w1 w2 : World} {g : Nat} {a : Option Addr} {len cap N : Nat} {v v' : Value} {ns : List Nd} {op : Int} (h : DrN w1 w0.heap.size v ns) (hop : (Lit.int .i64 op).wf = true) (hga : w1.grownBy w2 v.ownBlock) (hat : v'.ownBlock = v.ownBlock ∨ v'.ownBlock = some (w1.heap.size + 1)) (hr : OwnG 57 nodeCells 6 w2 w0.heap.size v' (ns ++ [bareN op]))
    (h1 : 1 ≤ ns.length) (hc : Cur w1 g a len cap) (hg : w.grownBy w1 (some g)) (h0 : w.heap.size ≤ w0.heap.size) (hN : ns.length + 1 ≤ N) (hgl : g < w0.heap.size := by omega) (hw0 : w0.heap.size ≤ w1.heap.size := by omega) : OutD N w g a len cap (.returned v') w2 := by
  have hb : Below w0.heap.size w1 w2 := (Below.refl _ w1).grown hga hw0 (fun k hk => h.r.lows k hk)
  refine ⟨v', ns ++ [bareN op], rfl, (h.more hga hat (by omega) hr (bare_own w1 _ hop) (fun x hx b hb' => by rw [List.mem_singleton.1 hx] at hb'; exact absurd hb' (bare_has op b))).low h0, by rw [List.length_append]; omega, by rw [List.length_append]; exact hN, hc.kept (hb.block g hgl), grown_tail hg (hb.mono h0)⟩
set_option maxRecDepth 20000 in
set_option maxHeartbeats 3200000 in
theorem draw_exp (g : Nat) (a : Option Addr) (len cap : Nat) (hlen : len ≤ 1048576) (B : Nat) (hB : B ≤ g) : ∀ (d N : Nat), N + 1 = 2 ^ (d + 1) → d ≤ 10 → ∀ (w : World), Cur w g a len cap → Row w B a len →
    Calls Tryz.prog 80 #[.pointer (some ⟨g, 0, none⟩), .int .i64 (d : Int)] w (OutD N w g a len cap) := by
  intro d
  induction d with
  | zero =>
    intro N hN hd w hc hrow
    obtain rfl : N = 1 := by omega
    have HR := Lib.hid hrow
    have HC := Lib.hid hc
    clear hc hrow
    go_enter Tryz.func80, Tryz.ntmps80
    go_wp2_with fail
    refine (wish_any _ g a len cap hlen HC.out B hB HR.out).mono ?_
    rintro e w1 ⟨t, rfl, ho, -, hc, hg⟩
    have HF := Lib.hid (one_node (op := 0) (by decide) ho hc hg hg.size 1 (Nat.le_refl _))
    clear ho hc hg
    unfold Wi.val
    go_wp2
    go_ret
    exact HF.out
  | succ d ih =>
    intro N hN hd w hc hrow
    obtain ⟨M, hM⟩ : ∃ M, M + 1 = 2 ^ (d + 1) := ⟨2 ^ (d + 1) - 1, by have := Nat.one_le_two_pow (n := d + 1); omega⟩
    have hNM : N = 2 * M + 1 := by rw [Nat.pow_succ] at hN; omega
    have hM1 : M + 1 ≤ 2048 := by rw [hM]; exact Nat.le_trans (Nat.pow_le_pow_right (by decide) (show d + 1 ≤ 11 by omega)) (by decide)
    have HI := Lib.hid (ih M hM (by omega))
    have hgl := hc.lt
    have HR := Lib.hid hrow
    have HC := Lib.hid hc
    clear hc hrow ih hN hM
    have hd0 : ((d : Int) + 1 == 0) = false := by simp; omega
    have hd1 : ((d : Int) + 1) - 1 = (d : Int) := by omega
    have hdw : IntKind.i64.wrap (d : Int) = (d : Int) := IntWalk.i64_in _ ⟨by omega, by omega⟩
    have hcast : ((d + 1 : Nat) : Int) = (d : Int) + 1 := by omega
    rw [hcast]
    go_enter Tryz.func80, Tryz.ntmps80
    go_wp2_with fail
    refine (once_any 3 (by omega) _ g a len cap hlen HC.out B hB HR.out).mono ?_
    rintro e w1 ⟨q, rfl, hc1, hg1⟩
    have HC1 := Lib.hid hc1
    have HG1 := Lib.hid hg1
    have HB1 := Lib.hid (grown_below hg1 hB (by omega))
    clear hc1 hg1
    cases q
    · go_wp2_with fail
      refine (below_any 4 (by omega) _ g a len cap hlen HC1.out B hB (HR.out.below HB1.out)).mono ?_
      rintro e w2 ⟨u, rfl, hu, hc2, hg2⟩
      obtain ⟨hu0, hu1⟩ := hu.2 (by omega)
      have HC2 := Lib.hid hc2
      have HG2 := Lib.hid (grown_trans HG1.out hg2)
      have HB2 := Lib.hid (grown_below HG2.out hB (by omega))
      have hgl2 : g < w2.heap.size := hc2.lt
      have hw1 : IntKind.i64.wrap (1 + u) = 1 + u := IntWalk.i64_in _ ⟨by omega, by omega⟩
      obtain ⟨op, hop⟩ : ∃ op, 1 + u = op := ⟨_, rfl⟩
      have hwf : (Lit.int .i64 op).wf = true := by
        obtain ⟨k, hk⟩ : ∃ k : Nat, op = (k : Int) := ⟨op.toNat, by omega⟩
        rw [hk]; exact wf_small (by omega)
      have HWf := Lib.hid hwf
      clear hu hc2 hg2 hwf
      rw [hop] at hw1
      by_cases h3 : op = 3
      · subst h3
        go_wp2_with fail
        refine (HI.out _ HC2.out (HR.out.below HB2.out)).mono ?_
        rintro e w3 ⟨v, ns, rfl, ho, l1, l2, hc3, hg3⟩
        have HO := Lib.hid ho
        have HC3 := Lib.hid hc3
        have HG3 := Lib.hid (grown_trans HG2.out hg3)
        have hsz : w2.heap.size ≤ w3.heap.size := hg3.size
        obtain ⟨v', w4, hr, hown, hga, hat⟩ := run_oneG nodeCells_len nodeCells_one (ty := 24) (c := 1) Tryz.underlying24 info_node rfl (by decide) (by decide) (bareN 3) (cs := #[.int .i64 3, .int .i64 0, .int .i64 0, .int .i64 0, .slice none 0 0, .slice none 0 0]) rfl HO.out.r rfl (by omega) hg3.size
        have HF := Lib.hid (drn_app HO.out HWf.out hga hat hown l1 HC3.out HG3.out HG2.out.size (N := N) (by omega))
        clear ho hc3 hg3 hown hga hat
        go_wp2_with (at_builtin; refine Go.Lib.wpList_append_run_sl _ (by rfl) (.tmp 27) (.tmp 30) 24 (by rfl) _ _ (by rfl) (by rfl) hr ?_)
        clear hr
        go_wp2
        go_ret
        exact HF.out
      · have f3 : (op == 3) = false := by simpa using h3
        clear h3
        go_wp2_with fail
        refine (HI.out _ HC2.out (HR.out.below HB2.out)).mono ?_
        rintro e w3 ⟨v, ns, rfl, ho, l1, l2, hc3, hg3⟩
        have HO := Lib.hid ho
        have HC3 := Lib.hid hc3
        have HG3 := Lib.hid (grown_trans HG2.out hg3)
        have HB3 := Lib.hid (grown_below HG3.out hB (by omega))
        have hgl3 : g < w3.heap.size := hc3.lt
        have hsz3 : w2.heap.size ≤ w3.heap.size := hg3.size
        clear ho hc3 hg3
        go_wp2_with fail
        refine (HI.out _ HC3.out (HR.out.below HB3.out)).mono ?_
        rintro e w4 ⟨v2, ns2, rfl, ho2, k1, k2, hc4, hg4⟩
        obtain ⟨A2, c2, rfl, -, -⟩ := ho2.r.shape
        have HO2 := Lib.hid ho2
        have HO1 : Hid (DrN w4 w2.heap.size v ns) := Lib.hid (HO.out.blocks fun b h1 h2 => hg4.block b h2 (fun e => by have := Option.some.inj e; omega))
        have HC4 := Lib.hid hc4
        have HG4 := Lib.hid (grown_trans HG3.out hg4)
        have hsz4 : w3.heap.size ≤ w4.heap.size := hg4.size
        have HV : Hid (∀ b, v.ownBlock = some b → b < w3.heap.size) := Lib.hid fun b hb => HO.out.r.tops b hb
        clear ho2 hc4 hg4
        obtain ⟨v3, w5, hr, hown, hga, hat⟩ := run_spreadG nodeCells_len nodeCells_one (ty := 24) (c := c2) Tryz.underlying24 info_node rfl (by decide) (by decide) HO1.out.r HO2.out.nodes.r (by omega) (by omega)
        have HO5 : Hid (DrN w5 w2.heap.size v3 (ns ++ ns2)) := Lib.hid (HO1.out.more hga hat (Nat.le_refl _) hown (fun x hx => ⟨(HO2.out.x x hx).1, (HO2.out.x x hx).2.low hsz3⟩) (fun x hx b hb e => by
          have q1 := ((HO2.out.x x hx).2.has_in hb).1
          have q2 := HV.out b e
          omega))
        have hb5 : Below w2.heap.size w4 w5 := (Below.refl _ w4).grown hga (by omega) (fun k hk => HO1.out.r.lows k hk)
        have HC5 : Hid (Cur w5 g a len cap) := Lib.hid (HC4.out.kept (hb5.block g hgl2))
        have HG5 : Hid (w.grownBy w5 (some g)) := Lib.hid (grown_tail HG4.out (hb5.mono HG2.out.size))
        have hsz5 : w2.heap.size ≤ w5.heap.size := by have := hb5.size; omega
        obtain ⟨v6, w6, hr6, hown6, hga6, hat6⟩ := run_oneG nodeCells_len nodeCells_one (ty := 24) (c := 1) Tryz.underlying24 info_node rfl (by decide) (by decide) (bareN op) (cs := #[.int .i64 op, .int .i64 0, .int .i64 0, .int .i64 0, .slice none 0 0, .slice none 0 0]) rfl HO5.out.r rfl (by rw [List.length_append]; omega) hsz5
        have HF := Lib.hid (drn_app HO5.out HWf.out hga6 hat6 hown6 (by rw [List.length_append]; omega) HC5.out HG5.out HG2.out.size (N := N) (by rw [List.length_append]; omega))
        clear hown hga hat hb5 hown6 hga6 hat6
        go_wp2_with (at_builtin; first | (refine Go.Lib.wpList_append_run_sl _ (by rfl) (.tmp 36) (.tmp 40) 24 (by rfl) _ _ (by rfl) (by rfl) hr ?_) | (refine Go.Lib.wpList_append_run_sl _ (by rfl) (.tmp 42) (.tmp 45) 24 (by rfl) _ _ (by rfl) (by rfl) hr6 ?_))
        clear hr hr6
        go_wp2
        go_ret
        exact HF.out
    · go_wp2_with fail
      refine (wish_any _ g a len cap hlen HC1.out B hB (HR.out.below HB1.out)).mono ?_
      rintro e w2 ⟨t, rfl, ho, -, hc, hg⟩
      have HF := Lib.hid (one_node (w := w) (op := 0) (by decide) (ho.low HG1.out.size) hc (grown_trans HG1.out hg) (grown_trans HG1.out hg).size N (by omega))
      clear ho hc hg
      unfold Wi.val
      go_wp2
      go_ret
      exact HF.out

set_option maxRecDepth 20000 in
theorem draw_expression (w : World) (g : Nat) (a : Option Addr) (len cap : Nat) (hlen : len ≤ 1048576) (hc : Cur w g a len cap) (B : Nat) (hB : B ≤ g) (hrow : Row w B a len) :
    Calls Tryz.prog 62 #[.pointer (some ⟨g, 0, none⟩)] w (OutD 9 w g a len cap) := by
  have hgl := hc.lt
  have HR := Lib.hid hrow
  have HI : Hid (Calls Tryz.prog 80 #[.pointer (some ⟨g, 0, none⟩), .int .i64 2] w (OutD 7 w g a len cap)) := Lib.hid (draw_exp g a len cap hlen B hB 2 7 (by decide) (by decide) w hc hrow)
  clear hc hrow
  go_enter Tryz.func62, Tryz.ntmps62
  go_wp2_with fail
  refine HI.out.mono ?_
  rintro e w1 ⟨v, ns, rfl, ho, l1, l2, hc1, hg1⟩
  obtain ⟨A1, c1, rfl, -, -⟩ := ho.r.shape
  have HF : Hid (OutD 9 w g a len cap (.returned (.slice A1 ns.length c1)) w1) := Lib.hid ⟨_, ns, rfl, ho, l1, by omega, hc1, hg1⟩
  have hd : decide ((ns.length : Int) > 9) = false := by simp; omega
  have hd' : ¬ ((9 : Int) < (ns.length : Int)) := by omega
  clear ho hc1 hg1 HI
  go_wp2
  go_ret
  exact HF.out
/-- The slice reads as the nodes ns, and does so in each world in which the blocks from lo on are as they are. -/
def KeepN (lo : Nat) (w : World) (A : Option Addr) (n : Nat) (ns : List Nd) : Prop := ∀ w'' : World, w.heap.size ≤ w''.heap.size → (∀ b, lo ≤ b → b < w.heap.size → w''.heap[b]? = w.heap[b]?) → Nodes w'' w''.heap.size A n ns
theorem KeepN.now {lo : Nat} {w : World} {A : Option Addr} {n : Nat} {ns : List Nd} (h : KeepN lo w A n ns) : Nodes w w.heap.size A n ns := h w (Nat.le_refl _) fun _ _ _ => rfl
theorem KeepN.step {lo : Nat} {w w' : World} {A : Option Addr} {n : Nat} {ns : List Nd} (h : KeepN lo w A n ns) (hs : w.heap.size ≤ w'.heap.size) (hb : ∀ b, lo ≤ b → b < w.heap.size → w'.heap[b]? = w.heap[b]?) : KeepN lo w' A n ns := fun w'' h1 h2 => h w'' (Nat.le_trans hs h1) fun b h3 h4 => (h2 b h3 (Nat.lt_of_lt_of_le h4 hs)).trans (hb b h3 h4)
/-- What l5Any hands back: it reads as nodes. -/
def OutA (w : World) (g : Nat) (a : Option Addr) (len cap : Nat) (e : Ending) (w' : World) : Prop :=
  ∃ A n c ns, e = .returned (.slice A n c) ∧ KeepN w.heap.size w' A n ns ∧ n ≤ c ∧ c ≤ maxLen ∧ ShortN ns ∧ n ≤ 10 ∧ Cur w' g a len cap ∧ w.grownBy w' (some g)
theorem OutD.any {N : Nat} {w : World} {g : Nat} {a : Option Addr} {len cap : Nat} {e : Ending} {w' : World} (h : OutD N w g a len cap e w') (hN : N ≤ 10) : OutA w g a len cap e w' := by
  obtain ⟨v, ns, rfl, ho, l1, l2, hc, hg⟩ := h
  obtain ⟨A, c, rfl, h1, h2⟩ := ho.r.shape
  exact ⟨A, _, c, ns, rfl, fun w'' _ hb => (ho.blocks hb).nodes, h1, h2, ho.short, by omega, hc, hg⟩
theorem nodes_tail {w : World} {B b c off n : Nat} {ns : List Nd} (h : Nodes w B (some ⟨b, off, none⟩) n ns) : Nodes w B (some ⟨b, off + 6, none⟩) (n - 1) (ns.drop 1) := by
  refine ⟨⟨by rw [List.length_drop, h.r.len], fun k x hk => ?_⟩, fun x hx => h.x x (List.mem_of_mem_drop hx)⟩
  rw [List.getElem?_drop] at hk
  obtain ⟨b', off', e, h1, h2⟩ := h.r.at' (1 + k) x hk
  injection e with e
  injection e with e1 e2
  subst e1 e2
  refine ⟨b, off + 6, rfl, h1, fun j v hv => ?_⟩
  have h3 := h2 j v hv
  rwa [show off + (1 + k) * 6 + j = off + 6 + k * 6 + j by omega] at h3
set_option maxRecDepth 20000 in
set_option maxHeartbeats 3200000 in
theorem any_expression (w : World) (g : Nat) (a : Option Addr) (len cap : Nat) (hlen : len ≤ 1048576) (hc : Cur w g a len cap) (B : Nat) (hB : B ≤ g) (hrow : Row w B a len) :
    Calls Tryz.prog 38 #[.pointer (some ⟨g, 0, none⟩)] w (OutA w g a len cap) := by
  have hgl := hc.lt
  have HR := Lib.hid hrow
  have HI := Lib.hid (draw_expression w g a len cap hlen hc B hB hrow)
  clear hc hrow
  go_enter Tryz.func38, Tryz.ntmps38
  go_wp2_with fail
  refine HI.out.mono ?_
  rintro e w1 ⟨v, ns, rfl, ho, l1, l2, hc1, hg1⟩
  have HO := Lib.hid ho
  have HC1 := Lib.hid hc1
  have HG1 := Lib.hid hg1
  have HB1 := Lib.hid (grown_below hg1 hB (by omega))
  have hs1 : w.heap.size ≤ w1.heap.size := hg1.size
  have hgl1 : g < w1.heap.size := hc1.lt
  clear ho hc1 hg1 HI
  go_wp2_with fail
  refine (below_any 12 (by omega) _ g a len cap hlen HC1.out B hB (HR.out.below HB1.out)).mono ?_
  rintro e w2 ⟨u, rfl, hu, hc2, hg2⟩
  obtain ⟨hu0, hu1⟩ := hu.2 (by omega)
  have HC2 := Lib.hid hc2
  have HG2 := Lib.hid (grown_trans HG1.out hg2)
  have HB2 := Lib.hid (grown_below HG2.out hB (by omega))
  have HO2 : Hid (DrN w2 w.heap.size v ns) := Lib.hid (HO.out.blocks fun b h1 h2 => hg2.block b h2 (fun e => by have := Option.some.inj e; omega))
  have hs2 : w.heap.size ≤ w2.heap.size := HG2.out.size
  have hgl2 : g < w2.heap.size := hc2.lt
  clear hu hc2 hg2
  by_cases u0 : u = 0
  · subst u0
    go_wp2_with fail
    refine (below_any 7 (by omega) _ g a len cap hlen HC2.out B hB (HR.out.below HB2.out)).mono ?_
    rintro e w3 ⟨z, rfl, hz, hc3, hg3⟩
    obtain ⟨hz0, hz1⟩ := hz.2 (by omega)
    have HC3 := Lib.hid hc3
    have HG3 := Lib.hid (grown_trans HG2.out hg3)
    have HO3 : Hid (DrN w3 w.heap.size v ns) := Lib.hid (HO2.out.blocks fun b h1 h2 => hg3.block b h2 (fun e => by have := Option.some.inj e; omega))
    have hs3 : w.heap.size ≤ w3.heap.size := HG3.out.size
    have hw1 : IntKind.i64.wrap (z - 1) = z - 1 := IntWalk.i64_in _ ⟨by omega, by omega⟩
    obtain ⟨op, hop⟩ : ∃ op, z - 1 = op := ⟨_, rfl⟩
    have hwf : (Lit.int .i64 op).wf = true := by simp [Lit.wf, IntKind.min, IntKind.max, IntKind.signed, IntKind.bits]; omega
    rw [hop] at hw1
    obtain ⟨v', w4, hr, hown, hga, hat⟩ := run_oneG nodeCells_len nodeCells_one (ty := 24) (c := 1) Tryz.underlying24 info_node rfl (by decide) (by decide) (bareN op) (cs := #[.int .i64 op, .int .i64 0, .int .i64 0, .int .i64 0, .slice none 0 0, .slice none 0 0]) rfl HO3.out.r rfl (by omega) hs3
    have HF := Lib.hid ((drn_app HO3.out hwf hga hat hown l1 HC3.out HG3.out (Nat.le_refl _) (N := 10) (by omega)).any (Nat.le_refl _))
    clear hz hc3 hg3 hown hga hat hwf
    go_wp2_with (at_builtin; refine Go.Lib.wpList_append_run_sl _ (by rfl) (.tmp 10) (.tmp 15) 24 (by rfl) _ _ (by rfl) (by rfl) hr ?_)
    clear hr
    go_wp2
    go_ret
    exact HF.out
  · have f0 : (u == 0) = false := by simpa using u0
    by_cases u1 : u = 1
    · subst u1
      clear f0 u0
      go_wp2_with fail
      refine (any_wish _ g a len cap hlen HC2.out B hB (HR.out.below HB2.out)).mono ?_
      rintro e w3 ⟨t, rfl, hot, -, hc3, hg3⟩
      have HC3 := Lib.hid hc3
      have HG3 := Lib.hid (grown_trans HG2.out hg3)
      have HO3 : Hid (DrN w3 w.heap.size v ns) := Lib.hid (HO2.out.blocks fun b h1 h2 => hg3.block b h2 (fun e => by have := Option.some.inj e; omega))
      have HT := Lib.hid hot
      have hs3 : w.heap.size ≤ w3.heap.size := HG3.out.size
      obtain ⟨v', w4, hr, hown, hga, hat⟩ := run_oneG nodeCells_len nodeCells_one (ty := 24) (c := 1) Tryz.underlying24 info_node rfl (by decide) (by decide) (⟨0, t⟩ : Nd) (cs := #[.int .i64 0, .int .i64 t.kind, .int .i64 t.field, .int .i64 t.value, .slice t.LA t.Ln t.Lc, .slice t.PA t.Pn t.Pc]) rfl HO3.out.r rfl (by omega) hs3
      have HF : Hid (OutA w g a len cap (.returned v') w4) := Lib.hid (by
        have hb : Below w.heap.size w3 w4 := (Below.refl _ w3).grown hga hs3 (fun k hk => HO3.out.r.lows k hk)
        have hd : DrN w4 w.heap.size v' (ns ++ [⟨0, t⟩]) := HO3.out.more hga hat (by omega) hown (fun x hx => by rw [List.mem_singleton.1 hx]; exact ⟨by show (Lit.int .i64 0).wf = true; decide, HT.out.low hs2⟩) (fun x hx b hb' e => by
          rw [List.mem_singleton.1 hx] at hb'
          have q1 := (HT.out.has_in hb').1
          have q2 := HO2.out.r.tops b e
          omega)
        exact OutD.any (N := 10) ⟨v', _, rfl, hd, by rw [List.length_append]; omega, by rw [List.length_append]; simp; omega, HC3.out.kept (hb.block g hgl), grown_tail HG3.out hb⟩ (Nat.le_refl _))
      clear hot hc3 hg3 hown hga hat
      unfold Wi.val
      go_wp2_with (at_builtin; refine Go.Lib.wpList_append_run_sl _ (by rfl) (.tmp 19) (.tmp 23) 24 (by rfl) _ _ (by rfl) (by rfl) hr ?_)
      clear hr
      go_wp2
      go_ret
      exact HF.out
    · have f1 : (u == 1) = false := by simpa using u1
      have HA : Hid (OutA w g a len cap (.returned v) w2) := Lib.hid (OutD.any (N := 9) ⟨v, ns, rfl, HO2.out, l1, l2, HC2.out, HG2.out⟩ (by decide))
      by_cases u2 : u = 2
      · subst u2
        obtain ⟨A1, c1, rfl, hl, hcm⟩ := HO2.out.r.shape
        obtain ⟨m, hm⟩ : ∃ m, ns.length = m + 1 := ⟨ns.length - 1, by omega⟩
        have hNd := HO2.out.nodes
        rw [hm] at hl hNd ⊢
        obtain ⟨b, off, e, _, _⟩ := hNd.r.cells nodeCells_len (by omega)
        subst e
        have HK : Hid (∀ w'' : World, (∀ b, w.heap.size ≤ b → b < w2.heap.size → w''.heap[b]? = w2.heap[b]?) → Nodes w'' w''.heap.size (some ⟨b, off, none⟩) (m + 1) ns) := Lib.hid fun w'' hb => by have h := (HO2.out.blocks hb).nodes; rwa [hm] at h
        obtain ⟨c, hcc⟩ : ∃ c, c1 = c + 1 := ⟨c1 - 1, by omega⟩
        subst hcc
        have hcm' : c + 1 ≤ 9223372036854775807 := by unfold maxLen at hcm; omega
        have h1c : (1 : Int) ≤ (c : Int) + 1 := by omega
        have h1m : (1 : Int) ≤ (m : Int) + 1 := by omega
        rcases Nat.eq_zero_or_pos c with c0 | c0
        · subst c0
          obtain rfl : m = 0 := by omega
          have HF : Hid (∀ o : Nat, OutA w g a len cap (.returned (.slice (some ⟨b, o, none⟩) 0 0)) w2) := Lib.hid fun o => ⟨_, 0, 0, [], rfl, fun _ _ _ => .nil _ _ _, by omega, by omega, by simp [ShortN], by omega, HC2.out, HG2.out⟩
          clear hNd u0 u1 hl hcm
          go_wp2
          go_ret
          exact HF.out _
        · have HF : Hid (OutA w g a len cap (.returned (.slice (some ⟨b, off + 6, none⟩) m c)) w2) := Lib.hid ⟨_, m, c, ns.drop 1, rfl, fun w'' _ hb => by have h := nodes_tail (c := c) (HK.out w'' hb); simpa using h, by omega, by omega, fun x hx => HO2.out.short x (List.mem_of_mem_drop hx), by omega, HC2.out, HG2.out⟩
          have hcne : ¬ (c = 0) := by omega
          have hcne' : ¬ ((c : Int) = 0) := by omega
          have hcp : (0 : Int) < (c : Int) := by omega
          clear hNd u0 u1 hl hcm
          go_wp2
          go_ret
          exact HF.out
      · have f2 : (u == 2) = false := by simpa using u2
        clear u0 u1 u2
        go_wp2
        go_ret
        exact HA.out
end Go.Proofs.YtaijajajpnekbaaGreat.num
namespace Go.Proofs.YtaijajajpnekbaaGreat.num
set_option maxRecDepth 20000
open Go.RowKit
set_option linter.unusedSimpArgs false

/-- The first k numbers rise. -/
def Rise (l : List Int) (k : Nat) : Prop := ∀ j, 0 < j → j < k → l.getD (j - 1) 0 < l.getD j 0
theorem Rise.zero (l : List Int) : Rise l 0 := fun j _ h => by omega
theorem Rise.step {l : List Int} {k : Nat} (h : Rise l k) (h1 : 0 < k → l.getD (k - 1) 0 < l.getD k 0) : Rise l (k + 1) := fun j h0 hj => by
  by_cases e : j = k
  · subst e; exact h1 h0
  · exact h j h0 (by omega)
/-- What makes a list of items. -/
def AreP (ds : List (Int × List Int)) : Prop := (∀ d ∈ ds, IsP d) ∧ Rise (ds.map (·.1)) ds.length ∧ ds.length ≤ 16
theorem id_at {its : List It} {k : Nat} {t : It} (h : its[k]? = some t) : ((its.map It.dat).map (·.1)).getD k 0 = t.id := by
  simp [List.getD_eq_getElem?_getD, h, It.dat]
theorem dat_mem {its : List It} {k : Nat} {t : It} (h : its[k]? = some t) : t.dat ∈ its.map It.dat := List.mem_map.2 ⟨t, mem_of_at h, rfl⟩

/-- IsItem in a world that still bears what held of w0 below its end. -/
theorem sIsItem_in (w0 w : World) (B : Nat) (t : It) (hi : Ints w0 B t.A t.n t.xs) (hB : B ≤ w0.heap.size) (hw : Below w0.heap.size w0 w) (hn : t.n ≤ 1048576) (b : Bool) (hb : b = true ↔ IsP t.dat) :
    Calls Tryz.prog 60 #[t.val] w fun e w' => e = .returned (.bool b) ∧ Below w0.heap.size w0 w' :=
  (sIsItem w B t (hi.below (hw.mono hB)) (Nat.le_trans hB hw.size) hn b hb).mono fun _ _ ⟨he, h⟩ => ⟨he, hw.trans (h.mono hw.size)⟩

theorem all_step {its : List It} {k : Nat} {t : It} (hat : its[k]? = some t) (h : ∀ u ∈ its.take k, IsP u.dat) (h1 : IsP t.dat) : ∀ u ∈ its.take (k + 1), IsP u.dat := by
  rw [take_at hat]
  intro u hu
  rcases List.mem_append.1 hu with h2 | h2
  · exact h u h2
  · obtain rfl := List.mem_singleton.1 h2
    exact h1

end Go.Proofs.YtaijajajpnekbaaGreat.num
namespace Go.Proofs.YtaijajajpnekbaaGreat.num
set_option maxRecDepth 20000
open Go.RowKit
set_option linter.unusedVariables false
set_option linter.unusedSimpArgs false

set_option maxRecDepth 20000 in
/-- A pick tells which numbers it picks from. -/
theorem pick_p (P : Int → Prop) (gl N : Nat) (hN : 0 < N) (hN2 : N ≤ 100) (w : World) (g : Nat) (a : Option Addr) (len cap : Nat) (hlen : len ≤ 1048576) (hc : Cur w g a len cap) (B : Nat) (hB : B ≤ g) (hrow : Row w B a len) (hl : ∀ k, k < N → ∃ z : Int, w.cell? ⟨gl, k, none⟩ = some (.int .i64 z) ∧ P z) (hne : gl ≠ g) :
    Calls Tryz.prog 67 #[.pointer (some ⟨g, 0, none⟩), .slice (some ⟨gl, 0, none⟩) N N] w (Out P w g a len cap) := by
  have HC := Lib.hid hc
  have HR := Lib.hid hrow
  have HL := Lib.hid hl
  clear hc hrow hl
  go_enter Tryz.func67, Tryz.ntmps67
  go_wp2_with fail
  refine (below_any _ (by omega) _ g a len cap hlen HC.out B hB HR.out).mono ?_
  rintro e w1 ⟨x1, rfl, hx, hc1, hg1⟩
  have hx2 := hx.2 (by omega)
  obtain ⟨r, rfl⟩ := Int.eq_ofNat_of_zero_le hx2.1
  have hrN : r < N := by omega
  obtain ⟨z, hz, hzI⟩ := HL.out r hrN
  have hz1 : w1.cell? ⟨gl, r, none⟩ = some (.int .i64 z) := by
    have hlt := World.block_lt_of_cell? w _ hz
    exact (World.cell?_of_block (hg1.block gl hlt (fun e => by injection e; omega))).trans hz
  have HC1 := Lib.hid hc1
  have HG1 := Lib.hid hg1
  have HZ := Lib.hid hzI
  clear hc1 hg1 hzI hz hx hx2
  go_wp2
  go_ret
  exact ⟨z, rfl, HZ.out, HC1.out, HG1.out⟩
def itemCells (t : It) : List Value := [.int .i64 t.id, .slice t.A t.n t.c]
theorem itemCells_len (t : It) : (itemCells t).length = 2 := rfl
theorem itemCells_one (t : It) : ∀ u ∈ itemCells t, u.oneCell' = true := by
  intro u hu
  simp only [itemCells, List.mem_cons, List.not_mem_nil, or_false] at hu
  rcases hu with rfl | rfl <;> rfl
theorem info_itemD : (Tryz.prog.info? 62).map (fun i => (i.zero, i.size, i.bytes)) = some (some (.agg #[.int .i64 0, .slice none 0 0]), 2, 32) := by kernel_rfl
/-- A slice of items that a draw filled. -/
structure DrI (w : World) (B : Nat) (v : Value) (its : List It) : Prop where
  r : OwnG 62 itemCells 2 w B v its
  x : ∀ t ∈ its, OwnI w B (.slice t.A t.n t.c) t.xs ∧ t.xs.length ≤ 4
  a : ∀ t ∈ its, ∀ b, (Value.slice t.A t.n t.c).ownBlock = some b → v.ownBlock ≠ some b
theorem DrI.blocks {w w' : World} {B : Nat} {v : Value} {its : List It} (h : DrI w B v its) (hb : ∀ b, B ≤ b → b < w.heap.size → w'.heap[b]? = w.heap[b]?) : DrI w' B v its :=
  ⟨h.r.blocks fun k hk => hb k (h.r.lows k hk) (h.r.tops k hk), fun t ht => ⟨ownI_blocks (h.x t ht).1 fun k hk => hb k (ownI_lows (h.x t ht).1 k hk) (ownI_tops (h.x t ht).1 k hk), (h.x t ht).2⟩, h.a⟩
theorem ownI_n {w : World} {B : Nat} {A : Option Addr} {n c : Nat} {l : List Int} (h : OwnI w B (.slice A n c) l) : n = l.length := by
  rcases h.2 with ⟨e, hl⟩ | ⟨g, cap, cur, e, _⟩ <;> (injection e with e1 e2 e3 <;> omega)
theorem DrI.items {w : World} {B : Nat} {A : Option Addr} {n c : Nat} {its : List It} (h : DrI w B (.slice A n c) its) : Items w w.heap.size A n its ∧ ∀ t ∈ its, t.n ≤ 1048576 := by
  have hr := h.r.read itemCells_len
  refine ⟨⟨hr.len, fun k hk => ?_⟩, fun t ht => by have := ownI_n (h.x t ht).1; have := (h.x t ht).2; omega⟩
  obtain ⟨b, off, e, hb, hc⟩ := hr.at' k its[k] (List.getElem?_eq_getElem hk)
  exact ⟨b, off, e, hb, hc 0 _ rfl, hc 1 _ rfl, ownI_at (h.x _ (List.getElem_mem hk)).1⟩
theorem DrI.snoc {w w' : World} {B N : Nat} {v v' : Value} {its : List It} {t : It} (h : DrI w B v its) (hg : w.grownBy w' v.ownBlock) (hat : v'.ownBlock = v.ownBlock ∨ v'.ownBlock = some N) (hN : w.heap.size ≤ N) (hr : OwnG 62 itemCells 2 w' B v' (its ++ [t])) (hx : OwnI w B (.slice t.A t.n t.c) t.xs ∧ t.xs.length ≤ 4) (ha : ∀ b, (Value.slice t.A t.n t.c).ownBlock = some b → v.ownBlock ≠ some b) : DrI w' B v' (its ++ [t]) := by
  have hall : ∀ x ∈ its ++ [t], (OwnI w B (.slice x.A x.n x.c) x.xs ∧ x.xs.length ≤ 4) ∧ ∀ b, (Value.slice x.A x.n x.c).ownBlock = some b → v.ownBlock ≠ some b := fun x hx' => by
    rcases List.mem_append.1 hx' with h1 | h1
    · exact ⟨h.x x h1, h.a x h1⟩
    · rw [List.mem_singleton.1 h1]; exact ⟨hx, ha⟩
  refine ⟨hr, fun x hx' => ⟨ownI_blocks (hall x hx').1.1 fun b hb => hg.block b (ownI_tops (hall x hx').1.1 b hb) fun e => (hall x hx').2 b hb e.symm, (hall x hx').1.2⟩, fun x hx' b hb e => ?_⟩
  rcases hat with q | q
  · exact (hall x hx').2 b hb (q ▸ e)
  · rw [q] at e
    have h1 := Option.some.inj e
    have h2 := ownI_tops (hall x hx').1.1 b hb
    omega
def OutIs (N : Nat) (w : World) (g : Nat) (a : Option Addr) (len cap : Nat) (e : Ending) (w' : World) : Prop :=
  ∃ v its, e = .returned v ∧ DrI w' w.heap.size v its ∧ its.length ≤ N ∧ Cur w' g a len cap ∧ w.grownBy w' (some g)
/-- One item behind those that were drawn. -/
theorem dri_app {w w0 w1 w2 : World} {g : Nat} {a : Option Addr} {len cap : Nat} {v v' : Value} {its : List It} {t : It} (h : DrI w1 w0.heap.size v its) (hx : OwnI w1 w0.heap.size (.slice t.A t.n t.c) t.xs ∧ t.xs.length ≤ 4) (ha : ∀ b, (Value.slice t.A t.n t.c).ownBlock = some b → v.ownBlock ≠ some b) (hga : w1.grownBy w2 v.ownBlock) (hat : v'.ownBlock = v.ownBlock ∨ v'.ownBlock = some (w1.heap.size + 1)) (hr : OwnG 62 itemCells 2 w2 w0.heap.size v' (its ++ [t]))
    (hc : Cur w1 g a len cap) (hg : w.grownBy w1 (some g)) (h0 : w.heap.size ≤ w0.heap.size) (hgl : g < w0.heap.size) (hw0 : w0.heap.size ≤ w1.heap.size) : DrI w2 w0.heap.size v' (its ++ [t]) ∧ Cur w2 g a len cap ∧ w.grownBy w2 (some g) := by
  have hb : Below w0.heap.size w1 w2 := (Below.refl _ w1).grown hga hw0 (fun k hk => h.r.lows k hk)
  exact ⟨h.snoc hga hat (by omega) hr hx ha, hc.kept (hb.block g hgl), grown_tail hg (hb.mono h0)⟩

set_option maxRecDepth 20000 in
set_option maxHeartbeats 3200000 in
theorem items_any (most : Nat) (hm : most ≤ 100) (w : World) (g : Nat) (a : Option Addr) (len cap : Nat) (hlen : len ≤ 1048576) (hc : Cur w g a len cap) (B : Nat) (hB : B ≤ g) (hrow : Row w B a len) :
    Calls Tryz.prog 51 #[.pointer (some ⟨g, 0, none⟩), .int .i64 most] w (OutIs most w g a len cap) := by
  have hgl := hc.lt
  have HR := Lib.hid hrow
  have HE : Hid (DrI (w.alloc (.cells #[] 62)) w.heap.size (.slice (some ⟨w.heap.size, 0, none⟩) 0 0) []) := Lib.hid ⟨OwnG.empty w _ (Nat.le_refl _), by simp, by simp⟩
  have HC0 : Hid (Cur (w.alloc (.cells #[] 62)) g a len cap) := Lib.hid (hc.kept (Below.heap_alloc _ _ _ hgl))
  have HG0 : Hid (w.grownBy (w.alloc (.cells #[] 62)) (some g)) := Lib.hid (World.grownBy_alloc w _ _)
  clear hc hrow
  have HCa : Hid (Cur ((w.alloc (.cells #[] 62)).alloc (.cells #[.int .i64 2, .int .i64 4, .int .i64 10] 3)) g a len cap) := Lib.hid (HC0.out.kept (Below.heap_alloc _ _ _ (by simp; omega)))
  have HGa : Hid (w.grownBy ((w.alloc (.cells #[] 62)).alloc (.cells #[.int .i64 2, .int .i64 4, .int .i64 10] 3)) (some g)) := Lib.hid (grown_alloc HG0.out _)
  have HEa : Hid (DrI ((w.alloc (.cells #[] 62)).alloc (.cells #[.int .i64 2, .int .i64 4, .int .i64 10] 3)) w.heap.size (.slice (some ⟨w.heap.size, 0, none⟩) 0 0) []) := Lib.hid (HE.out.blocks fun b _ hb => Below.heap_alloc _ _ _ hb)
  have HP := Lib.hid (pick_p (fun z => 0 < z ∧ z ≤ 1000) (w.alloc (.cells #[] 62)).heap.size 3 (by decide) (by decide) ((w.alloc (.cells #[] 62)).alloc (.cells #[.int .i64 2, .int .i64 4, .int .i64 10] 3)) g a len cap hlen HCa.out B hB (HR.out.below (grown_below HGa.out hB (by omega))) (fun k hk => by
    rcases (show k = 0 ∨ k = 1 ∨ k = 2 by omega) with rfl | rfl | rfl
    · exact ⟨2, World.cell?_alloc_at _ _ _ _ rfl, by decide, by decide⟩
    · exact ⟨4, World.cell?_alloc_at _ _ _ _ rfl, by decide, by decide⟩
    · exact ⟨10, World.cell?_alloc_at _ _ _ _ rfl, by decide, by decide⟩) (by simp; omega))
  rw [World.size_alloc] at HP
  have hmw : IntKind.i64.wrap ((most : Int) + 1) = (most : Int) + 1 := IntWalk.i64_in _ ⟨by omega, by omega⟩
  go_enter Tryz.func51, Tryz.ntmps51
  go_wp2_with fail
  refine HP.out.mono ?_
  rintro e w1 ⟨wide, rfl, ⟨hw0, hw1⟩, hc1, hg1⟩
  have HC1 := Lib.hid hc1
  have HG1 := Lib.hid (grown_trans HGa.out hg1)
  have HO1 : Hid (DrI w1 w.heap.size (.slice (some ⟨w.heap.size, 0, none⟩) 0 0) []) := Lib.hid (HEa.out.blocks fun b h1 h2 => hg1.block b h2 (fun e => by have := Option.some.inj e; omega))
  clear hc1 hg1 HP HE HC0 HG0 HCa HGa HEa
  go_wp2_with fail
  refine (below_any 3 (by omega) _ g a len cap hlen HC1.out B hB (HR.out.below (grown_below HG1.out hB (by omega)))).mono ?_
  rintro e w2 ⟨id, rfl, hid, hc2, hg2⟩
  obtain ⟨id0, id1⟩ := hid.2 (by omega)
  have HC2 := Lib.hid hc2
  have HG2 := Lib.hid (grown_trans HG1.out hg2)
  have HO2 : Hid (DrI w2 w.heap.size (.slice (some ⟨w.heap.size, 0, none⟩) 0 0) []) := Lib.hid (HO1.out.blocks fun b h1 h2 => hg2.block b h2 (fun e => by have := Option.some.inj e; omega))
  clear hid hc2 hg2
  go_wp2_with fail
  refine (below_any ((most : Int) + 1) (by omega) _ g a len cap hlen HC2.out B hB (HR.out.below (grown_below HG2.out hB (by omega)))).mono ?_
  rintro e w3 ⟨n, rfl, hn, hc3, hg3⟩
  obtain ⟨n0, n1⟩ := hn.2 (by omega)
  have HC3 := Lib.hid hc3
  have HG3 := Lib.hid (grown_trans HG2.out hg3)
  have HO3 : Hid (DrI w3 w.heap.size (.slice (some ⟨w.heap.size, 0, none⟩) 0 0) []) := Lib.hid (HO2.out.blocks fun b h1 h2 => hg3.block b h2 (fun e => by have := Option.some.inj e; omega))
  clear hn hc3 hg3
  go_wp2
  go_loopw [5, 7, 8] (fun v idv nv wr => ∃ (its : List It) (V : Value) (d m : Int), V = v ∧ idv = .int .i64 d ∧ nv = .int .i64 m ∧ 0 ≤ d ∧ d ≤ 3 + 2 * its.length ∧ 0 ≤ m ∧ m + its.length ≤ most ∧ DrI wr w.heap.size V its ∧ Cur wr g a len cap ∧ w.grownBy wr (some g)) (fun _ _ nv _ => (intOf nv).toNat)
  case atStart => exact ⟨[], _, id, n, rfl, rfl, rfl, id0, by simp; omega, n0, by simp; omega, HO3.out, HC3.out, HG3.out⟩
  case round =>
    obtain ⟨its, v, d, m, rfl, rfl, rfl, d0, d1, m0, m1, ho, hc, hg⟩ := hrel
    have HO := Lib.hid ho
    have HC := Lib.hid hc
    have HG := Lib.hid hg
    have hs : w.heap.size ≤ wr.heap.size := hg.size
    clear ho hc hg
    by_cases hpos : 0 < m
    · go_wp2_with fail
      refine (item_any d wide hw0 hw1 _ g a len cap hlen HC.out B hB (HR.out.below (grown_below HG.out hB (by omega)))).mono ?_
      rintro e w4 ⟨t, rfl, hot, t3, t4, hc4, hg4⟩
      have HC4 := Lib.hid hc4
      have HG4 := Lib.hid (grown_trans HG.out hg4)
      have HO4 : Hid (DrI w4 w.heap.size v its) := Lib.hid (HO.out.blocks fun b h1 h2 => hg4.block b h2 (fun e => by have := Option.some.inj e; omega))
      have hs4 : w.heap.size ≤ w4.heap.size := HG4.out.size
      have HT : Hid (OwnI w4 wr.heap.size (.slice t.A t.n t.c) t.xs ∧ t.xs.length ≤ 4) := Lib.hid ⟨hot, by omega⟩
      obtain ⟨v', w5, hr, hown, hga, hat⟩ := run_oneG itemCells_len itemCells_one (ty := 29) (c := 1) Tryz.underlying29 info_itemD rfl (by decide) (by decide) t (cs := #[.int .i64 t.id, .slice t.A t.n t.c]) rfl HO4.out.r rfl (by omega) hs4
      have HF := Lib.hid (dri_app HO4.out ⟨ownI_lowD HT.out.1 hs, HT.out.2⟩ (fun b h1 h2 => by
        have q1 := ownI_lows HT.out.1 b h1
        have q2 := HO.out.r.tops b h2
        omega) hga hat hown HC4.out HG4.out (Nat.le_refl _) hgl hs4)
      clear hot hc4 hg4 hown hga hat
      unfold It.val
      go_wp2_with (first | (at_builtin; refine Go.Lib.wpList_append_run_sl _ (by rfl) (.tmp 23) (.tmp 28) 29 (by rfl) _ _ (by rfl) (by rfl) hr ?_) | fail)
      refine (below_any 2 (by omega) _ g a len cap hlen HF.out.2.1 B hB (HR.out.below (grown_below HF.out.2.2 hB (by omega)))).mono ?_
      rintro e w6 ⟨u, rfl, hu, hc6, hg6⟩
      obtain ⟨u0, u1⟩ := hu.2 (by omega)
      have HC6 := Lib.hid hc6
      have HG6 := Lib.hid (grown_trans HF.out.2.2 hg6)
      have HO6 : Hid (DrI w6 w.heap.size v' (its ++ [t])) := Lib.hid (HF.out.1.blocks fun b h1 h2 => hg6.block b h2 (fun e => by have := Option.some.inj e; omega))
      have hw2 : IntKind.i64.wrap (d + 1) = d + 1 := IntWalk.i64_in _ ⟨by omega, by omega⟩
      have hw3 : IntKind.i64.wrap (d + 1 + u) = d + 1 + u := IntWalk.i64_in _ ⟨by omega, by omega⟩
      have hw4 : IntKind.i64.wrap (m - 1) = m - 1 := IntWalk.i64_in _ ⟨by omega, by omega⟩
      clear hu hc6 hg6 hr
      go_wp2
      go_roundw
      case rel => exact ⟨its ++ [t], _, d + 1 + u, m - 1, rfl, by first | rfl | go_num, by first | rfl | go_num, by omega, by rw [List.length_append]; simp; omega, by omega, by rw [List.length_append]; simp; omega, HO6.out, HC6.out, HG6.out⟩
      case measure => simp [intOf]; omega
    · have hd : decide (m > 0) = false := by simp; omega
      have hF : OutIs most w g a len cap (.returned v) wr := ⟨v, its, rfl, HO.out, by omega, HC.out, HG.out⟩
      have HF := Lib.hid hF
      have hm' : m = 0 := by omega
      subst hm'
      clear hF
      go_wp2
      go_ret
      exact HF.out

set_option maxRecDepth 20000 in
set_option maxHeartbeats 1600000 in
theorem any_items (w : World) (g : Nat) (a : Option Addr) (len cap : Nat) (hlen : len ≤ 1048576) (hc : Cur w g a len cap) (B : Nat) (hB : B ≤ g) (hrow : Row w B a len) :
    Calls Tryz.prog 31 #[.pointer (some ⟨g, 0, none⟩)] w (OutIs 8 w g a len cap) := by
  have hgl := hc.lt
  have HR := Lib.hid hrow
  have HI : Hid (Calls Tryz.prog 51 #[.pointer (some ⟨g, 0, none⟩), .int .i64 7] w (OutIs 7 w g a len cap)) := Lib.hid (items_any 7 (by decide) w g a len cap hlen hc B hB hrow)
  clear hc hrow
  go_enter Tryz.func31, Tryz.ntmps31
  go_wp2_with fail
  refine HI.out.mono ?_
  rintro e w1 ⟨v, its, rfl, ho, l1, hc1, hg1⟩
  have HO := Lib.hid ho
  have HC1 := Lib.hid hc1
  have HG1 := Lib.hid hg1
  have hs1 : w.heap.size ≤ w1.heap.size := hg1.size
  clear ho hc1 hg1 HI
  go_wp2_with fail
  refine (once_any 8 (by omega) _ g a len cap hlen HC1.out B hB (HR.out.below (grown_below HG1.out hB (by omega)))).mono ?_
  rintro e w2 ⟨q, rfl, hc2, hg2⟩
  have HC2 := Lib.hid hc2
  have HG2 := Lib.hid (grown_trans HG1.out hg2)
  have HO2 : Hid (DrI w2 w.heap.size v its) := Lib.hid (HO.out.blocks fun b h1 h2 => hg2.block b h2 (fun e => by have := Option.some.inj e; omega))
  have hs2 : w.heap.size ≤ w2.heap.size := HG2.out.size
  clear hc2 hg2
  cases q
  · have HF : Hid (OutIs 8 w g a len cap (.returned v) w2) := Lib.hid ⟨v, its, rfl, HO2.out, by omega, HC2.out, HG2.out⟩
    go_wp2
    go_ret
    exact HF.out
  · go_wp2_with fail
    refine (any_item _ g a len cap hlen HC2.out B hB (HR.out.below (grown_below HG2.out hB (by omega)))).mono ?_
    rintro e w3 ⟨t, rfl, hot, t3, t4, hc3, hg3⟩
    have HC3 := Lib.hid hc3
    have HG3 := Lib.hid (grown_trans HG2.out hg3)
    have HO3 : Hid (DrI w3 w.heap.size v its) := Lib.hid (HO2.out.blocks fun b h1 h2 => hg3.block b h2 (fun e => by have := Option.some.inj e; omega))
    have hs3 : w.heap.size ≤ w3.heap.size := HG3.out.size
    have HT : Hid (OwnI w3 w2.heap.size (.slice t.A t.n t.c) t.xs ∧ t.xs.length ≤ 4) := Lib.hid ⟨hot, t4⟩
    obtain ⟨v', w5, hr, hown, hga, hat⟩ := run_oneG itemCells_len itemCells_one (ty := 29) (c := 1) Tryz.underlying29 info_itemD rfl (by decide) (by decide) t (cs := #[.int .i64 t.id, .slice t.A t.n t.c]) rfl HO3.out.r rfl (by omega) hs3
    have HA := Lib.hid (dri_app HO3.out ⟨ownI_lowD HT.out.1 hs2, HT.out.2⟩ (fun b h1 h2 => by
      have q1 := ownI_lows HT.out.1 b h1
      have q2 := HO2.out.r.tops b h2
      omega) hga hat hown HC3.out HG3.out (Nat.le_refl _) hgl hs3)
    have HF : Hid (OutIs 8 w g a len cap (.returned v') w5) := Lib.hid ⟨v', _, rfl, HA.out.1, by rw [List.length_append]; simp; omega, HA.out.2.1, HA.out.2.2⟩
    clear hot hc3 hg3 hown hga hat
    unfold It.val
    go_wp2_with (at_builtin; refine Go.Lib.wpList_append_run_sl _ (by rfl) (.tmp 8) (.tmp 11) 29 (by rfl) _ _ (by rfl) (by rfl) hr ?_)
    clear hr
    go_wp2
    go_ret
    exact HF.out
/-- A relation and an expression, as they read. -/
def OutB (w : World) (g : Nat) (a : Option Addr) (len cap : Nat) (e : Ending) (w' : World) : Prop :=
  ∃ A n c its A' n' c' ns, e = .returned (.tuple #[.slice A n c, .slice A' n' c']) ∧ (Items w' w'.heap.size A n its ∧ (∀ t ∈ its, t.n ≤ 1048576) ∧ n ≤ c ∧ c ≤ maxLen ∧ n ≤ 8) ∧ (Nodes w' w'.heap.size A' n' ns ∧ n' ≤ c' ∧ c' ≤ maxLen ∧ ShortN ns ∧ n' ≤ 10) ∧ Cur w' g a len cap ∧ w.grownBy w' (some g)
theorem DrI.read {w : World} {B : Nat} {v : Value} {its : List It} (h : DrI w B v its) (h8 : its.length ≤ 8) : ∃ A n c, v = .slice A n c ∧ Items w w.heap.size A n its ∧ (∀ t ∈ its, t.n ≤ 1048576) ∧ n ≤ c ∧ c ≤ maxLen ∧ n ≤ 8 := by
  obtain ⟨A, c, rfl, h1, h2⟩ := h.r.shape
  exact ⟨A, _, c, rfl, h.items.1, h.items.2, h1, h2, h8⟩
end Go.Proofs.YtaijajajpnekbaaGreat.num
namespace Go.Proofs.YtaijajajpnekbaaGreat.num
set_option maxRecDepth 20000
open Go.RowKit
set_option linter.unusedVariables false

/-- The slice v is the call's own, of n elements of s cells, which are xs; it may begin inside its block. -/
def RowO (w : World) (B : Nat) (T : TypeId) (s : Nat) (v : Value) (n : Nat) (xs : List Value) : Prop :=
  xs.length = n * s ∧ ∃ (g off cap : Nat) (cur : Array Value), v = .slice (some ⟨g, off, none⟩) n cap ∧ B ≤ g ∧ w.heap[g]? = some (.cells cur T (0, 0)) ∧ n ≤ cap ∧ cap ≤ maxLen ∧ off + cap * s ≤ cur.size ∧ (cur.toList.drop off).take (n * s) = xs
theorem RowO.blocks {w w' : World} {B : Nat} {T : TypeId} {s : Nat} {v : Value} {n : Nat} {xs : List Value} (h : RowO w B T s v n xs) (hb : ∀ k, v.ownBlock = some k → w'.heap[k]? = w.heap[k]?) : RowO w' B T s v n xs := by
  obtain ⟨h0, g, off, cap, cur, rfl, h1, h2, h3⟩ := h
  exact ⟨h0, g, off, cap, cur, rfl, h1, (hb g rfl).trans h2, h3⟩
theorem RowO.low {w : World} {B B' : Nat} {T : TypeId} {s : Nat} {v : Value} {n : Nat} {xs : List Value} (h : RowO w B T s v n xs) (hB : B' ≤ B) : RowO w B' T s v n xs := by
  obtain ⟨h0, g, off, cap, cur, rfl, h1, h3⟩ := h
  exact ⟨h0, g, off, cap, cur, rfl, Nat.le_trans hB h1, h3⟩
theorem RowO.lows {w : World} {B : Nat} {T : TypeId} {s : Nat} {v : Value} {n : Nat} {xs : List Value} (h : RowO w B T s v n xs) : ∀ k, v.ownBlock = some k → B ≤ k ∧ k < w.heap.size := fun k hk => by
  obtain ⟨h0, g, off, cap, cur, rfl, h1, h2, h3⟩ := h
  obtain rfl : g = k := Option.some.inj hk
  exact ⟨h1, lt_of_block h2⟩
theorem RowO.shape {w : World} {B : Nat} {T : TypeId} {s : Nat} {v : Value} {n : Nat} {xs : List Value} (h : RowO w B T s v n xs) : ∃ g off cap, v = .slice (some ⟨g, off, none⟩) n cap ∧ n ≤ cap ∧ cap ≤ maxLen := by
  obtain ⟨h0, g, off, cap, cur, rfl, h1, h2, h3, h4, _⟩ := h
  exact ⟨g, off, cap, rfl, h3, h4⟩
theorem RowO.cells {w : World} {B : Nat} {T : TypeId} {s g off n cap : Nat} {xs : List Value} (h : RowO w B T s (.slice (some ⟨g, off, none⟩) n cap) n xs) : ∀ j u, xs[j]? = some u → w.cell? ⟨g, off + j, none⟩ = some u := fun j u hj => by
  obtain ⟨h0, g', off', cap', cur, e, h1, h2, h3, h4, h5, h6⟩ := h
  injection e with e e2 e3
  injection e with e
  injection e with e4 e5
  subst e4 e5
  have hlt : j < xs.length := by
    rcases Nat.lt_or_ge j xs.length with q | q
    · exact q
    · rw [List.getElem?_eq_none q] at hj; cases hj
  rw [cell_of_row w g (off + j) _ _ _ h2]
  rw [← h6, List.getElem?_take, if_pos (by omega), List.getElem?_drop] at hj
  simpa using hj
theorem RowO.of_own {w : World} {B : Nat} {T : TypeId} {s : Nat} {v : Value} {n : Nat} {xs : List Value} (h : w.ownsRow B T s v n xs) (hn : 0 < n) : RowO w B T s v n xs := by
  obtain ⟨h0, ⟨_, e⟩ | ⟨g, cap, cur, rfl, h1, h2, h3, h4, h5, h6⟩⟩ := h
  · omega
  · exact ⟨h0, g, 0, cap, cur, rfl, h1, h2, h3, h4, by omega, by simpa using h6⟩
/-- Without its first element. -/
theorem RowO.tail {w : World} {B : Nat} {T : TypeId} {s g off n cap : Nat} {xs : List Value} (h : RowO w B T s (.slice (some ⟨g, off, none⟩) (n + 1) (cap + 1)) (n + 1) xs) : RowO w B T s (.slice (some ⟨g, off + s, none⟩) n cap) n (xs.drop s) := by
  obtain ⟨h0, g', off', cap', cur, e, h1, h2, h3, h4, h5, h6⟩ := h
  injection e with e e2 e3
  injection e with e
  injection e with e4 e5
  subst e4 e5 e3
  rw [Nat.add_mul, Nat.one_mul] at h0 h5 h6
  refine ⟨by rw [List.length_drop]; omega, g, off + s, cap, cur, rfl, h1, h2, by omega, by omega, by omega, ?_⟩
  rw [← h6, List.drop_take, List.drop_drop, show n * s + s - s = n * s by omega]
theorem RowO.none {w : World} {B : Nat} {T : TypeId} {s g off n cap : Nat} {xs : List Value} (h : RowO w B T s (.slice (some ⟨g, off, none⟩) n cap) n xs) : RowO w B T s (.slice (some ⟨g, off, none⟩) 0 0) 0 [] := by
  obtain ⟨h0, g', off', cap', cur, e, h1, h2, h3, h4, h5, h6⟩ := h
  injection e with e e2 e3
  injection e with e
  injection e with e4 e5
  subst e4 e5
  exact ⟨by simp, g, off, 0, cur, rfl, h1, h2, Nat.le_refl _, Nat.zero_le _, by omega, by simp⟩
theorem run_appO {P : Program} {w : World} {B : Nat} {T tS ty : TypeId} {z : Value} {s bytes : Nat} (ht : P.underlying tS = some (.slice T)) (hinf : (P.info? T).map (fun i => (i.zero, i.size, i.bytes)) = some (some z, s, bytes)) (hzs : z.cells.size = s) (hs0 : 0 < s) (hbt : 0 < bytes) {v : Value} {n : Nat} {xs : List Value} (hown : RowO w B T s v n xs)
    (a : Addr) {m c : Nat} {news : List Value} (hl : news.length = m * s) (hnews : ∀ j u, news[j]? = some u → w.cell? (a.add j) = some u) (h1 : ∀ u ∈ news, u.oneCell' = true) (hbytes : (n + m) * bytes ≤ 140737488355328) (hB : B ≤ w.heap.size) :
    ∃ v' w', (Builtin.append_ #[tS, tS] ty #[v, .slice (some a) m c]).run P w = .ok v' w' ∧ RowO w' B T s v' (n + m) (xs ++ news) ∧ w.grownBy w' v.ownBlock ∧ (v'.ownBlock = v.ownBlock ∨ v'.ownBlock = some w.heap.size) := by
  obtain ⟨i, hi, hz⟩ := Option.map_eq_some_iff.1 hinf
  simp only [Prod.mk.injEq] at hz
  obtain ⟨hz0, hz1, hz2⟩ := hz
  subst hz1 hz2
  have hm : n + m ≤ 140737488355328 := Nat.le_trans (Nat.le_mul_of_pos_right _ hbt) hbytes
  have hlen : (xs ++ news).length = (n + m) * i.size := by rw [List.length_append, hown.1, hl, Nat.add_mul]
  obtain ⟨h0, g, off, cap, cur, rfl, hbg, hg, hnc, hcm, hcs, htake⟩ := id hown
  by_cases hroom : n + m ≤ cap
  · have hmul : (n + m) * i.size ≤ cap * i.size := Nat.mul_le_mul_right _ hroom
    rw [Nat.add_mul] at hmul
    have hf := run_firstCells_some (P := P) w i.size m a m c news hl hnews
    have hst := run_storeCells_at P g (off + n * i.size) T news 0 cur w hg (by omega) h1
    simp only [Nat.add_zero] at hst
    refine ⟨.slice (some ⟨g, off, none⟩) (n + m) cap, w.setRow g (cur.toList.take (off + n * i.size) ++ news ++ cur.toList.drop (off + n * i.size + news.length)).toArray, ?_, ⟨hlen, g, off, cap, _, rfl, hbg, setRow_heap w g cur _ T _ hg, hroom, hcm, ?_, ?_⟩, ⟨rfl, rfl, rfl, by simp, fun k _ hk => setRow_other w g k _ (fun e => hk (by simp [Value.ownBlock, e]))⟩, .inl rfl⟩
    · simp [Builtin.append_, run_underlying ht, sizeOf, typeInfo, hi, Builtin.lenOf, hroom, hf, Addr.add_lit, hst]
    · simp only [List.size_toArray, List.length_append, List.length_take, List.length_drop, Array.length_toList]
      omega
    · have e1 : (cur.toList.take (off + n * i.size)).drop off = xs := by
        rw [List.drop_take, show off + n * i.size - off = n * i.size by omega]
        exact htake
      rw [List.append_assoc, List.drop_append_of_le_length (by rw [List.length_take, Array.length_toList]; omega), e1, ← List.append_assoc, ← hlen]
      exact List.take_left
  · have holds : ∀ j u, xs[j]? = some u → w.cell? ((⟨g, off, none⟩ : Addr).add j) = some u := fun j u hj => by
      rw [addr_add]
      exact hown.cells j u hj
    have hr := run_append_grow (P := P) w tS ty T i z ht hi hz0 ⟨g, off, none⟩ n cap xs h0 holds a m c news hl hnews (by omega) (by omega) (growslice_fits (by omega) hbytes)
    have hge := grownCap_ge w (n + m) cap T
    have hcm' : grownCap w (n + m) cap T ≤ maxLen := grownCap_le_maxLen w (n + m) cap T (by unfold maxLen; omega)
    refine ⟨_, _, hr, ⟨hlen, w.heap.size, 0, _, _, rfl, hB, heap_alloc_new w.drew _, hge, hcm', ?_, ?_⟩, ⟨rfl, rfl, rfl, by simp, fun k hk _ => Below.heap_alloc w.drew _ k (by simpa using hk)⟩, .inr rfl⟩
    · have e : (n + m) * i.size + (grownCap w (n + m) cap T - (n + m)) * i.size = grownCap w (n + m) cap T * i.size := by
        rw [← Nat.add_mul, Nat.add_sub_cancel' hge]
      have h3 := h0
      simp only [Array.size_append, List.size_toArray, size_zeroCells, hzs, h0, hl]
      rw [Nat.add_mul] at e
      omega
    · simp only [Array.toList_append, List.append_assoc, List.drop_zero]
      rw [← List.append_assoc, ← hlen]
      exact List.take_left
end Go.Proofs.YtaijajajpnekbaaGreat.num
namespace Go.Proofs.YtaijajajpnekbaaGreat.num
set_option maxRecDepth 20000
open Go.RowKit Go.Maps
set_option linter.unusedVariables false
set_option linter.unusedSimpArgs false

/-- A wish whose lists are the call's own. -/
structure WiR (w : World) (B : Nat) (t : Wi) : Prop where
  k : (Lit.int .i64 t.kind).wf = true
  f : (Lit.int .i64 t.field).wf = true
  v : (Lit.int .i64 t.value).wf = true
  l : OwnI w B (.slice t.LA t.Ln t.Lc) t.ls
  p : OwnP w B (.slice t.PA t.Pn t.Pc) t.ps
theorem WiR.wi {w : World} {B : Nat} {t : Wi} (h : WiR w B t) : WiIn w w.heap.size t := ⟨h.k, h.f, h.v, ownI_at h.l, h.p.at⟩
theorem WiR.blocks {w w' : World} {B : Nat} {t : Wi} (h : WiR w B t) (hb : ∀ b, t.has b → w'.heap[b]? = w.heap[b]?) : WiR w' B t := ⟨h.k, h.f, h.v, ownI_blocks h.l fun b k => hb b (.inl k), h.p.blocks fun b k => hb b (.inr k)⟩
theorem WiOwn.r {w : World} {B : Nat} {t : Wi} (h : WiOwn w B t) : WiR w B t := ⟨wf_I64 h.k, wf_I64 h.f, wf_I64 h.v, h.l, h.p⟩
theorem WiO.r {w : World} {B : Nat} {t : Wi} (h : WiO w B t) : WiR w B t := ⟨h.k, h.f, h.v, h.l, h.p⟩
theorem WiR.has_in {w : World} {B : Nat} {t : Wi} (h : WiR w B t) {b : Nat} (hb : t.has b) : B ≤ b ∧ b < w.heap.size := by
  rcases hb with hb | hb
  · exact World.ownsRow.lt h.l b hb
  · exact World.ownsRow.lt h.p b hb
/-- A slice of nodes of the call's own, which may begin inside its block. -/
structure ShO (w : World) (B : Nat) (v : Value) (ns : List Nd) : Prop where
  r : RowO w B 57 6 v ns.length (ns.flatMap nodeCells)
  x : ∀ x ∈ ns, (Lit.int .i64 x.op).wf = true ∧ WiR w B x.t
  a : ∀ x ∈ ns, ∀ b, x.t.has b → v.ownBlock ≠ some b
theorem ShO.blocks {w w' : World} {B : Nat} {v : Value} {ns : List Nd} (h : ShO w B v ns) (hb : ∀ b, B ≤ b → b < w.heap.size → w'.heap[b]? = w.heap[b]?) : ShO w' B v ns :=
  ⟨h.r.blocks fun k hk => hb k (h.r.lows k hk).1 (h.r.lows k hk).2, fun x hx => ⟨(h.x x hx).1, (h.x x hx).2.blocks fun b hb' => hb b ((h.x x hx).2.has_in hb').1 ((h.x x hx).2.has_in hb').2⟩, h.a⟩
theorem ShO.nodes {w : World} {B g off c : Nat} {n : Nat} {ns : List Nd} (h : ShO w B (.slice (some ⟨g, off, none⟩) n c) ns) (hn : ns.length = n) : Nodes w w.heap.size (some ⟨g, off, none⟩) n ns := by
  subst hn
  refine ⟨⟨rfl, fun k x hk => ⟨g, off, rfl, (h.r.lows g rfl).2, fun j v hv => ?_⟩⟩, fun x hx => ⟨(h.x x hx).1, (h.x x hx).2.wi⟩⟩
  have hlt : j < 6 := by
    rcases Nat.lt_or_ge j 6 with q | q
    · exact q
    · rw [List.getElem?_eq_none (by rw [nodeCells_len]; exact q)] at hv; cases hv
  have h1 := h.r.cells (k * 6 + j) v (by rw [fm_at nodeCells_len ns k j x hk hlt]; exact hv)
  rwa [show off + (k * 6 + j) = off + k * 6 + j by omega] at h1
theorem ShO.keep {w : World} {lo g off c n : Nat} {ns : List Nd} (h : ShO w lo (.slice (some ⟨g, off, none⟩) n c) ns) (hn : ns.length = n) : KeepN lo w (some ⟨g, off, none⟩) n ns := fun w'' hs hb => (h.blocks hb).nodes hn
theorem DrN.o {w : World} {B : Nat} {v : Value} {ns : List Nd} (h : DrN w B v ns) (hn : 0 < ns.length) : ShO w B v ns := ⟨.of_own h.r hn, fun x hx => ⟨(h.x x hx).1, (h.x x hx).2.r⟩, h.a⟩
/-- More nodes behind those of v. -/
theorem ShO.more {w w' : World} {B N : Nat} {v v' : Value} {ns m : List Nd} (h : ShO w B v ns) (hg : w.grownBy w' v.ownBlock) (hat : v'.ownBlock = v.ownBlock ∨ v'.ownBlock = some N) (hN : w.heap.size ≤ N) (hr : RowO w' B 57 6 v' (ns ++ m).length ((ns ++ m).flatMap nodeCells)) (hx : ∀ x ∈ m, (Lit.int .i64 x.op).wf = true ∧ WiR w B x.t) (ha : ∀ x ∈ m, ∀ b, x.t.has b → v.ownBlock ≠ some b) : ShO w' B v' (ns ++ m) := by
  have hall : ∀ x ∈ ns ++ m, ((Lit.int .i64 x.op).wf = true ∧ WiR w B x.t) ∧ ∀ b, x.t.has b → v.ownBlock ≠ some b := fun x hx' => by
    rcases List.mem_append.1 hx' with h1 | h1
    · exact ⟨h.x x h1, h.a x h1⟩
    · exact ⟨hx x h1, ha x h1⟩
  refine ⟨hr, fun x hx' => ⟨(hall x hx').1.1, (hall x hx').1.2.blocks fun b hb => hg.block b ((hall x hx').1.2.has_in hb).2 fun e => (hall x hx').2 b hb e.symm⟩, fun x hx' b hb e => ?_⟩
  rcases hat with q | q
  · exact (hall x hx').2 b hb (q ▸ e)
  · rw [q] at e
    have h1 := Option.some.inj e
    have h2 := ((hall x hx').1.2.has_in hb).2
    omega
theorem bare_r (w : World) (B : Nat) {op : Int} (ho : (Lit.int .i64 op).wf = true) : (Lit.int .i64 (bareN op).op).wf = true ∧ WiR w B (bareN op).t := ⟨(bare_o w B ho).1, (bare_o w B ho).2.r⟩
/-- append of nodes just built. -/
theorem run_bareO {w : World} {B N c m : Nat} {v : Value} {ns : List Nd} (ys : List Nd) (hm : ys.length = m) {ty : TypeId} {cs : Array Value} (hcs : cs = (ys.flatMap nodeCells).toArray) (h : ShO w B v ns) (hN : w.heap.size = N) (hlen : ns.length + m ≤ 100) (hB : B ≤ w.heap.size) (hys : ∀ y ∈ ys, (Lit.int .i64 y.op).wf = true ∧ ∀ w', WiR w' B y.t) (hno : ∀ y ∈ ys, ∀ b, ¬ y.t.has b) :
    ∃ v' w', (Builtin.append_ #[24, 24] ty #[v, .slice (some ⟨N, 0, none⟩) m c]).run Tryz.prog (w.alloc (.cells cs 57)) = .ok v' w' ∧ ShO w' B v' (ns ++ ys) ∧ w.grownBy w' v.ownBlock := by
  subst hcs hN
  have ha : Below w.heap.size w (w.alloc (.cells (ys.flatMap nodeCells).toArray 57)) := (Below.refl _ w).alloc (Nat.le_refl _) _
  have h' : ShO (w.alloc (.cells (ys.flatMap nodeCells).toArray 57)) B v ns := h.blocks fun b _ hb => ha.block b hb
  obtain ⟨v', w', hr, ho, hg, hat⟩ := run_appO (P := Tryz.prog) (ty := ty) Tryz.underlying24 info_node rfl (by decide) (by decide) h'.r ⟨w.heap.size, 0, none⟩ (m := m) (c := c) (news := ys.flatMap nodeCells) (by rw [fm_len nodeCells_len, hm]) (fun j u hj => by
    rw [addr_add, Nat.zero_add, World.cell?_alloc_at _ _ _ _ rfl]
    simpa using hj) (fm_one nodeCells_one ys) (by omega) (by simp; omega)
  refine ⟨v', w', hr, h'.more hg hat (Nat.le_refl _) (by rw [List.length_append, hm, List.flatMap_append]; exact ho) (fun y hy => ⟨(hys y hy).1, (hys y hy).2 _⟩) (fun y hy b hb => absurd hb (hno y hy b)), ⟨hg.os, hg.tape, hg.output, Nat.le_trans (by simp) hg.size, fun k hk hv => (hg.block k (by simp; omega) hv).trans (Below.heap_alloc _ _ _ hk)⟩⟩
def OutO (w : World) (g : Nat) (a : Option Addr) (len cap : Nat) (e : Ending) (w' : World) : Prop :=
  ∃ v ns, e = .returned v ∧ ShO w' w.heap.size v ns ∧ ShortN ns ∧ ns.length ≤ 10 ∧ Cur w' g a len cap ∧ w.grownBy w' (some g)
theorem OutD.o {N : Nat} {w : World} {g : Nat} {a : Option Addr} {len cap : Nat} {e : Ending} {w' : World} (h : OutD N w g a len cap e w') (hN : N ≤ 10) : OutO w g a len cap e w' := by
  obtain ⟨v, ns, rfl, ho, l1, l2, hc, hg⟩ := h
  exact ⟨v, ns, rfl, ho.o l1, ho.short, by omega, hc, hg⟩
set_option maxRecDepth 20000 in
set_option maxHeartbeats 3200000 in
theorem any_exp2 (w : World) (g : Nat) (a : Option Addr) (len cap : Nat) (hlen : len ≤ 1048576) (hc : Cur w g a len cap) (B : Nat) (hB : B ≤ g) (hrow : Row w B a len) :
    Calls Tryz.prog 38 #[.pointer (some ⟨g, 0, none⟩)] w (OutO w g a len cap) := by
  have hgl := hc.lt
  have HR := Lib.hid hrow
  have HI := Lib.hid (draw_expression w g a len cap hlen hc B hB hrow)
  clear hc hrow
  go_enter Tryz.func38, Tryz.ntmps38
  go_wp2_with fail
  refine HI.out.mono ?_
  rintro e w1 ⟨v, ns, rfl, ho, l1, l2, hc1, hg1⟩
  have HO := Lib.hid ho
  have HC1 := Lib.hid hc1
  have HG1 := Lib.hid hg1
  have HB1 := Lib.hid (grown_below hg1 hB (by omega))
  have hs1 : w.heap.size ≤ w1.heap.size := hg1.size
  have hgl1 : g < w1.heap.size := hc1.lt
  clear ho hc1 hg1 HI
  go_wp2_with fail
  refine (below_any 12 (by omega) _ g a len cap hlen HC1.out B hB (HR.out.below HB1.out)).mono ?_
  rintro e w2 ⟨u, rfl, hu, hc2, hg2⟩
  obtain ⟨hu0, hu1⟩ := hu.2 (by omega)
  have HC2 := Lib.hid hc2
  have HG2 := Lib.hid (grown_trans HG1.out hg2)
  have HB2 := Lib.hid (grown_below HG2.out hB (by omega))
  have HO2 : Hid (DrN w2 w.heap.size v ns) := Lib.hid (HO.out.blocks fun b h1 h2 => hg2.block b h2 (fun e => by have := Option.some.inj e; omega))
  have hs2 : w.heap.size ≤ w2.heap.size := HG2.out.size
  have hgl2 : g < w2.heap.size := hc2.lt
  clear hu hc2 hg2
  by_cases u0 : u = 0
  · subst u0
    go_wp2_with fail
    refine (below_any 7 (by omega) _ g a len cap hlen HC2.out B hB (HR.out.below HB2.out)).mono ?_
    rintro e w3 ⟨z, rfl, hz, hc3, hg3⟩
    obtain ⟨hz0, hz1⟩ := hz.2 (by omega)
    have HC3 := Lib.hid hc3
    have HG3 := Lib.hid (grown_trans HG2.out hg3)
    have HO3 : Hid (DrN w3 w.heap.size v ns) := Lib.hid (HO2.out.blocks fun b h1 h2 => hg3.block b h2 (fun e => by have := Option.some.inj e; omega))
    have hs3 : w.heap.size ≤ w3.heap.size := HG3.out.size
    have hw1 : IntKind.i64.wrap (z - 1) = z - 1 := IntWalk.i64_in _ ⟨by omega, by omega⟩
    obtain ⟨op, hop⟩ : ∃ op, z - 1 = op := ⟨_, rfl⟩
    have hwf : (Lit.int .i64 op).wf = true := by simp [Lit.wf, IntKind.min, IntKind.max, IntKind.signed, IntKind.bits]; omega
    rw [hop] at hw1
    obtain ⟨v', w4, hr, hown, hga, hat⟩ := run_oneG nodeCells_len nodeCells_one (ty := 24) (c := 1) Tryz.underlying24 info_node rfl (by decide) (by decide) (bareN op) (cs := #[.int .i64 op, .int .i64 0, .int .i64 0, .int .i64 0, .slice none 0 0, .slice none 0 0]) rfl HO3.out.r rfl (by omega) hs3
    have HF := Lib.hid ((drn_app HO3.out hwf hga hat hown l1 HC3.out HG3.out (Nat.le_refl _) (N := 10) (by omega)).o (Nat.le_refl _))
    clear hz hc3 hg3 hown hga hat hwf
    go_wp2_with (at_builtin; refine Go.Lib.wpList_append_run_sl _ (by rfl) (.tmp 10) (.tmp 15) 24 (by rfl) _ _ (by rfl) (by rfl) hr ?_)
    clear hr
    go_wp2
    go_ret
    exact HF.out
  · have f0 : (u == 0) = false := by simpa using u0
    by_cases u1 : u = 1
    · subst u1
      clear f0 u0
      go_wp2_with fail
      refine (any_wish _ g a len cap hlen HC2.out B hB (HR.out.below HB2.out)).mono ?_
      rintro e w3 ⟨t, rfl, hot, -, hc3, hg3⟩
      have HC3 := Lib.hid hc3
      have HG3 := Lib.hid (grown_trans HG2.out hg3)
      have HO3 : Hid (DrN w3 w.heap.size v ns) := Lib.hid (HO2.out.blocks fun b h1 h2 => hg3.block b h2 (fun e => by have := Option.some.inj e; omega))
      have HT := Lib.hid hot
      have hs3 : w.heap.size ≤ w3.heap.size := HG3.out.size
      obtain ⟨v', w4, hr, hown, hga, hat⟩ := run_oneG nodeCells_len nodeCells_one (ty := 24) (c := 1) Tryz.underlying24 info_node rfl (by decide) (by decide) (⟨0, t⟩ : Nd) (cs := #[.int .i64 0, .int .i64 t.kind, .int .i64 t.field, .int .i64 t.value, .slice t.LA t.Ln t.Lc, .slice t.PA t.Pn t.Pc]) rfl HO3.out.r rfl (by omega) hs3
      have HF : Hid (OutO w g a len cap (.returned v') w4) := Lib.hid (by
        have hb : Below w.heap.size w3 w4 := (Below.refl _ w3).grown hga hs3 (fun k hk => HO3.out.r.lows k hk)
        have hd : DrN w4 w.heap.size v' (ns ++ [⟨0, t⟩]) := HO3.out.more hga hat (by omega) hown (fun x hx => by rw [List.mem_singleton.1 hx]; exact ⟨by show (Lit.int .i64 0).wf = true; decide, HT.out.low hs2⟩) (fun x hx b hb' e => by
          rw [List.mem_singleton.1 hx] at hb'
          have q1 := (HT.out.has_in hb').1
          have q2 := HO2.out.r.tops b e
          omega)
        exact OutD.o (N := 10) ⟨v', _, rfl, hd, by rw [List.length_append]; omega, by rw [List.length_append]; simp; omega, HC3.out.kept (hb.block g hgl), grown_tail HG3.out hb⟩ (Nat.le_refl _))
      clear hot hc3 hg3 hown hga hat
      unfold Wi.val
      go_wp2_with (at_builtin; refine Go.Lib.wpList_append_run_sl _ (by rfl) (.tmp 19) (.tmp 23) 24 (by rfl) _ _ (by rfl) (by rfl) hr ?_)
      clear hr
      go_wp2
      go_ret
      exact HF.out
    · have f1 : (u == 1) = false := by simpa using u1
      have HA : Hid (OutO w g a len cap (.returned v) w2) := Lib.hid (OutD.o (N := 9) ⟨v, ns, rfl, HO2.out, l1, l2, HC2.out, HG2.out⟩ (by decide))
      by_cases u2 : u = 2
      · subst u2
        obtain ⟨m, hm⟩ : ∃ m, ns.length = m + 1 := ⟨ns.length - 1, by omega⟩
        have hro : RowO w2 w.heap.size 57 6 v (m + 1) (ns.flatMap nodeCells) := by have h := RowO.of_own HO2.out.r l1; rwa [hm] at h
        obtain ⟨b, off, c1, rfl, hl, hcm⟩ := hro.shape
        obtain ⟨c, hcc⟩ : ∃ c, c1 = c + 1 := ⟨c1 - 1, by omega⟩
        subst hcc
        have hcm' : c + 1 ≤ 9223372036854775807 := by unfold maxLen at hcm; omega
        have h1c : (1 : Int) ≤ (c : Int) + 1 := by omega
        have h1m : (1 : Int) ≤ (m : Int) + 1 := by omega
        have HRo := Lib.hid hro
        have HDr : Hid (DrN w2 w.heap.size (.slice (some ⟨b, off, none⟩) (m + 1) (c + 1)) ns) := Lib.hid HO2.out
        rcases Nat.eq_zero_or_pos c with c0 | c0
        · subst c0
          obtain rfl : m = 0 := by omega
          have HF : Hid (OutO w g a len cap (.returned (.slice (some ⟨b, off, none⟩) 0 0)) w2) := Lib.hid ⟨_, [], rfl, ⟨HRo.out.none, by simp, by simp⟩, by simp [ShortN], by decide, HC2.out, HG2.out⟩
          clear u0 u1 hl hcm hro
          go_wp2
          go_ret
          exact HF.out
        · have HF : Hid (OutO w g a len cap (.returned (.slice (some ⟨b, off + 6, none⟩) m c)) w2) := Lib.hid ⟨_, ns.drop 1, rfl, ⟨by
              have h := HRo.out.tail
              rw [List.length_drop, hm, Nat.add_sub_cancel]
              have e : (ns.drop 1).flatMap nodeCells = (ns.flatMap nodeCells).drop 6 := by
                cases ns with
                | nil => rfl
                | cons x r => simp [nodeCells]
              rw [e]
              exact h, fun x hx => ⟨(HDr.out.x x (List.mem_of_mem_drop hx)).1, (HDr.out.x x (List.mem_of_mem_drop hx)).2.r⟩, fun x hx b' hb' e => HDr.out.a x (List.mem_of_mem_drop hx) b' hb' e⟩, fun x hx => HDr.out.short x (List.mem_of_mem_drop hx), by rw [List.length_drop]; omega, HC2.out, HG2.out⟩
          have hcne : ¬ (c = 0) := by omega
          have hcne' : ¬ ((c : Int) = 0) := by omega
          have hcp : (0 : Int) < (c : Int) := by omega
          clear u0 u1 hl hcm hro
          go_wp2
          go_ret
          exact HF.out
      · have f2 : (u == 2) = false := by simpa using u2
        clear u0 u1 u2
        go_wp2
        go_ret
        exact HA.out

set_option maxRecDepth 20000 in
set_option maxHeartbeats 3200000 in
theorem draw_six (w : World) (g : Nat) (a : Option Addr) (len cap : Nat) (hlen : len ≤ 1048576) (hc : Cur w g a len cap) (B : Nat) (hB : B ≤ g) (hrow : Row w B a len) :
    Calls Tryz.prog 23 #[.pointer (some ⟨g, 0, none⟩)] w (OutA w g a len cap) := by
  have hgl := hc.lt
  have HR := Lib.hid hrow
  have HI := Lib.hid (any_exp2 w g a len cap hlen hc B hB hrow)
  clear hc hrow
  go_enter Tryz.func23, Tryz.ntmps23
  go_wp2_with fail
  refine HI.out.mono ?_
  rintro e w1 ⟨v, ns, rfl, ho, hsh, hl, hc1, hg1⟩
  have HO := Lib.hid ho
  have HSh := Lib.hid hsh
  have HC1 := Lib.hid hc1
  have HG1 := Lib.hid hg1
  have HB1 := Lib.hid (grown_below hg1 hB (by omega))
  have hs1 : w.heap.size ≤ w1.heap.size := hg1.size
  have hgl1 : g < w1.heap.size := hc1.lt
  clear ho hc1 hg1 hsh HI
  go_wp2_with fail
  refine (below_any 4 (by omega) _ g a len cap hlen HC1.out B hB (HR.out.below HB1.out)).mono ?_
  rintro e w2 ⟨u, rfl, hu, hc2, hg2⟩
  obtain ⟨hu0, hu1⟩ := hu.2 (by omega)
  have HC2 := Lib.hid hc2
  have HG2 := Lib.hid (grown_trans HG1.out hg2)
  have HB2 := Lib.hid (grown_below HG2.out hB (by omega))
  have HO2 : Hid (ShO w2 w.heap.size v ns) := Lib.hid (HO.out.blocks fun b h1 h2 => hg2.block b h2 (fun e => by have := Option.some.inj e; omega))
  have hs2 : w.heap.size ≤ w2.heap.size := HG2.out.size
  have hgl2 : g < w2.heap.size := hc2.lt
  obtain ⟨n, hn⟩ : ∃ n, ns.length = n := ⟨_, rfl⟩
  have HN := Lib.hid hn
  obtain ⟨b0, off, c0, rfl, hle, hcm⟩ := HO2.out.r.shape
  have hc63 : c0 ≤ 9223372036854775807 := by unfold maxLen at hcm; omega
  rw [hn] at hl hle ⊢
  have HO3 : Hid (ShO w2 w.heap.size (.slice (some ⟨b0, off, none⟩) n c0) ns) := Lib.hid (by have h := HO2.out; rwa [hn] at h)
  have HEnd : Hid (∀ (v' : Value) (ns' : List Nd) (w' : World), ShO w' w.heap.size v' ns' → ShortN ns' → ns'.length ≤ 10 → w2.grownBy w' (.some b0) → OutA w g a len cap (.returned v') w') := Lib.hid fun v' ns' w' h1 h2 h3 h4 => by
    obtain ⟨g', o', c', rfl, q1, q2⟩ := h1.r.shape
    have hne : (some g : Option Nat) ≠ some b0 := fun e => by
      have := (HO3.out.r.lows b0 rfl).1
      have := Option.some.inj e
      omega
    exact ⟨_, _, c', ns', rfl, h1.keep rfl, q1, q2, h2, h3, HC2.out.kept (h4.block g hgl2 hne), grown_tail HG2.out ⟨h4.os, h4.tape, h4.output, h4.size, fun k hk => h4.block k (by omega) fun e => by
      have := (HO3.out.r.lows b0 rfl).1
      have := Option.some.inj e
      omega⟩⟩
  have HSame : Hid (OutA w g a len cap (.returned (.slice (some ⟨b0, off, none⟩) n c0)) w2) := Lib.hid (HEnd.out _ ns w2 HO3.out HSh.out (by omega) ⟨rfl, rfl, rfl, Nat.le_refl _, fun _ _ _ => rfl⟩)
  clear hu hc2 hg2 hn HO HO2
  by_cases u0 : u = 0
  · subst u0
    by_cases h8 : n < 8
    · have h8' : (n : Int) < 8 := by omega
      obtain ⟨v', w4, hr, hown, hga⟩ := run_bareO (ty := 24) (c := 1) [bareN 3] (m := 1) rfl (cs := #[.int .i64 3, .int .i64 0, .int .i64 0, .int .i64 0, .slice none 0 0, .slice none 0 0]) rfl HO3.out rfl (by rw [HN.out]; omega) hs2 (fun y hy => by rw [List.mem_singleton.1 hy]; exact ⟨by decide, fun w' => (bare_r w' _ (by decide)).2⟩) (fun y hy b => by rw [List.mem_singleton.1 hy]; exact bare_has 3 b)
      have HF := Lib.hid (HEnd.out _ _ _ hown (short_app HSh.out (short_bare _)) (by rw [List.length_append, HN.out, List.length_singleton]; omega) hga)
      clear hown hga
      go_wp2_with (at_builtin; refine Go.Lib.wpList_append_run_sl _ (by rfl) (.tmp 14) (.tmp 16) 24 (by rfl) _ _ (by rfl) (by rfl) hr ?_)
      clear hr
      go_wp2
      go_ret
      exact HF.out
    · have h8' : ¬ ((n : Int) < 8) := by omega
      go_wp2
      go_ret
      exact HSame.out
  have f0 : (u == 0) = false := by simpa using u0
  by_cases u1 : u = 1
  · subst u1
    clear f0 u0
    by_cases h4 : n ≤ 4
    · have h4' : (n : Int) ≤ 4 := by omega
      go_wp2_with fail
      refine (sCopyN_c w2 w2.heap.size (some ⟨b0, off, none⟩) n c0 ns (HO3.out.nodes HN.out) (Nat.le_refl _) (by omega) HSh.out).mono ?_
      rintro e w3 ⟨vx, kx, rfl, hdx, hsx, hox, hb3⟩
      have hkx : kx.length = n := by rw [datN_len hdx, HN.out]
      have HOx := Lib.hid hox
      have HSx := Lib.hid hsx
      have HO4 : Hid (ShO w3 w.heap.size (.slice (some ⟨b0, off, none⟩) n c0) ns) := Lib.hid (HO3.out.blocks fun b _ h2 => hb3.block b h2)
      have HB3 := Lib.hid hb3
      have hs3 : w2.heap.size ≤ w3.heap.size := hb3.size
      have HC3 : Hid (Cur w3 g a len cap) := Lib.hid (HC2.out.kept (hb3.block g hgl2))
      obtain ⟨v4, w4, hr4, ho4, hg4, hat4⟩ := run_spreadG nodeCells_len nodeCells_one (ty := 24) (c := c0) Tryz.underlying24 info_node rfl (by decide) (by decide) hox.r (HO4.out.nodes HN.out).r (by omega) hs3
      have HG4 := Lib.hid hg4
      have HA4 := Lib.hid hat4
      have HR4 := Lib.hid ho4
      have hs4 : w3.heap.size ≤ w4.heap.size := hg4.size
      have hbx : ∀ b, vx.ownBlock = some b → w2.heap.size ≤ b := fun b e => hox.r.lows b e
      have HBx := Lib.hid hbx
      have HB4 : Hid (Below w2.heap.size w2 w4) := Lib.hid (HB3.out.grown hg4 hs3 (fun k hk => hbx k hk))
      have hgl4 : g < w4.heap.size := by omega
      have HC4 : Hid (Cur w4 g a len cap) := Lib.hid (HC2.out.kept (HB4.out.block g hgl2))
      have HBr4 : Hid (Below B w w4) := Lib.hid (HB2.out.trans (HB4.out.mono (Nat.le_trans hB (by omega))))
      have HX4 : Hid (ShN w3 w.heap.size vx kx) := Lib.hid ⟨hox.r.low hs2, fun x hx => ⟨(hox.sh.x x hx).1, (hox.sh.x x hx).2.low hs2⟩, hox.sh.a⟩
      have HNx : Hid (∀ x ∈ kx ++ ns, (Lit.int .i64 x.op).wf = true ∧ WiR w4 w.heap.size x.t) := Lib.hid fun x hx => by
        rcases List.mem_append.1 hx with h | h
        · obtain ⟨q1, q2⟩ := HX4.out.x x h
          exact ⟨q1, q2.r.blocks fun b hb => hg4.block b (q2.has_in hb).2 fun e => HX4.out.a x h b hb e.symm⟩
        · obtain ⟨q1, q2⟩ := HO4.out.x x h
          refine ⟨q1, q2.blocks fun b hb => hg4.block b (q2.has_in hb).2 fun e => ?_⟩
          have p1 := hbx b e.symm
          have p2 := ((HO3.out.x x h).2.has_in hb).2
          omega
      have HAx : Hid (∀ x ∈ kx ++ ns, ∀ b, x.t.has b → v4.ownBlock ≠ some b) := Lib.hid fun x hx b hb e => by
        have q3 : b < w3.heap.size := by
          rcases List.mem_append.1 hx with h | h
          · exact ((HX4.out.x x h).2.has_in hb).2
          · exact ((HO4.out.x x h).2.has_in hb).2
        rcases hat4 with q | q
        · rcases List.mem_append.1 hx with h | h
          · exact HX4.out.a x h b hb (q ▸ e)
          · have p1 := hbx b (q ▸ e)
            have p2 := ((HO3.out.x x h).2.has_in hb).2
            omega
        · rw [q] at e
          have := Option.some.inj e
          omega
      clear hdx hsx hox hb3 hg4 hat4 ho4 hbx
      go_wp2_with (at_builtin; refine Go.Lib.wpList_append_run_sl _ (by rfl) (.tmp 25) (.tmp 26) 24 (by rfl) _ _ (by rfl) (by rfl) hr4 ?_)
      clear hr4
      go_wp2_with fail
      refine (below_any 2 (by omega) _ g a len cap hlen HC4.out B hB (HR.out.below HBr4.out)).mono ?_
      rintro e w5 ⟨z, rfl, hz, hc5, hg5⟩
      obtain ⟨hz0, hz1⟩ := hz.2 (by omega)
      have hwz : IntKind.i64.wrap (1 + z) = 1 + z := IntWalk.i64_in _ ⟨by omega, by omega⟩
      obtain ⟨op, hop⟩ : ∃ op, 1 + z = op := ⟨_, rfl⟩
      have hwf : (Lit.int .i64 op).wf = true := WalkArith.wf_i64 (n := op) (by omega)
      rw [hop] at hwz
      have hle5 : (kx ++ ns).length = n + n := by rw [List.length_append, hkx, HN.out]
      have hlow : ∀ b, v4.ownBlock = some b → w2.heap.size ≤ b := fun b e => by
        rcases HA4.out with q | q
        · exact HBx.out b (q ▸ e)
        · rw [q] at e
          have := Option.some.inj e
          omega
      have ho5 : OwnG 57 nodeCells 6 w5 w2.heap.size v4 (kx ++ ns) := HR4.out.blocks fun b hb => hg5.block b (HR4.out.tops b hb) fun e => by
        have := hlow b hb
        have := Option.some.inj e
        omega
      have hs5 : w4.heap.size ≤ w5.heap.size := hg5.size
      obtain ⟨v6, w6, hr6, ho6, hg6, hat6⟩ := run_oneG nodeCells_len nodeCells_one (ty := 24) (c := 1) Tryz.underlying24 info_node rfl (by decide) (by decide) (bareN op) (cs := #[.int .i64 op, .int .i64 0, .int .i64 0, .int .i64 0, .slice none 0 0, .slice none 0 0]) rfl ho5 rfl (by rw [hle5]; omega) (by omega)
      have HF : Hid (OutA w g a len cap (.returned v6) w6) := Lib.hid (by
        have hK : ∀ x ∈ kx ++ ns ++ [bareN op], (Lit.int .i64 x.op).wf = true ∧ WiR w6 w.heap.size x.t := fun x hx => by
          rcases List.mem_append.1 hx with h | h
          · obtain ⟨p1, p2⟩ := HNx.out x h
            have p3 : WiR w5 w.heap.size x.t := p2.blocks fun b hb => hg5.block b (p2.has_in hb).2 fun e => by
              have := (p2.has_in hb).1
              have := Option.some.inj e
              omega
            exact ⟨p1, p3.blocks fun b hb => hg6.block b (p3.has_in hb).2 fun e => HAx.out x h b hb e.symm⟩
          · rw [List.mem_singleton.1 h]
            exact bare_r _ _ hwf
        have hS : ShO w6 w.heap.size v6 (kx ++ ns ++ [bareN op]) := ⟨.of_own (ho6.low hs2) (by rw [List.length_append, List.length_singleton]; omega), hK, fun x hx b hb e => by
          rcases List.mem_append.1 hx with h | h
          · have p2 := ((HNx.out x h).2.has_in hb).2
            rcases hat6 with q | q
            · exact HAx.out x h b hb (q ▸ e)
            · rw [q] at e
              have := Option.some.inj e
              omega
          · rw [List.mem_singleton.1 h] at hb
            exact bare_has op b hb⟩
        have hgr : w.grownBy w6 (some g) := grown_tail (grown_trans (grown_tail HG2.out (HB4.out.mono hs2)) hg5) ((Below.refl w.heap.size w5).grown hg6 (by omega) fun k hk => by have := hlow k hk; omega)
        have hcur : Cur w6 g a len cap := hc5.kept (hg6.block g (by omega) fun e => by
          have := hlow g e.symm
          omega)
        obtain ⟨g6, o6, c6, rfl, q1, q2⟩ := hS.r.shape
        exact ⟨_, _, c6, _, rfl, hS.keep rfl, q1, q2, short_app (short_app HSx.out HSh.out) (short_bare _), by rw [List.length_append, List.length_singleton, hle5]; omega, hcur, hgr⟩)
      clear hz hc5 hg5 ho5 hg6 hat6 ho6
      go_wp2_with (at_builtin; refine Go.Lib.wpList_append_run_sl _ (by rfl) (.tmp 27) (.tmp 32) 24 (by rfl) _ _ (by rfl) (by rfl) hr6 ?_)
      clear hr6
      go_wp2
      go_ret
      exact HF.out
    · have h4' : ¬ ((n : Int) ≤ 4) := by omega
      go_wp2
      go_ret
      exact HSame.out
  have f1 : (u == 1) = false := by simpa using u1
  by_cases u2 : u = 2
  · subst u2
    clear f0 u0 f1 u1
    by_cases h7 : n < 7
    · have h7' : (n : Int) < 7 := by omega
      obtain ⟨v', w4, hr, hown, hga⟩ := run_bareO (ty := 24) (c := 2) [bareN 3, bareN 3] (m := 2) rfl (cs := #[.int .i64 3, .int .i64 0, .int .i64 0, .int .i64 0, .slice none 0 0, .slice none 0 0, .int .i64 3, .int .i64 0, .int .i64 0, .int .i64 0, .slice none 0 0, .slice none 0 0]) rfl HO3.out rfl (by rw [HN.out]; omega) hs2 (fun y hy => by
        rcases List.mem_cons.1 hy with e | hy
        · rw [e]; exact ⟨by decide, fun w' => (bare_r w' _ (by decide)).2⟩
        · rw [List.mem_singleton.1 hy]; exact ⟨by decide, fun w' => (bare_r w' _ (by decide)).2⟩) (fun y hy b => by
        rcases List.mem_cons.1 hy with e | hy
        · rw [e]; exact bare_has 3 b
        · rw [List.mem_singleton.1 hy]; exact bare_has 3 b)
      have HF := Lib.hid (HEnd.out _ _ _ hown (short_app HSh.out (fun y hy => by
        rcases List.mem_cons.1 hy with e | hy
        · exact short_bare 3 y (by rw [e]; exact List.mem_singleton.2 rfl)
        · exact short_bare 3 y hy)) (by rw [List.length_append, HN.out]; show n + 2 ≤ 10; omega) hga)
      clear hown hga
      go_wp2_with (at_builtin; refine Go.Lib.wpList_append_run_sl _ (by rfl) (.tmp 39) (.tmp 42) 24 (by rfl) _ _ (by rfl) (by rfl) hr ?_)
      clear hr
      go_wp2
      go_ret
      exact HF.out
    · have h7' : ¬ ((n : Int) < 7) := by omega
      go_wp2
      go_ret
      exact HSame.out
  have f2 : (u == 2) = false := by simpa using u2
  clear u0 u1 u2
  go_wp2
  go_ret
  exact HSame.out
/-- An expression that was drawn, and what stands beside it. -/
def Ex (w : World) (A : Option Addr) (n c : Nat) (ns : List Nd) : Prop := Nodes w w.heap.size A n ns ∧ n ≤ c ∧ c ≤ maxLen ∧ ShortN ns ∧ n ≤ 10
theorem draw_norm (w : World) (a : Option Addr) (len cap : Nat) (hlen : len ≤ 1048576) (hrow : Row w w.heap.size a len) :
    Calls Tryz.prog 12 #[.slice a len cap] w fun e w' => ∃ A n c ns, e = .returned (.slice A n c) ∧ Ex w' A n c ns ∧ Below w.heap.size w w' := by
  have HR := Lib.hid hrow
  clear hrow
  go_enter Tryz.func12, Tryz.ntmps12
  go_wp2_with fail
  refine (new_any w a len cap hlen w.heap.size HR.out).mono ?_
  rintro e w1 ⟨g, rfl, hgw, hc1, hb1⟩
  have HC1 := Lib.hid hc1
  have HB1 := Lib.hid hb1
  clear hc1 hb1
  go_wp2_with fail
  refine (draw_six w1 g a len cap hlen HC1.out w.heap.size hgw (HR.out.below HB1.out)).mono ?_
  rintro e w2 ⟨A, n, c, ns, rfl, hK, q1, q2, q3, q4, hc2, hg2⟩
  have HF := Lib.hid (And.intro (And.intro hK.now (And.intro q1 (And.intro q2 (And.intro q3 q4)))) (HB1.out.trans (grown_below hg2 hgw HB1.out.size)))
  clear hK q1 q2 q3 q4 hc2 hg2
  go_wp2
  go_ret
  exact ⟨A, n, c, ns, rfl, HF.out.1, HF.out.2⟩
theorem draw_sub (w : World) (a : Option Addr) (len cap : Nat) (hlen : len ≤ 1048576) (hrow : Row w w.heap.size a len) :
    Calls Tryz.prog 19 #[.slice a len cap] w fun e w' => ∃ A n c ns, ∃ k : Int, e = .returned (.tuple #[.slice A n c, .int .i64 k]) ∧ Ex w' A n c ns ∧ Below w.heap.size w w' := by
  have HR := Lib.hid hrow
  clear hrow
  go_enter Tryz.func19, Tryz.ntmps19
  go_wp2_with fail
  refine (new_any w a len cap hlen w.heap.size HR.out).mono ?_
  rintro e w1 ⟨g, rfl, hgw, hc1, hb1⟩
  have HC1 := Lib.hid hc1
  have HB1 := Lib.hid hb1
  clear hc1 hb1
  go_wp2_with fail
  refine (draw_six w1 g a len cap hlen HC1.out w.heap.size hgw (HR.out.below HB1.out)).mono ?_
  rintro e w2 ⟨A, n, c, ns, rfl, hK, q1, q2, q3, q4, hc2, hg2⟩
  have HK := Lib.hid hK
  have HQ := Lib.hid (And.intro q1 (And.intro q2 (And.intro q3 q4)))
  have HC2 := Lib.hid hc2
  have HB2 := Lib.hid (HB1.out.trans (grown_below hg2 hgw HB1.out.size))
  have hs1 : w.heap.size ≤ w1.heap.size := HB1.out.size
  have hgl1 : g < w1.heap.size := HC1.out.lt
  clear hK q1 q2 q3 q4 hc2 hg2
  go_wp2_with fail
  refine (below_any 10 (by omega) _ g a len cap hlen HC2.out w.heap.size hgw (HR.out.below HB2.out)).mono ?_
  rintro e w3 ⟨u, rfl, hu, hc3, hg3⟩
  obtain ⟨hu0, hu1⟩ := hu.2 (by omega)
  have hw1 : IntKind.i64.wrap (u - 1) = u - 1 := IntWalk.i64_in _ ⟨by omega, by omega⟩
  have HF := Lib.hid (And.intro (And.intro (HK.out.step hg3.size (fun b h1 h2 => hg3.block b h2 (fun e => by have := Option.some.inj e; omega))).now HQ.out) (HB2.out.trans (grown_below hg3 hgw HB2.out.size)))
  clear hu hc3 hg3
  go_wp2
  go_ret2
  exact ⟨A, n, c, ns, _, rfl, HF.out.1, HF.out.2⟩
set_option maxHeartbeats 800000 in
theorem draw_apply (w : World) (a : Option Addr) (len cap : Nat) (hlen : len ≤ 1048576) (hrow : Row w w.heap.size a len) :
    Calls Tryz.prog 5 #[.slice a len cap] w fun e w' => ∃ A n c ns, ∃ r k : Int, e = .returned (.tuple #[.slice A n c, .int .i64 r, .int .i64 k]) ∧ Ex w' A n c ns ∧ Below w.heap.size w w' := by
  have HR := Lib.hid hrow
  clear hrow
  go_enter Tryz.func5, Tryz.ntmps5
  go_wp2_with fail
  refine (new_any w a len cap hlen w.heap.size HR.out).mono ?_
  rintro e w1 ⟨g, rfl, hgw, hc1, hb1⟩
  have HC1 := Lib.hid hc1
  have HB1 := Lib.hid hb1
  clear hc1 hb1
  go_wp2_with fail
  refine (draw_six w1 g a len cap hlen HC1.out w.heap.size hgw (HR.out.below HB1.out)).mono ?_
  rintro e w2 ⟨A, n, c, ns, rfl, hK, q1, q2, q3, q4, hc2, hg2⟩
  have HK := Lib.hid hK
  have HQ := Lib.hid (And.intro q1 (And.intro q2 (And.intro q3 q4)))
  have HC2 := Lib.hid hc2
  have HB2 := Lib.hid (HB1.out.trans (grown_below hg2 hgw HB1.out.size))
  have hs1 : w.heap.size ≤ w1.heap.size := HB1.out.size
  have hgl1 : g < w1.heap.size := HC1.out.lt
  have hn10 : n ≤ 10 := q4
  clear hK q1 q2 q3 q4 hc2 hg2
  go_wp2_with fail
  refine (below_any 6 (by omega) _ g a len cap hlen HC2.out w.heap.size hgw (HR.out.below HB2.out)).mono ?_
  rintro e w3 ⟨r, rfl, hr, hc3, hg3⟩
  have HC3 := Lib.hid hc3
  have HB3 := Lib.hid (HB2.out.trans (grown_below hg3 hgw HB2.out.size))
  have HK3 := Lib.hid (HK.out.step hg3.size (fun b h1 h2 => hg3.block b h2 (fun e => by have := Option.some.inj e; omega)))
  clear hr hc3 hg3
  rcases Nat.eq_zero_or_pos n with hn0 | hn0
  · subst hn0
    go_wp2_with fail
    refine (below_any 10 (by omega) _ g a len cap hlen HC3.out w.heap.size hgw (HR.out.below HB3.out)).mono ?_
    rintro e w4 ⟨u, rfl, hu, hc4, hg4⟩
    obtain ⟨hu0, hu1⟩ := hu.2 (by omega)
    have hw1 : IntKind.i64.wrap (u - 1) = u - 1 := IntWalk.i64_in _ ⟨by omega, by omega⟩
    have HF := Lib.hid (And.intro (And.intro (HK3.out.step hg4.size (fun b h1 h2 => hg4.block b h2 (fun e => by have := Option.some.inj e; omega))).now HQ.out) (HB3.out.trans (grown_below hg4 hgw HB3.out.size)))
    clear hu hc4 hg4
    go_wp2
    go_ret3
    exact ⟨A, 0, c, ns, _, _, rfl, HF.out.1, HF.out.2⟩
  · have hn0' : (0 : Int) < (n : Int) := by omega
    have hwn : IntKind.i64.wrap ((n : Int) - 1) = (n : Int) - 1 := IntWalk.i64_in _ ⟨by omega, by omega⟩
    go_wp2_with fail
    refine (once_any 4 (by omega) _ g a len cap hlen HC3.out w.heap.size hgw (HR.out.below HB3.out)).mono ?_
    rintro e w4 ⟨b, rfl, hc4, hg4⟩
    have HC4 := Lib.hid hc4
    have HB4 := Lib.hid (HB3.out.trans (grown_below hg4 hgw HB3.out.size))
    have HK4 := Lib.hid (HK3.out.step hg4.size (fun b h1 h2 => hg4.block b h2 (fun e => by have := Option.some.inj e; omega)))
    clear hc4 hg4
    cases b
    · have HF := Lib.hid (And.intro (And.intro HK4.out.now HQ.out) HB4.out)
      go_wp2
      go_ret3
      exact ⟨A, n, c, ns, _, _, rfl, HF.out.1, HF.out.2⟩
    · go_wp2_with fail
      refine (below_any 10 (by omega) _ g a len cap hlen HC4.out w.heap.size hgw (HR.out.below HB4.out)).mono ?_
      rintro e w5 ⟨u, rfl, hu, hc5, hg5⟩
      obtain ⟨hu0, hu1⟩ := hu.2 (by omega)
      have hw1 : IntKind.i64.wrap (u - 1) = u - 1 := IntWalk.i64_in _ ⟨by omega, by omega⟩
      have HF := Lib.hid (And.intro (And.intro (HK4.out.step hg5.size (fun b h1 h2 => hg5.block b h2 (fun e => by have := Option.some.inj e; omega))).now HQ.out) (HB4.out.trans (grown_below hg5 hgw HB4.out.size)))
      clear hu hc5 hg5
      go_wp2
      go_ret3
      exact ⟨A, n, c, ns, _, _, rfl, HF.out.1, HF.out.2⟩
/-- Items that were drawn. -/
def Its (w : World) (A : Option Addr) (n c : Nat) (its : List It) : Prop := Items w w.heap.size A n its ∧ (∀ t ∈ its, t.n ≤ 1048576) ∧ n ≤ c ∧ c ≤ maxLen ∧ n ≤ 8
theorem draw_items (w : World) (a : Option Addr) (len cap : Nat) (hlen : len ≤ 1048576) (hrow : Row w w.heap.size a len) :
    Calls Tryz.prog 8 #[.slice a len cap] w fun e w' => ∃ A n c its, e = .returned (.slice A n c) ∧ Its w' A n c its ∧ Below w.heap.size w w' := by
  have HR := Lib.hid hrow
  clear hrow
  go_enter Tryz.func8, Tryz.ntmps8
  go_wp2_with fail
  refine (new_any w a len cap hlen w.heap.size HR.out).mono ?_
  rintro e w1 ⟨g, rfl, hgw, hc1, hb1⟩
  have HC1 := Lib.hid hc1
  have HB1 := Lib.hid hb1
  clear hc1 hb1
  go_wp2_with fail
  refine (any_items w1 g a len cap hlen HC1.out w.heap.size hgw (HR.out.below HB1.out)).mono ?_
  rintro e w2 ⟨v, its, rfl, ho, hl, hc2, hg2⟩
  obtain ⟨A, n, c, rfl, hI⟩ := ho.read hl
  have HF := Lib.hid (And.intro hI (HB1.out.trans (grown_below hg2 hgw HB1.out.size)))
  clear ho hc2 hg2 hI
  go_wp2
  go_ret
  exact ⟨A, n, c, its, rfl, HF.out.1, HF.out.2⟩
set_option maxHeartbeats 800000 in
theorem draw_agree (w : World) (a : Option Addr) (len cap : Nat) (hlen : len ≤ 1048576) (hrow : Row w w.heap.size a len) :
    Calls Tryz.prog 18 #[.slice a len cap] w fun e w' => ∃ A n c ns A' n' c' ns' A2 n2 c2 its, e = .returned (.tuple #[.slice A n c, .slice A' n' c', .slice A2 n2 c2]) ∧ Ex w' A n c ns ∧ Ex w' A' n' c' ns' ∧ Its w' A2 n2 c2 its ∧ Below w.heap.size w w' := by
  have HR := Lib.hid hrow
  clear hrow
  go_enter Tryz.func18, Tryz.ntmps18
  go_wp2_with fail
  refine (new_any w a len cap hlen w.heap.size HR.out).mono ?_
  rintro e w1 ⟨g, rfl, hgw, hc1, hb1⟩
  have HC1 := Lib.hid hc1
  have HB1 := Lib.hid hb1
  clear hc1 hb1
  go_wp2_with fail
  refine (draw_six w1 g a len cap hlen HC1.out w.heap.size hgw (HR.out.below HB1.out)).mono ?_
  rintro e w2 ⟨A, n, c, ns, rfl, hK, q1, q2, q3, q4, hc2, hg2⟩
  have HK := Lib.hid hK
  have HQ := Lib.hid (And.intro q1 (And.intro q2 (And.intro q3 q4)))
  have HC2 := Lib.hid hc2
  have HB2 := Lib.hid (HB1.out.trans (grown_below hg2 hgw HB1.out.size))
  have hs1 : w.heap.size ≤ w1.heap.size := HB1.out.size
  have hgl1 : g < w1.heap.size := HC1.out.lt
  have hgl2 : g < w2.heap.size := hc2.lt
  clear hK q1 q2 q3 q4 hc2 hg2
  obtain ⟨out, hout⟩ := NormR.ex 60 (datN ns)
  have h10 : out.length ≤ 10 := hout.len (by decide) (by rw [datN_length, HK.out.now.len]; exact HQ.out.2.2.2)
  have HOut := Lib.hid hout
  clear hout
  go_wp2_with fail
  refine (sNormalize w2 w2.heap.size A n c ns HK.out.now (Nat.le_refl _) (Nat.le_trans HQ.out.2.2.2 (by decide)) HQ.out.2.2.1 out HOut.out).mono ?_
  rintro e w3 ⟨v3, k3, rfl, hd3, hs3, ho3, hb3⟩
  have hk3 : k3.length ≤ 10 := by rw [← datN_length, hd3]; exact h10
  have HO3 := Lib.hid ho3
  have HS3 := Lib.hid hs3
  have HB3 := Lib.hid (below_on HB2.out hb3)
  have HK3 := Lib.hid (HK.out.step hb3.size (fun b h1 h2 => hb3.block b h2))
  have HC3 : Hid (Cur w3 g a len cap) := Lib.hid (HC2.out.kept (hb3.block g hgl2))
  have hgl3 : g < w3.heap.size := HC3.out.lt
  have hs23 : w2.heap.size ≤ w3.heap.size := hb3.size
  clear hd3 hs3 ho3 hb3
  go_wp2_with fail
  refine (once_any 3 (by omega) _ g a len cap hlen HC3.out w.heap.size hgw (HR.out.below HB3.out)).mono ?_
  rintro e w4 ⟨b, rfl, hc4, hg4⟩
  have HC4 := Lib.hid hc4
  have HB4 := Lib.hid (HB3.out.trans (grown_below hg4 hgw HB3.out.size))
  have HK4 := Lib.hid (HK3.out.step hg4.size (fun b h1 h2 => hg4.block b h2 (fun e => by have := Option.some.inj e; omega)))
  have HO4 : Hid (OwnN w4 w2.heap.size v3 k3) := Lib.hid (HO3.out.blocks fun b hb => hg4.block b (HO3.out.has_in hb).2 (fun e => by have := (HO3.out.has_in hb).1; have := Option.some.inj e; omega))
  have hs34 : w3.heap.size ≤ w4.heap.size := hg4.size
  clear hc4 hg4
  cases b
  · go_wp2_with fail
    refine (any_items w4 g a len cap hlen HC4.out w.heap.size hgw (HR.out.below HB4.out)).mono ?_
    rintro e w5 ⟨v5, its, rfl, ho5, hl5, hc5, hg5⟩
    obtain ⟨A5, n5, c5, rfl, hI⟩ := ho5.read hl5
    have hO5 : OwnN w5 w2.heap.size v3 k3 := HO4.out.blocks fun b hb => hg5.block b (HO4.out.has_in hb).2 (fun e => by have := (HO4.out.has_in hb).1; have := Option.some.inj e; omega)
    obtain ⟨A3, c3, rfl, p1, p2⟩ := hO5.r.shape
    have HF := Lib.hid (And.intro (And.intro (HK4.out.step hg5.size (fun b h1 h2 => hg5.block b h2 (fun e => by have := Option.some.inj e; omega))).now HQ.out) (And.intro (show Ex w5 A3 k3.length c3 k3 from ⟨hO5.nodes, p1, p2, HS3.out, hk3⟩) (And.intro hI (HB4.out.trans (grown_below hg5 hgw HB4.out.size)))))
    clear ho5 hc5 hg5 hI hO5 p1 p2
    go_wp2
    go_ret3
    exact ⟨A, n, c, ns, _, _, _, k3, A5, n5, c5, its, rfl, HF.out.1, HF.out.2.1, HF.out.2.2.1, HF.out.2.2.2⟩
  · go_wp2_with fail
    refine (any_expression w4 g a len cap hlen HC4.out w.heap.size hgw (HR.out.below HB4.out)).mono ?_
    rintro e w5 ⟨A3, n3, c3, ns3, rfl, hN3, p1, p2, p3, p4, hc5, hg5⟩
    have HC5 := Lib.hid hc5
    have HB5 := Lib.hid (HB4.out.trans (grown_below hg5 hgw HB4.out.size))
    have HK5 := Lib.hid (HK4.out.step hg5.size (fun b h1 h2 => hg5.block b h2 (fun e => by have := Option.some.inj e; omega)))
    have HN3 := Lib.hid hN3
    have HP := Lib.hid (And.intro p1 (And.intro p2 (And.intro p3 p4)))
    have hs45 : w4.heap.size ≤ w5.heap.size := hg5.size
    clear hc5 hg5 hN3 p1 p2 p3 p4
    go_wp2_with fail
    refine (any_items w5 g a len cap hlen HC5.out w.heap.size hgw (HR.out.below HB5.out)).mono ?_
    rintro e w6 ⟨v6, its, rfl, ho6, hl6, hc6, hg6⟩
    obtain ⟨A6, n6, c6, rfl, hI⟩ := ho6.read hl6
    have HF := Lib.hid (And.intro (And.intro (HK5.out.step hg6.size (fun b h1 h2 => hg6.block b h2 (fun e => by have := Option.some.inj e; omega))).now HQ.out) (And.intro (And.intro (HN3.out.step hg6.size (fun b h1 h2 => hg6.block b h2 (fun e => by have := Option.some.inj e; omega))).now HP.out) (And.intro hI (HB5.out.trans (grown_below hg6 hgw HB5.out.size)))))
    clear ho6 hc6 hg6 hI
    go_wp2
    go_ret3
    exact ⟨A, n, c, ns, A3, n3, c3, ns3, A6, n6, c6, its, rfl, HF.out.1, HF.out.2.1, HF.out.2.2.1, HF.out.2.2.2⟩
end Go.Proofs.YtaijajajpnekbaaGreat.num
namespace Go.Proofs.YtaijajajpnekbaaGreat.num
set_option maxRecDepth 20000
open Go.RowKit Go.Maps
set_option linter.unusedVariables false
set_option linter.unusedSimpArgs false

theorem Items.wide {w w' : World} {A : Option Addr} {n : Nat} {its : List It} (h : Items w w.heap.size A n its) (hb : Below w.heap.size w w') : Items w' w'.heap.size A n its :=
  ⟨h.1, fun k hk => by
    obtain ⟨b, off, ha, hB, h1, h2, h3⟩ := (h.below hb).2 k hk
    exact ⟨b, off, ha, Nat.lt_of_lt_of_le hB hb.size, h1, h2, h3.more hb.size⟩⟩
theorem Ex.step {w w' : World} {A : Option Addr} {n c : Nat} {ns : List Nd} (h : Ex w A n c ns) (hb : Below w.heap.size w w') : Ex w' A n c ns := ⟨h.1.step hb, h.2⟩
theorem Its.step {w w' : World} {A : Option Addr} {n c : Nat} {its : List It} (h : Its w A n c its) (hb : Below w.heap.size w w') : Its w' A n c its := ⟨h.1.wide hb, h.2⟩
theorem Ex.c63 {w : World} {A : Option Addr} {n c : Nat} {ns : List Nd} (h : Ex w A n c ns) : c ≤ 9223372036854775807 := by have := h.2.2.1; unfold maxLen at this; omega
theorem Ex.n20 {w : World} {A : Option Addr} {n c : Nat} {ns : List Nd} (h : Ex w A n c ns) : n ≤ 1048576 := by have := h.2.2.2.2; omega
/-- A slice of the call's own is one of these. -/
theorem Ex.own {w : World} {lo : Nat} {v : Value} {ns : List Nd} {D : List ND} (h : OwnN w lo v ns) (hs : ShortN ns) (hd : datN ns = D) (hD : D.length ≤ 10) : ∃ A n c, v = .slice A n c ∧ n = D.length ∧ Ex w A n c ns := by
  obtain ⟨A, c, rfl, h1, h2⟩ := h.r.shape
  have hl : ns.length = D.length := by rw [← hd, datN_length]
  exact ⟨A, _, c, rfl, hl, h.nodes, h1, h2, hs, by omega⟩
theorem agree_same {nds r : List ND} (h1 : IsE nds) (h2 : IsE r) {t t' : Tr} (ht : Post nds t) (ht' : Post r t') (hs : Same t t') (its : List It) : AgreeP nds r its := fun x _ y _ z1 z2 g1 g2 => by
  by_cases h : IsP x.dat ∧ IsP y.dat
  · have e1 := g1.one (.inl ⟨t, h1, ht, h.1, h.2, rfl⟩)
    have e2 := g2.one (.inl ⟨t', h2, ht', h.1, h.2, rfl⟩)
    rw [e1, e2]
    exact hs _ (wishF_code x y)
  · have e1 := g1.one (.inr ⟨fun g => h g.2, rfl⟩)
    have e2 := g2.one (.inr ⟨fun g => h g.2, rfl⟩)
    rw [e1, e2]
theorem agree_app {nds r : List ND} {rule pos : Int} (h : AppY nds rule pos r) (its : List It) : AgreeP nds r its := by
  obtain ⟨_, t, ht⟩ := h.pos.2.2.2.2
  obtain ⟨h1, h2, t', ht', hs, _⟩ := h.tree ht
  exact agree_same h1 h2 ht ht' hs its
theorem agree_norm {m : Nat} {nds out : List ND} (h : NormR m nds out) (he : IsE nds) (its : List It) : AgreeP nds out its := by
  obtain ⟨_, t, ht⟩ := id he
  obtain ⟨h2, t', ht', hs, _⟩ := h.tree he ht
  exact agree_same he h2 ht ht' hs its
theorem AppA.no {nds D : List ND} {rule pos : Int} (h : AppA nds rule pos false D) : D = nds := by
  obtain ⟨o, _, h1, rfl⟩ := h
  cases o with
  | none => rfl
  | some r => cases h1
theorem AppA.yes {nds D : List ND} {rule pos : Int} (h : AppA nds rule pos true D) : AppY nds rule pos D := by
  obtain ⟨o, ho, h1, rfl⟩ := h
  cases o with
  | none => cases h1
  | some r => exact ho
theorem AppA.len10 {nds D : List ND} {rule pos : Int} {r : Bool} (h : AppA nds rule pos r D) (hn : nds.length ≤ 10) : D.length ≤ 10 := by
  obtain ⟨o, ho, _, rfl⟩ := h
  cases o with
  | none => exact hn
  | some r => exact Nat.le_trans (AppY.len ho) (by decide)
theorem SubD.len10 {nds : List ND} {pos : Int} {out : List ND} (h : SubD nds pos out) : out.length ≤ 10 := by
  rcases h with ⟨k, i, s, _, ha, rfl⟩ | ⟨_, rfl⟩
  · have := ha.len9; omega
  · exact Nat.zero_le _
theorem SubD.valid {nds : List ND} {pos : Int} {out : List ND} (h : SubD nds pos out) (hn : 0 < out.length) : IsE out := by
  rcases h with ⟨k, i, s, _, ha, rfl⟩ | ⟨_, rfl⟩
  · exact ⟨ha.len9, s, flat_post ha.ok⟩
  · exact absurd hn (Nat.lt_irrefl _)
/-- In a normal expression the exchange alone is possible. -/
theorem RewL.comm {nds : List ND} {D : List RW} (h : RewL nds nds.length 0 D) (hn : Normal nds) {x : RW} (hx : x ∈ D) : x.rule = 4 ∧ ∀ its, AgreeP nds x.after its := by
  have hy := h.mem.1 x hx
  refine ⟨?_, fun its => agree_app hy its⟩
  have hp := hy.pos
  by_cases h3 : x.rule ≤ 3
  · exact absurd hy (hn _ _ _ h3)
  · omega
set_option maxRecDepth 100000 in
set_option maxHeartbeats 16000000 in
theorem rewrites_walk (a : Option Addr) (len cap : Nat) (hlm : len ≤ 9223372036854775807) (w : World) (hrow : Row w w.heap.size a len) :
    Calls Tryz.prog 3 #[.slice a len cap] w fun e w' => e = .returned (.bool true) ∧ Below w.heap.size w w' := by
  have HR := Lib.hid hrow
  clear hrow
  obtain ⟨q0, hq0⟩ := bool_of (1048576 < len)
  go_enter Tryz.func3, Tryz.ntmps3
  go_wp2_with fail
  refine (big_any a len cap q0 hq0 hlm _).mono ?_
  rintro e w0 ⟨rfl, hw0⟩
  have HB0 : Hid (Below w.heap.size w w0) := Lib.hid (by rw [← hw0]; exact Below.refl _ _)
  have HR0 : Hid (Row w0 w0.heap.size a len) := Lib.hid (by rw [← hw0]; exact HR.out)
  clear hw0 HR
  cases q0
  case true =>
    go_wp2
    go_ret
    exact ⟨rfl, HB0.out⟩
  have hlen : len ≤ 1048576 := by
    rcases Nat.lt_or_ge 1048576 len with h | h
    · have := hq0.2 h; cases this
    · exact h
  clear hq0
  have HL := Lib.hid hlen
  clear hlen
  go_wp2_with fail
  refine (draw_apply w0 a len cap HL.out HR0.out).mono ?_
  rintro e w1 ⟨A1, n1, c1, s1, rule, pos, rfl, hE, hb1⟩
  have HB1 := Lib.hid (below_on HB0.out hb1)
  have HR1 : Hid (Row w1 w1.heap.size a len) := Lib.hid (HR0.out.below hb1).wide
  have E_1 := Lib.hid hE
  clear hb1 hE
  clear HB0 HR0
  obtain ⟨r, D, hD⟩ := AppA.ex (datN s1) rule pos
  have HD := Lib.hid hD
  have HD10 : Hid (D.length ≤ 10) := Lib.hid (hD.len10 (by rw [datN_length, E_1.out.1.len]; exact E_1.out.2.2.2.2))
  have hrr : (r != r) = false := by simp
  clear hD
  go_wp2_with fail
  refine (iApplyA w1 w1.heap.size A1 n1 c1 s1 rule pos E_1.out.1 (Nat.le_refl _) E_1.out.2.1 E_1.out.c63 E_1.out.n20 E_1.out.2.2.2.1 r D HD.out).mono ?_
  rintro e w2 ⟨v, s2, rfl, hd, hs, ho, hb2⟩
  obtain ⟨A2, n2, c2, rfl, hl, he⟩ := Ex.own ho hs hd (HD10.out)
  have HB2 := Lib.hid (below_on HB1.out hb2)
  have HR2 : Hid (Row w2 w2.heap.size a len) := Lib.hid (HR1.out.below hb2).wide
  have E_2 := Lib.hid (E_1.out.step hb2)
  have X_2 := Lib.hid he
  have DX := Lib.hid hd
  have LX := Lib.hid hl
  clear hb2 hd hs ho hl he
  clear HB1 HR1 E_1
  go_wp2_with fail
  refine (sApplyA w2 w2.heap.size A1 n1 c1 s1 rule pos E_2.out.1 (Nat.le_refl _) E_2.out.2.1 E_2.out.c63 E_2.out.n20 E_2.out.2.2.2.1 r D HD.out).mono ?_
  rintro e w3 ⟨v, s3, rfl, hd, hs, ho, hb3⟩
  obtain ⟨A3, n3, c3, rfl, hl, he⟩ := Ex.own ho hs hd (HD10.out)
  have HB3 := Lib.hid (below_on HB2.out hb3)
  have HR3 : Hid (Row w3 w3.heap.size a len) := Lib.hid (HR2.out.below hb3).wide
  have E_3 := Lib.hid (E_2.out.step hb3)
  have X_3 := Lib.hid (X_2.out.step hb3)
  have Y_3 := Lib.hid he
  have DY := Lib.hid hd
  have LY := Lib.hid hl
  clear hb3 hd hs ho hl he
  clear HB2 HR2 E_2 X_2
  go_wp2_with fail
  refine (draw_items w3 a len cap HL.out HR3.out).mono ?_
  rintro e w4 ⟨Ai, ni, ci, li, rfl, hI, hb4⟩
  have HB4 := Lib.hid (below_on HB3.out hb4)
  have HR4 : Hid (Row w4 w4.heap.size a len) := Lib.hid (HR3.out.below hb4).wide
  have E_4 := Lib.hid (E_3.out.step hb4)
  have X_4 := Lib.hid (X_3.out.step hb4)
  have Y_4 := Lib.hid (Y_3.out.step hb4)
  have LI_4 := Lib.hid hI
  clear hb4 hI
  clear HB3 HR3 E_3 X_3 Y_3
  go_wp2_with fail
  refine (sEqE w4 w4.heap.size A2 A3 n2 n3 c2 c3 s2 s3 X_4.out.1 Y_4.out.1 (Nat.le_refl _) X_4.out.n20 X_4.out.2.2.2.1 true (by rw [DX.out, DY.out]; simp)).mono ?_
  rintro e w5 ⟨rfl, hb5⟩
  have HB5 := Lib.hid (below_on HB4.out hb5)
  have HR5 : Hid (Row w5 w5.heap.size a len) := Lib.hid (HR4.out.below hb5).wide
  have E_5 := Lib.hid (E_4.out.step hb5)
  have X_5 := Lib.hid (X_4.out.step hb5)
  have Y_5 := Lib.hid (Y_4.out.step hb5)
  have LI_5 := Lib.hid (LI_4.out.step hb5)
  clear hb5
  clear HB4 HR4 E_4 X_4 Y_4 LI_4
  cases r
  · go_wp2_with fail
    refine (sEqE w5 w5.heap.size A2 A1 n2 n1 c2 c1 s2 s1 X_5.out.1 E_5.out.1 (Nat.le_refl _) X_5.out.n20 X_5.out.2.2.2.1 true (by rw [DX.out, HD.out.no]; simp)).mono ?_
    rintro e w6 ⟨rfl, hb6⟩
    have HB6 := Lib.hid (below_on HB5.out hb6)
    have HR6 : Hid (Row w6 w6.heap.size a len) := Lib.hid (HR5.out.below hb6).wide
    have E_6 := Lib.hid (E_5.out.step hb6)
    have X_6 := Lib.hid (X_5.out.step hb6)
    have Y_6 := Lib.hid (Y_5.out.step hb6)
    have LI_6 := Lib.hid (LI_5.out.step hb6)
    clear hb6
    clear HB5 HR5 E_5 X_5 Y_5 LI_5
    clear HD
    go_wp2_with fail
    refine (draw_norm w6 a len cap HL.out HR6.out).mono ?_
    rintro e w7 ⟨A4, n4, c4, s4, rfl, hF, hb7⟩
    have HB7 := Lib.hid (below_on HB6.out hb7)
    have HR7 : Hid (Row w7 w7.heap.size a len) := Lib.hid (HR6.out.below hb7).wide
    have LI_7 := Lib.hid (LI_6.out.step hb7)
    have Fx_7 := Lib.hid hF
    clear hb7 hF
    clear HB6 HR6 LI_6
    obtain ⟨U, hU⟩ := NormR.ex 60 (datN s4)
    have HU := Lib.hid hU
    have HU10 : Hid (U.length ≤ 10) := Lib.hid (hU.len (by decide) (by rw [datN_length, Fx_7.out.1.len]; exact Fx_7.out.2.2.2.2))
    obtain ⟨qf, hqf⟩ := bool_of (IsE (datN s4))
    have HQf := Lib.hid hqf
    clear hU hqf
    go_wp2_with fail
    refine (iNormalize w7 w7.heap.size A4 n4 c4 s4 Fx_7.out.1 (Nat.le_refl _) Fx_7.out.n20 Fx_7.out.2.2.2.1 U HU.out).mono ?_
    rintro e w8 ⟨v, s5, rfl, hd, hs, ho, hb8⟩
    obtain ⟨A5, n5, c5, rfl, hl, he⟩ := Ex.own ho hs hd (HU10.out)
    have HB8 := Lib.hid (below_on HB7.out hb8)
    have HR8 : Hid (Row w8 w8.heap.size a len) := Lib.hid (HR7.out.below hb8).wide
    have LI_8 := Lib.hid (LI_7.out.step hb8)
    have Fx_8 := Lib.hid (Fx_7.out.step hb8)
    have Nx_8 := Lib.hid he
    have DNx := Lib.hid hd
    have LNx := Lib.hid hl
    clear hb8 hd hs ho hl he
    clear HB7 HR7 LI_7 Fx_7
    go_wp2_with fail
    refine (sNormalize w8 w8.heap.size A4 n4 c4 s4 Fx_8.out.1 (Nat.le_refl _) Fx_8.out.n20 Fx_8.out.2.2.2.1 U HU.out).mono ?_
    rintro e w9 ⟨v, s6, rfl, hd, hs, ho, hb9⟩
    obtain ⟨A6, n6, c6, rfl, hl, he⟩ := Ex.own ho hs hd (HU10.out)
    have HB9 := Lib.hid (below_on HB8.out hb9)
    have HR9 : Hid (Row w9 w9.heap.size a len) := Lib.hid (HR8.out.below hb9).wide
    have LI_9 := Lib.hid (LI_8.out.step hb9)
    have Fx_9 := Lib.hid (Fx_8.out.step hb9)
    have Nx_9 := Lib.hid (Nx_8.out.step hb9)
    have Nz_9 := Lib.hid he
    have DNz := Lib.hid hd
    have LNz := Lib.hid hl
    clear hb9 hd hs ho hl he
    clear HB8 HR8 LI_8 Fx_8 Nx_8
    go_wp2_with fail
    refine (sEqE w9 w9.heap.size A5 A6 n5 n6 c5 c6 s5 s6 Nx_9.out.1 Nz_9.out.1 (Nat.le_refl _) Nx_9.out.n20 Nx_9.out.2.2.2.1 true (by rw [DNx.out, DNz.out]; simp)).mono ?_
    rintro e w10 ⟨rfl, hb10⟩
    have HB10 := Lib.hid (below_on HB9.out hb10)
    have HR10 : Hid (Row w10 w10.heap.size a len) := Lib.hid (HR9.out.below hb10).wide
    have LI_10 := Lib.hid (LI_9.out.step hb10)
    have Fx_10 := Lib.hid (Fx_9.out.step hb10)
    have Nx_10 := Lib.hid (Nx_9.out.step hb10)
    have Nz_10 := Lib.hid (Nz_9.out.step hb10)
    clear hb10
    clear HB9 HR9 LI_9 Fx_9 Nx_9 Nz_9
    go_wp2_with fail
    refine (sIsE w10 w10.heap.size A4 n4 c4 s4 Fx_10.out.1 (Nat.le_refl _) Fx_10.out.n20 Fx_10.out.2.2.2.1 qf HQf.out).mono ?_
    rintro e w11 ⟨rfl, hb11⟩
    have HB11 := Lib.hid (below_on HB10.out hb11)
    have HR11 : Hid (Row w11 w11.heap.size a len) := Lib.hid (HR10.out.below hb11).wide
    have LI_11 := Lib.hid (LI_10.out.step hb11)
    have Fx_11 := Lib.hid (Fx_10.out.step hb11)
    have Nx_11 := Lib.hid (Nx_10.out.step hb11)
    clear hb11
    clear HB10 HR10 LI_10 Fx_10 Nx_10
    cases qf
    · clear HQf
      obtain ⟨W, hW⟩ := RewL.all (datN s5)
      have HW := Lib.hid hW
      have HCm : Hid (∀ x ∈ W, x.rule = 4 ∧ ∀ its, AgreeP (datN s5) x.after its) := Lib.hid fun x hx => hW.comm (by rw [DNx.out]; exact HU.out.normal) hx
      clear hW
      go_wp2_with fail
      refine (iRewritings w11 w11.heap.size A5 n5 c5 s5 Nx_11.out.1 (Nat.le_refl _) Nx_11.out.2.1 Nx_11.out.c63 Nx_11.out.n20 Nx_11.out.2.2.2.1 W HW.out).mono ?_
      rintro e w12 ⟨v, rl, rfl, hd, hs, ho, hb12⟩
      have HB12 := Lib.hid (below_on HB11.out hb12)
      have HR12 : Hid (Row w12 w12.heap.size a len) := Lib.hid (HR11.out.below hb12).wide
      have LI_12 := Lib.hid (LI_11.out.step hb12)
      have Nx_12 := Lib.hid (Nx_11.out.step hb12)
      obtain ⟨Ar, cr, rfl, hrle, hrc⟩ := ho.r.shape
      have HRd := Lib.hid hd
      have HRs := Lib.hid hs
      have HRw := Lib.hid ho.rws
      have hr36 : rl.length ≤ 36 := by rw [datR_len hd]; exact HW.out.small
      obtain ⟨nl, hnl⟩ : ∃ nl, rl.length = nl := ⟨_, rfl⟩
      rw [hnl] at HRw hrle hr36 ⊢
      clear hb12 hd hs ho hrc
      clear HB11 HR11 LI_11 Nx_11
      go_wp2
      go_loopw [14] (fun i wr => ∃ k : Nat, k ≤ nl ∧ i = .int .i64 k ∧ Below w12.heap.size w12 wr) (fun i _ => nl - (intOf i).toNat)
      case atStart => exact ⟨0, Nat.zero_le _, rfl, Below.refl _ _⟩
      case round =>
        obtain ⟨k, hk, rfl, hbel⟩ := hrel
        by_cases hlt : k < nl
        · obtain ⟨br, or', x, rfl, hbr, hat, hxn, d0, d1, d2⟩ := HRw.out.at k hlt
          have hmem := List.mem_of_getElem? hat
          have hx4 := HCm.out x.dat (by rw [← HRd.out]; exact List.mem_map_of_mem hmem)
          have hr4 : x.rule = 4 := hx4.1
          rw [hr4] at d0
          have f0 := (hbel.cell (p := ⟨br, or' + k * 3, none⟩) hbr).trans d0
          have f2 := (hbel.cell (p := ⟨br, or' + k * 3 + 2, none⟩) hbr).trans d2
          have hsx := HRs.out x hmem
          have hlt' : (k : Int) < (nl : Int) := by omega
          have hk0 : (0 : Int) ≤ (k : Int) := by omega
          have h44 : ((4 : Int) != 4) = false := by decide
          have HAg := Lib.hid (sAgree wr wr.heap.size A5 x.A Ai n5 x.n ni c5 x.c ci s5 x.ns li (Nx_12.out.1.step hbel) (Nodes.more (hxn.below hbel) hbel.size) (LI_12.out.1.wide hbel) (Nat.le_refl _) Nx_12.out.n20 (by rw [← hxn.len]; have := hsx.2; omega) Nx_12.out.2.2.2.1 hsx.1 LI_12.out.2.1 (by have h := LI_12.out.2.2.2.2; omega) true ⟨fun _ => hx4.2 li, fun _ => rfl⟩)
          have HBw := Lib.hid hbel
          clear hat hxn d0 d1 d2 hmem hx4 hr4 hsx hbel
          go_wp2_with fail
          refine HAg.out.mono ?_
          rintro e w' ⟨rfl, hb'⟩
          have HBn := Lib.hid (below_on HBw.out hb')
          clear hb'
          go_wp2
          go_roundw
          case rel => exact ⟨k + 1, by omega, by go_num, HBn.out⟩
          case measure => simp [intOf]; omega
        · obtain rfl : k = nl := by omega
          have hb13 := hbel
          have HB13 := Lib.hid (below_on HB12.out hb13)
          have HR13 : Hid (Row wr wr.heap.size a len) := Lib.hid (HR12.out.below hb13).wide
          clear hb13 hbel HB12 HR12
          go_wp2_with fail
          refine (draw_agree wr a len cap HL.out HR13.out).mono ?_
          rintro e w14 ⟨A7, n7, c7, s7, A8, n8, c8, s8, Am, nm, cm, lm, rfl, hP, hQ, hM, hb14⟩
          have HB14 := Lib.hid (below_on HB13.out hb14)
          have HR14 : Hid (Row w14 w14.heap.size a len) := Lib.hid (HR13.out.below hb14).wide
          have P_14 := Lib.hid hP
          have Q_14 := Lib.hid hQ
          have MI_14 := Lib.hid hM
          clear hb14 hP hQ hM
          clear HB13 HR13
          go_wp2_with fail
          refine (draw_sub w14 a len cap HL.out HR14.out).mono ?_
          rintro e w15 ⟨A9, n9, c9, s9, kk, rfl, hG, hb15⟩
          have HB15 := Lib.hid (below_on HB14.out hb15)
          have HR15 : Hid (Row w15 w15.heap.size a len) := Lib.hid (HR14.out.below hb15).wide
          have P_15 := Lib.hid (P_14.out.step hb15)
          have Q_15 := Lib.hid (Q_14.out.step hb15)
          have MI_15 := Lib.hid (MI_14.out.step hb15)
          have G_15 := Lib.hid hG
          clear hb15 hG
          clear HB14 HR14 P_14 Q_14 MI_14
          obtain ⟨O, hO⟩ := SubD.ex (datN s9) kk
          have HO := Lib.hid hO
          obtain ⟨z, hz⟩ := bool_of (AgreeP (datN s7) (datN s8) lm)
          have HZ := Lib.hid hz
          have hzz : (z == z) = true := by simp
          clear hO hz
          go_wp2_with fail
          refine (iSubtree w15 w15.heap.size A9 n9 c9 s9 kk G_15.out.1 (Nat.le_refl _) G_15.out.2.1 G_15.out.c63 G_15.out.2.2.2.1 O HO.out).mono ?_
          rintro e w16 ⟨v, s10, rfl, hd, hs, ho, hb16⟩
          obtain ⟨A10, n10, c10, rfl, hl, he⟩ := Ex.own ho hs hd (HO.out.len10)
          have HB16 := Lib.hid (below_on HB15.out hb16)
          have HR16 : Hid (Row w16 w16.heap.size a len) := Lib.hid (HR15.out.below hb16).wide
          have P_16 := Lib.hid (P_15.out.step hb16)
          have Q_16 := Lib.hid (Q_15.out.step hb16)
          have MI_16 := Lib.hid (MI_15.out.step hb16)
          have G_16 := Lib.hid (G_15.out.step hb16)
          have S_16 := Lib.hid he
          have DS := Lib.hid hd
          have LS := Lib.hid hl
          clear hb16 hd hs ho hl he
          clear HB15 HR15 P_15 Q_15 MI_15 G_15
          go_wp2_with fail
          refine (iAgree w16 w16.heap.size A7 A8 Am n7 n8 nm c7 c8 cm s7 s8 lm P_16.out.1 Q_16.out.1 MI_16.out.1 (Nat.le_refl _) P_16.out.2.1 P_16.out.c63 Q_16.out.2.1 Q_16.out.c63 P_16.out.2.2.2.1 Q_16.out.2.2.2.1 (by have h := MI_16.out.2.2.2.2; omega) z (HZ.out)).mono ?_
          rintro e w17 ⟨rfl, hb17⟩
          have HB17 := Lib.hid (below_on HB16.out hb17)
          have HR17 : Hid (Row w17 w17.heap.size a len) := Lib.hid (HR16.out.below hb17).wide
          have P_17 := Lib.hid (P_16.out.step hb17)
          have Q_17 := Lib.hid (Q_16.out.step hb17)
          have MI_17 := Lib.hid (MI_16.out.step hb17)
          have G_17 := Lib.hid (G_16.out.step hb17)
          have S_17 := Lib.hid (S_16.out.step hb17)
          clear hb17
          clear HB16 HR16 P_16 Q_16 MI_16 G_16 S_16
          go_wp2_with fail
          refine (sAgree w17 w17.heap.size A7 A8 Am n7 n8 nm c7 c8 cm s7 s8 lm P_17.out.1 Q_17.out.1 MI_17.out.1 (Nat.le_refl _) P_17.out.n20 Q_17.out.n20 P_17.out.2.2.2.1 Q_17.out.2.2.2.1 MI_17.out.2.1 (by have h := MI_17.out.2.2.2.2; omega) z (HZ.out)).mono ?_
          rintro e w18 ⟨rfl, hb18⟩
          have HB18 := Lib.hid (below_on HB17.out hb18)
          have HR18 : Hid (Row w18 w18.heap.size a len) := Lib.hid (HR17.out.below hb18).wide
          have P_18 := Lib.hid (P_17.out.step hb18)
          have Q_18 := Lib.hid (Q_17.out.step hb18)
          have MI_18 := Lib.hid (MI_17.out.step hb18)
          have G_18 := Lib.hid (G_17.out.step hb18)
          have S_18 := Lib.hid (S_17.out.step hb18)
          clear hb18
          clear HB17 HR17 P_17 Q_17 MI_17 G_17 S_17
          go_wp2_with fail
          refine (sSubtree w18 w18.heap.size A9 n9 c9 s9 kk G_18.out.1 (Nat.le_refl _) G_18.out.2.1 G_18.out.c63 G_18.out.n20 G_18.out.2.2.2.1 O HO.out).mono ?_
          rintro e w19 ⟨v, s11, rfl, hd, hs, ho, hb19⟩
          obtain ⟨A11, n11, c11, rfl, hl, he⟩ := Ex.own ho hs hd (HO.out.len10)
          have HB19 := Lib.hid (below_on HB18.out hb19)
          have HR19 : Hid (Row w19 w19.heap.size a len) := Lib.hid (HR18.out.below hb19).wide
          have G_19 := Lib.hid (G_18.out.step hb19)
          have S_19 := Lib.hid (S_18.out.step hb19)
          have T_19 := Lib.hid he
          have DT := Lib.hid hd
          have LT := Lib.hid hl
          clear hb19 hd hs ho hl he
          clear HB18 HR18 G_18 S_18
          go_wp2_with fail
          refine (sEqE w19 w19.heap.size A10 A11 n10 n11 c10 c11 s10 s11 S_19.out.1 T_19.out.1 (Nat.le_refl _) S_19.out.n20 S_19.out.2.2.2.1 true (by rw [DS.out, DT.out]; simp)).mono ?_
          rintro e w20 ⟨rfl, hb20⟩
          have HB20 := Lib.hid (below_on HB19.out hb20)
          have HR20 : Hid (Row w20 w20.heap.size a len) := Lib.hid (HR19.out.below hb20).wide
          have G_20 := Lib.hid (G_19.out.step hb20)
          have S_20 := Lib.hid (S_19.out.step hb20)
          have T_20 := Lib.hid (T_19.out.step hb20)
          clear hb20
          clear HB19 HR19 G_19 S_19 T_19
          by_cases h0 : n10 = 0
          · subst h0
            go_wp2
            go_ret
            exact ⟨rfl, HB20.out⟩
          · have h0' : ((n10 : Int) == 0) = false := by simp; omega
            go_wp2_with fail
            refine (iIsEW w20 w20.heap.size A10 n10 c10 s10 S_20.out.1 (Nat.le_refl _) S_20.out.2.1 S_20.out.c63 S_20.out.2.2.2.1 true ⟨fun _ => by rw [DS.out]; exact HO.out.valid (by rw [← LS.out]; omega), fun _ => rfl⟩).mono ?_
            rintro e w21 ⟨rfl, hb21⟩
            have HB21 := Lib.hid (below_on HB20.out hb21)
            have HR21 : Hid (Row w21 w21.heap.size a len) := Lib.hid (HR20.out.below hb21).wide
            have G_21 := Lib.hid (G_20.out.step hb21)
            have S_21 := Lib.hid (S_20.out.step hb21)
            have T_21 := Lib.hid (T_20.out.step hb21)
            clear hb21
            clear HB20 HR20 G_20 S_20 T_20
            go_wp2
            go_ret
            exact ⟨rfl, HB21.out⟩
    · go_wp2_with fail
      refine (iAgree w11 w11.heap.size A4 A5 Ai n4 n5 ni c4 c5 ci s4 s5 li Fx_11.out.1 Nx_11.out.1 LI_11.out.1 (Nat.le_refl _) Fx_11.out.2.1 Fx_11.out.c63 Nx_11.out.2.1 Nx_11.out.c63 Fx_11.out.2.2.2.1 Nx_11.out.2.2.2.1 (by have h := LI_11.out.2.2.2.2; omega) true (⟨fun _ => by rw [DNx.out]; exact agree_norm HU.out (HQf.out.1 (by first | rfl | trivial)) _, fun _ => rfl⟩)).mono ?_
      rintro e w12 ⟨rfl, hb12⟩
      have HB12 := Lib.hid (below_on HB11.out hb12)
      have HR12 : Hid (Row w12 w12.heap.size a len) := Lib.hid (HR11.out.below hb12).wide
      have LI_12 := Lib.hid (LI_11.out.step hb12)
      have Fx_12 := Lib.hid (Fx_11.out.step hb12)
      have Nx_12 := Lib.hid (Nx_11.out.step hb12)
      clear hb12
      clear HB11 HR11 LI_11 Fx_11 Nx_11
      clear HQf
      obtain ⟨W, hW⟩ := RewL.all (datN s5)
      have HW := Lib.hid hW
      have HCm : Hid (∀ x ∈ W, x.rule = 4 ∧ ∀ its, AgreeP (datN s5) x.after its) := Lib.hid fun x hx => hW.comm (by rw [DNx.out]; exact HU.out.normal) hx
      clear hW
      go_wp2_with fail
      refine (iRewritings w12 w12.heap.size A5 n5 c5 s5 Nx_12.out.1 (Nat.le_refl _) Nx_12.out.2.1 Nx_12.out.c63 Nx_12.out.n20 Nx_12.out.2.2.2.1 W HW.out).mono ?_
      rintro e w13 ⟨v, rl, rfl, hd, hs, ho, hb13⟩
      have HB13 := Lib.hid (below_on HB12.out hb13)
      have HR13 : Hid (Row w13 w13.heap.size a len) := Lib.hid (HR12.out.below hb13).wide
      have LI_13 := Lib.hid (LI_12.out.step hb13)
      have Nx_13 := Lib.hid (Nx_12.out.step hb13)
      obtain ⟨Ar, cr, rfl, hrle, hrc⟩ := ho.r.shape
      have HRd := Lib.hid hd
      have HRs := Lib.hid hs
      have HRw := Lib.hid ho.rws
      have hr36 : rl.length ≤ 36 := by rw [datR_len hd]; exact HW.out.small
      obtain ⟨nl, hnl⟩ : ∃ nl, rl.length = nl := ⟨_, rfl⟩
      rw [hnl] at HRw hrle hr36 ⊢
      clear hb13 hd hs ho hrc
      clear HB12 HR12 LI_12 Nx_12
      go_wp2
      go_loopw [14] (fun i wr => ∃ k : Nat, k ≤ nl ∧ i = .int .i64 k ∧ Below w13.heap.size w13 wr) (fun i _ => nl - (intOf i).toNat)
      case atStart => exact ⟨0, Nat.zero_le _, rfl, Below.refl _ _⟩
      case round =>
        obtain ⟨k, hk, rfl, hbel⟩ := hrel
        by_cases hlt : k < nl
        · obtain ⟨br, or', x, rfl, hbr, hat, hxn, d0, d1, d2⟩ := HRw.out.at k hlt
          have hmem := List.mem_of_getElem? hat
          have hx4 := HCm.out x.dat (by rw [← HRd.out]; exact List.mem_map_of_mem hmem)
          have hr4 : x.rule = 4 := hx4.1
          rw [hr4] at d0
          have f0 := (hbel.cell (p := ⟨br, or' + k * 3, none⟩) hbr).trans d0
          have f2 := (hbel.cell (p := ⟨br, or' + k * 3 + 2, none⟩) hbr).trans d2
          have hsx := HRs.out x hmem
          have hlt' : (k : Int) < (nl : Int) := by omega
          have hk0 : (0 : Int) ≤ (k : Int) := by omega
          have h44 : ((4 : Int) != 4) = false := by decide
          have HAg := Lib.hid (sAgree wr wr.heap.size A5 x.A Ai n5 x.n ni c5 x.c ci s5 x.ns li (Nx_13.out.1.step hbel) (Nodes.more (hxn.below hbel) hbel.size) (LI_13.out.1.wide hbel) (Nat.le_refl _) Nx_13.out.n20 (by rw [← hxn.len]; have := hsx.2; omega) Nx_13.out.2.2.2.1 hsx.1 LI_13.out.2.1 (by have h := LI_13.out.2.2.2.2; omega) true ⟨fun _ => hx4.2 li, fun _ => rfl⟩)
          have HBw := Lib.hid hbel
          clear hat hxn d0 d1 d2 hmem hx4 hr4 hsx hbel
          go_wp2_with fail
          refine HAg.out.mono ?_
          rintro e w' ⟨rfl, hb'⟩
          have HBn := Lib.hid (below_on HBw.out hb')
          clear hb'
          go_wp2
          go_roundw
          case rel => exact ⟨k + 1, by omega, by go_num, HBn.out⟩
          case measure => simp [intOf]; omega
        · obtain rfl : k = nl := by omega
          have hb14 := hbel
          have HB14 := Lib.hid (below_on HB13.out hb14)
          have HR14 : Hid (Row wr wr.heap.size a len) := Lib.hid (HR13.out.below hb14).wide
          clear hb14 hbel HB13 HR13
          go_wp2_with fail
          refine (draw_agree wr a len cap HL.out HR14.out).mono ?_
          rintro e w15 ⟨A7, n7, c7, s7, A8, n8, c8, s8, Am, nm, cm, lm, rfl, hP, hQ, hM, hb15⟩
          have HB15 := Lib.hid (below_on HB14.out hb15)
          have HR15 : Hid (Row w15 w15.heap.size a len) := Lib.hid (HR14.out.below hb15).wide
          have P_15 := Lib.hid hP
          have Q_15 := Lib.hid hQ
          have MI_15 := Lib.hid hM
          clear hb15 hP hQ hM
          clear HB14 HR14
          go_wp2_with fail
          refine (draw_sub w15 a len cap HL.out HR15.out).mono ?_
          rintro e w16 ⟨A9, n9, c9, s9, kk, rfl, hG, hb16⟩
          have HB16 := Lib.hid (below_on HB15.out hb16)
          have HR16 : Hid (Row w16 w16.heap.size a len) := Lib.hid (HR15.out.below hb16).wide
          have P_16 := Lib.hid (P_15.out.step hb16)
          have Q_16 := Lib.hid (Q_15.out.step hb16)
          have MI_16 := Lib.hid (MI_15.out.step hb16)
          have G_16 := Lib.hid hG
          clear hb16 hG
          clear HB15 HR15 P_15 Q_15 MI_15
          obtain ⟨O, hO⟩ := SubD.ex (datN s9) kk
          have HO := Lib.hid hO
          obtain ⟨z, hz⟩ := bool_of (AgreeP (datN s7) (datN s8) lm)
          have HZ := Lib.hid hz
          have hzz : (z == z) = true := by simp
          clear hO hz
          go_wp2_with fail
          refine (iSubtree w16 w16.heap.size A9 n9 c9 s9 kk G_16.out.1 (Nat.le_refl _) G_16.out.2.1 G_16.out.c63 G_16.out.2.2.2.1 O HO.out).mono ?_
          rintro e w17 ⟨v, s10, rfl, hd, hs, ho, hb17⟩
          obtain ⟨A10, n10, c10, rfl, hl, he⟩ := Ex.own ho hs hd (HO.out.len10)
          have HB17 := Lib.hid (below_on HB16.out hb17)
          have HR17 : Hid (Row w17 w17.heap.size a len) := Lib.hid (HR16.out.below hb17).wide
          have P_17 := Lib.hid (P_16.out.step hb17)
          have Q_17 := Lib.hid (Q_16.out.step hb17)
          have MI_17 := Lib.hid (MI_16.out.step hb17)
          have G_17 := Lib.hid (G_16.out.step hb17)
          have S_17 := Lib.hid he
          have DS := Lib.hid hd
          have LS := Lib.hid hl
          clear hb17 hd hs ho hl he
          clear HB16 HR16 P_16 Q_16 MI_16 G_16
          go_wp2_with fail
          refine (iAgree w17 w17.heap.size A7 A8 Am n7 n8 nm c7 c8 cm s7 s8 lm P_17.out.1 Q_17.out.1 MI_17.out.1 (Nat.le_refl _) P_17.out.2.1 P_17.out.c63 Q_17.out.2.1 Q_17.out.c63 P_17.out.2.2.2.1 Q_17.out.2.2.2.1 (by have h := MI_17.out.2.2.2.2; omega) z (HZ.out)).mono ?_
          rintro e w18 ⟨rfl, hb18⟩
          have HB18 := Lib.hid (below_on HB17.out hb18)
          have HR18 : Hid (Row w18 w18.heap.size a len) := Lib.hid (HR17.out.below hb18).wide
          have P_18 := Lib.hid (P_17.out.step hb18)
          have Q_18 := Lib.hid (Q_17.out.step hb18)
          have MI_18 := Lib.hid (MI_17.out.step hb18)
          have G_18 := Lib.hid (G_17.out.step hb18)
          have S_18 := Lib.hid (S_17.out.step hb18)
          clear hb18
          clear HB17 HR17 P_17 Q_17 MI_17 G_17 S_17
          go_wp2_with fail
          refine (sAgree w18 w18.heap.size A7 A8 Am n7 n8 nm c7 c8 cm s7 s8 lm P_18.out.1 Q_18.out.1 MI_18.out.1 (Nat.le_refl _) P_18.out.n20 Q_18.out.n20 P_18.out.2.2.2.1 Q_18.out.2.2.2.1 MI_18.out.2.1 (by have h := MI_18.out.2.2.2.2; omega) z (HZ.out)).mono ?_
          rintro e w19 ⟨rfl, hb19⟩
          have HB19 := Lib.hid (below_on HB18.out hb19)
          have HR19 : Hid (Row w19 w19.heap.size a len) := Lib.hid (HR18.out.below hb19).wide
          have P_19 := Lib.hid (P_18.out.step hb19)
          have Q_19 := Lib.hid (Q_18.out.step hb19)
          have MI_19 := Lib.hid (MI_18.out.step hb19)
          have G_19 := Lib.hid (G_18.out.step hb19)
          have S_19 := Lib.hid (S_18.out.step hb19)
          clear hb19
          clear HB18 HR18 P_18 Q_18 MI_18 G_18 S_18
          go_wp2_with fail
          refine (sSubtree w19 w19.heap.size A9 n9 c9 s9 kk G_19.out.1 (Nat.le_refl _) G_19.out.2.1 G_19.out.c63 G_19.out.n20 G_19.out.2.2.2.1 O HO.out).mono ?_
          rintro e w20 ⟨v, s11, rfl, hd, hs, ho, hb20⟩
          obtain ⟨A11, n11, c11, rfl, hl, he⟩ := Ex.own ho hs hd (HO.out.len10)
          have HB20 := Lib.hid (below_on HB19.out hb20)
          have HR20 : Hid (Row w20 w20.heap.size a len) := Lib.hid (HR19.out.below hb20).wide
          have G_20 := Lib.hid (G_19.out.step hb20)
          have S_20 := Lib.hid (S_19.out.step hb20)
          have T_20 := Lib.hid he
          have DT := Lib.hid hd
          have LT := Lib.hid hl
          clear hb20 hd hs ho hl he
          clear HB19 HR19 G_19 S_19
          go_wp2_with fail
          refine (sEqE w20 w20.heap.size A10 A11 n10 n11 c10 c11 s10 s11 S_20.out.1 T_20.out.1 (Nat.le_refl _) S_20.out.n20 S_20.out.2.2.2.1 true (by rw [DS.out, DT.out]; simp)).mono ?_
          rintro e w21 ⟨rfl, hb21⟩
          have HB21 := Lib.hid (below_on HB20.out hb21)
          have HR21 : Hid (Row w21 w21.heap.size a len) := Lib.hid (HR20.out.below hb21).wide
          have G_21 := Lib.hid (G_20.out.step hb21)
          have S_21 := Lib.hid (S_20.out.step hb21)
          have T_21 := Lib.hid (T_20.out.step hb21)
          clear hb21
          clear HB20 HR20 G_20 S_20 T_20
          by_cases h0 : n10 = 0
          · subst h0
            go_wp2
            go_ret
            exact ⟨rfl, HB21.out⟩
          · have h0' : ((n10 : Int) == 0) = false := by simp; omega
            go_wp2_with fail
            refine (iIsEW w21 w21.heap.size A10 n10 c10 s10 S_21.out.1 (Nat.le_refl _) S_21.out.2.1 S_21.out.c63 S_21.out.2.2.2.1 true ⟨fun _ => by rw [DS.out]; exact HO.out.valid (by rw [← LS.out]; omega), fun _ => rfl⟩).mono ?_
            rintro e w22 ⟨rfl, hb22⟩
            have HB22 := Lib.hid (below_on HB21.out hb22)
            have HR22 : Hid (Row w22 w22.heap.size a len) := Lib.hid (HR21.out.below hb22).wide
            have G_22 := Lib.hid (G_21.out.step hb22)
            have S_22 := Lib.hid (S_21.out.step hb22)
            have T_22 := Lib.hid (T_21.out.step hb22)
            clear hb22
            clear HB21 HR21 G_21 S_21 T_21
            go_wp2
            go_ret
            exact ⟨rfl, HB22.out⟩
  · go_wp2_with fail
    refine (iIsEW w5 w5.heap.size A2 n2 c2 s2 X_5.out.1 (Nat.le_refl _) X_5.out.2.1 X_5.out.c63 X_5.out.2.2.2.1 true ⟨fun _ => by rw [DX.out]; obtain ⟨_, t, ht⟩ := HD.out.yes.pos.2.2.2.2; exact (HD.out.yes.tree ht).2.1, fun _ => rfl⟩).mono ?_
    rintro e w6 ⟨rfl, hb6⟩
    have HB6 := Lib.hid (below_on HB5.out hb6)
    have HR6 : Hid (Row w6 w6.heap.size a len) := Lib.hid (HR5.out.below hb6).wide
    have E_6 := Lib.hid (E_5.out.step hb6)
    have X_6 := Lib.hid (X_5.out.step hb6)
    have Y_6 := Lib.hid (Y_5.out.step hb6)
    have LI_6 := Lib.hid (LI_5.out.step hb6)
    clear hb6
    clear HB5 HR5 E_5 X_5 Y_5 LI_5
    go_wp2_with fail
    refine (iAgree w6 w6.heap.size A1 A2 Ai n1 n2 ni c1 c2 ci s1 s2 li E_6.out.1 X_6.out.1 LI_6.out.1 (Nat.le_refl _) E_6.out.2.1 E_6.out.c63 X_6.out.2.1 X_6.out.c63 E_6.out.2.2.2.1 X_6.out.2.2.2.1 (by have h := LI_6.out.2.2.2.2; omega) true (⟨fun _ => by rw [DX.out]; exact agree_app HD.out.yes _, fun _ => rfl⟩)).mono ?_
    rintro e w7 ⟨rfl, hb7⟩
    have HB7 := Lib.hid (below_on HB6.out hb7)
    have HR7 : Hid (Row w7 w7.heap.size a len) := Lib.hid (HR6.out.below hb7).wide
    have E_7 := Lib.hid (E_6.out.step hb7)
    have X_7 := Lib.hid (X_6.out.step hb7)
    have Y_7 := Lib.hid (Y_6.out.step hb7)
    have LI_7 := Lib.hid (LI_6.out.step hb7)
    clear hb7
    clear HB6 HR6 E_6 X_6 Y_6 LI_6
    clear HD
    go_wp2_with fail
    refine (draw_norm w7 a len cap HL.out HR7.out).mono ?_
    rintro e w8 ⟨A4, n4, c4, s4, rfl, hF, hb8⟩
    have HB8 := Lib.hid (below_on HB7.out hb8)
    have HR8 : Hid (Row w8 w8.heap.size a len) := Lib.hid (HR7.out.below hb8).wide
    have LI_8 := Lib.hid (LI_7.out.step hb8)
    have Fx_8 := Lib.hid hF
    clear hb8 hF
    clear HB7 HR7 LI_7
    obtain ⟨U, hU⟩ := NormR.ex 60 (datN s4)
    have HU := Lib.hid hU
    have HU10 : Hid (U.length ≤ 10) := Lib.hid (hU.len (by decide) (by rw [datN_length, Fx_8.out.1.len]; exact Fx_8.out.2.2.2.2))
    obtain ⟨qf, hqf⟩ := bool_of (IsE (datN s4))
    have HQf := Lib.hid hqf
    clear hU hqf
    go_wp2_with fail
    refine (iNormalize w8 w8.heap.size A4 n4 c4 s4 Fx_8.out.1 (Nat.le_refl _) Fx_8.out.n20 Fx_8.out.2.2.2.1 U HU.out).mono ?_
    rintro e w9 ⟨v, s5, rfl, hd, hs, ho, hb9⟩
    obtain ⟨A5, n5, c5, rfl, hl, he⟩ := Ex.own ho hs hd (HU10.out)
    have HB9 := Lib.hid (below_on HB8.out hb9)
    have HR9 : Hid (Row w9 w9.heap.size a len) := Lib.hid (HR8.out.below hb9).wide
    have LI_9 := Lib.hid (LI_8.out.step hb9)
    have Fx_9 := Lib.hid (Fx_8.out.step hb9)
    have Nx_9 := Lib.hid he
    have DNx := Lib.hid hd
    have LNx := Lib.hid hl
    clear hb9 hd hs ho hl he
    clear HB8 HR8 LI_8 Fx_8
    go_wp2_with fail
    refine (sNormalize w9 w9.heap.size A4 n4 c4 s4 Fx_9.out.1 (Nat.le_refl _) Fx_9.out.n20 Fx_9.out.2.2.2.1 U HU.out).mono ?_
    rintro e w10 ⟨v, s6, rfl, hd, hs, ho, hb10⟩
    obtain ⟨A6, n6, c6, rfl, hl, he⟩ := Ex.own ho hs hd (HU10.out)
    have HB10 := Lib.hid (below_on HB9.out hb10)
    have HR10 : Hid (Row w10 w10.heap.size a len) := Lib.hid (HR9.out.below hb10).wide
    have LI_10 := Lib.hid (LI_9.out.step hb10)
    have Fx_10 := Lib.hid (Fx_9.out.step hb10)
    have Nx_10 := Lib.hid (Nx_9.out.step hb10)
    have Nz_10 := Lib.hid he
    have DNz := Lib.hid hd
    have LNz := Lib.hid hl
    clear hb10 hd hs ho hl he
    clear HB9 HR9 LI_9 Fx_9 Nx_9
    go_wp2_with fail
    refine (sEqE w10 w10.heap.size A5 A6 n5 n6 c5 c6 s5 s6 Nx_10.out.1 Nz_10.out.1 (Nat.le_refl _) Nx_10.out.n20 Nx_10.out.2.2.2.1 true (by rw [DNx.out, DNz.out]; simp)).mono ?_
    rintro e w11 ⟨rfl, hb11⟩
    have HB11 := Lib.hid (below_on HB10.out hb11)
    have HR11 : Hid (Row w11 w11.heap.size a len) := Lib.hid (HR10.out.below hb11).wide
    have LI_11 := Lib.hid (LI_10.out.step hb11)
    have Fx_11 := Lib.hid (Fx_10.out.step hb11)
    have Nx_11 := Lib.hid (Nx_10.out.step hb11)
    have Nz_11 := Lib.hid (Nz_10.out.step hb11)
    clear hb11
    clear HB10 HR10 LI_10 Fx_10 Nx_10 Nz_10
    go_wp2_with fail
    refine (sIsE w11 w11.heap.size A4 n4 c4 s4 Fx_11.out.1 (Nat.le_refl _) Fx_11.out.n20 Fx_11.out.2.2.2.1 qf HQf.out).mono ?_
    rintro e w12 ⟨rfl, hb12⟩
    have HB12 := Lib.hid (below_on HB11.out hb12)
    have HR12 : Hid (Row w12 w12.heap.size a len) := Lib.hid (HR11.out.below hb12).wide
    have LI_12 := Lib.hid (LI_11.out.step hb12)
    have Fx_12 := Lib.hid (Fx_11.out.step hb12)
    have Nx_12 := Lib.hid (Nx_11.out.step hb12)
    clear hb12
    clear HB11 HR11 LI_11 Fx_11 Nx_11
    cases qf
    · clear HQf
      obtain ⟨W, hW⟩ := RewL.all (datN s5)
      have HW := Lib.hid hW
      have HCm : Hid (∀ x ∈ W, x.rule = 4 ∧ ∀ its, AgreeP (datN s5) x.after its) := Lib.hid fun x hx => hW.comm (by rw [DNx.out]; exact HU.out.normal) hx
      clear hW
      go_wp2_with fail
      refine (iRewritings w12 w12.heap.size A5 n5 c5 s5 Nx_12.out.1 (Nat.le_refl _) Nx_12.out.2.1 Nx_12.out.c63 Nx_12.out.n20 Nx_12.out.2.2.2.1 W HW.out).mono ?_
      rintro e w13 ⟨v, rl, rfl, hd, hs, ho, hb13⟩
      have HB13 := Lib.hid (below_on HB12.out hb13)
      have HR13 : Hid (Row w13 w13.heap.size a len) := Lib.hid (HR12.out.below hb13).wide
      have LI_13 := Lib.hid (LI_12.out.step hb13)
      have Nx_13 := Lib.hid (Nx_12.out.step hb13)
      obtain ⟨Ar, cr, rfl, hrle, hrc⟩ := ho.r.shape
      have HRd := Lib.hid hd
      have HRs := Lib.hid hs
      have HRw := Lib.hid ho.rws
      have hr36 : rl.length ≤ 36 := by rw [datR_len hd]; exact HW.out.small
      obtain ⟨nl, hnl⟩ : ∃ nl, rl.length = nl := ⟨_, rfl⟩
      rw [hnl] at HRw hrle hr36 ⊢
      clear hb13 hd hs ho hrc
      clear HB12 HR12 LI_12 Nx_12
      go_wp2
      go_loopw [14] (fun i wr => ∃ k : Nat, k ≤ nl ∧ i = .int .i64 k ∧ Below w13.heap.size w13 wr) (fun i _ => nl - (intOf i).toNat)
      case atStart => exact ⟨0, Nat.zero_le _, rfl, Below.refl _ _⟩
      case round =>
        obtain ⟨k, hk, rfl, hbel⟩ := hrel
        by_cases hlt : k < nl
        · obtain ⟨br, or', x, rfl, hbr, hat, hxn, d0, d1, d2⟩ := HRw.out.at k hlt
          have hmem := List.mem_of_getElem? hat
          have hx4 := HCm.out x.dat (by rw [← HRd.out]; exact List.mem_map_of_mem hmem)
          have hr4 : x.rule = 4 := hx4.1
          rw [hr4] at d0
          have f0 := (hbel.cell (p := ⟨br, or' + k * 3, none⟩) hbr).trans d0
          have f2 := (hbel.cell (p := ⟨br, or' + k * 3 + 2, none⟩) hbr).trans d2
          have hsx := HRs.out x hmem
          have hlt' : (k : Int) < (nl : Int) := by omega
          have hk0 : (0 : Int) ≤ (k : Int) := by omega
          have h44 : ((4 : Int) != 4) = false := by decide
          have HAg := Lib.hid (sAgree wr wr.heap.size A5 x.A Ai n5 x.n ni c5 x.c ci s5 x.ns li (Nx_13.out.1.step hbel) (Nodes.more (hxn.below hbel) hbel.size) (LI_13.out.1.wide hbel) (Nat.le_refl _) Nx_13.out.n20 (by rw [← hxn.len]; have := hsx.2; omega) Nx_13.out.2.2.2.1 hsx.1 LI_13.out.2.1 (by have h := LI_13.out.2.2.2.2; omega) true ⟨fun _ => hx4.2 li, fun _ => rfl⟩)
          have HBw := Lib.hid hbel
          clear hat hxn d0 d1 d2 hmem hx4 hr4 hsx hbel
          go_wp2_with fail
          refine HAg.out.mono ?_
          rintro e w' ⟨rfl, hb'⟩
          have HBn := Lib.hid (below_on HBw.out hb')
          clear hb'
          go_wp2
          go_roundw
          case rel => exact ⟨k + 1, by omega, by go_num, HBn.out⟩
          case measure => simp [intOf]; omega
        · obtain rfl : k = nl := by omega
          have hb14 := hbel
          have HB14 := Lib.hid (below_on HB13.out hb14)
          have HR14 : Hid (Row wr wr.heap.size a len) := Lib.hid (HR13.out.below hb14).wide
          clear hb14 hbel HB13 HR13
          go_wp2_with fail
          refine (draw_agree wr a len cap HL.out HR14.out).mono ?_
          rintro e w15 ⟨A7, n7, c7, s7, A8, n8, c8, s8, Am, nm, cm, lm, rfl, hP, hQ, hM, hb15⟩
          have HB15 := Lib.hid (below_on HB14.out hb15)
          have HR15 : Hid (Row w15 w15.heap.size a len) := Lib.hid (HR14.out.below hb15).wide
          have P_15 := Lib.hid hP
          have Q_15 := Lib.hid hQ
          have MI_15 := Lib.hid hM
          clear hb15 hP hQ hM
          clear HB14 HR14
          go_wp2_with fail
          refine (draw_sub w15 a len cap HL.out HR15.out).mono ?_
          rintro e w16 ⟨A9, n9, c9, s9, kk, rfl, hG, hb16⟩
          have HB16 := Lib.hid (below_on HB15.out hb16)
          have HR16 : Hid (Row w16 w16.heap.size a len) := Lib.hid (HR15.out.below hb16).wide
          have P_16 := Lib.hid (P_15.out.step hb16)
          have Q_16 := Lib.hid (Q_15.out.step hb16)
          have MI_16 := Lib.hid (MI_15.out.step hb16)
          have G_16 := Lib.hid hG
          clear hb16 hG
          clear HB15 HR15 P_15 Q_15 MI_15
          obtain ⟨O, hO⟩ := SubD.ex (datN s9) kk
          have HO := Lib.hid hO
          obtain ⟨z, hz⟩ := bool_of (AgreeP (datN s7) (datN s8) lm)
          have HZ := Lib.hid hz
          have hzz : (z == z) = true := by simp
          clear hO hz
          go_wp2_with fail
          refine (iSubtree w16 w16.heap.size A9 n9 c9 s9 kk G_16.out.1 (Nat.le_refl _) G_16.out.2.1 G_16.out.c63 G_16.out.2.2.2.1 O HO.out).mono ?_
          rintro e w17 ⟨v, s10, rfl, hd, hs, ho, hb17⟩
          obtain ⟨A10, n10, c10, rfl, hl, he⟩ := Ex.own ho hs hd (HO.out.len10)
          have HB17 := Lib.hid (below_on HB16.out hb17)
          have HR17 : Hid (Row w17 w17.heap.size a len) := Lib.hid (HR16.out.below hb17).wide
          have P_17 := Lib.hid (P_16.out.step hb17)
          have Q_17 := Lib.hid (Q_16.out.step hb17)
          have MI_17 := Lib.hid (MI_16.out.step hb17)
          have G_17 := Lib.hid (G_16.out.step hb17)
          have S_17 := Lib.hid he
          have DS := Lib.hid hd
          have LS := Lib.hid hl
          clear hb17 hd hs ho hl he
          clear HB16 HR16 P_16 Q_16 MI_16 G_16
          go_wp2_with fail
          refine (iAgree w17 w17.heap.size A7 A8 Am n7 n8 nm c7 c8 cm s7 s8 lm P_17.out.1 Q_17.out.1 MI_17.out.1 (Nat.le_refl _) P_17.out.2.1 P_17.out.c63 Q_17.out.2.1 Q_17.out.c63 P_17.out.2.2.2.1 Q_17.out.2.2.2.1 (by have h := MI_17.out.2.2.2.2; omega) z (HZ.out)).mono ?_
          rintro e w18 ⟨rfl, hb18⟩
          have HB18 := Lib.hid (below_on HB17.out hb18)
          have HR18 : Hid (Row w18 w18.heap.size a len) := Lib.hid (HR17.out.below hb18).wide
          have P_18 := Lib.hid (P_17.out.step hb18)
          have Q_18 := Lib.hid (Q_17.out.step hb18)
          have MI_18 := Lib.hid (MI_17.out.step hb18)
          have G_18 := Lib.hid (G_17.out.step hb18)
          have S_18 := Lib.hid (S_17.out.step hb18)
          clear hb18
          clear HB17 HR17 P_17 Q_17 MI_17 G_17 S_17
          go_wp2_with fail
          refine (sAgree w18 w18.heap.size A7 A8 Am n7 n8 nm c7 c8 cm s7 s8 lm P_18.out.1 Q_18.out.1 MI_18.out.1 (Nat.le_refl _) P_18.out.n20 Q_18.out.n20 P_18.out.2.2.2.1 Q_18.out.2.2.2.1 MI_18.out.2.1 (by have h := MI_18.out.2.2.2.2; omega) z (HZ.out)).mono ?_
          rintro e w19 ⟨rfl, hb19⟩
          have HB19 := Lib.hid (below_on HB18.out hb19)
          have HR19 : Hid (Row w19 w19.heap.size a len) := Lib.hid (HR18.out.below hb19).wide
          have P_19 := Lib.hid (P_18.out.step hb19)
          have Q_19 := Lib.hid (Q_18.out.step hb19)
          have MI_19 := Lib.hid (MI_18.out.step hb19)
          have G_19 := Lib.hid (G_18.out.step hb19)
          have S_19 := Lib.hid (S_18.out.step hb19)
          clear hb19
          clear HB18 HR18 P_18 Q_18 MI_18 G_18 S_18
          go_wp2_with fail
          refine (sSubtree w19 w19.heap.size A9 n9 c9 s9 kk G_19.out.1 (Nat.le_refl _) G_19.out.2.1 G_19.out.c63 G_19.out.n20 G_19.out.2.2.2.1 O HO.out).mono ?_
          rintro e w20 ⟨v, s11, rfl, hd, hs, ho, hb20⟩
          obtain ⟨A11, n11, c11, rfl, hl, he⟩ := Ex.own ho hs hd (HO.out.len10)
          have HB20 := Lib.hid (below_on HB19.out hb20)
          have HR20 : Hid (Row w20 w20.heap.size a len) := Lib.hid (HR19.out.below hb20).wide
          have G_20 := Lib.hid (G_19.out.step hb20)
          have S_20 := Lib.hid (S_19.out.step hb20)
          have T_20 := Lib.hid he
          have DT := Lib.hid hd
          have LT := Lib.hid hl
          clear hb20 hd hs ho hl he
          clear HB19 HR19 G_19 S_19
          go_wp2_with fail
          refine (sEqE w20 w20.heap.size A10 A11 n10 n11 c10 c11 s10 s11 S_20.out.1 T_20.out.1 (Nat.le_refl _) S_20.out.n20 S_20.out.2.2.2.1 true (by rw [DS.out, DT.out]; simp)).mono ?_
          rintro e w21 ⟨rfl, hb21⟩
          have HB21 := Lib.hid (below_on HB20.out hb21)
          have HR21 : Hid (Row w21 w21.heap.size a len) := Lib.hid (HR20.out.below hb21).wide
          have G_21 := Lib.hid (G_20.out.step hb21)
          have S_21 := Lib.hid (S_20.out.step hb21)
          have T_21 := Lib.hid (T_20.out.step hb21)
          clear hb21
          clear HB20 HR20 G_20 S_20 T_20
          by_cases h0 : n10 = 0
          · subst h0
            go_wp2
            go_ret
            exact ⟨rfl, HB21.out⟩
          · have h0' : ((n10 : Int) == 0) = false := by simp; omega
            go_wp2_with fail
            refine (iIsEW w21 w21.heap.size A10 n10 c10 s10 S_21.out.1 (Nat.le_refl _) S_21.out.2.1 S_21.out.c63 S_21.out.2.2.2.1 true ⟨fun _ => by rw [DS.out]; exact HO.out.valid (by rw [← LS.out]; omega), fun _ => rfl⟩).mono ?_
            rintro e w22 ⟨rfl, hb22⟩
            have HB22 := Lib.hid (below_on HB21.out hb22)
            have HR22 : Hid (Row w22 w22.heap.size a len) := Lib.hid (HR21.out.below hb22).wide
            have G_22 := Lib.hid (G_21.out.step hb22)
            have S_22 := Lib.hid (S_21.out.step hb22)
            have T_22 := Lib.hid (T_21.out.step hb22)
            clear hb22
            clear HB21 HR21 G_21 S_21 T_21
            go_wp2
            go_ret
            exact ⟨rfl, HB22.out⟩
    · go_wp2_with fail
      refine (iAgree w12 w12.heap.size A4 A5 Ai n4 n5 ni c4 c5 ci s4 s5 li Fx_12.out.1 Nx_12.out.1 LI_12.out.1 (Nat.le_refl _) Fx_12.out.2.1 Fx_12.out.c63 Nx_12.out.2.1 Nx_12.out.c63 Fx_12.out.2.2.2.1 Nx_12.out.2.2.2.1 (by have h := LI_12.out.2.2.2.2; omega) true (⟨fun _ => by rw [DNx.out]; exact agree_norm HU.out (HQf.out.1 (by first | rfl | trivial)) _, fun _ => rfl⟩)).mono ?_
      rintro e w13 ⟨rfl, hb13⟩
      have HB13 := Lib.hid (below_on HB12.out hb13)
      have HR13 : Hid (Row w13 w13.heap.size a len) := Lib.hid (HR12.out.below hb13).wide
      have LI_13 := Lib.hid (LI_12.out.step hb13)
      have Fx_13 := Lib.hid (Fx_12.out.step hb13)
      have Nx_13 := Lib.hid (Nx_12.out.step hb13)
      clear hb13
      clear HB12 HR12 LI_12 Fx_12 Nx_12
      clear HQf
      obtain ⟨W, hW⟩ := RewL.all (datN s5)
      have HW := Lib.hid hW
      have HCm : Hid (∀ x ∈ W, x.rule = 4 ∧ ∀ its, AgreeP (datN s5) x.after its) := Lib.hid fun x hx => hW.comm (by rw [DNx.out]; exact HU.out.normal) hx
      clear hW
      go_wp2_with fail
      refine (iRewritings w13 w13.heap.size A5 n5 c5 s5 Nx_13.out.1 (Nat.le_refl _) Nx_13.out.2.1 Nx_13.out.c63 Nx_13.out.n20 Nx_13.out.2.2.2.1 W HW.out).mono ?_
      rintro e w14 ⟨v, rl, rfl, hd, hs, ho, hb14⟩
      have HB14 := Lib.hid (below_on HB13.out hb14)
      have HR14 : Hid (Row w14 w14.heap.size a len) := Lib.hid (HR13.out.below hb14).wide
      have LI_14 := Lib.hid (LI_13.out.step hb14)
      have Nx_14 := Lib.hid (Nx_13.out.step hb14)
      obtain ⟨Ar, cr, rfl, hrle, hrc⟩ := ho.r.shape
      have HRd := Lib.hid hd
      have HRs := Lib.hid hs
      have HRw := Lib.hid ho.rws
      have hr36 : rl.length ≤ 36 := by rw [datR_len hd]; exact HW.out.small
      obtain ⟨nl, hnl⟩ : ∃ nl, rl.length = nl := ⟨_, rfl⟩
      rw [hnl] at HRw hrle hr36 ⊢
      clear hb14 hd hs ho hrc
      clear HB13 HR13 LI_13 Nx_13
      go_wp2
      go_loopw [14] (fun i wr => ∃ k : Nat, k ≤ nl ∧ i = .int .i64 k ∧ Below w14.heap.size w14 wr) (fun i _ => nl - (intOf i).toNat)
      case atStart => exact ⟨0, Nat.zero_le _, rfl, Below.refl _ _⟩
      case round =>
        obtain ⟨k, hk, rfl, hbel⟩ := hrel
        by_cases hlt : k < nl
        · obtain ⟨br, or', x, rfl, hbr, hat, hxn, d0, d1, d2⟩ := HRw.out.at k hlt
          have hmem := List.mem_of_getElem? hat
          have hx4 := HCm.out x.dat (by rw [← HRd.out]; exact List.mem_map_of_mem hmem)
          have hr4 : x.rule = 4 := hx4.1
          rw [hr4] at d0
          have f0 := (hbel.cell (p := ⟨br, or' + k * 3, none⟩) hbr).trans d0
          have f2 := (hbel.cell (p := ⟨br, or' + k * 3 + 2, none⟩) hbr).trans d2
          have hsx := HRs.out x hmem
          have hlt' : (k : Int) < (nl : Int) := by omega
          have hk0 : (0 : Int) ≤ (k : Int) := by omega
          have h44 : ((4 : Int) != 4) = false := by decide
          have HAg := Lib.hid (sAgree wr wr.heap.size A5 x.A Ai n5 x.n ni c5 x.c ci s5 x.ns li (Nx_14.out.1.step hbel) (Nodes.more (hxn.below hbel) hbel.size) (LI_14.out.1.wide hbel) (Nat.le_refl _) Nx_14.out.n20 (by rw [← hxn.len]; have := hsx.2; omega) Nx_14.out.2.2.2.1 hsx.1 LI_14.out.2.1 (by have h := LI_14.out.2.2.2.2; omega) true ⟨fun _ => hx4.2 li, fun _ => rfl⟩)
          have HBw := Lib.hid hbel
          clear hat hxn d0 d1 d2 hmem hx4 hr4 hsx hbel
          go_wp2_with fail
          refine HAg.out.mono ?_
          rintro e w' ⟨rfl, hb'⟩
          have HBn := Lib.hid (below_on HBw.out hb')
          clear hb'
          go_wp2
          go_roundw
          case rel => exact ⟨k + 1, by omega, by go_num, HBn.out⟩
          case measure => simp [intOf]; omega
        · obtain rfl : k = nl := by omega
          have hb15 := hbel
          have HB15 := Lib.hid (below_on HB14.out hb15)
          have HR15 : Hid (Row wr wr.heap.size a len) := Lib.hid (HR14.out.below hb15).wide
          clear hb15 hbel HB14 HR14
          go_wp2_with fail
          refine (draw_agree wr a len cap HL.out HR15.out).mono ?_
          rintro e w16 ⟨A7, n7, c7, s7, A8, n8, c8, s8, Am, nm, cm, lm, rfl, hP, hQ, hM, hb16⟩
          have HB16 := Lib.hid (below_on HB15.out hb16)
          have HR16 : Hid (Row w16 w16.heap.size a len) := Lib.hid (HR15.out.below hb16).wide
          have P_16 := Lib.hid hP
          have Q_16 := Lib.hid hQ
          have MI_16 := Lib.hid hM
          clear hb16 hP hQ hM
          clear HB15 HR15
          go_wp2_with fail
          refine (draw_sub w16 a len cap HL.out HR16.out).mono ?_
          rintro e w17 ⟨A9, n9, c9, s9, kk, rfl, hG, hb17⟩
          have HB17 := Lib.hid (below_on HB16.out hb17)
          have HR17 : Hid (Row w17 w17.heap.size a len) := Lib.hid (HR16.out.below hb17).wide
          have P_17 := Lib.hid (P_16.out.step hb17)
          have Q_17 := Lib.hid (Q_16.out.step hb17)
          have MI_17 := Lib.hid (MI_16.out.step hb17)
          have G_17 := Lib.hid hG
          clear hb17 hG
          clear HB16 HR16 P_16 Q_16 MI_16
          obtain ⟨O, hO⟩ := SubD.ex (datN s9) kk
          have HO := Lib.hid hO
          obtain ⟨z, hz⟩ := bool_of (AgreeP (datN s7) (datN s8) lm)
          have HZ := Lib.hid hz
          have hzz : (z == z) = true := by simp
          clear hO hz
          go_wp2_with fail
          refine (iSubtree w17 w17.heap.size A9 n9 c9 s9 kk G_17.out.1 (Nat.le_refl _) G_17.out.2.1 G_17.out.c63 G_17.out.2.2.2.1 O HO.out).mono ?_
          rintro e w18 ⟨v, s10, rfl, hd, hs, ho, hb18⟩
          obtain ⟨A10, n10, c10, rfl, hl, he⟩ := Ex.own ho hs hd (HO.out.len10)
          have HB18 := Lib.hid (below_on HB17.out hb18)
          have HR18 : Hid (Row w18 w18.heap.size a len) := Lib.hid (HR17.out.below hb18).wide
          have P_18 := Lib.hid (P_17.out.step hb18)
          have Q_18 := Lib.hid (Q_17.out.step hb18)
          have MI_18 := Lib.hid (MI_17.out.step hb18)
          have G_18 := Lib.hid (G_17.out.step hb18)
          have S_18 := Lib.hid he
          have DS := Lib.hid hd
          have LS := Lib.hid hl
          clear hb18 hd hs ho hl he
          clear HB17 HR17 P_17 Q_17 MI_17 G_17
          go_wp2_with fail
          refine (iAgree w18 w18.heap.size A7 A8 Am n7 n8 nm c7 c8 cm s7 s8 lm P_18.out.1 Q_18.out.1 MI_18.out.1 (Nat.le_refl _) P_18.out.2.1 P_18.out.c63 Q_18.out.2.1 Q_18.out.c63 P_18.out.2.2.2.1 Q_18.out.2.2.2.1 (by have h := MI_18.out.2.2.2.2; omega) z (HZ.out)).mono ?_
          rintro e w19 ⟨rfl, hb19⟩
          have HB19 := Lib.hid (below_on HB18.out hb19)
          have HR19 : Hid (Row w19 w19.heap.size a len) := Lib.hid (HR18.out.below hb19).wide
          have P_19 := Lib.hid (P_18.out.step hb19)
          have Q_19 := Lib.hid (Q_18.out.step hb19)
          have MI_19 := Lib.hid (MI_18.out.step hb19)
          have G_19 := Lib.hid (G_18.out.step hb19)
          have S_19 := Lib.hid (S_18.out.step hb19)
          clear hb19
          clear HB18 HR18 P_18 Q_18 MI_18 G_18 S_18
          go_wp2_with fail
          refine (sAgree w19 w19.heap.size A7 A8 Am n7 n8 nm c7 c8 cm s7 s8 lm P_19.out.1 Q_19.out.1 MI_19.out.1 (Nat.le_refl _) P_19.out.n20 Q_19.out.n20 P_19.out.2.2.2.1 Q_19.out.2.2.2.1 MI_19.out.2.1 (by have h := MI_19.out.2.2.2.2; omega) z (HZ.out)).mono ?_
          rintro e w20 ⟨rfl, hb20⟩
          have HB20 := Lib.hid (below_on HB19.out hb20)
          have HR20 : Hid (Row w20 w20.heap.size a len) := Lib.hid (HR19.out.below hb20).wide
          have P_20 := Lib.hid (P_19.out.step hb20)
          have Q_20 := Lib.hid (Q_19.out.step hb20)
          have MI_20 := Lib.hid (MI_19.out.step hb20)
          have G_20 := Lib.hid (G_19.out.step hb20)
          have S_20 := Lib.hid (S_19.out.step hb20)
          clear hb20
          clear HB19 HR19 P_19 Q_19 MI_19 G_19 S_19
          go_wp2_with fail
          refine (sSubtree w20 w20.heap.size A9 n9 c9 s9 kk G_20.out.1 (Nat.le_refl _) G_20.out.2.1 G_20.out.c63 G_20.out.n20 G_20.out.2.2.2.1 O HO.out).mono ?_
          rintro e w21 ⟨v, s11, rfl, hd, hs, ho, hb21⟩
          obtain ⟨A11, n11, c11, rfl, hl, he⟩ := Ex.own ho hs hd (HO.out.len10)
          have HB21 := Lib.hid (below_on HB20.out hb21)
          have HR21 : Hid (Row w21 w21.heap.size a len) := Lib.hid (HR20.out.below hb21).wide
          have G_21 := Lib.hid (G_20.out.step hb21)
          have S_21 := Lib.hid (S_20.out.step hb21)
          have T_21 := Lib.hid he
          have DT := Lib.hid hd
          have LT := Lib.hid hl
          clear hb21 hd hs ho hl he
          clear HB20 HR20 G_20 S_20
          go_wp2_with fail
          refine (sEqE w21 w21.heap.size A10 A11 n10 n11 c10 c11 s10 s11 S_21.out.1 T_21.out.1 (Nat.le_refl _) S_21.out.n20 S_21.out.2.2.2.1 true (by rw [DS.out, DT.out]; simp)).mono ?_
          rintro e w22 ⟨rfl, hb22⟩
          have HB22 := Lib.hid (below_on HB21.out hb22)
          have HR22 : Hid (Row w22 w22.heap.size a len) := Lib.hid (HR21.out.below hb22).wide
          have G_22 := Lib.hid (G_21.out.step hb22)
          have S_22 := Lib.hid (S_21.out.step hb22)
          have T_22 := Lib.hid (T_21.out.step hb22)
          clear hb22
          clear HB21 HR21 G_21 S_21 T_21
          by_cases h0 : n10 = 0
          · subst h0
            go_wp2
            go_ret
            exact ⟨rfl, HB22.out⟩
          · have h0' : ((n10 : Int) == 0) = false := by simp; omega
            go_wp2_with fail
            refine (iIsEW w22 w22.heap.size A10 n10 c10 s10 S_22.out.1 (Nat.le_refl _) S_22.out.2.1 S_22.out.c63 S_22.out.2.2.2.1 true ⟨fun _ => by rw [DS.out]; exact HO.out.valid (by rw [← LS.out]; omega), fun _ => rfl⟩).mono ?_
            rintro e w23 ⟨rfl, hb23⟩
            have HB23 := Lib.hid (below_on HB22.out hb23)
            have HR23 : Hid (Row w23 w23.heap.size a len) := Lib.hid (HR22.out.below hb23).wide
            have G_23 := Lib.hid (G_22.out.step hb23)
            have S_23 := Lib.hid (S_22.out.step hb23)
            have T_23 := Lib.hid (T_22.out.step hb23)
            clear hb23
            clear HB22 HR22 G_22 S_22 T_22
            go_wp2
            go_ret
            exact ⟨rfl, HB23.out⟩
end Go.Proofs.YtaijajajpnekbaaGreat.num
