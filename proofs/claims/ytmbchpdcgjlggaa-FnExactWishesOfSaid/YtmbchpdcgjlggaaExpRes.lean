/-
  Slices of wishes and of nodes that a call handed back, told from world to world in the laws: between which blocks they lie; the laws' eq, mark and held on them.
-/
import Derived.Test.YtmbchpdcgjlggaaWishMarkS
import Derived.Test.YtmbchpdcgjlggaaExpLaw
namespace Go.Proofs.Ytmbchpdcgjlggaa.num
set_option maxRecDepth 20000
open Go.RowKit
set_option linter.unusedVariables false

/-- A slice that a call handed back: it lies between the blocks lo and hi. -/
structure ResWs (w : World) (lo hi : Nat) (v : Value) (ts : List Wi) : Prop where
  own : OwnWs w lo v ts
  top : ∀ b, hasWs v ts b → b < hi
  le : hi ≤ w.heap.size
theorem ResWs.new {w : World} {lo : Nat} {v : Value} {ts : List Wi} (h : OwnWs w lo v ts) : ResWs w lo w.heap.size v ts := ⟨h, fun b hb => (h.has_in hb).2, Nat.le_refl _⟩
theorem ResWs.step {w w' : World} {lo hi : Nat} {v : Value} {ts : List Wi} (h : ResWs w lo hi v ts) (hb : Below w.heap.size w w') : ResWs w' lo hi v ts := ⟨h.own.below hb, h.top, Nat.le_trans h.le hb.size⟩
theorem ResWs.only {S : Nat → Prop} {w w' : World} {lo hi : Nat} {v : Value} {ts : List Wi} (h : ResWs w lo hi v ts) (ho : OnlyS S w w') (hs : ∀ b, S b → b < lo ∨ hi ≤ b) : ResWs w' lo hi v ts :=
  ⟨h.own.blocks fun b hb => ho.block b fun e => by
    have h1 := h.top b hb
    have h2 := (h.own.has_in hb).1
    rcases hs b e with q | q <;> omega, h.top, by rw [ho.size]; exact h.le⟩
theorem lensWs {w : World} {B : Nat} {v : Value} {ts : List Wi} (h : OwnWs w B v ts) (hs : ShortWs ts) : ∀ x ∈ ts, x.ls.length ≤ 1048576 ∧ x.ps.length ≤ 1048576 := fun x hx => by
  obtain ⟨k, hk, rfl⟩ := List.getElem_of_mem hx
  have h1 := (h.x k _ (List.getElem?_eq_getElem hk)).wi
  have h2 := hs _ hx
  exact ⟨by rw [h1.l.1]; exact h2.1, by rw [h1.p.1]; exact h2.2⟩
theorem ResWs.eq {w : World} {lo hi lo' hi' : Nat} {A A' : Option Addr} {c c' : Nat} {ts ts' : List Wi} {D : List WD} (h1 : ResWs w lo hi (.slice A ts.length c) ts) (h2 : ResWs w lo' hi' (.slice A' ts'.length c') ts') (d1 : datWs ts = D) (d2 : datWs ts' = D) (hn : D.length ≤ 1048576) (hs : ShortWs ts) :
    Calls Try.prog 38 #[.slice A ts.length c, .slice A' ts'.length c'] w fun e w' => e = .returned (.bool true) ∧ Below w.heap.size w w' :=
  eqWishes_c w w.heap.size _ _ _ _ _ _ ts ts' h1.own.wishes h2.own.wishes (Nat.le_refl _) (by rw [← d1] at hn; unfold datWs at hn; rwa [List.length_map] at hn) hs true ⟨fun _ => d1.trans d2.symm, fun _ => rfl⟩
theorem markWs_has {v : Value} (ts : List Wi) : ∀ (k : Nat) (b : Nat), hasWs v (markWs k ts) b → hasWs v ts b := fun k b hb => by
  rcases hb with hb | ⟨y, hy, hb⟩
  · exact .inl hb
  · obtain ⟨i, hi, rfl⟩ := List.getElem_of_mem hy
    have hi' : i < ts.length := by rw [markWs_len] at hi; exact hi
    have h1 := markWs_at ts k i _ (List.getElem?_eq_getElem hi')
    rw [List.getElem?_eq_getElem hi] at h1
    rw [Option.some.inj h1] at hb
    exact .inr ⟨_, List.getElem_mem hi', hb⟩
theorem ResWs.mark {w : World} {lo hi : Nat} {v : Value} {ts : List Wi} (h : ResWs w lo hi v ts) (hn : ts.length ≤ 1048576) (hs : ShortWs ts) (z : Int) (k0 : Nat) (hz : z = (k0 : Int)) (hk0 : k0 ≤ 1125899906842624) :
    Calls Try.prog 40 #[v, .int .i64 z] w fun e w' => e = .returned (.int .i64 ((k0 + cntWs ts : Nat) : Int)) ∧ ResWs w' lo hi v (markWs k0 ts) ∧ OnlyS (fun b => lo ≤ b ∧ b < hi) w w' := by
  rw [hz]
  refine (markWishS_c w lo v ts h.own hn (lensWs h.own hs) k0 hk0).mono ?_
  rintro e w' ⟨rfl, h1, h2⟩
  refine ⟨rfl, ⟨h1, fun b hb => ?_, by rw [h2.size]; exact h.le⟩, h2.sub fun b hb => ⟨(h.own.has_in hb).1, h.top b hb⟩⟩
  exact h.top b (markWs_has ts k0 b hb)
theorem ResWs.held {w : World} {lo hi : Nat} {v : Value} {ts : List Wi} {k0 : Nat} (h : ResWs w lo hi v (markWs k0 ts)) (hn : ts.length ≤ 1048576) (hl : ∀ x ∈ ts, x.ls.length ≤ 1048576 ∧ x.ps.length ≤ 1048576) (z : Int) (hz : z = (k0 : Int)) (hk0 : k0 ≤ 1125899906842624) :
    Calls Try.prog 41 #[v, .int .i64 z] w fun e w' => e = .returned (.int .i64 ((k0 + cntWs ts : Nat) : Int)) ∧ w = w' := by
  rw [hz]
  exact heldWishS_c w lo v ts k0 h.own hn hl hk0
/-- A slice that a call handed back: it lies between the blocks lo and hi. -/
structure ResN (w : World) (lo hi : Nat) (v : Value) (ts : List Nd) : Prop where
  own : OwnN w lo v ts
  top : ∀ b, hasN v ts b → b < hi
  le : hi ≤ w.heap.size
theorem ResN.new {w : World} {lo : Nat} {v : Value} {ts : List Nd} (h : OwnN w lo v ts) : ResN w lo w.heap.size v ts := ⟨h, fun b hb => (h.has_in hb).2, Nat.le_refl _⟩
theorem ResN.step {w w' : World} {lo hi : Nat} {v : Value} {ts : List Nd} (h : ResN w lo hi v ts) (hb : Below w.heap.size w w') : ResN w' lo hi v ts := ⟨h.own.below hb, h.top, Nat.le_trans h.le hb.size⟩
theorem ResN.only {S : Nat → Prop} {w w' : World} {lo hi : Nat} {v : Value} {ts : List Nd} (h : ResN w lo hi v ts) (ho : OnlyS S w w') (hs : ∀ b, S b → b < lo ∨ hi ≤ b) : ResN w' lo hi v ts :=
  ⟨h.own.blocks fun b hb => ho.block b fun e => by
    have h1 := h.top b hb
    have h2 := (h.own.has_in hb).1
    rcases hs b e with q | q <;> omega, h.top, by rw [ho.size]; exact h.le⟩
theorem lensN {w : World} {B : Nat} {v : Value} {ts : List Nd} (h : OwnN w B v ts) (hs : ShortN ts) : ∀ x ∈ ts, x.t.ls.length ≤ 1048576 ∧ x.t.ps.length ≤ 1048576 := fun x hx => by
  obtain ⟨k, hk, rfl⟩ := List.getElem_of_mem hx
  have h1 := (h.x k _ (List.getElem?_eq_getElem hk)).2.wi
  have h2 := hs _ hx
  exact ⟨by rw [h1.l.1]; exact h2.1, by rw [h1.p.1]; exact h2.2⟩
theorem ResN.eq {w : World} {lo hi lo' hi' : Nat} {A A' : Option Addr} {c c' : Nat} {ts ts' : List Nd} {D : List ND} (h1 : ResN w lo hi (.slice A ts.length c) ts) (h2 : ResN w lo' hi' (.slice A' ts'.length c') ts') (d1 : datN ts = D) (d2 : datN ts' = D) (hn : D.length ≤ 1048576) (hs : ShortN ts) :
    Calls Try.prog 33 #[.slice A ts.length c, .slice A' ts'.length c'] w fun e w' => e = .returned (.bool true) ∧ Below w.heap.size w w' :=
  eqNodes_c w w.heap.size _ _ _ _ _ _ ts ts' h1.own.nodes h2.own.nodes (Nat.le_refl _) (by rw [← d1] at hn; unfold datN at hn; rwa [List.length_map] at hn) hs true ⟨fun _ => d1.trans d2.symm, fun _ => rfl⟩
theorem markN_has {v : Value} (ts : List Nd) : ∀ (k : Nat) (b : Nat), hasN v (markN k ts) b → hasN v ts b := fun k b hb => by
  rcases hb with hb | ⟨y, hy, hb⟩
  · exact .inl hb
  · obtain ⟨i, hi, rfl⟩ := List.getElem_of_mem hy
    have hi' : i < ts.length := by rw [markN_len] at hi; exact hi
    have h1 := markN_at ts k i _ (List.getElem?_eq_getElem hi')
    rw [List.getElem?_eq_getElem hi] at h1
    rw [Option.some.inj h1] at hb
    exact .inr ⟨_, List.getElem_mem hi', hb⟩
theorem ResN.mark {w : World} {lo hi : Nat} {v : Value} {ts : List Nd} (h : ResN w lo hi v ts) (hn : ts.length ≤ 1048576) (hs : ShortN ts) (z : Int) (k0 : Nat) (hz : z = (k0 : Int)) (hk0 : k0 ≤ 1125899906842624) :
    Calls Try.prog 39 #[v, .int .i64 z] w fun e w' => e = .returned (.int .i64 ((k0 + cntN ts : Nat) : Int)) ∧ ResN w' lo hi v (markN k0 ts) ∧ OnlyS (fun b => lo ≤ b ∧ b < hi) w w' := by
  rw [hz]
  refine (markNodeS_c w lo v ts h.own hn (lensN h.own hs) k0 hk0).mono ?_
  rintro e w' ⟨rfl, h1, h2⟩
  refine ⟨rfl, ⟨h1, fun b hb => ?_, by rw [h2.size]; exact h.le⟩, h2.sub fun b hb => ⟨(h.own.has_in hb).1, h.top b hb⟩⟩
  exact h.top b (markN_has ts k0 b hb)
theorem ResN.held {w : World} {lo hi : Nat} {v : Value} {ts : List Nd} {k0 : Nat} (h : ResN w lo hi v (markN k0 ts)) (hn : ts.length ≤ 1048576) (hl : ∀ x ∈ ts, x.t.ls.length ≤ 1048576 ∧ x.t.ps.length ≤ 1048576) (z : Int) (hz : z = (k0 : Int)) (hk0 : k0 ≤ 1125899906842624) :
    Calls Try.prog 44 #[v, .int .i64 z] w fun e w' => e = .returned (.int .i64 ((k0 + cntN ts : Nat) : Int)) ∧ w = w' := by
  rw [hz]
  exact heldNodeS_c w lo v ts k0 h.own hn hl hk0
/-- A copy that the law made, as a slice that a call handed back. -/
theorem CopyN.res {w : World} {lo n : Nat} {ns ns' : List Nd} (h : CopyN w lo n ns ns') : ResN w lo w.heap.size (.slice (some ⟨lo, 0, none⟩) n n) ns' := .new h.own
theorem CopyN.len {w : World} {lo n : Nat} {ns ns' : List Nd} (h : CopyN w lo n ns ns') : ns'.length = n := h.own.nodes.len
theorem OnlyS.lo {lo hi B : Nat} {w w' : World} (h : OnlyS (fun b => lo ≤ b ∧ b < hi) w w') (hB : B ≤ lo) : Below B w w' := h.below fun b hb => Nat.le_trans hB hb.1
end Go.Proofs.Ytmbchpdcgjlggaa.num
