/-
  Worlds that differ in some blocks alone; the laws' marks on a slice of ints.
-/
import Derived.Test.YtceiocdemhkcdaaGreatPairMarkI
namespace Go.Proofs.YtceiocdemhkcdaaGreat.num
set_option maxRecDepth 20000
open Go.RowKit
set_option linter.unusedVariables false
set_option linter.unusedSimpArgs false

/-- w' is w but for the blocks in S. -/
structure OnlyS (S : Nat → Prop) (w w' : World) : Prop where
  os : w'.os = w.os
  tape : w'.tape = w.tape
  output : w'.output = w.output
  size : w'.heap.size = w.heap.size
  block : ∀ k, ¬ S k → w'.heap[k]? = w.heap[k]?
theorem OnlyS.refl (S : Nat → Prop) (w : World) : OnlyS S w w := ⟨rfl, rfl, rfl, rfl, fun _ _ => rfl⟩
theorem OnlyS.trans {S : Nat → Prop} {w w1 w2 : World} (h : OnlyS S w w1) (h' : OnlyS S w1 w2) : OnlyS S w w2 :=
  ⟨h'.os.trans h.os, h'.tape.trans h.tape, h'.output.trans h.output, h'.size.trans h.size, fun k hk => (h'.block k hk).trans (h.block k hk)⟩
theorem OnlyS.sub {S S' : Nat → Prop} {w w' : World} (h : OnlyS S w w') (hs : ∀ k, S k → S' k) : OnlyS S' w w' := ⟨h.os, h.tape, h.output, h.size, fun k hk => h.block k fun e => hk (hs k e)⟩
theorem OnlyS.set {S : Nat → Prop} {w w' : World} (h : OnlyS S w w') {g : Nat} (hg : S g) (j : Nat) (u : Value) : OnlyS S w (w'.setCell ⟨g, j, none⟩ u) :=
  ⟨h.os, h.tape, h.output, by simpa [World.setCell] using h.size, fun k hk => (Below.heap_setCell w' ⟨g, j, none⟩ u k (fun e => hk (by rw [e]; exact hg))).trans (h.block k hk)⟩
theorem OnlyV.s {v : Value} {S : Nat → Prop} {w w' : World} (h : OnlyV v w w') (hS : ∀ k, v.ownBlock = some k → S k) : OnlyS S w w' := ⟨h.os, h.tape, h.output, h.size, fun k hk => h.block k fun e => hk (hS k e)⟩
theorem OnlyS.below {S : Nat → Prop} {B : Nat} {w w' : World} (h : OnlyS S w w') (hB : ∀ k, S k → B ≤ k) : Below B w w' :=
  ⟨h.os, h.tape, h.output, by rw [h.size]; exact Nat.le_refl _, fun k hk => h.block k (fun e => by have := hB k e; omega)⟩
theorem wf_small {k : Nat} (h : k ≤ 9223372036854775807) : (Lit.int .i64 (k : Int)).wf = true := by simp [Lit.wf, IntKind.min, IntKind.max, IntKind.signed, IntKind.bits]; omega
theorem markI' (w : World) (B : Nat) (v : Value) (l : List Int) (h : OwnI w B v l) (hn : l.length ≤ 1048576) (z : Int) (k0 : Nat) (hz : z = (k0 : Int)) (hk0 : k0 ≤ 1152921504606846976) :
    Calls Tryz.prog 44 #[v, .int .i64 z] w fun e w' => e = .returned (.int .i64 ((k0 + l.length : Nat) : Int)) ∧ OwnI w' B v (marks k0 l.length) ∧ OnlyV v w w' := by
  rw [hz]; exact markI w B v l h hn k0 hk0
theorem heldI' (w : World) (B : Nat) (v : Value) (k0 n : Nat) (h : OwnI w B v (marks k0 n)) (hn : n ≤ 1048576) (z : Int) (hz : z = (k0 : Int)) (hk0 : k0 ≤ 1152921504606846976) :
    Calls Tryz.prog 45 #[v, .int .i64 z] w fun e w' => e = .returned (.int .i64 ((k0 + n : Nat) : Int)) ∧ w = w' := by
  rw [hz]; exact heldI w B v k0 n h hn hk0
theorem OnlyS.lo {lo hi B : Nat} {w w' : World} (h : OnlyS (fun b => lo ≤ b ∧ b < hi) w w') (hB : B ≤ lo) : Below B w w' := h.below fun b hb => Nat.le_trans hB hb.1
end Go.Proofs.YtceiocdemhkcdaaGreat.num
