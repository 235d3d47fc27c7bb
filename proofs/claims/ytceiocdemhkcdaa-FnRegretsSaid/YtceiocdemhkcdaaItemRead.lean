/-
  Slices of items that the call itself made; items that came in, read as such cells.
-/
import Derived.Test.YtceiocdemhkcdaaAppG
import Derived.Test.YtceiocdemhkcdaaItemIds
namespace Go.Proofs.Ytceiocdemhkcdaa.num
set_option maxRecDepth 20000
open Go.RowKit
set_option linter.unusedVariables false
set_option linter.unusedSimpArgs false

/-- The cells of an item; of a bool. -/
def itCs (t : It) : List Value := [.int .i64 t.id, .slice t.A t.n t.c]
theorem itCs_len (t : It) : (itCs t).length = 2 := rfl
theorem itCs_one (t : It) : ∀ u ∈ itCs t, u.oneCell' = true := by
  intro u hu
  simp only [itCs, List.mem_cons, List.not_mem_nil, or_false] at hu
  rcases hu with rfl | rfl <;> rfl
abbrev OwnTs (w : World) (B : Nat) (v : Value) (l : List It) : Prop := OwnG 43 itCs 2 w B v l
/-- Two slices lie in different blocks. -/
def Apart (u v : Value) : Prop := ∀ b, u.ownBlock = some b → v.ownBlock ≠ some b
theorem Apart.symm {u v : Value} (h : Apart u v) : Apart v u := fun b h1 h2 => h b h2 h1
/-- What was made earlier, and a block that is laid later. -/
theorem Apart.new {u v : Value} {N : Nat} (hu : ∀ k, u.ownBlock = some k → k < N) (hv : v.ownBlock = some N) : Apart u v := fun b h1 h2 => by
  have := hu b h1
  rw [hv] at h2
  have := Option.some.inj h2
  omega
/-- v grew to v': u stays apart. -/
theorem Apart.grow {u v v' : Value} {w : World} {N : Nat} (h : Apart u v) (hu : ∀ k, u.ownBlock = some k → k < w.heap.size) (hat : v'.ownBlock = v.ownBlock ∨ v'.ownBlock = some (w.heap.size + N)) : Apart u v' := fun b h1 h2 => by
  rcases hat with e | e
  · exact h b h1 (e ▸ h2)
  · rw [e] at h2
    have := Option.some.inj h2
    have := hu b h1
    omega
/-- v grew: what u holds is as it was. -/
theorem OwnG.apart {α : Type} {f : α → List Value} {s : Nat} {T : TypeId} {w w' : World} {B : Nat} {u v : Value} {l : List α} (h : OwnG T f s w B u l) (ha : Apart u v) (hg : w.grownBy w' v.ownBlock) : OwnG T f s w' B u l :=
  h.blocks fun k hk => hg.block k (h.tops k hk) fun e => ha k hk e.symm
theorem wp_appT {ops : Array Oper} {rest : List Oper} {o : Oper} {a : Act} {Q : Exit → Act → World → Prop} (w : World) (hgd : o.guard = none) (sl x : Operand)
    (ho : o.op = .call { callee := .builtin .append, args := #[sl, x], argTypes := #[24, 24] })
    (B : Nat) (v : Value) (l : List It) (hs : a.eval sl = v) (hown : OwnTs w B v l) (t : It) (cs : Array Value) (hcs : cs = #[.int .i64 t.id, .slice t.A t.n t.c]) (c : Nat)
    (hx : a.eval x = .slice (some ⟨w.heap.size, 0, none⟩) 1 c) (hlen : l.length ≤ 1048576) (hB : B ≤ w.heap.size)
    (h : ∀ v' w', OwnTs w' B v' (l ++ [t]) → w.grownBy w' v.ownBlock → (v'.ownBlock = v.ownBlock ∨ v'.ownBlock = some (w.heap.size + 1)) → Below B w w' → wpList Try.prog ops Q rest (a.put o.dst v') w') :
    wpList Try.prog ops Q (o :: rest) a (w.alloc (.cells cs 43)) :=
  wp_appG itCs_len itCs_one Try.underlying24 info_item rfl (by decide) w hgd sl x ho B v l hs hown cs t (by rw [hcs]; rfl) c w.heap.size rfl hx (by omega) (by decide) hB
    fun v' w' h1 h2 h3 => h v' w' h1 h2 h3 ((Below.refl B w).grown h2 hB (fun k hk => hown.lows k hk))
/-- A slice of items of one's own, read: the k-th one's cells. -/
theorem it_at {w : World} {B : Nat} {A : Option Addr} {n : Nat} {l : List It} (h : ReadG itCs 2 w B A n l) {k : Nat} (hk : k < n) :
    ∃ (b off : Nat) (x : It), A = some ⟨b, off, none⟩ ∧ b < B ∧ l[k]? = some x ∧ w.cell? ⟨b, off + k * 2, none⟩ = some (.int .i64 x.id) ∧ w.cell? ⟨b, off + k * 2 + 1, none⟩ = some (.slice x.A x.n x.c) := by
  obtain ⟨x, hx⟩ := h.get hk
  obtain ⟨b, off, hA, hb, hc⟩ := h.at' k x hx
  exact ⟨b, off, x, hA, hb, hx, hc 0 _ rfl, hc 1 _ rfl⟩
/-- Items that came in are read as such cells. -/
theorem Items.readT {w : World} {B : Nat} {A : Option Addr} {n : Nat} {its : List It} (h : Items w B A n its) : ReadG itCs 2 w B A n its := by
  refine ⟨h.1, fun k x hk => ?_⟩
  have hlt := (List.getElem?_eq_some_iff.1 hk).1
  obtain ⟨b, off, y, hA, hb, hy, d0, d1, -⟩ := h.at k (by rw [← h.1]; exact hlt)
  obtain rfl : x = y := Option.some.inj (hk.symm.trans hy)
  refine ⟨b, off, hA, hb, fun j v hj => ?_⟩
  match j, hj with
  | 0, hj => obtain rfl := Option.some.inj hj; exact d0
  | 1, hj => obtain rfl := Option.some.inj hj; exact d1
  | j + 2, hj => simp [itCs] at hj
theorem Items.up {w : World} {B B' : Nat} {A : Option Addr} {n : Nat} {its : List It} (h : Items w B A n its) (hB : B ≤ B') : Items w B' A n its :=
  ⟨h.1, fun k hk => by
    obtain ⟨b, off, ha, hb, h1, h2, h3⟩ := h.2 k hk
    exact ⟨b, off, ha, Nat.lt_of_lt_of_le hb hB, h1, h2, h3.more hB⟩⟩
theorem Items.now {w w' : World} {A : Option Addr} {n : Nat} {l : List It} (h : Items w w.heap.size A n l) (hb : Below w.heap.size w w') : Items w' w'.heap.size A n l := (h.below hb).up hb.size
theorem Items.ofr {w : World} {B : Nat} {A : Option Addr} {n : Nat} {l : List It} (h : ReadG itCs 2 w B A n l) (hx : ∀ u ∈ l, Ints w B u.A u.n u.xs) : Items w B A n l := by
  refine ⟨h.len, fun k hk => ?_⟩
  obtain ⟨b, off, hA, hb, hc⟩ := h.at' k l[k] (List.getElem?_eq_getElem hk)
  exact ⟨b, off, hA, hb, hc 0 _ rfl, hc 1 _ rfl, hx _ (List.getElem_mem hk)⟩
theorem Items.all {w : World} {B : Nat} {A : Option Addr} {n : Nat} {l : List It} (h : Items w B A n l) {u : It} (hu : u ∈ l) : Ints w B u.A u.n u.xs := by
  obtain ⟨k, hk, rfl⟩ := List.getElem_of_mem hu
  obtain ⟨b, off, ha, hb, h1, h2, h3⟩ := h.2 k hk
  exact h3
end Go.Proofs.Ytceiocdemhkcdaa.num
