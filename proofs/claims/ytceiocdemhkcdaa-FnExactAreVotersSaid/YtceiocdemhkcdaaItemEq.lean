/-
  eqItemS: two slices of items compared by the law's own helper.
-/
import Derived.Test.YtceiocdemhkcdaaItemCopy
namespace Go.Proofs.Ytceiocdemhkcdaa.num
set_option maxRecDepth 20000
open Go.RowKit

/-- A copy of the items its at block b, of the call's own, each slice short. -/
structure Copy (w : World) (b : Nat) (n : Nat) (its its' : List It) : Prop where
  fresh : Fresh w b its'
  dat : its'.map It.dat = its.map It.dat
  len : its'.length = n
  small : ∀ t ∈ its', t.n ≤ 1048576
theorem copy_of {w w0 : World} {B : Nat} {A : Option Addr} {b n : Nat} {its its' : List It} (_hn : n ≤ 1048576) (hN : ∀ t ∈ its, t.n ≤ 1048576) (hi : Items w0 B A n its) (hd : its'.map It.dat = its.map It.dat) (hf : Fresh w b its') : Copy w b n its its' :=
  ⟨hf, hd, by have := congrArg List.length hd; simpa [hi.1] using this, fun t ht => by
    obtain ⟨bk, _, _, h3, _, _⟩ := hf.own t ht
    have hm : t.dat ∈ its.map It.dat := hd ▸ List.mem_map.2 ⟨t, ht, rfl⟩
    obtain ⟨u, hu, he⟩ := List.mem_map.1 hm
    have hux : u.xs = t.xs := congrArg Prod.snd he
    obtain ⟨k, hk, rfl⟩ := List.getElem_of_mem hu
    obtain ⟨_, _, _, _, _, _, h5⟩ := hi.2 k hk
    rw [h3, ← hux, h5.1]
    exact hN _ hu⟩
theorem Copy.below {w w' : World} {b n : Nat} {its its' : List It} (h : Copy w b n its its') (hb : Below w.heap.size w w') : Copy w' b n its its' := ⟨h.fresh.below hb, h.dat, h.len, h.small⟩
theorem Copy.items {w : World} {b n : Nat} {its its' : List It} (h : Copy w b n its its') : Items w w.heap.size (some ⟨b, 0, none⟩) n its' := h.len ▸ h.fresh.items (Nat.le_refl _)
theorem bool_of (p : Prop) : ∃ b : Bool, b = true ↔ p := by
  by_cases h : p
  · exact ⟨true, by simp [h]⟩
  · exact ⟨false, by simp [h]⟩
theorem ne_len {α β : Type} {f : α → β} {l l' : List α} (h : l.length ≠ l'.length) : l.map f ≠ l'.map f := fun e => h (by simpa using congrArg List.length e)
theorem ne_dat {l l' : List It} {k : Nat} {t t' : It} (h1 : l[k]? = some t) (h2 : l'[k]? = some t') (h : t.dat ≠ t'.dat) : l.map It.dat ≠ l'.map It.dat := fun e => h (by
  have := congrArg (·[k]?) e
  simpa [h1, h2] using this)

end Go.Proofs.Ytceiocdemhkcdaa.num
